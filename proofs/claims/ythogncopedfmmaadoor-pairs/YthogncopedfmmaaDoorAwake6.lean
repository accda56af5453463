/-
  The laws' own first look at package gauss ('awake'): it answers true.
-/
import Derived.Test.YthogncopedfmmaaDoorGauSum
import Derived.Test.YthogncopedfmmaaDoorGauText
namespace Go.Proofs.YthogncopedfmmaaDoor
open Go.RowKit
set_option linter.unusedVariables false

theorem Tab.alloc {w : World} (h : Tab w) (o : Obj) : Tab (w.alloc o) := h.later ((Below.refl _ _).alloc (Nat.le_refl _) _)

/-- Add at pairs whose sum may be. -/
theorem gadd_yes {a b c d : Int} (x y : Int) (h : addB a b c d = true) (hx : x = a + c) (hy : y = b + d) (w : World) :
    Calls Tryd.prog 9 #[pv a b, pv c d] w fun e w' => e = .returned (.tuple #[pv x y, .int .i64 0]) ∧ Below w.heap.size w w' := by
  have C := gadd_any a b c d w
  have e := add_yes h
  rw [e.1, e.2.1, e.2.2] at C
  subst hx hy
  exact C

/-- Add at others. -/
theorem gadd_no {a b c d : Int} (h : addB a b c d = false) (w : World) :
    Calls Tryd.prog 9 #[pv a b, pv c d] w fun e w' => e = .returned (.tuple #[pv 0 0, .int .i64 600]) ∧ Below w.heap.size w w' := by
  have C := gadd_any a b c d w
  have e := add_no h
  rw [e.1, e.2.1, e.2.2] at C
  exact C

/-- A small pair's text. -/
theorem gtext_is (x y : Int) (l : List UInt8) (h : ptext x y = l) (hx0 : -9223372036854775808 ≤ x) (hx1 : x ≤ 9223372036854775807) (hy0 : -9223372036854775808 ≤ y) (hy1 : y ≤ 9223372036854775807) (w : World) (ht : Tab w) :
    Calls Tryd.prog 15 #[pv x y] w fun e w' => e = .returned (.string (str l)) ∧ Below w.heap.size w w' := by
  subst h; exact gtext_any x y w hx0 hx1 hy0 hy1 ht

set_option maxHeartbeats 1000000 in
set_option maxRecDepth 100000 in
theorem awake_any (w : World) (ht : Tab w) :
    Calls Tryd.prog 18 #[] w fun e w' => e = .returned (.bool true) ∧ Below w.heap.size w w' := by
  have c1 := gadd_yes (a := 3) (b := -2) (c := -5) (d := 2) (-2) 0 (by decide +kernel) (by decide) (by decide)
  have c2 := gadd_no (a := 4503599627370496) (b := 0) (c := 1) (d := 0) (by decide +kernel)
  have HT : Hid (Tab w) := ht
  clear ht
  go_enter Tryd.func18, Tryd.ntmps18
  go_wp2_with fail
  refine (c1 _).mono ?_
  rintro e w1 ⟨rfl, k1⟩
  have T1 : Hid (Two (w1.alloc (.cells #[.int .i64 (-2), .int .i64 0] 23)) w1.heap.size (-2) 0) := two_new _ _ _ _
  have B1 : Hid (Below w.heap.size w (w1.alloc (.cells #[.int .i64 (-2), .int .i64 0] 23))) := thenB k1 ((Below.refl _ _).alloc (Nat.le_refl _) _)
  clear c1 k1
  go_wp2_with fail
  refine (c2 _).mono ?_
  rintro e w2 ⟨rfl, k2⟩
  obtain ⟨g, hg⟩ : ∃ g, w1.heap.size = g := ⟨_, rfl⟩
  have T2 : Hid (Two (w2.alloc (.cells #[.int .i64 0, .int .i64 0] 23)) g (-2) 0) := by
    have := (T1.out.later k2).alloc (.cells #[.int .i64 0, .int .i64 0] 23)
    rw [hg] at this; exact this
  have B2 : Hid (Below w.heap.size w (w2.alloc (.cells #[.int .i64 0, .int .i64 0] 23))) := thenB (thenB B1.out k2) ((Below.refl _ _).alloc (Nat.le_refl _) _)
  clear c2 k2 T1 B1
  go_wp2_with fail
  obtain ⟨W3, hW3⟩ : ∃ W3, W3 = (w2.alloc (.cells #[.int .i64 0, .int .i64 0] 23)).alloc (.cells #[.int .i64 1, .int .i64 0, .int .i64 0, .int .i64 7] 23) := ⟨_, rfl⟩
  have R3 : PRow W3 (some ⟨w2.heap.size + 1, 0, none⟩) [(1, 0), (0, 7)] := by
    have := prow_two (w2.alloc (.cells #[.int .i64 0, .int .i64 0] 23)) 1 0 0 7 23
    rw [hW3]
    simpa using this
  have B3 : Hid (Below w.heap.size w W3 ∧ Two W3 g (-2) 0) := by
    rw [hW3]
    exact ⟨thenB B2.out ((Below.refl _ _).alloc (Nat.le_refl _) _), T2.out.alloc _⟩
  rw [← hW3]
  clear hW3 B2 T2 hg
  refine (gsum_any (some ⟨w2.heap.size + 1, 0, none⟩) 2 [(1, 0), (0, 7)] W3 R3 (by unfold maxLen; simp) (X := 1) (Y := 7) (E := 0) (by decide +kernel)).mono ?_
  rintro e w4 ⟨rfl, k4⟩
  obtain ⟨h, hh⟩ : ∃ h, w4.heap.size = h := ⟨_, rfl⟩
  have B5 : Hid (Below w.heap.size w (w4.alloc (.cells #[.int .i64 1, .int .i64 7] 23)) ∧ Two (w4.alloc (.cells #[.int .i64 1, .int .i64 7] 23)) g (-2) 0 ∧ Two (w4.alloc (.cells #[.int .i64 1, .int .i64 7] 23)) h 1 7) := by
    refine ⟨thenB (thenB B3.out.1 k4) ((Below.refl _ _).alloc (Nat.le_refl _) _), (B3.out.2.later k4).alloc _, ?_⟩
    rw [← hh]; exact two_new _ _ _ _
  clear R3 k4 B3
  obtain ⟨W5, hW5⟩ : ∃ W5, W5 = w4.alloc (.cells #[.int .i64 1, .int .i64 7] 23) := ⟨_, rfl⟩
  rw [← hW5] at B5
  obtain ⟨_, ⟨_, f1, f2, _, _⟩, ⟨_, g1, g2, _, _⟩⟩ := id B5.out
  rw [hW5] at f1 f2 g1 g2
  have d1 := gtext_is (-2) 0 [45, 50] (by decide +kernel) (by decide) (by decide) (by decide) (by decide) W5 (HT.out.later B5.out.1)
  rw [hW5] at d1
  go_wp2_with (first | (go_at_call 14; refine (num_any _ _).mono ?_; rintro e wz ⟨rfl, rfl⟩) | fail)
  refine d1.mono ?_
  rintro e w6 ⟨rfl, k6⟩
  rw [← hW5] at k6
  have B6 : Hid (Below w.heap.size w w6 ∧ Two w6 h 1 7) := ⟨thenB B5.out.1 k6, B5.out.2.2.later k6⟩
  obtain ⟨_, e1, e2, _, _⟩ := id B6.out.2
  have d2 := gtext_is 1 7 [49, 43, 55, 105] (by decide +kernel) (by decide) (by decide) (by decide) (by decide) w6 (HT.out.later B6.out.1)
  clear B5 f1 f2 g1 g2 k6 d1 hW5
  go_wp2_with fail
  refine d2.mono ?_
  rintro e w7 ⟨rfl, k7⟩
  have B7 : Hid (Below w.heap.size w w7) := thenB B6.out.1 k7
  have d3 := gtext_is 0 (-1) [48, 45, 49, 105] (by decide +kernel) (by decide) (by decide) (by decide) (by decide) w7 (HT.out.later B7.out)
  clear B6 e1 e2 k7 d2
  go_wp2_with fail
  refine d3.mono ?_
  rintro e w8 ⟨rfl, k8⟩
  go_wp2_with fail
  go_ret
  exact ⟨rfl, thenB B7.out k8⟩

end Go.Proofs.YthogncopedfmmaaDoor
