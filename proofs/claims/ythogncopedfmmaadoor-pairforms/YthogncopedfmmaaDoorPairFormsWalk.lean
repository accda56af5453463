/-
  The walk of the law PairForms: pairs that are none, sums that go beyond.
-/
import Derived.Test.YthogncopedfmmaaDoorAwake6
import Derived.Test.YthogncopedfmmaaDoorMasks
namespace Go.Proofs.YthogncopedfmmaaDoor.PairForms
open Go.RowKit
set_option linter.unusedVariables false

theorem mod6 (a : Int) : ∃ k : Nat, k < 6 ∧ (IntKind.u64.wrap a).tmod 6 = (k : Int) := by
  have h1 : IntKind.u64.wrap a = a % 18446744073709551616 := by simp [IntKind.wrap, IntKind.bits, IntKind.signed]
  rw [h1]
  generalize hz : a % 18446744073709551616 = z
  have hz0 : 0 ≤ z := by omega
  rw [Int.tmod_eq_emod_of_nonneg hz0]
  exact ⟨(z % 6).toNat, by omega, by omega⟩

/-- Behind the stores: what lies where. -/
theorem after {w X : World} {g h : Nat} {a b c d x y : Int} {t : TypeId} (hb : Below w.heap.size w X) (ha : Two X g a b) (hc : Two X (g + 1) c d) (hX : X.heap.size = h) :
    Hid (Below w.heap.size w (X.alloc (.cells #[.int .i64 x, .int .i64 y] t)) ∧ Two (X.alloc (.cells #[.int .i64 x, .int .i64 y] t)) g a b ∧ Two (X.alloc (.cells #[.int .i64 x, .int .i64 y] t)) (g + 1) c d ∧ Two (X.alloc (.cells #[.int .i64 x, .int .i64 y] t)) h x y) :=
  ⟨hb.alloc hb.size _, ha.alloc _, hc.alloc _, hX ▸ two_new X x y t⟩

theorem sum_none {a b c d : Int} (h : pairB a b = false ∨ pairB c d = false ∨ pairB (a + c) (b + d) = false) : addB a b c d = false ∧ sumF [(a, b), (c, d)] 0 0 = (0, 0, 600) := by
  have h1 : addB a b c d = false := by
    unfold addB
    rcases h with h | h | h <;> simp [h]
  refine ⟨h1, ?_⟩
  simp only [sumF, Int.zero_add, h1]
  split <;> simp

/-- The call of Sum at the two pairs. -/
theorem tail_sum {w5 : World} {q : Nat} {a b c d : Int} (hq : w5.heap.size = q) (h : sumF [(a, b), (c, d)] 0 0 = (0, 0, 600)) :
    Calls Tryd.prog 11 #[.slice (some ⟨q + 1, 0, none⟩) 2 2] ((w5.alloc (.cells #[.int .i64 0, .int .i64 0] 23)).alloc (.cells #[.int .i64 a, .int .i64 b, .int .i64 c, .int .i64 d] 23)) fun e w' => e = .returned (.tuple #[pv 0 0, .int .i64 600]) ∧ Below ((w5.alloc (.cells #[.int .i64 0, .int .i64 0] 23)).alloc (.cells #[.int .i64 a, .int .i64 b, .int .i64 c, .int .i64 d] 23)).heap.size ((w5.alloc (.cells #[.int .i64 0, .int .i64 0] 23)).alloc (.cells #[.int .i64 a, .int .i64 b, .int .i64 c, .int .i64 d] 23)) w' := by
  have R := prow_two (w5.alloc (.cells #[.int .i64 0, .int .i64 0] 23)) a b c d 23
  have e : (w5.alloc (.cells #[.int .i64 0, .int .i64 0] 23)).heap.size = q + 1 := by simp [hq]
  rw [e] at R
  exact gsum_any (some ⟨q + 1, 0, none⟩) 2 [(a, b), (c, d)] _ R (by unfold maxLen; simp) h

theorem tail_later {w w5 w6 : World} {q h : Nat} {a b c d x y : Int} {t t' : TypeId} (hq : w5.heap.size = q) (hb : Below w.heap.size w w5) (h5 : Two w5 h x y)
    (k6 : Below ((w5.alloc (.cells #[.int .i64 0, .int .i64 0] t)).alloc (.cells #[.int .i64 a, .int .i64 b, .int .i64 c, .int .i64 d] t')).heap.size ((w5.alloc (.cells #[.int .i64 0, .int .i64 0] t)).alloc (.cells #[.int .i64 a, .int .i64 b, .int .i64 c, .int .i64 d] t')) w6) :
    Hid (Below w.heap.size w w6 ∧ Two w6 h x y ∧ Two w6 q 0 0) := by
  refine ⟨thenB (thenB (thenB hb ((Below.refl _ _).alloc (Nat.le_refl _) _)) ((Below.refl _ _).alloc (Nat.le_refl _) _)) k6, ((h5.alloc _).alloc _).later k6, ?_⟩
  have := ((two_new w5 0 0 t).alloc (.cells #[.int .i64 a, .int .i64 b, .int .i64 c, .int .i64 d] t')).later k6
  rwa [hq] at this

set_option maxHeartbeats 4000000 in
set_option maxRecDepth 100000 in
theorem walk (which x : Int) (w : World) (_ : (Lit.int .i64 which).wf = true) (_ : (Lit.int .i64 x).wf = true) (ht : Tab w) :
    Calls Tryd.prog 5 #[.int .i64 which, .int .i64 x] w fun e w' => e = .returned (.bool true) ∧ Below w.heap.size w w' := by
  obtain ⟨k, hk, ek⟩ := mod6 which
  obtain ⟨z, hz, ez⟩ : ∃ z : Nat, z < 1048576 ∧ bits .and .i64 x 1048575 = (z : Int) := and_mask x 20 (by omega)
  obtain ⟨d, hd⟩ : ∃ d : Int, 1 + (z : Int) = d := ⟨_, rfl⟩
  have hd1 : 1 ≤ d := by omega
  have hd2 : d ≤ 1048576 := by omega
  have c1 := gadd_yes (a := 4503599627370496) (b := -4503599627370496) (c := 0) (d := 0) 4503599627370496 (-4503599627370496) (by decide +kernel) (by decide) (by decide)
  go_enter Tryd.func5, Tryd.ntmps5
  go_wp2_with fail
  refine (awake_any _ ht).mono ?_
  rintro e w1 ⟨rfl, h1⟩
  clear ht
  go_wp2_with fail
  refine (c1 _).mono ?_
  rintro e w2 ⟨rfl, k2⟩
  clear c1
  obtain ⟨g, hg⟩ : ∃ g, w1.heap.size = g := ⟨_, rfl⟩
  obtain ⟨h, hh⟩ : ∃ h, w2.heap.size = h := ⟨_, rfl⟩
  have HX : Hid (Below w.heap.size w w2 ∧ w.heap.size ≤ g ∧ Two w2 g 4503599627370496 (-4503599627370496) ∧ Two w2 (g + 1) 0 0 ∧ g + 1 < h) := by
    have a1 := ((two_new w1 4503599627370496 (-4503599627370496) 23).alloc (.cells #[.int .i64 0, .int .i64 0] 23)).later k2
    have a2 := (two_new (w1.alloc (.cells #[.int .i64 4503599627370496, .int .i64 (-4503599627370496)] 23)) 0 0 23).later k2
    have e : (w1.alloc (.cells #[.int .i64 4503599627370496, .int .i64 (-4503599627370496)] 23)).heap.size = g + 1 := by simp [hg]
    rw [hg] at a1
    rw [e] at a2
    refine ⟨thenB (thenB (thenB h1 ((Below.refl _ _).alloc (Nat.le_refl _) _)) ((Below.refl _ _).alloc (Nat.le_refl _) _)) k2, by rw [← hg]; exact h1.size, a1, a2, ?_⟩
    have := a2.1
    omega
  clear k2 h1 hd hz
  obtain ⟨_, _, ⟨_, a1, a2, a3, a4⟩, ⟨_, b1, b2, b3, b4⟩, hgh⟩ := id HX.out
  have hgh0 : g < h := by omega
  have h6 : k = 0 ∨ k = 1 ∨ k = 2 ∨ k = 3 ∨ k = 4 ∨ k = 5 := by omega
  clear hk
  rcases h6 with rfl | rfl | rfl | rfl | rfl | rfl
  · have HC := sum_none (a := 4503599627370496) (b := -4503599627370496) (c := d) (d := 0) (by first | exact Or.inl (by simp [pairB, partB]; omega) | exact Or.inr (Or.inl (by simp [pairB, partB]; omega)) | exact Or.inr (Or.inr (by simp [pairB, partB]; omega)))
    have CA := gadd_no HC.1
    have HS : Hid (sumF [(4503599627370496, -4503599627370496), (d, 0)] 0 0 = (0, 0, 600)) := HC.2
    have HY := after (x := 4503599627370496) (y := -4503599627370496) (t := 23) (g := g) (h := h) ((HX.out.1).setCell (p := ⟨g + 1, 0, none⟩) (by have := HX.out.2.1; simp; omega) (.int .i64 (d))) (two_set_other HX.out.2.2.1 (by omega) 0 (.int .i64 d)) (two_set0 HX.out.2.2.2.1 d) (by simp [hh])
    clear HC
    go_wp2_with fail
    refine (CA _).mono ?_
    rintro e w5 ⟨rfl, k5⟩
    have H5 : Hid (Below w.heap.size w w5 ∧ Two w5 g (4503599627370496) (-4503599627370496) ∧ Two w5 (g + 1) (d) (0) ∧ Two w5 h 4503599627370496 (-4503599627370496)) := ⟨thenB HY.out.1 k5, HY.out.2.1.later k5, HY.out.2.2.1.later k5, HY.out.2.2.2.later k5⟩
    clear HY k5 CA a1 a2 a3 a4 b1 b2 b3 b4
    obtain ⟨q, hq⟩ : ∃ q, w5.heap.size = q := ⟨_, rfl⟩
    have C := tail_sum (w5 := w5) (q := q) (a := 4503599627370496) (b := -4503599627370496) (c := d) (d := 0) hq HS.out
    obtain ⟨_, ⟨z1, a1, a2, _, _⟩, ⟨z2, b1, b2, _, _⟩, ⟨z3, _⟩⟩ := id H5.out
    rw [hq] at z1 z2 z3
    go_wp2_with fail
    refine C.mono ?_
    rintro e w6 ⟨rfl, k6⟩
    have H6 := tail_later (t := 23) (t' := 23) hq H5.out.1 H5.out.2.2.2 k6
    obtain ⟨_, ⟨_, e1, e2, _, _⟩, ⟨_, e3, e4, _, _⟩⟩ := id H6.out
    clear H5 C k6 a1 a2 b1 b2
    go_wp2_with (first | (go_at_call 14; refine (num_any _ _).mono ?_; rintro e wz ⟨rfl, rfl⟩) | fail)
    go_ret
    exact ⟨rfl, (H6.out.1.alloc H6.out.1.size _)⟩
  · have HC := sum_none (a := 4503599627370496) (b := -4503599627370496) (c := 0) (d := -d) (by first | exact Or.inl (by simp [pairB, partB]; omega) | exact Or.inr (Or.inl (by simp [pairB, partB]; omega)) | exact Or.inr (Or.inr (by simp [pairB, partB]; omega)))
    have CA := gadd_no HC.1
    have HS : Hid (sumF [(4503599627370496, -4503599627370496), (0, -d)] 0 0 = (0, 0, 600)) := HC.2
    have HY := after (x := 4503599627370496) (y := -4503599627370496) (t := 23) (g := g) (h := h) ((HX.out.1).setCell (p := ⟨g + 1, 1, none⟩) (by have := HX.out.2.1; simp; omega) (.int .i64 (-d))) (two_set_other HX.out.2.2.1 (by omega) 1 (.int .i64 (-d))) (two_set1 HX.out.2.2.2.1 (-d)) (by simp [hh])
    clear HC
    go_wp2_with fail
    refine (CA _).mono ?_
    rintro e w5 ⟨rfl, k5⟩
    have H5 : Hid (Below w.heap.size w w5 ∧ Two w5 g (4503599627370496) (-4503599627370496) ∧ Two w5 (g + 1) (0) (-d) ∧ Two w5 h 4503599627370496 (-4503599627370496)) := ⟨thenB HY.out.1 k5, HY.out.2.1.later k5, HY.out.2.2.1.later k5, HY.out.2.2.2.later k5⟩
    clear HY k5 CA a1 a2 a3 a4 b1 b2 b3 b4
    obtain ⟨q, hq⟩ : ∃ q, w5.heap.size = q := ⟨_, rfl⟩
    have C := tail_sum (w5 := w5) (q := q) (a := 4503599627370496) (b := -4503599627370496) (c := 0) (d := -d) hq HS.out
    obtain ⟨_, ⟨z1, a1, a2, _, _⟩, ⟨z2, b1, b2, _, _⟩, ⟨z3, _⟩⟩ := id H5.out
    rw [hq] at z1 z2 z3
    go_wp2_with fail
    refine C.mono ?_
    rintro e w6 ⟨rfl, k6⟩
    have H6 := tail_later (t := 23) (t' := 23) hq H5.out.1 H5.out.2.2.2 k6
    obtain ⟨_, ⟨_, e1, e2, _, _⟩, ⟨_, e3, e4, _, _⟩⟩ := id H6.out
    clear H5 C k6 a1 a2 b1 b2
    go_wp2_with (first | (go_at_call 14; refine (num_any _ _).mono ?_; rintro e wz ⟨rfl, rfl⟩) | fail)
    go_ret
    exact ⟨rfl, (H6.out.1.alloc H6.out.1.size _)⟩
  · have HC := sum_none (a := 4503599627370496 + d) (b := -4503599627370496) (c := -2 * d) (d := 0) (by first | exact Or.inl (by simp [pairB, partB]; omega) | exact Or.inr (Or.inl (by simp [pairB, partB]; omega)) | exact Or.inr (Or.inr (by simp [pairB, partB]; omega)))
    have CA := gadd_no HC.1
    have HS : Hid (sumF [(4503599627370496 + d, -4503599627370496), (-2 * d, 0)] 0 0 = (0, 0, 600)) := HC.2
    have HY := after (x := 4503599627370496) (y := -4503599627370496) (t := 23) (g := g) (h := h) (((HX.out.1).setCell (p := ⟨g, 0, none⟩) (by have := HX.out.2.1; simp; omega) (.int .i64 (4503599627370496 + d))).setCell (p := ⟨g + 1, 0, none⟩) (by have := HX.out.2.1; simp; omega) (.int .i64 (-2 * d))) (two_set_other (two_set0 HX.out.2.2.1 (4503599627370496 + d)) (by omega) 0 (.int .i64 (-2 * d))) (two_set0 (two_set_other HX.out.2.2.2.1 (by omega) 0 (.int .i64 (4503599627370496 + d))) (-2 * d)) (by simp [hh])
    clear HC
    go_wp2_with fail
    refine (CA _).mono ?_
    rintro e w5 ⟨rfl, k5⟩
    have H5 : Hid (Below w.heap.size w w5 ∧ Two w5 g (4503599627370496 + d) (-4503599627370496) ∧ Two w5 (g + 1) (-2 * d) (0) ∧ Two w5 h 4503599627370496 (-4503599627370496)) := ⟨thenB HY.out.1 k5, HY.out.2.1.later k5, HY.out.2.2.1.later k5, HY.out.2.2.2.later k5⟩
    clear HY k5 CA a1 a2 a3 a4 b1 b2 b3 b4
    obtain ⟨q, hq⟩ : ∃ q, w5.heap.size = q := ⟨_, rfl⟩
    have C := tail_sum (w5 := w5) (q := q) (a := 4503599627370496 + d) (b := -4503599627370496) (c := -2 * d) (d := 0) hq HS.out
    obtain ⟨_, ⟨z1, a1, a2, _, _⟩, ⟨z2, b1, b2, _, _⟩, ⟨z3, _⟩⟩ := id H5.out
    rw [hq] at z1 z2 z3
    go_wp2_with fail
    refine C.mono ?_
    rintro e w6 ⟨rfl, k6⟩
    have H6 := tail_later (t := 23) (t' := 23) hq H5.out.1 H5.out.2.2.2 k6
    obtain ⟨_, ⟨_, e1, e2, _, _⟩, ⟨_, e3, e4, _, _⟩⟩ := id H6.out
    clear H5 C k6 a1 a2 b1 b2
    go_wp2_with (first | (go_at_call 14; refine (num_any _ _).mono ?_; rintro e wz ⟨rfl, rfl⟩) | fail)
    go_ret
    exact ⟨rfl, (H6.out.1.alloc H6.out.1.size _)⟩
  · have HC := sum_none (a := 4503599627370496) (b := -4503599627370496 - d) (c := 0) (d := 2 * d) (by first | exact Or.inl (by simp [pairB, partB]; omega) | exact Or.inr (Or.inl (by simp [pairB, partB]; omega)) | exact Or.inr (Or.inr (by simp [pairB, partB]; omega)))
    have CA := gadd_no HC.1
    have HS : Hid (sumF [(4503599627370496, -4503599627370496 - d), (0, 2 * d)] 0 0 = (0, 0, 600)) := HC.2
    have HY := after (x := 4503599627370496) (y := -4503599627370496) (t := 23) (g := g) (h := h) (((HX.out.1).setCell (p := ⟨g, 1, none⟩) (by have := HX.out.2.1; simp; omega) (.int .i64 (-4503599627370496 - d))).setCell (p := ⟨g + 1, 1, none⟩) (by have := HX.out.2.1; simp; omega) (.int .i64 (2 * d))) (two_set_other (two_set1 HX.out.2.2.1 (-4503599627370496 - d)) (by omega) 1 (.int .i64 (2 * d))) (two_set1 (two_set_other HX.out.2.2.2.1 (by omega) 1 (.int .i64 (-4503599627370496 - d))) (2 * d)) (by simp [hh])
    clear HC
    go_wp2_with fail
    refine (CA _).mono ?_
    rintro e w5 ⟨rfl, k5⟩
    have H5 : Hid (Below w.heap.size w w5 ∧ Two w5 g (4503599627370496) (-4503599627370496 - d) ∧ Two w5 (g + 1) (0) (2 * d) ∧ Two w5 h 4503599627370496 (-4503599627370496)) := ⟨thenB HY.out.1 k5, HY.out.2.1.later k5, HY.out.2.2.1.later k5, HY.out.2.2.2.later k5⟩
    clear HY k5 CA a1 a2 a3 a4 b1 b2 b3 b4
    obtain ⟨q, hq⟩ : ∃ q, w5.heap.size = q := ⟨_, rfl⟩
    have C := tail_sum (w5 := w5) (q := q) (a := 4503599627370496) (b := -4503599627370496 - d) (c := 0) (d := 2 * d) hq HS.out
    obtain ⟨_, ⟨z1, a1, a2, _, _⟩, ⟨z2, b1, b2, _, _⟩, ⟨z3, _⟩⟩ := id H5.out
    rw [hq] at z1 z2 z3
    go_wp2_with fail
    refine C.mono ?_
    rintro e w6 ⟨rfl, k6⟩
    have H6 := tail_later (t := 23) (t' := 23) hq H5.out.1 H5.out.2.2.2 k6
    obtain ⟨_, ⟨_, e1, e2, _, _⟩, ⟨_, e3, e4, _, _⟩⟩ := id H6.out
    clear H5 C k6 a1 a2 b1 b2
    go_wp2_with (first | (go_at_call 14; refine (num_any _ _).mono ?_; rintro e wz ⟨rfl, rfl⟩) | fail)
    go_ret
    exact ⟨rfl, (H6.out.1.alloc H6.out.1.size _)⟩
  · have HC := sum_none (a := 4503599627370496) (b := -4503599627370496) (c := -4503599627370496 - d) (d := 0) (by first | exact Or.inl (by simp [pairB, partB]; omega) | exact Or.inr (Or.inl (by simp [pairB, partB]; omega)) | exact Or.inr (Or.inr (by simp [pairB, partB]; omega)))
    have CA := gadd_no HC.1
    have HS : Hid (sumF [(4503599627370496, -4503599627370496), (-4503599627370496 - d, 0)] 0 0 = (0, 0, 600)) := HC.2
    have HY := after (x := 4503599627370496) (y := -4503599627370496) (t := 23) (g := g) (h := h) ((HX.out.1).setCell (p := ⟨g + 1, 0, none⟩) (by have := HX.out.2.1; simp; omega) (.int .i64 (-4503599627370496 - d))) (two_set_other HX.out.2.2.1 (by omega) 0 (.int .i64 (-4503599627370496 - d))) (two_set0 HX.out.2.2.2.1 (-4503599627370496 - d)) (by simp [hh])
    clear HC
    go_wp2_with fail
    refine (CA _).mono ?_
    rintro e w5 ⟨rfl, k5⟩
    have H5 : Hid (Below w.heap.size w w5 ∧ Two w5 g (4503599627370496) (-4503599627370496) ∧ Two w5 (g + 1) (-4503599627370496 - d) (0) ∧ Two w5 h 4503599627370496 (-4503599627370496)) := ⟨thenB HY.out.1 k5, HY.out.2.1.later k5, HY.out.2.2.1.later k5, HY.out.2.2.2.later k5⟩
    clear HY k5 CA a1 a2 a3 a4 b1 b2 b3 b4
    obtain ⟨q, hq⟩ : ∃ q, w5.heap.size = q := ⟨_, rfl⟩
    have C := tail_sum (w5 := w5) (q := q) (a := 4503599627370496) (b := -4503599627370496) (c := -4503599627370496 - d) (d := 0) hq HS.out
    obtain ⟨_, ⟨z1, a1, a2, _, _⟩, ⟨z2, b1, b2, _, _⟩, ⟨z3, _⟩⟩ := id H5.out
    rw [hq] at z1 z2 z3
    go_wp2_with fail
    refine C.mono ?_
    rintro e w6 ⟨rfl, k6⟩
    have H6 := tail_later (t := 23) (t' := 23) hq H5.out.1 H5.out.2.2.2 k6
    obtain ⟨_, ⟨_, e1, e2, _, _⟩, ⟨_, e3, e4, _, _⟩⟩ := id H6.out
    clear H5 C k6 a1 a2 b1 b2
    go_wp2_with (first | (go_at_call 14; refine (num_any _ _).mono ?_; rintro e wz ⟨rfl, rfl⟩) | fail)
    go_ret
    exact ⟨rfl, (H6.out.1.alloc H6.out.1.size _)⟩
  · have HC := sum_none (a := 4503599627370496) (b := -4503599627370496) (c := 0) (d := 4503599627370496 + d) (by first | exact Or.inl (by simp [pairB, partB]; omega) | exact Or.inr (Or.inl (by simp [pairB, partB]; omega)) | exact Or.inr (Or.inr (by simp [pairB, partB]; omega)))
    have CA := gadd_no HC.1
    have HS : Hid (sumF [(4503599627370496, -4503599627370496), (0, 4503599627370496 + d)] 0 0 = (0, 0, 600)) := HC.2
    have HY := after (x := 4503599627370496) (y := -4503599627370496) (t := 23) (g := g) (h := h) ((HX.out.1).setCell (p := ⟨g + 1, 1, none⟩) (by have := HX.out.2.1; simp; omega) (.int .i64 (4503599627370496 + d))) (two_set_other HX.out.2.2.1 (by omega) 1 (.int .i64 (4503599627370496 + d))) (two_set1 HX.out.2.2.2.1 (4503599627370496 + d)) (by simp [hh])
    clear HC
    go_wp2_with fail
    refine (CA _).mono ?_
    rintro e w5 ⟨rfl, k5⟩
    have H5 : Hid (Below w.heap.size w w5 ∧ Two w5 g (4503599627370496) (-4503599627370496) ∧ Two w5 (g + 1) (0) (4503599627370496 + d) ∧ Two w5 h 4503599627370496 (-4503599627370496)) := ⟨thenB HY.out.1 k5, HY.out.2.1.later k5, HY.out.2.2.1.later k5, HY.out.2.2.2.later k5⟩
    clear HY k5 CA a1 a2 a3 a4 b1 b2 b3 b4
    obtain ⟨q, hq⟩ : ∃ q, w5.heap.size = q := ⟨_, rfl⟩
    have C := tail_sum (w5 := w5) (q := q) (a := 4503599627370496) (b := -4503599627370496) (c := 0) (d := 4503599627370496 + d) hq HS.out
    obtain ⟨_, ⟨z1, a1, a2, _, _⟩, ⟨z2, b1, b2, _, _⟩, ⟨z3, _⟩⟩ := id H5.out
    rw [hq] at z1 z2 z3
    go_wp2_with fail
    refine C.mono ?_
    rintro e w6 ⟨rfl, k6⟩
    have H6 := tail_later (t := 23) (t' := 23) hq H5.out.1 H5.out.2.2.2 k6
    obtain ⟨_, ⟨_, e1, e2, _, _⟩, ⟨_, e3, e4, _, _⟩⟩ := id H6.out
    clear H5 C k6 a1 a2 b1 b2
    go_wp2_with (first | (go_at_call 14; refine (num_any _ _).mono ?_; rintro e wz ⟨rfl, rfl⟩) | fail)
    go_ret
    exact ⟨rfl, (H6.out.1.alloc H6.out.1.size _)⟩

end Go.Proofs.YthogncopedfmmaaDoor.PairForms
