/-
  The walk of the law PairRing: pairs come together in any row, and away again.
-/
import Derived.Test.YthogncopedfmmaaDoorRegs
namespace Go.Proofs.YthogncopedfmmaaDoor.PairRing
open Go.RowKit
set_option linter.unusedVariables false

set_option maxHeartbeats 4000000 in
set_option maxRecDepth 100000 in
theorem core (a1 a2 b1 b2 c1 c2 : Int) (w : World) (ht : Tab w) :
    Calls Tryd.prog 7 #[pv a1 a2, pv b1 b2, pv c1 c2] w fun e w' => e = .returned (.bool true) ∧ Below w.heap.size w w' := by
  obtain ⟨x1, ex1, bx1⟩ := rem_num a1
  obtain ⟨x2, ex2, bx2⟩ := rem_num a2
  obtain ⟨y1, ey1, by1⟩ := rem_num b1
  obtain ⟨y2, ey2, by2⟩ := rem_num b2
  obtain ⟨z1, ez1, bz1⟩ := rem_num c1
  obtain ⟨z2, ez2, bz2⟩ := rem_num c2
  obtain ⟨n, hn⟩ : ∃ n, w.heap.size = n := ⟨_, rfl⟩
  have HN : Hid (w.heap.size = n) := hn
  have B0 : Hid (Below w.heap.size w (((w.alloc (.cells #[.int .i64 a1, .int .i64 a2] 23)).alloc (.cells #[.int .i64 b1, .int .i64 b2] 23)).alloc (.cells #[.int .i64 c1, .int .i64 c2] 23)) ∧
      Reg (((w.alloc (.cells #[.int .i64 a1, .int .i64 a2] 23)).alloc (.cells #[.int .i64 b1, .int .i64 b2] 23)).alloc (.cells #[.int .i64 c1, .int .i64 c2] 23)) [(n + 2, c1, c2), (n + 1, b1, b2), (n, a1, a2)]) := by
    refine ⟨thenB (thenB ((Below.refl _ _).alloc (Nat.le_refl _) _) ((Below.refl _ _).alloc (Nat.le_refl _) _)) ((Below.refl _ _).alloc (Nat.le_refl _) _), ?_⟩
    have R0 : Reg w [] := trivial
    have R1 := R0.push hn a1 a2 23
    have R2 := R1.push (g := n + 1) (by simp [hn]) b1 b2 23
    exact R2.push (g := n + 2) (by simp [hn]) c1 c2 23
  go_enter Tryd.func7, Tryd.ntmps7
  go_wp2_with fail
  refine (awake_any _ (ht.later B0.out.1)).mono ?_
  rintro e w1 ⟨rfl, k1⟩
  have B1 : Hid (Below w.heap.size w w1 ∧ Reg w1 [(n + 2, c1, c2), (n + 1, b1, b2), (n, a1, a2)]) := ⟨thenB B0.out.1 k1, B0.out.2.later k1⟩
  obtain ⟨g, hg⟩ : ∃ g, w1.heap.size = g := ⟨_, rfl⟩
  obtain ⟨_, ⟨l1, p1, p2, _, _⟩, ⟨l2, p3, p4, _, _⟩, ⟨l3, p5, p6, _, _⟩, _⟩ := id B1.out
  rw [hg] at l1 l2 l3
  clear ht B0 k1 hn
  go_wp2_with fail
  have R1 : Hid (Reg (((w1.alloc (.cells #[.int .i64 x1, .int .i64 x2] 23)).alloc (.cells #[.int .i64 y1, .int .i64 y2] 23)).alloc (.cells #[.int .i64 z1, .int .i64 z2] 23)) [(g + 2, z1, z2), (g + 1, y1, y2), (g, x1, x2)] ∧ Below w.heap.size w (((w1.alloc (.cells #[.int .i64 x1, .int .i64 x2] 23)).alloc (.cells #[.int .i64 y1, .int .i64 y2] 23)).alloc (.cells #[.int .i64 z1, .int .i64 z2] 23))) := by
    refine ⟨?_, thenB (thenB (thenB B1.out.1 ((Below.refl _ _).alloc (Nat.le_refl _) _)) ((Below.refl _ _).alloc (Nat.le_refl _) _)) ((Below.refl _ _).alloc (Nat.le_refl _) _)⟩
    have R0 : Reg w1 [] := trivial
    have R1 := R0.push hg x1 x2 23
    have R2 := R1.push (g := g + 1) (by simp [hg]) y1 y2 23
    exact R2.push (g := g + 2) (by simp [hg]) z1 z2 23
  clear p1 p2 p3 p4 p5 p6 l1 l2 l3 B1 ex1 ex2 ey1 ey2 ez1 ez2
  refine (gadd_small (x1 + y1) (x2 + y2) (by omega) (by omega) (by omega) (by omega) (by omega) (by omega) _).mono ?_
  rintro e w2 ⟨rfl, k2⟩
  have R2 : Hid (Reg w2 [(g + 2, z1, z2), (g + 1, y1, y2), (g, x1, x2)] ∧ Below w.heap.size w w2) := ⟨R1.out.1.later k2, thenB R1.out.2 k2⟩
  clear R1 k2
  obtain ⟨h2, e2⟩ : ∃ h, w2.heap.size = h := ⟨_, rfl⟩
  obtain ⟨⟨⟨l1, p1, p2, _, _⟩, ⟨l2, p3, p4, _, _⟩, ⟨l3, p5, p6, _, _⟩, _⟩, _⟩ := id R2.out
  rw [e2] at l1 l2 l3
  go_wp2_with fail
  refine (gadd_small (x1 + y1) (x2 + y2) (by omega) (by omega) (by omega) (by omega) (by omega) (by omega) _).mono ?_
  rintro e w3 ⟨rfl, k3⟩
  have R3 : Hid (Reg w3 [(h2, x1 + y1, x2 + y2), (g + 2, z1, z2), (g + 1, y1, y2), (g, x1, x2)] ∧ Below w.heap.size w w3) := ⟨(R2.out.1.push e2 _ _ _).later k3, thenA R2.out.2 k3⟩
  clear R2 k3 p1 p2 p3 p4 p5 p6 l1 l2 l3 e2
  obtain ⟨h3, e3⟩ : ∃ h, w3.heap.size = h := ⟨_, rfl⟩
  obtain ⟨⟨⟨l0, p7, p8, _, _⟩, ⟨l1, p1, p2, _, _⟩, ⟨l2, p3, p4, _, _⟩, ⟨l3, p5, p6, _, _⟩, _⟩, _⟩ := id R3.out
  rw [e3] at l0 l1 l2 l3
  go_wp2_with fail
  refine (gadd_small (x1 + y1 + z1) (x2 + y2 + z2) (by omega) (by omega) (by omega) (by omega) (by omega) (by omega) _).mono ?_
  rintro e w4 ⟨rfl, k4⟩
  have R4 : Hid (Reg w4 [(h3, x1 + y1, x2 + y2), (h2, x1 + y1, x2 + y2), (g + 2, z1, z2), (g + 1, y1, y2), (g, x1, x2)] ∧ Below w.heap.size w w4) := ⟨(R3.out.1.push e3 _ _ _).later k4, thenA R3.out.2 k4⟩
  clear R3 k4 p1 p2 p3 p4 p5 p6 p7 p8 l0 l1 l2 l3 e3
  obtain ⟨h4, e4⟩ : ∃ h, w4.heap.size = h := ⟨_, rfl⟩
  obtain ⟨⟨_, _, ⟨l1, p1, p2, _, _⟩, ⟨l2, p3, p4, _, _⟩, ⟨l3, p5, p6, _, _⟩, _⟩, _⟩ := id R4.out
  rw [e4] at l1 l2 l3
  go_wp2_with fail
  refine (gadd_small (y1 + z1) (y2 + z2) (by omega) (by omega) (by omega) (by omega) (by omega) (by omega) _).mono ?_
  rintro e w5 ⟨rfl, k5⟩
  have R5 : Hid (Reg w5 [(h4, x1 + y1 + z1, x2 + y2 + z2), (h3, x1 + y1, x2 + y2), (h2, x1 + y1, x2 + y2), (g + 2, z1, z2), (g + 1, y1, y2), (g, x1, x2)] ∧ Below w.heap.size w w5) := ⟨(R4.out.1.push e4 _ _ _).later k5, thenA R4.out.2 k5⟩
  clear R4 k5 p1 p2 p3 p4 p5 p6 l1 l2 l3 e4
  obtain ⟨h5, e5⟩ : ∃ h, w5.heap.size = h := ⟨_, rfl⟩
  obtain ⟨⟨_, _, _, _, _, ⟨l3, p5, p6, _, _⟩, _⟩, _⟩ := id R5.out
  rw [e5] at l3
  go_wp2_with fail
  refine (gadd_small (x1 + y1 + z1) (x2 + y2 + z2) (by omega) (by omega) (by omega) (by omega) (by omega) (by omega) _).mono ?_
  rintro e w6 ⟨rfl, k6⟩
  have R6 : Hid (Reg w6 [(h5, y1 + z1, y2 + z2), (h4, x1 + y1 + z1, x2 + y2 + z2), (h3, x1 + y1, x2 + y2), (h2, x1 + y1, x2 + y2), (g + 2, z1, z2), (g + 1, y1, y2), (g, x1, x2)] ∧ Below w.heap.size w w6) := ⟨(R5.out.1.push e5 _ _ _).later k6, thenA R5.out.2 k6⟩
  clear R5 k6 p5 p6 l3 e5
  obtain ⟨h6, e6⟩ : ∃ h, w6.heap.size = h := ⟨_, rfl⟩
  obtain ⟨⟨_, _, _, ⟨l1, p1, p2, _, _⟩, _, ⟨l3, p5, p6, _, _⟩, _⟩, _⟩ := id R6.out
  rw [e6] at l1 l3
  go_wp2_with fail
  refine (gadd_small x1 x2 (by omega) (by omega) (by omega) (by omega) (by omega) (by omega) _).mono ?_
  rintro e w7 ⟨rfl, k7⟩
  have R7 : Hid (Reg w7 [(h6, x1 + y1 + z1, x2 + y2 + z2), (h5, y1 + z1, y2 + z2), (h4, x1 + y1 + z1, x2 + y2 + z2), (h3, x1 + y1, x2 + y2), (h2, x1 + y1, x2 + y2), (g + 2, z1, z2), (g + 1, y1, y2), (g, x1, x2)] ∧ Below w.heap.size w w7) := ⟨(R6.out.1.push e6 _ _ _).later k7, thenA R6.out.2 k7⟩
  clear R6 k7 p1 p2 p5 p6 l1 l3 e6
  obtain ⟨h7, e7⟩ : ∃ h, w7.heap.size = h := ⟨_, rfl⟩
  obtain ⟨⟨⟨l1, p1, p2, _, _⟩, _, ⟨l2, p3, p4, _, _⟩, ⟨l3, p5, p6, _, _⟩, ⟨l4, p7, p8, _, _⟩, _, _, ⟨l5, p9, p10, _, _⟩, _⟩, _⟩ := id R7.out
  rw [e7] at l1 l2 l3 l4 l5
  go_wp2_with (first | (go_at_call 14; refine (num_any _ _).mono ?_; rintro e wz ⟨rfl, rfl⟩) | fail)
  go_ret
  exact ⟨rfl, R7.out.2.alloc R7.out.2.size _⟩

theorem walk {H : Type} {enc : TypeId × Value → H} {base : Nat} {d0 d1 d2 : DataW H} {p0 p1 p2 : List MemPlace} (v0 v1 v2 : Value) (w : World)
    (o0 : Value.okWide Tryd.prog w .any base 23 v0) (h0 : DataW.Trod enc Tryd.prog w 0 (fun _ => true) true 23 v0 d0 p0)
    (o1 : Value.okWide Tryd.prog w .any base 23 v1) (h1 : DataW.Trod enc Tryd.prog w 0 (fun _ => true) true 23 v1 d1 p1)
    (o2 : Value.okWide Tryd.prog w .any base 23 v2) (h2 : DataW.Trod enc Tryd.prog w 0 (fun _ => true) true 23 v2 d2 p2) (ht : Tab w) :
    Calls Tryd.prog 7 #[v0, v1, v2] w fun e w' => e = .returned (.bool true) ∧ Below w.heap.size w w' := by
  obtain ⟨a1, a2, rfl, _, _⟩ := open_two Tryd.underlying23 (by kernel_rfl) rfl rfl (by kernel_rfl) (by kernel_rfl) Tryd.underlying3 Tryd.underlying3 o0 h0
  obtain ⟨b1, b2, rfl, _, _⟩ := open_two Tryd.underlying23 (by kernel_rfl) rfl rfl (by kernel_rfl) (by kernel_rfl) Tryd.underlying3 Tryd.underlying3 o1 h1
  obtain ⟨c1, c2, rfl, _, _⟩ := open_two Tryd.underlying23 (by kernel_rfl) rfl rfl (by kernel_rfl) (by kernel_rfl) Tryd.underlying3 Tryd.underlying3 o2 h2
  exact core a1 a2 b1 b2 c1 c2 w ht

end Go.Proofs.YthogncopedfmmaaDoor.PairRing
