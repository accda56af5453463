/-
  The law's own first look at package matrix ('awake'): it answers true.
-/
import Derived.Test.YtdaakacjgkafcaaMatIn
import Derived.Test.YtdaakacjgkafcaaInts
import Derived.Test.YtdaakacjgkafcaaNum
namespace Go.Proofs.Ytdaakacjgkafcaa
open Go.RowKit
set_option linter.unusedVariables false

theorem x_zeros : Mx.zeros 2 = [[0, 0], [0, 0]] := by decide
theorem x_g0 : Mx.Good [[0, 0], [0, 0]] := by unfold Mx.Good Ve.May; decide
theorem x_g1 : Mx.Good [[3, 1], [0, 0]] := by unfold Mx.Good Ve.May; decide
theorem x_g2 : Mx.Good [[3, 1], [2, 4]] := by unfold Mx.Good Ve.May; decide
theorem x_g3 : Mx.Good [[3, 2], [2, 4]] := by unfold Mx.Good Ve.May; decide
theorem x_l1 : Mx.Learnt [[0, 0], [0, 0]] 0 [3, 1] [[3, 1], [0, 0]] 0 := Or.inl ⟨by unfold Mx.Node; decide, by unfold Ve.May; decide, by decide, rfl⟩
theorem x_l2 : Mx.Learnt [[3, 1], [0, 0]] 1 [2, 4] [[3, 1], [2, 4]] 0 := Or.inl ⟨by unfold Mx.Node; decide, by unfold Ve.May; decide, by decide, rfl⟩
theorem x_l3 : Mx.Learnt [[3, 1], [2, 4]] 0 [1, 2] [[3, 2], [2, 4]] 0 := Or.inl ⟨by unfold Mx.Node; decide, by unfold Ve.May; decide, by decide, rfl⟩
theorem x_l4 : Mx.Learnt [[3, 2], [2, 4]] 2 [1, 2] [[3, 2], [2, 4]] 500 := Or.inr ⟨by unfold Mx.Node Ve.May; decide, rfl, rfl⟩
theorem x_r1 : Mx.Rowed [[3, 2], [2, 4]] 0 [3, 2] 0 := Or.inl ⟨by unfold Mx.Node; decide, by decide, rfl⟩
theorem x_r2 : Mx.Rowed [[3, 2], [2, 4]] (-1) [] 500 := Or.inr ⟨by unfold Mx.Node; decide, rfl, rfl⟩
theorem x_m : Mx.least [[3, 2], [2, 4]] = [2, 2] := by decide

set_option maxHeartbeats 1000000 in
set_option maxRecDepth 100000 in
theorem awake5_any (w : World) :
    Calls Try.prog 9 #[] w fun e w' => e = .returned (.bool true) ∧ Below w.heap.size w w' := by
  go_enter Try.func9, Try.ntmps9
  go_wp2_with fail
  refine (new_in w (n := 2) (by rfl) (by omega) (by omega) (Below.refl _ _)).mono ?_
  rintro e w1 ⟨P, rfl, m1⟩
  rw [x_zeros] at m1
  go_wp2_with fail
  refine (newBad_in (nodes := 0) (by omega)).mono ?_
  rintro e w2 ⟨rfl, h2⟩
  have m2 := m1.later h2
  clear m1 h2
  go_wp2_with (go_at_call 8; refine (num_any _ _).mono ?_; rintro e w0 ⟨rfl, rfl⟩)
  refine (learn_in (m2.alloc _) x_g0 (row_two _ 3 1) rfl x_l1).mono ?_
  rintro e w3 ⟨rfl, m3⟩
  clear m2
  go_wp2_with fail
  refine (learn_in (m3.alloc _) x_g1 (row_two _ 2 4) rfl x_l2).mono ?_
  rintro e w4 ⟨rfl, m4⟩
  clear m3
  go_wp2_with fail
  refine (learn_in (m4.alloc _) x_g2 (row_two _ 1 2) rfl x_l3).mono ?_
  rintro e w5 ⟨rfl, m5⟩
  clear m4
  go_wp2_with fail
  refine (learn_in (m5.alloc _) x_g3 (row_two _ 1 2) rfl x_l4).mono ?_
  rintro e w6 ⟨rfl, m6⟩
  clear m5
  go_wp2_with fail
  refine (row_in m6 x_g3 x_r1).mono ?_
  rintro e w7 ⟨ro, rc, rfl, r7, h7⟩
  have m7 := m6.later h7
  clear m6 h7
  go_wp2_with fail
  refine (row_in m7 x_g3 x_r2).mono ?_
  rintro e w8 ⟨ro8, rc8, rfl, r8, h8⟩
  have m8 := m7.later h8
  have q8 := r7.row.later h8
  clear m7 h8 r7 r8
  go_wp2_with (go_at_call 8; refine (num_any _ _).mono ?_; rintro e w0 ⟨rfl, rfl⟩)
  refine (same_b ro (some ⟨_, 0, none⟩) rc 2 [3, 2] [3, 2] _ (row_then _ q8 _) (row_two _ 3 2) (by decide) (r := true) (by simp)).mono ?_
  rintro e w9 ⟨rfl, h9⟩
  have m9 := (m8.alloc _).later h9
  clear m8 h9 q8
  go_wp2_with (go_at_call 8; refine (num_any _ _).mono ?_; rintro e w0 ⟨rfl, rfl⟩)
  refine (least_in m9 x_g3 x_m).mono ?_
  rintro e w10 ⟨ro10, rc10, rfl, r10, h10⟩
  have m10 := m9.later h10
  clear m9 h10
  go_wp2_with fail
  refine (same_b ro10 (some ⟨_, 0, none⟩) rc10 2 [2, 2] [2, 2] _ (row_then _ r10.row _) (row_two _ 2 2) (by decide) (r := true) (by simp)).mono ?_
  rintro e w11 ⟨rfl, h11⟩
  have m11 := (m10.alloc _).later h11
  clear m10 h11
  go_wp2
  go_ret
  exact ⟨rfl, m11.below⟩

end Go.Proofs.Ytdaakacjgkafcaa
