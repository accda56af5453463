/-
  The walk of the law MatrixForms: nodes and vectors that are none turn nothing.
-/
import Derived.Test.YtdaakacjgkafcaaAwake5
import Derived.Test.YtdaakacjgkafcaaMasks
namespace Go.Proofs.Ytdaakacjgkafcaa.MatrixForms
open Go.RowKit
set_option linter.unusedVariables false

theorem mod6 (a : Int) : ∃ k : Nat, k < 6 ∧ (IntKind.u64.wrap a).tmod 6 = (k : Int) := by
  have h1 : IntKind.u64.wrap a = a % 18446744073709551616 := by simp [IntKind.wrap, IntKind.bits, IntKind.signed]
  rw [h1]
  generalize hz : a % 18446744073709551616 = z
  have hz0 : 0 ≤ z := by omega
  rw [Int.tmod_eq_emod_of_nonneg hz0]
  exact ⟨(z % 6).toNat, by omega, by omega⟩

theorem row_three (w : World) (x y z : Int) : RowAt (w.alloc (.cells #[.int .i64 x, .int .i64 y, .int .i64 z] 3)) (some ⟨w.heap.size, 0, none⟩) [x, y, z] := fun _ => by
  refine ⟨w.heap.size, 0, rfl, by simp, fun i hi => ?_⟩
  match i, hi with
  | 0, _ => simp [World.cell?_alloc_at]
  | 1, _ => simp [World.cell?_alloc_at]
  | 2, _ => simp [World.cell?_alloc_at]

theorem row_short (w : World) (x y z : Int) : RowAt (w.alloc (.cells #[.int .i64 x, .int .i64 y, .int .i64 z] 3)) (some ⟨w.heap.size, 0, none⟩) [x, y] := fun _ => by
  refine ⟨w.heap.size, 0, rfl, by simp, fun i hi => ?_⟩
  match i, hi with
  | 0, _ => simp [World.cell?_alloc_at]
  | 1, _ => simp [World.cell?_alloc_at]

/-- 'append(out, c)' in a world whose size is known. -/
theorem append_one {ops : Array Oper} {rest : List Oper} {o : Oper} {a : Act} {Q : Exit → Act → World → Prop} (hgd : o.guard = none) (s x : Operand)
    (ho : o.op = .call { callee := .builtin .append, args := #[s, x], argTypes := #[32, 32] })
    {B H : Nat} {v : Value} {l : List Int} {wr : World} (hH : wr.heap.size = H) (c : Int)
    (hs : a.eval s = v) (hx : a.eval x = .slice (some ⟨H, 0, none⟩) 1 1)
    (hown : wr.ownsRow B 3 1 v l.length (l.map (.int .i64))) (hlen : l.length < 17592186044416) (hB : B ≤ wr.heap.size)
    (h : ∀ v' w', w'.ownsRow B 3 1 v' (l ++ [c]).length ((l ++ [c]).map (.int .i64)) → Below B wr w' → wpList Try.prog ops Q rest (a.put o.dst v') w') :
    wpList Try.prog ops Q (o :: rest) a (wr.alloc (.cells #[.int .i64 c] 3)) := by
  subst hH
  exact wpList_append_int hgd s x ho c hs hx hown hlen hB h

def R1 : List (List Int) := [[0, 0, 0], [4, 5, 6], [0, 0, 0]]
theorem y_zeros : Mx.zeros 3 = [[0, 0, 0], [0, 0, 0], [0, 0, 0]] := by decide
theorem y_g0 : Mx.Good [[0, 0, 0], [0, 0, 0], [0, 0, 0]] := by unfold Mx.Good Ve.May; decide
theorem y_g1 : Mx.Good R1 := by unfold R1 Mx.Good Ve.May; decide
theorem y_l1 : Mx.Learnt [[0, 0, 0], [0, 0, 0], [0, 0, 0]] 1 [4, 5, 6] R1 0 := Or.inl ⟨by unfold Mx.Node; decide, by unfold Ve.May; decide, by decide, rfl⟩
theorem y_node {node : Int} {v : List Int} (h : node < 0 ∨ 2 < node) : Mx.Learnt R1 node v R1 500 := by
  refine Or.inr ⟨fun hh => ?_, rfl, rfl⟩
  have h1 := hh.1.1
  have h2 := hh.1.2
  have e : (R1.length : Int) = 3 := rfl
  omega
theorem y_vec {node : Int} {v : List Int} (h : ¬ Ve.May v 3) : Mx.Learnt R1 node v R1 500 := Or.inr ⟨fun hh => h hh.2, rfl, rfl⟩
theorem y_r1 : Mx.Rowed R1 1 [4, 5, 6] 0 := Or.inl ⟨by unfold Mx.Node; decide, by decide, rfl⟩
theorem y_r2 {node : Int} (h : 2 < node) : Mx.Rowed R1 node [] 500 := by
  refine Or.inr ⟨fun hh => ?_, rfl, rfl⟩
  have h2 := hh.2
  have e : (R1.length : Int) = 3 := rfl
  omega
theorem y_m : Mx.least R1 = [0, 0, 0] := by decide
theorem no_two (x y : Int) : ¬ Ve.May [x, y] 3 := fun h => by have := h.2.2.1; simp at this
theorem no_four (x y z u : Int) : ¬ Ve.May [x, y, z, u] 3 := fun h => by have := h.2.2.1; simp at this
theorem no_low (d : Nat) (y z : Int) (hd : 1 ≤ d) : ¬ Ve.May [-(d : Int), y, z] 3 := fun h => by
  have h1 := (h.2.2.2 0 (by simp)).1
  simp at h1
  omega
theorem no_high (d : Nat) (x y : Int) (hd : 1 ≤ d) : ¬ Ve.May [x, y, 1048575 + (d : Int)] 3 := fun h => by
  have h1 := (h.2.2.2 2 (by simp)).2
  simp at h1
  omega

set_option maxHeartbeats 4000000 in
set_option maxRecDepth 100000 in
theorem core (which x : Int) (w : World) :
    Calls Try.prog 5 #[.int .i64 which, .int .i64 x] w fun e w' => e = .returned (.bool true) ∧ Below w.heap.size w w' := by
  obtain ⟨k, hk, ek⟩ := mod6 which
  obtain ⟨z, hz, ez⟩ : ∃ z : Nat, z < 64 ∧ bits .and .i64 x 63 = (z : Int) := and_mask x 6 (by omega)
  obtain ⟨d, hd⟩ : ∃ d : Nat, 1 + (z : Int) = (d : Int) := ⟨1 + z, by omega⟩
  have hd1 : 1 ≤ d := by omega
  have hd2 : d ≤ 64 := by omega
  go_enter Try.func5, Try.ntmps5
  go_wp2_with fail
  refine (awake5_any _).mono ?_
  rintro e w1 ⟨rfl, h1⟩
  go_wp2_with fail
  refine (newBad_in (by omega)).mono ?_
  rintro e w2 ⟨rfl, h2⟩
  replace h2 := thenB h1 h2
  clear h1
  go_wp2_with fail
  refine (newBad_in (by omega)).mono ?_
  rintro e w3 ⟨rfl, h3⟩
  replace h3 := thenB h2 h3
  clear h2
  go_wp2_with fail
  refine (new_in w (n := 3) (by rfl) (by omega) (by omega) h3).mono ?_
  rintro e w4 ⟨P, rfl, m4⟩
  rw [y_zeros] at m4
  clear h3
  go_wp2_with (go_at_call 8; refine (num_any _ _).mono ?_; rintro e w0 ⟨rfl, rfl⟩)
  refine (learn_in (m4.alloc _) y_g0 (row_three _ 4 5 6) rfl y_l1).mono ?_
  rintro e w5 ⟨rfl, m5⟩
  clear m4
  have h6 : k = 0 ∨ k = 1 ∨ k = 2 ∨ k = 3 ∨ k = 4 ∨ k = 5 := by omega
  clear hk hd hz
  rcases h6 with rfl | rfl | rfl | rfl | rfl | rfl
  case' inl =>
    go_wp2_with fail
    refine (learn_in (m5.alloc _) y_g1 (row_three _ 9 9 9) rfl (y_node (by omega))).mono ?_
    rintro e w6 ⟨rfl, m6⟩
  case' inr.inl =>
    go_wp2_with fail
    refine (learn_in (m5.alloc _) y_g1 (row_three _ 9 9 9) rfl (y_node (by omega))).mono ?_
    rintro e w6 ⟨rfl, m6⟩
  case' inr.inr.inl =>
    go_wp2_with fail
    refine (learn_in (m5.alloc _) y_g1 (row_short _ 9 9 9) rfl (y_vec (no_two _ _))).mono ?_
    rintro e w6 ⟨rfl, m6⟩
  case' inr.inr.inr.inl =>
    go_wp2_with fail
    refine (learn_in (m5.alloc _) y_g1 (row_three _ (-(d : Int)) 9 9) rfl (y_vec (no_low d _ _ hd1))).mono ?_
    rintro e w6 ⟨rfl, m6⟩
  case' inr.inr.inr.inr.inl =>
    go_wp2_with fail
    refine (learn_in (m5.alloc _) y_g1 (row_three _ 9 9 (1048575 + (d : Int))) rfl (y_vec (no_high d _ _ hd1))).mono ?_
    rintro e w6 ⟨rfl, m6⟩
  case' inr.inr.inr.inr.inr =>
    have O : (w5.alloc (.cells #[.int .i64 9, .int .i64 9, .int .i64 9] 3)).ownsRow w5.heap.size 3 1 (.slice (some ⟨w5.heap.size, 0, none⟩) 3 3) ([9, 9, 9] : List Int).length (([9, 9, 9] : List Int).map (.int .i64)) := by
      simpa using World.ownsRow_lit w5 #[.int .i64 9, .int .i64 9, .int .i64 9] 3 (base := w5.heap.size) (e := 3) (size := 1) (Nat.le_refl _) (by unfold maxLen; omega) (by simp)
    go_wp2_with (at_builtin; refine append_one rfl _ _ rfl (l := [9, 9, 9]) (World.size_alloc _ _) 1 rfl rfl O (by simp) (by simp) ?_; intro v' w' hown' hbel'; obtain ⟨ao, cap, rfl, hO⟩ := own_at hown')
    refine (learn_in (m5.later ((below_alloc w5 _).trans hbel')) y_g1 hO.row rfl (y_vec (no_four _ _ _ _))).mono ?_
    rintro e w6 ⟨rfl, m6⟩
  all_goals
    (clear m5 ek
     go_wp2_with fail
     refine (row_in m6 y_g1 y_r1).mono ?_
     rintro e w7 ⟨ro, rc, rfl, r7, h7⟩
     have m7 := m6.later h7
     clear m6 h7
     go_wp2_with fail
     refine (row_in m7 y_g1 (y_r2 (by omega))).mono ?_
     rintro e w8 ⟨ro8, rc8, rfl, r8, h8⟩
     have m8 := m7.later h8
     have q8 := r7.row.later h8
     clear m7 h8 r7 r8
     go_wp2_with (go_at_call 8; refine (num_any _ _).mono ?_; rintro e w0 ⟨rfl, rfl⟩)
     refine (same_b ro (some ⟨_, 0, none⟩) rc 3 [4, 5, 6] [4, 5, 6] _ (row_then _ q8 _) (row_three _ 4 5 6) (by decide) (r := true) (by simp)).mono ?_
     rintro e w9 ⟨rfl, h9⟩
     have m9 := (m8.alloc _).later h9
     clear m8 h9 q8
     go_wp2_with (go_at_call 8; refine (num_any _ _).mono ?_; rintro e w0 ⟨rfl, rfl⟩)
     refine (least_in m9 y_g1 y_m).mono ?_
     rintro e w10 ⟨ro10, rc10, rfl, r10, h10⟩
     have m10 := m9.later h10
     clear m9 h10
     go_wp2_with fail
     refine (same_b ro10 (some ⟨_, 0, none⟩) rc10 3 [0, 0, 0] [0, 0, 0] _ (row_then _ r10.row _) (row_three _ 0 0 0) (by decide) (r := true) (by simp)).mono ?_
     rintro e w11 ⟨rfl, h11⟩
     have m11 := (m10.alloc _).later h11
     clear m10 h11
     go_wp2
     go_ret
     exact ⟨rfl, m11.below⟩)

theorem walk (which x : Int) (w : World) (h0 : (Lit.int .i64 which).wf = true) (h1 : (Lit.int .i64 x).wf = true) :
    Calls Try.prog 5 #[.int .i64 which, .int .i64 x] w fun e w' => e = .returned (.bool true) ∧ Below w.heap.size w w' := core which x w

end Go.Proofs.Ytdaakacjgkafcaa.MatrixForms
