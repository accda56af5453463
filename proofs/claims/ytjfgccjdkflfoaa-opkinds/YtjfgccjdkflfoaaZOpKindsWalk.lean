/-
  The walk of the law OpKinds: each kind is of one kind of cell; others of none.
-/
import Derived.Test.YtjfgccjdkflfoaaZAwake11
import Derived.Test.YtjfgccjdkflfoaaZPack1
namespace Go.Proofs.Ytjfgccjdkflfoaa.OpKinds
open Go.RowKit
set_option linter.unusedVariables false
set_option linter.unusedSimpArgs false

def wantK (k : Nat) : Int := [0, 1, 2, 2, 3, 3].getD k 0
theorem kind_of (k : Nat) (hk : k ≤ 5) (q : Pq) (W : World) : Calls Try.prog 18 #[oV (oneO k) q] W fun e w' => e = .returned (.int .i64 (wantK k)) ∧ Below W.heap.size W w' := by
  have h := okind_any (oneO k) q W
  have e : kindN (oneO k).kind = wantK k := by
    have : k = 0 ∨ k = 1 ∨ k = 2 ∨ k = 3 ∨ k = 4 ∨ k = 5 := by omega
    rcases this with rfl | rfl | rfl | rfl | rfl | rfl <;> decide
  rw [e] at h
  exact h
theorem kind_no (kd : Int) (hk : ¬ (0 ≤ kd ∧ kd ≤ 5)) (W : World) : Calls Try.prog 18 #[oV ⟨0, 0, 0, [], kd, noS, noS, noS, noS, 0, 0, 0, 0, []⟩ pq0] W fun e w' => e = .returned (.int .i64 (-1)) ∧ Below W.heap.size W w' := by
  have h := okind_any ⟨0, 0, 0, [], kd, noS, noS, noS, noS, 0, 0, 0, 0, []⟩ pq0 W
  have e : kindN kd = -1 := by
    unfold kindN
    rw [if_neg (by omega), if_neg (by omega), if_neg (by omega), if_neg (by omega)]
  simp only [e] at h
  exact h

theorem kind_lit (kd : Int) (hk : ¬ (0 ≤ kd ∧ kd ≤ 5)) (W : World) : Calls Try.prog 18 #[.agg #[.int .i64 0, .int .i64 0, .int .i64 0, .slice none 0 0, .int .i64 kd, .string ⟨#[]⟩, .string ⟨#[]⟩, .string ⟨#[]⟩, .string ⟨#[]⟩, .int .i64 0, .int .i64 0, .int .i64 0, .int .i64 0, .slice none 0 0]] W fun e w' => e = .returned (.int .i64 (-1)) ∧ Below W.heap.size W w' := kind_no kd hk W

/-- What the last region keeps. -/
abbrev HeldK (w1 : World) (B g k : Nat) (v : Int) (W : World) : Prop := Hid (Below B w1 W ∧ B ≤ W.heap.size) ∧ W.cell? ⟨g, k, none⟩ = some (.int .i64 v)
theorem heldK_later {w1 W W' : World} {B g k : Nat} {v : Int} (hg : g < B) (hb : Below W.heap.size W W') (H : HeldK w1 B g k v W) : HeldK w1 B g k v W' :=
  ⟨⟨H.1.out.1.trans (hb.mono H.1.out.2), Nat.le_trans H.1.out.2 hb.size⟩, (hb.cell (p := ⟨g, k, none⟩) (Nat.lt_of_lt_of_le hg H.1.out.2)).trans H.2⟩

set_option maxHeartbeats 4000000 in
set_option maxRecDepth 100000 in
theorem walk (kind x : Int) (w : World) (_ : (Lit.int .i64 kind).wf = true) (_ : (Lit.int .i64 x).wf = true) :
    Calls Try.prog 6 #[.int .i64 kind, .int .i64 x] w fun e w' => e = .returned (.bool true) ∧ Below w.heap.size w w' := by
  obtain ⟨k, hk, ek⟩ : ∃ k : Nat, k < 6 ∧ wrap64 ((IntKind.u64.wrap kind).tmod 6) = (k : Int) := mod_any kind 6 (by omega) (by omega)
  obtain ⟨z, hz, ez⟩ : ∃ z : Nat, z < 1024 ∧ bits .and .i64 x 1023 = (z : Int) := and_mask x 10 (by omega)
  obtain ⟨h, hh⟩ : ∃ h, w.heap.size = h := ⟨_, rfl⟩
  have HW : Hid (w.heap.size = h) := hh
  rw [hh]
  clear hh
  go_enter Try.func6, Try.ntmps6
  go_wp2_with fail
  refine (awake11_any w).mono ?_
  rintro e w1 ⟨rfl, b1⟩
  obtain ⟨g, hg⟩ : ∃ g, w1.heap.size = g := ⟨_, rfl⟩
  have H2 : Hid (Has (w1.alloc (.cells #[.int .i64 0, .int .i64 1, .int .i64 2, .int .i64 2, .int .i64 3, .int .i64 3] 3)) g [.int .i64 0, .int .i64 1, .int .i64 2, .int .i64 2, .int .i64 3, .int .i64 3] ∧ Below h w (w1.alloc (.cells #[.int .i64 0, .int .i64 1, .int .i64 2, .int .i64 2, .int .i64 3, .int .i64 3] 3)) ∧ h ≤ (w1.alloc (.cells #[.int .i64 0, .int .i64 1, .int .i64 2, .int .i64 2, .int .i64 3, .int .i64 3] 3)).heap.size) := by
    have e := HW.out
    have hz := b1.size
    exact ⟨hg ▸ has_new w1 [.int .i64 0, .int .i64 1, .int .i64 2, .int .i64 2, .int .i64 3, .int .i64 3] _, (e ▸ b1).alloc (by omega) _, by simp; omega⟩
  clear b1
  go_upto_region 6 with fail
  generalize hE : w1.alloc (.cells #[.int .i64 0, .int .i64 1, .int .i64 2, .int .i64 2, .int .i64 3, .int .i64 3] 3) = w2 at H2 ⊢
  clear hE
  try simp only [hg]
  clear hg
  obtain ⟨B, hB⟩ : ∃ B, w2.heap.size = B := ⟨_, rfl⟩
  have HB : Hid (w2.heap.size = B ∧ g < B) := ⟨hB, hB ▸ H2.out.1.1⟩
  try simp only [ek]
  clear hB ek ez
  have hk5 : k ≤ 5 := by omega
  have hk0 : (0 : Int) ≤ (k : Int) := by omega
  have hk6 : (k : Int) < 6 := by omega
  have hc : ([.int .i64 0, .int .i64 1, .int .i64 2, .int .i64 2, .int .i64 3, .int .i64 3] : List Value)[k]? = some (.int .i64 (wantK k)) := by
    have : k = 0 ∨ k = 1 ∨ k = 2 ∨ k = 3 ∨ k = 4 ∨ k = 5 := by omega
    rcases this with rfl | rfl | rfl | rfl | rfl | rfl <;> rfl
  have h0 : HeldK w2 B g k (wantK k) w2.drew := ⟨⟨(Below.refl _ _).drew, Nat.le_of_eq HB.out.1.symm⟩, H2.out.1.at k hc⟩
  clear hc
  have e5 : IntKind.i64.wrap (5 + (1 + (z : Int))) = 5 + (1 + (z : Int)) := by rw [IntKind.wrap_i64]; omega
  have en : IntKind.i64.wrap (-(1 + (z : Int))) = -(1 + (z : Int)) := by rw [IntKind.wrap_i64]; omega
  go_region_held3 (HeldK w2 B g k (wantK k)) (first | (with_reducible apply heldK_later HB.out.2 hb2; assumption) | (with_reducible exact h0) | (with_reducible assumption))
    (first
      | (go_at_call 21; refine (one_any k hk5 _).mono ?_; rintro e w3 ⟨q', rfl, O3, hb2⟩)
      | (go_at_call 18; first | (with_reducible refine (kind_of k hk5 q' _).mono ?_; rintro e w4 ⟨rfl, hb2⟩) | (first | (with_reducible refine (kind_lit (5 + (1 + (z : Int))) (by omega) _).mono ?_) | (with_reducible refine (kind_lit (-(1 + (z : Int))) (by omega) _).mono ?_)); rintro e w5 ⟨rfl, hb2⟩))
  all_goals (go_wp2; go_ret; exact ⟨rfl, H2.out.2.1.trans ((‹HeldK w2 B g k (wantK k) _›).1.out.1.mono (by have := HB.out.1; have := H2.out.2.2; omega))⟩)

end Go.Proofs.Ytjfgccjdkflfoaa.OpKinds

