/-
  The walk of the law OpParts: parts that a kind does not name, or that may not be so (arms 4, 5, 6, 7).
-/
import Derived.Test.YtjfgccjdkflfoaaZPack5
namespace Go.Proofs.Ytjfgccjdkflfoaa.OpParts
open Go.RowKit
set_option linter.unusedVariables false
set_option linter.unusedSimpArgs false

set_option maxHeartbeats 4000000 in
set_option maxRecDepth 100000 in
theorem arm_4 (which x : Int) (w : World) (hk : wrap64 ((IntKind.u64.wrap which).tmod 12) = 4) :
    Calls Try.prog 7 #[.int .i64 which, .int .i64 x] w fun e w' => e = .returned (.bool true) ∧ Below w.heap.size w w' := by
  obtain ⟨z, hz, ez⟩ : ∃ z : Nat, z < 64 ∧ bits .and .i64 x 63 = (z : Int) := and_mask x 6 (by omega)
  obtain ⟨h, hh⟩ : ∃ h, w.heap.size = h := ⟨_, rfl⟩
  have HW : Hid (w.heap.size = h) := hh
  rw [hh]
  clear hh
  go_enter Try.func7, Try.ntmps7
  go_wp2_with fail
  refine (awake11_any w).mono ?_
  rintro e w1 ⟨rfl, b1⟩
  have L1 : Hid (Below h w w1 ∧ h ≤ w1.heap.size) := ⟨HW.out ▸ b1, by have := b1.size; have := HW.out; omega⟩
  clear b1
  obtain ⟨kb, hkb⟩ : ∃ k, w1.heap.size = k := ⟨_, rfl⟩
  have L2 : Hid ((Below h w (w1.alloc (.cells #[.int .i64 4, .int .i64 4, .int .i64 4, .int .i64 5, .int .i64 5, .int .i64 1, .int .i64 3, .int .i64 3, .int .i64 0, .int .i64 3, .int .i64 3, .int .i64 2] 3)) ∧ h ≤ (w1.alloc (.cells #[.int .i64 4, .int .i64 4, .int .i64 4, .int .i64 5, .int .i64 5, .int .i64 1, .int .i64 3, .int .i64 3, .int .i64 0, .int .i64 3, .int .i64 3, .int .i64 2] 3)).heap.size) ∧ Has (w1.alloc (.cells #[.int .i64 4, .int .i64 4, .int .i64 4, .int .i64 5, .int .i64 5, .int .i64 1, .int .i64 3, .int .i64 3, .int .i64 0, .int .i64 3, .int .i64 3, .int .i64 2] 3)) kb [.int .i64 4, .int .i64 4, .int .i64 4, .int .i64 5, .int .i64 5, .int .i64 1, .int .i64 3, .int .i64 3, .int .i64 0, .int .i64 3, .int .i64 3, .int .i64 2]) := ⟨Ops.down h L1.out (Ops.newer _ _), hkb ▸ has_new w1 [.int .i64 4, .int .i64 4, .int .i64 4, .int .i64 5, .int .i64 5, .int .i64 1, .int .i64 3, .int .i64 3, .int .i64 0, .int .i64 3, .int .i64 3, .int .i64 2] _⟩
  clear L1
  go_upto_region 6 with fail
  generalize hE : w1.alloc (.cells #[.int .i64 4, .int .i64 4, .int .i64 4, .int .i64 5, .int .i64 5, .int .i64 1, .int .i64 3, .int .i64 3, .int .i64 0, .int .i64 3, .int .i64 3, .int .i64 2] 3) = w2 at L2 ⊢
  clear hE
  try simp only [hkb, hk]
  clear hkb hk
  have tk := L2.out.2.at 4 rfl
  go_wp2_with fail
  refine (one5_at w2).mono ?_
  rintro e w3 ⟨⟨po, pc, so, sc⟩, rfl, own, b3⟩
  obtain ⟨b, hb⟩ : ∃ b, w3.heap.size = b := ⟨_, rfl⟩
  have H4 : Hid (Fst w h b ⟨1, 3, 9, [4, 2], 5, bT, bi, bf, noS, 0, 0, 0, 1, []⟩ ⟨po, pc, so, sc⟩ (w3.alloc (.cells (oL ⟨1, 3, 9, [4, 2], 5, bT, bi, bf, noS, 0, 0, 0, 1, []⟩ ⟨po, pc, so, sc⟩).toArray 29))) := fs_new (Ops.down h L2.out.1 b3) own hb
  clear b3 own L2 tk
  go_upto_region 7 with fail
  generalize hE : w3.alloc (.cells (oL ⟨1, 3, 9, [4, 2], 5, bT, bi, bf, noS, 0, 0, 0, 1, []⟩ ⟨po, pc, so, sc⟩).toArray 29) = w4 at H4 ⊢
  clear hE
  try simp only [hb]
  clear hb
  have la := ld_op (show Has w4 b (oL ⟨1, 3, 9, [4, 2], 5, bT, bi, bf, noS, 0, 0, 0, 1, []⟩ ⟨po, pc, so, sc⟩) from H4.out.cur)
  go_wp2_with (refine wpList_ld la rfl rfl rfl ?_)
  refine (may_is may_one5 w4 H4.out.row siz_one5).mono ?_
  rintro e w5 ⟨rfl, b5⟩
  have H5 : Hid (Fst w h b ⟨1, 3, 9, [4, 2], 5, bT, bi, bf, noS, 0, 0, 0, 1, []⟩ ⟨po, pc, so, sc⟩ w5) := H4.out.later b5
  clear b5 H4 la
  have t8 := H5.out.cur.at 8 rfl
  have y8 := H5.out.cur.free 8 rfl
  go_upto_region 32 with fail
  have H6 : Hid (Fst w h b ⟨1, 3, 9, [4, 2], 5, bT, bi, bf, ⟨#[120]⟩, 0, 0, 0, 1, []⟩ ⟨po, pc, so, sc⟩ (World.setCell w5 (⟨b, 8, none⟩ : Addr) (.string ⟨#[120]⟩))) := (Fst.set (o' := ⟨1, 3, 9, [4, 2], 5, bT, bi, bf, ⟨#[120]⟩, 0, 0, 0, 1, []⟩) H5.out 8 (.string ⟨#[120]⟩) rfl rfl rfl)
  clear H5 t8 y8
  have HM : Hid (mayO ⟨1, 3, 9, [4, 2], 5, bT, bi, bf, ⟨#[120]⟩, 0, 0, 0, 1, []⟩ 2 = false) := by
    show mayO _ _ = _
    exact no_what (no_k5 rfl (by decide +kernel))
  have HZ : Hid (Siz ⟨1, 3, 9, [4, 2], 5, bT, bi, bf, ⟨#[120]⟩, 0, 0, 0, 1, []⟩) := siz_small (Nat.le_of_ble_eq_true rfl) (Nat.le_of_ble_eq_true rfl) (Nat.le_of_ble_eq_true rfl) (Nat.le_of_ble_eq_true rfl) (Nat.le_of_ble_eq_true rfl) (Nat.le_of_ble_eq_true rfl)
  generalize hE : (World.setCell w5 (⟨b, 8, none⟩ : Addr) (.string ⟨#[120]⟩)) = w6 at H6 ⊢
  clear hE
  have la := ld_op (show Has w6 b (oL ⟨1, 3, 9, [4, 2], 5, bT, bi, bf, ⟨#[120]⟩, 0, 0, 0, 1, []⟩ ⟨po, pc, so, sc⟩) from H6.out.cur)
  have hE : (⟨#[]⟩ : ByteArray).toList.isEmpty = true := noS_empty
  go_wp2_with (refine wpList_ld la rfl rfl rfl ?_)
  refine (put_no HM.out w6 H6.out.row HZ.out).mono ?_
  rintro e w7 ⟨rfl, b7⟩
  have H7 : Hid (Fst w h b ⟨1, 3, 9, [4, 2], 5, bT, bi, bf, ⟨#[120]⟩, 0, 0, 0, 1, []⟩ ⟨po, pc, so, sc⟩ w7) := H6.out.later b7
  clear b7 H6 la
  go_upto_region 33 with fail
  have la := ld_op (show Has w7 b (oL ⟨1, 3, 9, [4, 2], 5, bT, bi, bf, ⟨#[120]⟩, 0, 0, 0, 1, []⟩ ⟨po, pc, so, sc⟩) from H7.out.cur)
  go_wp2_with (refine wpList_ld la rfl rfl rfl ?_)
  refine (may_is HM.out w7 H7.out.row HZ.out).mono ?_
  rintro e w8 ⟨rfl, b8⟩
  have L8 : Hid (Below h w w8) := (Ops.down h H7.out.low b8).1
  clear b8 H7 la
  go_wp2_with (first | (go_at_call 13; refine (num_any _ _).mono ?_; rintro e v0 ⟨rfl, hw0⟩; have hw1 := hw0.symm; clear hw0; subst hw1) | fail)
  go_ret
  exact ⟨rfl, L8.out⟩

set_option maxHeartbeats 4000000 in
set_option maxRecDepth 100000 in
theorem arm_5 (which x : Int) (w : World) (hk : wrap64 ((IntKind.u64.wrap which).tmod 12) = 5) :
    Calls Try.prog 7 #[.int .i64 which, .int .i64 x] w fun e w' => e = .returned (.bool true) ∧ Below w.heap.size w w' := by
  obtain ⟨z, hz, ez⟩ : ∃ z : Nat, z < 64 ∧ bits .and .i64 x 63 = (z : Int) := and_mask x 6 (by omega)
  obtain ⟨h, hh⟩ : ∃ h, w.heap.size = h := ⟨_, rfl⟩
  have HW : Hid (w.heap.size = h) := hh
  rw [hh]
  clear hh
  go_enter Try.func7, Try.ntmps7
  go_wp2_with fail
  refine (awake11_any w).mono ?_
  rintro e w1 ⟨rfl, b1⟩
  have L1 : Hid (Below h w w1 ∧ h ≤ w1.heap.size) := ⟨HW.out ▸ b1, by have := b1.size; have := HW.out; omega⟩
  clear b1
  obtain ⟨kb, hkb⟩ : ∃ k, w1.heap.size = k := ⟨_, rfl⟩
  have L2 : Hid ((Below h w (w1.alloc (.cells #[.int .i64 4, .int .i64 4, .int .i64 4, .int .i64 5, .int .i64 5, .int .i64 1, .int .i64 3, .int .i64 3, .int .i64 0, .int .i64 3, .int .i64 3, .int .i64 2] 3)) ∧ h ≤ (w1.alloc (.cells #[.int .i64 4, .int .i64 4, .int .i64 4, .int .i64 5, .int .i64 5, .int .i64 1, .int .i64 3, .int .i64 3, .int .i64 0, .int .i64 3, .int .i64 3, .int .i64 2] 3)).heap.size) ∧ Has (w1.alloc (.cells #[.int .i64 4, .int .i64 4, .int .i64 4, .int .i64 5, .int .i64 5, .int .i64 1, .int .i64 3, .int .i64 3, .int .i64 0, .int .i64 3, .int .i64 3, .int .i64 2] 3)) kb [.int .i64 4, .int .i64 4, .int .i64 4, .int .i64 5, .int .i64 5, .int .i64 1, .int .i64 3, .int .i64 3, .int .i64 0, .int .i64 3, .int .i64 3, .int .i64 2]) := ⟨Ops.down h L1.out (Ops.newer _ _), hkb ▸ has_new w1 [.int .i64 4, .int .i64 4, .int .i64 4, .int .i64 5, .int .i64 5, .int .i64 1, .int .i64 3, .int .i64 3, .int .i64 0, .int .i64 3, .int .i64 3, .int .i64 2] _⟩
  clear L1
  go_upto_region 6 with fail
  generalize hE : w1.alloc (.cells #[.int .i64 4, .int .i64 4, .int .i64 4, .int .i64 5, .int .i64 5, .int .i64 1, .int .i64 3, .int .i64 3, .int .i64 0, .int .i64 3, .int .i64 3, .int .i64 2] 3) = w2 at L2 ⊢
  clear hE
  try simp only [hkb, hk]
  clear hkb hk
  have tk := L2.out.2.at 5 rfl
  go_wp2_with fail
  refine (one1_at w2).mono ?_
  rintro e w3 ⟨⟨po, pc, so, sc⟩, rfl, own, b3⟩
  obtain ⟨b, hb⟩ : ∃ b, w3.heap.size = b := ⟨_, rfl⟩
  have H4 : Hid (Fst w h b ⟨1, 3, 9, [4, 2], 1, bT, bi, bf, noS, -2, 3, 0, 0, []⟩ ⟨po, pc, so, sc⟩ (w3.alloc (.cells (oL ⟨1, 3, 9, [4, 2], 1, bT, bi, bf, noS, -2, 3, 0, 0, []⟩ ⟨po, pc, so, sc⟩).toArray 29))) := fs_new (Ops.down h L2.out.1 b3) own hb
  clear b3 own L2 tk
  go_upto_region 7 with fail
  generalize hE : w3.alloc (.cells (oL ⟨1, 3, 9, [4, 2], 1, bT, bi, bf, noS, -2, 3, 0, 0, []⟩ ⟨po, pc, so, sc⟩).toArray 29) = w4 at H4 ⊢
  clear hE
  try simp only [hb]
  clear hb
  have la := ld_op (show Has w4 b (oL ⟨1, 3, 9, [4, 2], 1, bT, bi, bf, noS, -2, 3, 0, 0, []⟩ ⟨po, pc, so, sc⟩) from H4.out.cur)
  go_wp2_with (refine wpList_ld la rfl rfl rfl ?_)
  refine (may_is may_one1 w4 H4.out.row siz_one1).mono ?_
  rintro e w5 ⟨rfl, b5⟩
  have H5 : Hid (Fst w h b ⟨1, 3, 9, [4, 2], 1, bT, bi, bf, noS, -2, 3, 0, 0, []⟩ ⟨po, pc, so, sc⟩ w5) := H4.out.later b5
  clear b5 H4 la
  have t10 := H5.out.cur.at 10 rfl
  have y10 := H5.out.cur.free 10 rfl
  go_upto_region 32 with fail
  have H6 : Hid (Fst w h b ⟨1, 3, 9, [4, 2], 1, bT, bi, bf, noS, -2, (1099511627776 + (1 + (z : Int))), 0, 0, []⟩ ⟨po, pc, so, sc⟩ (World.setCell w5 (⟨b, 10, none⟩ : Addr) (.int .i64 (1099511627776 + (1 + (z : Int)))))) := (Fst.set (o' := ⟨1, 3, 9, [4, 2], 1, bT, bi, bf, noS, -2, (1099511627776 + (1 + (z : Int))), 0, 0, []⟩) H5.out 10 (.int .i64 (1099511627776 + (1 + (z : Int)))) rfl rfl rfl)
  clear H5 t10 y10
  have HM : Hid (mayO ⟨1, 3, 9, [4, 2], 1, bT, bi, bf, noS, -2, (1099511627776 + (1 + (z : Int))), 0, 0, []⟩ 2 = false) := by
    show mayO _ _ = _
    exact no_what (no_k1 rfl (by simp only [winB]; rw [decide_eq_false (p := -1099511627776 ≤ 1099511627776 + (1 + (z : Int)) ∧ 1099511627776 + (1 + (z : Int)) ≤ 1099511627776) (by omega)]; simp))
  have HZ : Hid (Siz ⟨1, 3, 9, [4, 2], 1, bT, bi, bf, noS, -2, (1099511627776 + (1 + (z : Int))), 0, 0, []⟩) := siz_small (Nat.le_of_ble_eq_true rfl) (Nat.le_of_ble_eq_true rfl) (Nat.le_of_ble_eq_true rfl) (Nat.le_of_ble_eq_true rfl) (Nat.le_of_ble_eq_true rfl) (Nat.le_of_ble_eq_true rfl)
  generalize hE : (World.setCell w5 (⟨b, 10, none⟩ : Addr) (.int .i64 (1099511627776 + (1 + (z : Int))))) = w6 at H6 ⊢
  clear hE
  have la := ld_op (show Has w6 b (oL ⟨1, 3, 9, [4, 2], 1, bT, bi, bf, noS, -2, (1099511627776 + (1 + (z : Int))), 0, 0, []⟩ ⟨po, pc, so, sc⟩) from H6.out.cur)
  have hE : (⟨#[]⟩ : ByteArray).toList.isEmpty = true := noS_empty
  go_wp2_with (refine wpList_ld la rfl rfl rfl ?_)
  refine (put_no HM.out w6 H6.out.row HZ.out).mono ?_
  rintro e w7 ⟨rfl, b7⟩
  have H7 : Hid (Fst w h b ⟨1, 3, 9, [4, 2], 1, bT, bi, bf, noS, -2, (1099511627776 + (1 + (z : Int))), 0, 0, []⟩ ⟨po, pc, so, sc⟩ w7) := H6.out.later b7
  clear b7 H6 la
  go_upto_region 33 with fail
  have la := ld_op (show Has w7 b (oL ⟨1, 3, 9, [4, 2], 1, bT, bi, bf, noS, -2, (1099511627776 + (1 + (z : Int))), 0, 0, []⟩ ⟨po, pc, so, sc⟩) from H7.out.cur)
  go_wp2_with (refine wpList_ld la rfl rfl rfl ?_)
  refine (may_is HM.out w7 H7.out.row HZ.out).mono ?_
  rintro e w8 ⟨rfl, b8⟩
  have L8 : Hid (Below h w w8) := (Ops.down h H7.out.low b8).1
  clear b8 H7 la
  go_wp2_with (first | (go_at_call 13; refine (num_any _ _).mono ?_; rintro e v0 ⟨rfl, hw0⟩; have hw1 := hw0.symm; clear hw0; subst hw1) | fail)
  go_ret
  exact ⟨rfl, L8.out⟩

set_option maxHeartbeats 4000000 in
set_option maxRecDepth 100000 in
theorem arm_6 (which x : Int) (w : World) (hk : wrap64 ((IntKind.u64.wrap which).tmod 12) = 6) :
    Calls Try.prog 7 #[.int .i64 which, .int .i64 x] w fun e w' => e = .returned (.bool true) ∧ Below w.heap.size w w' := by
  obtain ⟨z, hz, ez⟩ : ∃ z : Nat, z < 64 ∧ bits .and .i64 x 63 = (z : Int) := and_mask x 6 (by omega)
  obtain ⟨h, hh⟩ : ∃ h, w.heap.size = h := ⟨_, rfl⟩
  have HW : Hid (w.heap.size = h) := hh
  rw [hh]
  clear hh
  go_enter Try.func7, Try.ntmps7
  go_wp2_with fail
  refine (awake11_any w).mono ?_
  rintro e w1 ⟨rfl, b1⟩
  have L1 : Hid (Below h w w1 ∧ h ≤ w1.heap.size) := ⟨HW.out ▸ b1, by have := b1.size; have := HW.out; omega⟩
  clear b1
  obtain ⟨kb, hkb⟩ : ∃ k, w1.heap.size = k := ⟨_, rfl⟩
  have L2 : Hid ((Below h w (w1.alloc (.cells #[.int .i64 4, .int .i64 4, .int .i64 4, .int .i64 5, .int .i64 5, .int .i64 1, .int .i64 3, .int .i64 3, .int .i64 0, .int .i64 3, .int .i64 3, .int .i64 2] 3)) ∧ h ≤ (w1.alloc (.cells #[.int .i64 4, .int .i64 4, .int .i64 4, .int .i64 5, .int .i64 5, .int .i64 1, .int .i64 3, .int .i64 3, .int .i64 0, .int .i64 3, .int .i64 3, .int .i64 2] 3)).heap.size) ∧ Has (w1.alloc (.cells #[.int .i64 4, .int .i64 4, .int .i64 4, .int .i64 5, .int .i64 5, .int .i64 1, .int .i64 3, .int .i64 3, .int .i64 0, .int .i64 3, .int .i64 3, .int .i64 2] 3)) kb [.int .i64 4, .int .i64 4, .int .i64 4, .int .i64 5, .int .i64 5, .int .i64 1, .int .i64 3, .int .i64 3, .int .i64 0, .int .i64 3, .int .i64 3, .int .i64 2]) := ⟨Ops.down h L1.out (Ops.newer _ _), hkb ▸ has_new w1 [.int .i64 4, .int .i64 4, .int .i64 4, .int .i64 5, .int .i64 5, .int .i64 1, .int .i64 3, .int .i64 3, .int .i64 0, .int .i64 3, .int .i64 3, .int .i64 2] _⟩
  clear L1
  go_upto_region 6 with fail
  generalize hE : w1.alloc (.cells #[.int .i64 4, .int .i64 4, .int .i64 4, .int .i64 5, .int .i64 5, .int .i64 1, .int .i64 3, .int .i64 3, .int .i64 0, .int .i64 3, .int .i64 3, .int .i64 2] 3) = w2 at L2 ⊢
  clear hE
  try simp only [hkb, hk]
  clear hkb hk
  have tk := L2.out.2.at 6 rfl
  go_wp2_with fail
  refine (one3_at w2).mono ?_
  rintro e w3 ⟨⟨po, pc, so, sc⟩, rfl, own, b3⟩
  obtain ⟨b, hb⟩ : ∃ b, w3.heap.size = b := ⟨_, rfl⟩
  obtain ⟨g, hpo, hB, hg, _⟩ := own.fwn.1 (by decide)
  obtain ⟨g2, hso, hB2, hg2, _⟩ := own.fwn.2 (by decide)
  simp only at hpo hso
  subst hpo hso
  have HG : Hid (g ≠ g2 ∧ h ≤ g2 ∧ g2 ≠ b) := ⟨own_apart own.1 own.2 (by decide), by have := L2.out.1.2; omega, by omega⟩
  clear hB hB2 hg hg2
  have H4 : Hid (Fst w h b ⟨1, 3, 9, [4, 2], 3, bT, bi, bf, noS, 0, 0, 0, 0, [(0, 4), (1, 2)]⟩ ⟨some ⟨g, 0, none⟩, pc, some ⟨g2, 0, none⟩, sc⟩ (w3.alloc (.cells (oL ⟨1, 3, 9, [4, 2], 3, bT, bi, bf, noS, 0, 0, 0, 0, [(0, 4), (1, 2)]⟩ ⟨some ⟨g, 0, none⟩, pc, some ⟨g2, 0, none⟩, sc⟩).toArray 29))) := fs_new (Ops.down h L2.out.1 b3) own hb
  clear b3 own L2 tk
  go_upto_region 7 with fail
  generalize hE : w3.alloc (.cells (oL ⟨1, 3, 9, [4, 2], 3, bT, bi, bf, noS, 0, 0, 0, 0, [(0, 4), (1, 2)]⟩ ⟨some ⟨g, 0, none⟩, pc, some ⟨g2, 0, none⟩, sc⟩).toArray 29) = w4 at H4 ⊢
  clear hE
  try simp only [hb]
  clear hb
  have la := ld_op (show Has w4 b (oL ⟨1, 3, 9, [4, 2], 3, bT, bi, bf, noS, 0, 0, 0, 0, [(0, 4), (1, 2)]⟩ ⟨some ⟨g, 0, none⟩, pc, some ⟨g2, 0, none⟩, sc⟩) from H4.out.cur)
  go_wp2_with (refine wpList_ld la rfl rfl rfl ?_)
  refine (may_is may_one3 w4 H4.out.row siz_one3).mono ?_
  rintro e w5 ⟨rfl, b5⟩
  have H5 : Hid (Fst w h b ⟨1, 3, 9, [4, 2], 3, bT, bi, bf, noS, 0, 0, 0, 0, [(0, 4), (1, 2)]⟩ ⟨some ⟨g, 0, none⟩, pc, some ⟨g2, 0, none⟩, sc⟩ w5) := H4.out.later b5
  clear b5 H4 la
  have t13 := H5.out.cur.at 13 rfl
  obtain ⟨⟨d0, _⟩, _, _⟩ := H5.out.rt.at (i := 0) rfl
  obtain ⟨⟨d1, _⟩, _, _⟩ := H5.out.rt.at (i := 1) rfl
  obtain ⟨⟨d2', v2⟩, _, _⟩ := H5.out.rt.at (i := 2) rfl
  obtain ⟨⟨d3, v3⟩, _, _⟩ := H5.out.rt.at (i := 3) rfl
  go_upto_region 23 with fail
  go_region_with (fail)
  all_goals
    go_upto_region 32 with fail
    have H6 : Hid (Fst w h b ⟨1, 3, 9, [4, 2], 3, bT, bi, bf, noS, 0, 0, 0, 0, [(0, 4), (0, 4)]⟩ ⟨some ⟨g, 0, none⟩, pc, some ⟨g2, 0, none⟩, sc⟩ ((w5.setCell (⟨g2, 2, none⟩ : Addr) (.int .i64 0)).setCell (⟨g2, 3, none⟩ : Addr) (.int .i64 4)).drew) := Fst.drew (Fst.dot (o := ⟨1, 3, 9, [4, 2], 3, bT, bi, bf, noS, 0, 0, 0, 0, [(0, 4), (0, 2)]⟩) (Fst.dot H5.out HG.out.2.1 (fun g' e => by simp only [Option.some.injEq, Addr.mk.injEq, and_true] at e; subst e; exact HG.out.1) 2 0 [(0, 4), (0, 2)] rfl rfl HG.out.2.2) HG.out.2.1 (fun g' e => by simp only [Option.some.injEq, Addr.mk.injEq, and_true] at e; subst e; exact HG.out.1) 3 4 [(0, 4), (0, 4)] rfl rfl HG.out.2.2)
    clear H5 t13 d0 d1 d2' d3 v2 v3
    have HM : Hid (mayO ⟨1, 3, 9, [4, 2], 3, bT, bi, bf, noS, 0, 0, 0, 0, [(0, 4), (0, 4)]⟩ 2 = false) := by
      show mayO _ _ = _
      exact no_what (no_k3 rfl (by decide +kernel))
    have HZ : Hid (Siz ⟨1, 3, 9, [4, 2], 3, bT, bi, bf, noS, 0, 0, 0, 0, [(0, 4), (0, 4)]⟩) := siz_small (Nat.le_of_ble_eq_true rfl) (Nat.le_of_ble_eq_true rfl) (Nat.le_of_ble_eq_true rfl) (Nat.le_of_ble_eq_true rfl) (Nat.le_of_ble_eq_true rfl) (Nat.le_of_ble_eq_true rfl)
    generalize hE : ((w5.setCell (⟨g2, 2, none⟩ : Addr) (.int .i64 0)).setCell (⟨g2, 3, none⟩ : Addr) (.int .i64 4)).drew = w6 at H6 ⊢
    clear hE
    have la := ld_op (show Has w6 b (oL ⟨1, 3, 9, [4, 2], 3, bT, bi, bf, noS, 0, 0, 0, 0, [(0, 4), (0, 4)]⟩ ⟨some ⟨g, 0, none⟩, pc, some ⟨g2, 0, none⟩, sc⟩) from H6.out.cur)
    have hE : (⟨#[]⟩ : ByteArray).toList.isEmpty = true := noS_empty
    go_wp2_with (refine wpList_ld la rfl rfl rfl ?_)
    refine (put_no HM.out w6 H6.out.row HZ.out).mono ?_
    rintro e w7 ⟨rfl, b7⟩
    have H7 : Hid (Fst w h b ⟨1, 3, 9, [4, 2], 3, bT, bi, bf, noS, 0, 0, 0, 0, [(0, 4), (0, 4)]⟩ ⟨some ⟨g, 0, none⟩, pc, some ⟨g2, 0, none⟩, sc⟩ w7) := H6.out.later b7
    clear b7 H6 la
    go_upto_region 33 with fail
    have la := ld_op (show Has w7 b (oL ⟨1, 3, 9, [4, 2], 3, bT, bi, bf, noS, 0, 0, 0, 0, [(0, 4), (0, 4)]⟩ ⟨some ⟨g, 0, none⟩, pc, some ⟨g2, 0, none⟩, sc⟩) from H7.out.cur)
    go_wp2_with (refine wpList_ld la rfl rfl rfl ?_)
    refine (may_is HM.out w7 H7.out.row HZ.out).mono ?_
    rintro e w8 ⟨rfl, b8⟩
    have L8 : Hid (Below h w w8) := (Ops.down h H7.out.low b8).1
    clear b8 H7 la
    go_wp2_with (first | (go_at_call 13; refine (num_any _ _).mono ?_; rintro e v0 ⟨rfl, hw0⟩; have hw1 := hw0.symm; clear hw0; subst hw1) | fail)
    go_ret
    exact ⟨rfl, L8.out⟩

set_option maxHeartbeats 4000000 in
set_option maxRecDepth 100000 in
theorem arm_7 (which x : Int) (w : World) (hk : wrap64 ((IntKind.u64.wrap which).tmod 12) = 7) :
    Calls Try.prog 7 #[.int .i64 which, .int .i64 x] w fun e w' => e = .returned (.bool true) ∧ Below w.heap.size w w' := by
  obtain ⟨z, hz, ez⟩ : ∃ z : Nat, z < 64 ∧ bits .and .i64 x 63 = (z : Int) := and_mask x 6 (by omega)
  obtain ⟨h, hh⟩ : ∃ h, w.heap.size = h := ⟨_, rfl⟩
  have HW : Hid (w.heap.size = h) := hh
  rw [hh]
  clear hh
  go_enter Try.func7, Try.ntmps7
  go_wp2_with fail
  refine (awake11_any w).mono ?_
  rintro e w1 ⟨rfl, b1⟩
  have L1 : Hid (Below h w w1 ∧ h ≤ w1.heap.size) := ⟨HW.out ▸ b1, by have := b1.size; have := HW.out; omega⟩
  clear b1
  obtain ⟨kb, hkb⟩ : ∃ k, w1.heap.size = k := ⟨_, rfl⟩
  have L2 : Hid ((Below h w (w1.alloc (.cells #[.int .i64 4, .int .i64 4, .int .i64 4, .int .i64 5, .int .i64 5, .int .i64 1, .int .i64 3, .int .i64 3, .int .i64 0, .int .i64 3, .int .i64 3, .int .i64 2] 3)) ∧ h ≤ (w1.alloc (.cells #[.int .i64 4, .int .i64 4, .int .i64 4, .int .i64 5, .int .i64 5, .int .i64 1, .int .i64 3, .int .i64 3, .int .i64 0, .int .i64 3, .int .i64 3, .int .i64 2] 3)).heap.size) ∧ Has (w1.alloc (.cells #[.int .i64 4, .int .i64 4, .int .i64 4, .int .i64 5, .int .i64 5, .int .i64 1, .int .i64 3, .int .i64 3, .int .i64 0, .int .i64 3, .int .i64 3, .int .i64 2] 3)) kb [.int .i64 4, .int .i64 4, .int .i64 4, .int .i64 5, .int .i64 5, .int .i64 1, .int .i64 3, .int .i64 3, .int .i64 0, .int .i64 3, .int .i64 3, .int .i64 2]) := ⟨Ops.down h L1.out (Ops.newer _ _), hkb ▸ has_new w1 [.int .i64 4, .int .i64 4, .int .i64 4, .int .i64 5, .int .i64 5, .int .i64 1, .int .i64 3, .int .i64 3, .int .i64 0, .int .i64 3, .int .i64 3, .int .i64 2] _⟩
  clear L1
  go_upto_region 6 with fail
  generalize hE : w1.alloc (.cells #[.int .i64 4, .int .i64 4, .int .i64 4, .int .i64 5, .int .i64 5, .int .i64 1, .int .i64 3, .int .i64 3, .int .i64 0, .int .i64 3, .int .i64 3, .int .i64 2] 3) = w2 at L2 ⊢
  clear hE
  try simp only [hkb, hk]
  clear hkb hk
  have tk := L2.out.2.at 7 rfl
  go_wp2_with fail
  refine (one3_at w2).mono ?_
  rintro e w3 ⟨⟨po, pc, so, sc⟩, rfl, own, b3⟩
  obtain ⟨b, hb⟩ : ∃ b, w3.heap.size = b := ⟨_, rfl⟩
  obtain ⟨g, hpo, hB, hg, _⟩ := own.fwn.1 (by decide)
  obtain ⟨g2, hso, hB2, hg2, _⟩ := own.fwn.2 (by decide)
  simp only at hpo hso
  subst hpo hso
  have HG : Hid (g ≠ g2 ∧ h ≤ g2 ∧ g2 ≠ b) := ⟨own_apart own.1 own.2 (by decide), by have := L2.out.1.2; omega, by omega⟩
  clear hB hB2 hg hg2
  have H4 : Hid (Fst w h b ⟨1, 3, 9, [4, 2], 3, bT, bi, bf, noS, 0, 0, 0, 0, [(0, 4), (1, 2)]⟩ ⟨some ⟨g, 0, none⟩, pc, some ⟨g2, 0, none⟩, sc⟩ (w3.alloc (.cells (oL ⟨1, 3, 9, [4, 2], 3, bT, bi, bf, noS, 0, 0, 0, 0, [(0, 4), (1, 2)]⟩ ⟨some ⟨g, 0, none⟩, pc, some ⟨g2, 0, none⟩, sc⟩).toArray 29))) := fs_new (Ops.down h L2.out.1 b3) own hb
  clear b3 own L2 tk
  go_upto_region 7 with fail
  generalize hE : w3.alloc (.cells (oL ⟨1, 3, 9, [4, 2], 3, bT, bi, bf, noS, 0, 0, 0, 0, [(0, 4), (1, 2)]⟩ ⟨some ⟨g, 0, none⟩, pc, some ⟨g2, 0, none⟩, sc⟩).toArray 29) = w4 at H4 ⊢
  clear hE
  try simp only [hb]
  clear hb
  have la := ld_op (show Has w4 b (oL ⟨1, 3, 9, [4, 2], 3, bT, bi, bf, noS, 0, 0, 0, 0, [(0, 4), (1, 2)]⟩ ⟨some ⟨g, 0, none⟩, pc, some ⟨g2, 0, none⟩, sc⟩) from H4.out.cur)
  go_wp2_with (refine wpList_ld la rfl rfl rfl ?_)
  refine (may_is may_one3 w4 H4.out.row siz_one3).mono ?_
  rintro e w5 ⟨rfl, b5⟩
  have H5 : Hid (Fst w h b ⟨1, 3, 9, [4, 2], 3, bT, bi, bf, noS, 0, 0, 0, 0, [(0, 4), (1, 2)]⟩ ⟨some ⟨g, 0, none⟩, pc, some ⟨g2, 0, none⟩, sc⟩ w5) := H4.out.later b5
  clear b5 H4 la
  have t13 := H5.out.cur.at 13 rfl
  obtain ⟨⟨d1, v1⟩, _, _⟩ := H5.out.rt.at (i := 1) rfl
  go_upto_region 32 with fail
  have H6 : Hid (Fst w h b ⟨1, 3, 9, [4, 2], 3, bT, bi, bf, noS, 0, 0, 0, 0, [(0, 4 + (1 + (z : Int))), (1, 2)]⟩ ⟨some ⟨g, 0, none⟩, pc, some ⟨g2, 0, none⟩, sc⟩ (w5.setCell (⟨g2, 1, none⟩ : Addr) (.int .i64 (4 + (1 + (z : Int)))))) := Fst.dot H5.out HG.out.2.1 (fun g' e => by simp only [Option.some.injEq, Addr.mk.injEq, and_true] at e; subst e; exact HG.out.1) 1 (4 + (1 + (z : Int))) [(0, 4 + (1 + (z : Int))), (1, 2)] rfl rfl HG.out.2.2
  clear H5 t13 d1 v1
  have HM : Hid (mayO ⟨1, 3, 9, [4, 2], 3, bT, bi, bf, noS, 0, 0, 0, 0, [(0, 4 + (1 + (z : Int))), (1, 2)]⟩ 2 = false) := by
    show mayO _ _ = _
    refine no_what (no_k3 rfl ?_)
    have h0 : hasB [4, 2] (0, 4 + (1 + (z : Int))) = false := by unfold hasB; exact decide_eq_false (by simp; omega)
    have : dotsB [4, 2] [(0, 4 + (1 + (z : Int))), (1, 2)] = false := by
      unfold dotsB
      simp only [List.length_cons, List.length_nil, List.range_succ, List.range_zero, List.nil_append, List.cons_append, List.all_cons, stepD, List.getD_cons_zero, h0, Bool.false_and, Bool.and_false]
    simp only [this, Bool.and_false]
  have HZ : Hid (Siz ⟨1, 3, 9, [4, 2], 3, bT, bi, bf, noS, 0, 0, 0, 0, [(0, 4 + (1 + (z : Int))), (1, 2)]⟩) := siz_small (Nat.le_of_ble_eq_true rfl) (Nat.le_of_ble_eq_true rfl) (Nat.le_of_ble_eq_true rfl) (Nat.le_of_ble_eq_true rfl) (Nat.le_of_ble_eq_true rfl) (Nat.le_of_ble_eq_true rfl)
  generalize hE : (w5.setCell (⟨g2, 1, none⟩ : Addr) (.int .i64 (4 + (1 + (z : Int))))) = w6 at H6 ⊢
  clear hE
  have la := ld_op (show Has w6 b (oL ⟨1, 3, 9, [4, 2], 3, bT, bi, bf, noS, 0, 0, 0, 0, [(0, 4 + (1 + (z : Int))), (1, 2)]⟩ ⟨some ⟨g, 0, none⟩, pc, some ⟨g2, 0, none⟩, sc⟩) from H6.out.cur)
  have hE : (⟨#[]⟩ : ByteArray).toList.isEmpty = true := noS_empty
  go_wp2_with (refine wpList_ld la rfl rfl rfl ?_)
  refine (put_no HM.out w6 H6.out.row HZ.out).mono ?_
  rintro e w7 ⟨rfl, b7⟩
  have H7 : Hid (Fst w h b ⟨1, 3, 9, [4, 2], 3, bT, bi, bf, noS, 0, 0, 0, 0, [(0, 4 + (1 + (z : Int))), (1, 2)]⟩ ⟨some ⟨g, 0, none⟩, pc, some ⟨g2, 0, none⟩, sc⟩ w7) := H6.out.later b7
  clear b7 H6 la
  go_upto_region 33 with fail
  have la := ld_op (show Has w7 b (oL ⟨1, 3, 9, [4, 2], 3, bT, bi, bf, noS, 0, 0, 0, 0, [(0, 4 + (1 + (z : Int))), (1, 2)]⟩ ⟨some ⟨g, 0, none⟩, pc, some ⟨g2, 0, none⟩, sc⟩) from H7.out.cur)
  go_wp2_with (refine wpList_ld la rfl rfl rfl ?_)
  refine (may_is HM.out w7 H7.out.row HZ.out).mono ?_
  rintro e w8 ⟨rfl, b8⟩
  have L8 : Hid (Below h w w8) := (Ops.down h H7.out.low b8).1
  clear b8 H7 la
  go_wp2_with (first | (go_at_call 13; refine (num_any _ _).mono ?_; rintro e v0 ⟨rfl, hw0⟩; have hw1 := hw0.symm; clear hw0; subst hw1) | fail)
  go_ret
  exact ⟨rfl, L8.out⟩

end Go.Proofs.Ytjfgccjdkflfoaa.OpParts

