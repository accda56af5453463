/-
  The walk of the law OpParts: parts that a kind does not name, or that may not be so (arms 8, 9, 10, 11).
-/
import Derived.Test.YtjfgccjdkflfoaaZPack5
namespace Go.Proofs.Ytjfgccjdkflfoaa.OpParts
open Go.RowKit
set_option linter.unusedVariables false
set_option linter.unusedSimpArgs false

set_option maxHeartbeats 4000000 in
set_option maxRecDepth 100000 in
theorem arm_8 (which x : Int) (w : World) (hk : wrap64 ((IntKind.u64.wrap which).tmod 12) = 8) :
    Calls Try.prog 7 #[.int .i64 which, .int .i64 x] w fun e w' => e = .returned (.bool true) ∧ Below w.heap.size w w' := by
  obtain ⟨z, hz, ez⟩ : ∃ z : Nat, z < 64 ∧ bits .and .i64 x 63 = (z : Int) := and_mask x 6 (by omega)
  obtain ⟨h, hh⟩ : ∃ h, w.heap.size = h := ⟨_, rfl⟩
  have HW : Hid (w.heap.size = h) := hh
  rw [hh]
  clear hh
  go_enter Try.func7, Try.ntmps7
  go_wp2_with fail
  refine (awake11_any w).mono ?_
  rintro e w1 ⟨rfl, b1⟩
  have L1 : Hid (Below h w w1 ∧ h ≤ w1.heap.size) := ⟨HW.out ▸ b1, by have := b1.size; have := HW.out; omega⟩
  clear b1
  obtain ⟨kb, hkb⟩ : ∃ k, w1.heap.size = k := ⟨_, rfl⟩
  have L2 : Hid ((Below h w (w1.alloc (.cells #[.int .i64 4, .int .i64 4, .int .i64 4, .int .i64 5, .int .i64 5, .int .i64 1, .int .i64 3, .int .i64 3, .int .i64 0, .int .i64 3, .int .i64 3, .int .i64 2] 3)) ∧ h ≤ (w1.alloc (.cells #[.int .i64 4, .int .i64 4, .int .i64 4, .int .i64 5, .int .i64 5, .int .i64 1, .int .i64 3, .int .i64 3, .int .i64 0, .int .i64 3, .int .i64 3, .int .i64 2] 3)).heap.size) ∧ Has (w1.alloc (.cells #[.int .i64 4, .int .i64 4, .int .i64 4, .int .i64 5, .int .i64 5, .int .i64 1, .int .i64 3, .int .i64 3, .int .i64 0, .int .i64 3, .int .i64 3, .int .i64 2] 3)) kb [.int .i64 4, .int .i64 4, .int .i64 4, .int .i64 5, .int .i64 5, .int .i64 1, .int .i64 3, .int .i64 3, .int .i64 0, .int .i64 3, .int .i64 3, .int .i64 2]) := ⟨Ops.down h L1.out (Ops.newer _ _), hkb ▸ has_new w1 [.int .i64 4, .int .i64 4, .int .i64 4, .int .i64 5, .int .i64 5, .int .i64 1, .int .i64 3, .int .i64 3, .int .i64 0, .int .i64 3, .int .i64 3, .int .i64 2] _⟩
  clear L1
  go_upto_region 6 with fail
  generalize hE : w1.alloc (.cells #[.int .i64 4, .int .i64 4, .int .i64 4, .int .i64 5, .int .i64 5, .int .i64 1, .int .i64 3, .int .i64 3, .int .i64 0, .int .i64 3, .int .i64 3, .int .i64 2] 3) = w2 at L2 ⊢
  clear hE
  try simp only [hkb, hk]
  clear hkb hk
  have tk := L2.out.2.at 8 rfl
  go_wp2_with fail
  refine (one0_at w2).mono ?_
  rintro e w3 ⟨⟨po, pc, so, sc⟩, rfl, own, b3⟩
  obtain ⟨b, hb⟩ : ∃ b, w3.heap.size = b := ⟨_, rfl⟩
  have H4 : Hid (Fst w h b ⟨1, 3, 9, [4, 2], 0, bT, bi, bf, bv, 0, 0, 0, 0, []⟩ ⟨po, pc, so, sc⟩ (w3.alloc (.cells (oL ⟨1, 3, 9, [4, 2], 0, bT, bi, bf, bv, 0, 0, 0, 0, []⟩ ⟨po, pc, so, sc⟩).toArray 29))) := fs_new (Ops.down h L2.out.1 b3) own hb
  clear b3 own L2 tk
  go_upto_region 7 with fail
  generalize hE : w3.alloc (.cells (oL ⟨1, 3, 9, [4, 2], 0, bT, bi, bf, bv, 0, 0, 0, 0, []⟩ ⟨po, pc, so, sc⟩).toArray 29) = w4 at H4 ⊢
  clear hE
  try simp only [hb]
  clear hb
  have la := ld_op (show Has w4 b (oL ⟨1, 3, 9, [4, 2], 0, bT, bi, bf, bv, 0, 0, 0, 0, []⟩ ⟨po, pc, so, sc⟩) from H4.out.cur)
  go_wp2_with (refine wpList_ld la rfl rfl rfl ?_)
  refine (may_is may_one0 w4 H4.out.row siz_one0).mono ?_
  rintro e w5 ⟨rfl, b5⟩
  have H5 : Hid (Fst w h b ⟨1, 3, 9, [4, 2], 0, bT, bi, bf, bv, 0, 0, 0, 0, []⟩ ⟨po, pc, so, sc⟩ w5) := H4.out.later b5
  clear b5 H4 la
  have t11 := H5.out.cur.at 11 rfl
  have y11 := H5.out.cur.free 11 rfl
  have t12 := H5.out.cur.at 12 rfl
  have y12 := H5.out.cur.free 12 rfl
  go_upto_region 32 with fail
  have H6 : Hid (Fst w h b ⟨1, 3, 9, [4, 2], 0, bT, bi, bf, bv, 0, 0, 0, 1, []⟩ ⟨po, pc, so, sc⟩ (World.setCell (World.setCell w5 (⟨b, 11, none⟩ : Addr) (.int .i64 0)) (⟨b, 12, none⟩ : Addr) (.int .i64 1))) := (Fst.set (o' := ⟨1, 3, 9, [4, 2], 0, bT, bi, bf, bv, 0, 0, 0, 1, []⟩) (Fst.set (o' := ⟨1, 3, 9, [4, 2], 0, bT, bi, bf, bv, 0, 0, 0, 0, []⟩) H5.out 11 (.int .i64 0) rfl rfl rfl) 12 (.int .i64 1) rfl rfl rfl)
  clear H5 t11 y11 t12 y12
  have HM : Hid (mayO ⟨1, 3, 9, [4, 2], 0, bT, bi, bf, bv, 0, 0, 0, 1, []⟩ 2 = false) := by
    show mayO _ _ = _
    exact no_what (no_k02 (Or.inl rfl) (by decide +kernel))
  have HZ : Hid (Siz ⟨1, 3, 9, [4, 2], 0, bT, bi, bf, bv, 0, 0, 0, 1, []⟩) := siz_small (Nat.le_of_ble_eq_true rfl) (Nat.le_of_ble_eq_true rfl) (Nat.le_of_ble_eq_true rfl) (Nat.le_of_ble_eq_true rfl) (Nat.le_of_ble_eq_true rfl) (Nat.le_of_ble_eq_true rfl)
  generalize hE : (World.setCell (World.setCell w5 (⟨b, 11, none⟩ : Addr) (.int .i64 0)) (⟨b, 12, none⟩ : Addr) (.int .i64 1)) = w6 at H6 ⊢
  clear hE
  have la := ld_op (show Has w6 b (oL ⟨1, 3, 9, [4, 2], 0, bT, bi, bf, bv, 0, 0, 0, 1, []⟩ ⟨po, pc, so, sc⟩) from H6.out.cur)
  have hE : (⟨#[]⟩ : ByteArray).toList.isEmpty = true := noS_empty
  go_wp2_with (refine wpList_ld la rfl rfl rfl ?_)
  refine (put_no HM.out w6 H6.out.row HZ.out).mono ?_
  rintro e w7 ⟨rfl, b7⟩
  have H7 : Hid (Fst w h b ⟨1, 3, 9, [4, 2], 0, bT, bi, bf, bv, 0, 0, 0, 1, []⟩ ⟨po, pc, so, sc⟩ w7) := H6.out.later b7
  clear b7 H6 la
  go_upto_region 33 with fail
  have la := ld_op (show Has w7 b (oL ⟨1, 3, 9, [4, 2], 0, bT, bi, bf, bv, 0, 0, 0, 1, []⟩ ⟨po, pc, so, sc⟩) from H7.out.cur)
  go_wp2_with (refine wpList_ld la rfl rfl rfl ?_)
  refine (may_is HM.out w7 H7.out.row HZ.out).mono ?_
  rintro e w8 ⟨rfl, b8⟩
  have L8 : Hid (Below h w w8) := (Ops.down h H7.out.low b8).1
  clear b8 H7 la
  go_wp2_with (first | (go_at_call 13; refine (num_any _ _).mono ?_; rintro e v0 ⟨rfl, hw0⟩; have hw1 := hw0.symm; clear hw0; subst hw1) | fail)
  go_ret
  exact ⟨rfl, L8.out⟩

set_option maxHeartbeats 4000000 in
set_option maxRecDepth 100000 in
theorem arm_9 (which x : Int) (w : World) (hk : wrap64 ((IntKind.u64.wrap which).tmod 12) = 9) :
    Calls Try.prog 7 #[.int .i64 which, .int .i64 x] w fun e w' => e = .returned (.bool true) ∧ Below w.heap.size w w' := by
  obtain ⟨z, hz, ez⟩ : ∃ z : Nat, z < 64 ∧ bits .and .i64 x 63 = (z : Int) := and_mask x 6 (by omega)
  obtain ⟨h, hh⟩ : ∃ h, w.heap.size = h := ⟨_, rfl⟩
  have HW : Hid (w.heap.size = h) := hh
  rw [hh]
  clear hh
  go_enter Try.func7, Try.ntmps7
  go_wp2_with fail
  refine (awake11_any w).mono ?_
  rintro e w1 ⟨rfl, b1⟩
  have L1 : Hid (Below h w w1 ∧ h ≤ w1.heap.size) := ⟨HW.out ▸ b1, by have := b1.size; have := HW.out; omega⟩
  clear b1
  obtain ⟨kb, hkb⟩ : ∃ k, w1.heap.size = k := ⟨_, rfl⟩
  have L2 : Hid ((Below h w (w1.alloc (.cells #[.int .i64 4, .int .i64 4, .int .i64 4, .int .i64 5, .int .i64 5, .int .i64 1, .int .i64 3, .int .i64 3, .int .i64 0, .int .i64 3, .int .i64 3, .int .i64 2] 3)) ∧ h ≤ (w1.alloc (.cells #[.int .i64 4, .int .i64 4, .int .i64 4, .int .i64 5, .int .i64 5, .int .i64 1, .int .i64 3, .int .i64 3, .int .i64 0, .int .i64 3, .int .i64 3, .int .i64 2] 3)).heap.size) ∧ Has (w1.alloc (.cells #[.int .i64 4, .int .i64 4, .int .i64 4, .int .i64 5, .int .i64 5, .int .i64 1, .int .i64 3, .int .i64 3, .int .i64 0, .int .i64 3, .int .i64 3, .int .i64 2] 3)) kb [.int .i64 4, .int .i64 4, .int .i64 4, .int .i64 5, .int .i64 5, .int .i64 1, .int .i64 3, .int .i64 3, .int .i64 0, .int .i64 3, .int .i64 3, .int .i64 2]) := ⟨Ops.down h L1.out (Ops.newer _ _), hkb ▸ has_new w1 [.int .i64 4, .int .i64 4, .int .i64 4, .int .i64 5, .int .i64 5, .int .i64 1, .int .i64 3, .int .i64 3, .int .i64 0, .int .i64 3, .int .i64 3, .int .i64 2] _⟩
  clear L1
  go_upto_region 6 with fail
  generalize hE : w1.alloc (.cells #[.int .i64 4, .int .i64 4, .int .i64 4, .int .i64 5, .int .i64 5, .int .i64 1, .int .i64 3, .int .i64 3, .int .i64 0, .int .i64 3, .int .i64 3, .int .i64 2] 3) = w2 at L2 ⊢
  clear hE
  try simp only [hkb, hk]
  clear hkb hk
  have tk := L2.out.2.at 9 rfl
  go_wp2_with fail
  refine (one3_at w2).mono ?_
  rintro e w3 ⟨⟨po, pc, so, sc⟩, rfl, own, b3⟩
  obtain ⟨b, hb⟩ : ∃ b, w3.heap.size = b := ⟨_, rfl⟩
  obtain ⟨g, hpo, hB, hg, _⟩ := own.fwn.1 (by decide)
  obtain ⟨g2, hso, hB2, hg2, _⟩ := own.fwn.2 (by decide)
  simp only at hpo hso
  subst hpo hso
  have HG : Hid (g ≠ g2 ∧ h ≤ g2 ∧ g2 ≠ b) := ⟨own_apart own.1 own.2 (by decide), by have := L2.out.1.2; omega, by omega⟩
  clear hB hB2 hg hg2
  have H4 : Hid (Fst w h b ⟨1, 3, 9, [4, 2], 3, bT, bi, bf, noS, 0, 0, 0, 0, [(0, 4), (1, 2)]⟩ ⟨some ⟨g, 0, none⟩, pc, some ⟨g2, 0, none⟩, sc⟩ (w3.alloc (.cells (oL ⟨1, 3, 9, [4, 2], 3, bT, bi, bf, noS, 0, 0, 0, 0, [(0, 4), (1, 2)]⟩ ⟨some ⟨g, 0, none⟩, pc, some ⟨g2, 0, none⟩, sc⟩).toArray 29))) := fs_new (Ops.down h L2.out.1 b3) own hb
  clear b3 own L2 tk
  go_upto_region 7 with fail
  generalize hE : w3.alloc (.cells (oL ⟨1, 3, 9, [4, 2], 3, bT, bi, bf, noS, 0, 0, 0, 0, [(0, 4), (1, 2)]⟩ ⟨some ⟨g, 0, none⟩, pc, some ⟨g2, 0, none⟩, sc⟩).toArray 29) = w4 at H4 ⊢
  clear hE
  try simp only [hb]
  clear hb
  have la := ld_op (show Has w4 b (oL ⟨1, 3, 9, [4, 2], 3, bT, bi, bf, noS, 0, 0, 0, 0, [(0, 4), (1, 2)]⟩ ⟨some ⟨g, 0, none⟩, pc, some ⟨g2, 0, none⟩, sc⟩) from H4.out.cur)
  go_wp2_with (refine wpList_ld la rfl rfl rfl ?_)
  refine (may_is may_one3 w4 H4.out.row siz_one3).mono ?_
  rintro e w5 ⟨rfl, b5⟩
  have H5 : Hid (Fst w h b ⟨1, 3, 9, [4, 2], 3, bT, bi, bf, noS, 0, 0, 0, 0, [(0, 4), (1, 2)]⟩ ⟨some ⟨g, 0, none⟩, pc, some ⟨g2, 0, none⟩, sc⟩ w5) := H4.out.later b5
  clear b5 H4 la
  have t8 := H5.out.cur.at 8 rfl
  have y8 := H5.out.cur.free 8 rfl
  go_upto_region 32 with fail
  have H6 : Hid (Fst w h b ⟨1, 3, 9, [4, 2], 3, bT, bi, bf, ⟨#[120]⟩, 0, 0, 0, 0, [(0, 4), (1, 2)]⟩ ⟨some ⟨g, 0, none⟩, pc, some ⟨g2, 0, none⟩, sc⟩ (World.setCell w5 (⟨b, 8, none⟩ : Addr) (.string ⟨#[120]⟩))) := (Fst.set (o' := ⟨1, 3, 9, [4, 2], 3, bT, bi, bf, ⟨#[120]⟩, 0, 0, 0, 0, [(0, 4), (1, 2)]⟩) H5.out 8 (.string ⟨#[120]⟩) rfl rfl rfl)
  clear H5 t8 y8
  have HM : Hid (mayO ⟨1, 3, 9, [4, 2], 3, bT, bi, bf, ⟨#[120]⟩, 0, 0, 0, 0, [(0, 4), (1, 2)]⟩ 2 = false) := by
    show mayO _ _ = _
    exact no_what (no_k3 rfl (by decide +kernel))
  have HZ : Hid (Siz ⟨1, 3, 9, [4, 2], 3, bT, bi, bf, ⟨#[120]⟩, 0, 0, 0, 0, [(0, 4), (1, 2)]⟩) := siz_small (Nat.le_of_ble_eq_true rfl) (Nat.le_of_ble_eq_true rfl) (Nat.le_of_ble_eq_true rfl) (Nat.le_of_ble_eq_true rfl) (Nat.le_of_ble_eq_true rfl) (Nat.le_of_ble_eq_true rfl)
  generalize hE : (World.setCell w5 (⟨b, 8, none⟩ : Addr) (.string ⟨#[120]⟩)) = w6 at H6 ⊢
  clear hE
  have la := ld_op (show Has w6 b (oL ⟨1, 3, 9, [4, 2], 3, bT, bi, bf, ⟨#[120]⟩, 0, 0, 0, 0, [(0, 4), (1, 2)]⟩ ⟨some ⟨g, 0, none⟩, pc, some ⟨g2, 0, none⟩, sc⟩) from H6.out.cur)
  have hE : (⟨#[]⟩ : ByteArray).toList.isEmpty = true := noS_empty
  go_wp2_with (refine wpList_ld la rfl rfl rfl ?_)
  refine (put_no HM.out w6 H6.out.row HZ.out).mono ?_
  rintro e w7 ⟨rfl, b7⟩
  have H7 : Hid (Fst w h b ⟨1, 3, 9, [4, 2], 3, bT, bi, bf, ⟨#[120]⟩, 0, 0, 0, 0, [(0, 4), (1, 2)]⟩ ⟨some ⟨g, 0, none⟩, pc, some ⟨g2, 0, none⟩, sc⟩ w7) := H6.out.later b7
  clear b7 H6 la
  go_upto_region 33 with fail
  have la := ld_op (show Has w7 b (oL ⟨1, 3, 9, [4, 2], 3, bT, bi, bf, ⟨#[120]⟩, 0, 0, 0, 0, [(0, 4), (1, 2)]⟩ ⟨some ⟨g, 0, none⟩, pc, some ⟨g2, 0, none⟩, sc⟩) from H7.out.cur)
  go_wp2_with (refine wpList_ld la rfl rfl rfl ?_)
  refine (may_is HM.out w7 H7.out.row HZ.out).mono ?_
  rintro e w8 ⟨rfl, b8⟩
  have L8 : Hid (Below h w w8) := (Ops.down h H7.out.low b8).1
  clear b8 H7 la
  go_wp2_with (first | (go_at_call 13; refine (num_any _ _).mono ?_; rintro e v0 ⟨rfl, hw0⟩; have hw1 := hw0.symm; clear hw0; subst hw1) | fail)
  go_ret
  exact ⟨rfl, L8.out⟩

set_option maxHeartbeats 4000000 in
set_option maxRecDepth 100000 in
theorem arm_10 (which x : Int) (w : World) (hk : wrap64 ((IntKind.u64.wrap which).tmod 12) = 10) :
    Calls Try.prog 7 #[.int .i64 which, .int .i64 x] w fun e w' => e = .returned (.bool true) ∧ Below w.heap.size w w' := by
  obtain ⟨z, hz, ez⟩ : ∃ z : Nat, z < 64 ∧ bits .and .i64 x 63 = (z : Int) := and_mask x 6 (by omega)
  obtain ⟨h, hh⟩ : ∃ h, w.heap.size = h := ⟨_, rfl⟩
  have HW : Hid (w.heap.size = h) := hh
  rw [hh]
  clear hh
  go_enter Try.func7, Try.ntmps7
  go_wp2_with fail
  refine (awake11_any w).mono ?_
  rintro e w1 ⟨rfl, b1⟩
  have L1 : Hid (Below h w w1 ∧ h ≤ w1.heap.size) := ⟨HW.out ▸ b1, by have := b1.size; have := HW.out; omega⟩
  clear b1
  obtain ⟨kb, hkb⟩ : ∃ k, w1.heap.size = k := ⟨_, rfl⟩
  have L2 : Hid ((Below h w (w1.alloc (.cells #[.int .i64 4, .int .i64 4, .int .i64 4, .int .i64 5, .int .i64 5, .int .i64 1, .int .i64 3, .int .i64 3, .int .i64 0, .int .i64 3, .int .i64 3, .int .i64 2] 3)) ∧ h ≤ (w1.alloc (.cells #[.int .i64 4, .int .i64 4, .int .i64 4, .int .i64 5, .int .i64 5, .int .i64 1, .int .i64 3, .int .i64 3, .int .i64 0, .int .i64 3, .int .i64 3, .int .i64 2] 3)).heap.size) ∧ Has (w1.alloc (.cells #[.int .i64 4, .int .i64 4, .int .i64 4, .int .i64 5, .int .i64 5, .int .i64 1, .int .i64 3, .int .i64 3, .int .i64 0, .int .i64 3, .int .i64 3, .int .i64 2] 3)) kb [.int .i64 4, .int .i64 4, .int .i64 4, .int .i64 5, .int .i64 5, .int .i64 1, .int .i64 3, .int .i64 3, .int .i64 0, .int .i64 3, .int .i64 3, .int .i64 2]) := ⟨Ops.down h L1.out (Ops.newer _ _), hkb ▸ has_new w1 [.int .i64 4, .int .i64 4, .int .i64 4, .int .i64 5, .int .i64 5, .int .i64 1, .int .i64 3, .int .i64 3, .int .i64 0, .int .i64 3, .int .i64 3, .int .i64 2] _⟩
  clear L1
  go_upto_region 6 with fail
  generalize hE : w1.alloc (.cells #[.int .i64 4, .int .i64 4, .int .i64 4, .int .i64 5, .int .i64 5, .int .i64 1, .int .i64 3, .int .i64 3, .int .i64 0, .int .i64 3, .int .i64 3, .int .i64 2] 3) = w2 at L2 ⊢
  clear hE
  try simp only [hkb, hk]
  clear hkb hk
  have tk := L2.out.2.at 10 rfl
  go_wp2_with fail
  refine (one3_at w2).mono ?_
  rintro e w3 ⟨⟨po, pc, so, sc⟩, rfl, own, b3⟩
  obtain ⟨b, hb⟩ : ∃ b, w3.heap.size = b := ⟨_, rfl⟩
  obtain ⟨g, hpo, hB, hg, _⟩ := own.fwn.1 (by decide)
  obtain ⟨g2, hso, hB2, hg2, _⟩ := own.fwn.2 (by decide)
  simp only at hpo hso
  subst hpo hso
  have HG : Hid (g ≠ g2 ∧ h ≤ g2 ∧ g2 ≠ b) := ⟨own_apart own.1 own.2 (by decide), by have := L2.out.1.2; omega, by omega⟩
  clear hB hB2 hg hg2
  have H4 : Hid (Fst w h b ⟨1, 3, 9, [4, 2], 3, bT, bi, bf, noS, 0, 0, 0, 0, [(0, 4), (1, 2)]⟩ ⟨some ⟨g, 0, none⟩, pc, some ⟨g2, 0, none⟩, sc⟩ (w3.alloc (.cells (oL ⟨1, 3, 9, [4, 2], 3, bT, bi, bf, noS, 0, 0, 0, 0, [(0, 4), (1, 2)]⟩ ⟨some ⟨g, 0, none⟩, pc, some ⟨g2, 0, none⟩, sc⟩).toArray 29))) := fs_new (Ops.down h L2.out.1 b3) own hb
  clear b3 own L2 tk
  go_upto_region 7 with fail
  generalize hE : w3.alloc (.cells (oL ⟨1, 3, 9, [4, 2], 3, bT, bi, bf, noS, 0, 0, 0, 0, [(0, 4), (1, 2)]⟩ ⟨some ⟨g, 0, none⟩, pc, some ⟨g2, 0, none⟩, sc⟩).toArray 29) = w4 at H4 ⊢
  clear hE
  try simp only [hb]
  clear hb
  have la := ld_op (show Has w4 b (oL ⟨1, 3, 9, [4, 2], 3, bT, bi, bf, noS, 0, 0, 0, 0, [(0, 4), (1, 2)]⟩ ⟨some ⟨g, 0, none⟩, pc, some ⟨g2, 0, none⟩, sc⟩) from H4.out.cur)
  go_wp2_with (refine wpList_ld la rfl rfl rfl ?_)
  refine (may_is may_one3 w4 H4.out.row siz_one3).mono ?_
  rintro e w5 ⟨rfl, b5⟩
  have H5 : Hid (Fst w h b ⟨1, 3, 9, [4, 2], 3, bT, bi, bf, noS, 0, 0, 0, 0, [(0, 4), (1, 2)]⟩ ⟨some ⟨g, 0, none⟩, pc, some ⟨g2, 0, none⟩, sc⟩ w5) := H4.out.later b5
  clear b5 H4 la
  obtain ⟨i0, hi0, hz0, hz1, hz2⟩ := info_parts Try.infoDot
  obtain ⟨n2, hn2⟩ : ∃ n2 : Nat, n2 = 64 + (1 + z) := ⟨_, rfl⟩
  have HY : Hid (n2 = 64 + (1 + z)) := hn2
  clear hn2
  obtain ⟨n5, hn5⟩ : ∃ n, w5.heap.size = n := ⟨_, rfl⟩
  have HN5 : Hid (w5.heap.size = n5) := hn5
  have hbn : b < n5 := by rw [← hn5]; exact H5.out.cur.1
  obtain ⟨l0, hl0⟩ : ∃ l : List D2, l = List.replicate n2 (0, 0) := ⟨_, rfl⟩
  have HL : Hid (l0 = List.replicate n2 (0, 0) ∧ l0.length = n2) := ⟨hl0, by rw [hl0]; simp⟩
  clear hl0
  go_upto_region 32 with (at_make; (refine wpList_make_full _ rfl _ _ 27 rfl w5.heap.size 23 i0 (.agg #[.int .i64 0, .int .i64 0]) 2 Try.underlying27 hi0 hz0 hz1 .i64 .i64 (64 + (1 + (z : Int))) (64 + (1 + (z : Int))) n2 rfl rfl ?c1 ?c2 ?c3 ?c4 (Nat.le_refl _) ?_; (case c1 => have := HY.out; omega); (case c2 => have := HY.out; omega); (case c3 => rw [hz2]; have := HY.out; omega); (case c4 => unfold maxLen; have := HY.out; omega); intro w6 hown hgrow; have BB : Hid (Fst w h b ⟨1, 3, 9, [4, 2], 3, bT, bi, bf, noS, 0, 0, 0, 0, [(0, 4), (1, 2)]⟩ ⟨some ⟨g, 0, none⟩, pc, some ⟨g2, 0, none⟩, sc⟩ w6 ∧ FOwn n5 w6 (some ⟨n5, 0, none⟩) (flatD l0)) := ⟨H5.out.later ((Below.refl _ _).grown hgrow (Nat.le_refl _) (by simp)), by rw [made_dots, ← HL.out.1, HN5.out] at hown; exact own_row hown⟩; clear hown hgrow; have y3 := BB.out.1.cur.at 13 rfl; have f3 := BB.out.1.cur.free 13 rfl))
  have H6 : Hid (Fst w h b ⟨1, 3, 9, [4, 2], 3, bT, bi, bf, noS, 0, 0, 0, 0, l0⟩ ⟨some ⟨g, 0, none⟩, pc, some ⟨n5, 0, none⟩, n2⟩ (w6.setCell (⟨b, 13, none⟩ : Addr) (.slice (some ⟨n5, 0, none⟩) n2 n2))) := by
    have := Fst.dotsN (qc := n2) BB.out.1 l0 BB.out.2 hbn
    rw [HL.out.2] at this
    exact this
  clear H5 BB y3 f3 hn5 HN5 hbn
  have HM : Hid (mayO ⟨1, 3, 9, [4, 2], 3, bT, bi, bf, noS, 0, 0, 0, 0, l0⟩ 2 = false) := by
    show mayO _ _ = _
    exact may_many rfl (by have := HL.out.2; have := HY.out; show 64 < l0.length; omega)
  have HZ : Hid (Siz ⟨1, 3, 9, [4, 2], 3, bT, bi, bf, noS, 0, 0, 0, 0, l0⟩) := siz_small (Nat.le_of_ble_eq_true rfl) (by have := HL.out.2; have := HY.out; show l0.length ≤ 1000; omega) (Nat.le_of_ble_eq_true rfl) (Nat.le_of_ble_eq_true rfl) (Nat.le_of_ble_eq_true rfl) (Nat.le_of_ble_eq_true rfl)
  generalize hE : (w6.setCell (⟨b, 13, none⟩ : Addr) (.slice (some ⟨n5, 0, none⟩) n2 n2)) = w6 at H6 ⊢
  clear hE
  have la := ld_op (show Has w6 b (oL ⟨1, 3, 9, [4, 2], 3, bT, bi, bf, noS, 0, 0, 0, 0, l0⟩ ⟨some ⟨g, 0, none⟩, pc, some ⟨n5, 0, none⟩, n2⟩) from H6.out.cur)
  have hE : (⟨#[]⟩ : ByteArray).toList.isEmpty = true := noS_empty
  go_wp2_with (refine wpList_ld la rfl rfl rfl ?_)
  refine (put_no HM.out w6 H6.out.row HZ.out).mono ?_
  rintro e w7 ⟨rfl, b7⟩
  have H7 : Hid (Fst w h b ⟨1, 3, 9, [4, 2], 3, bT, bi, bf, noS, 0, 0, 0, 0, l0⟩ ⟨some ⟨g, 0, none⟩, pc, some ⟨n5, 0, none⟩, n2⟩ w7) := H6.out.later b7
  clear b7 H6 la
  go_upto_region 33 with fail
  have la := ld_op (show Has w7 b (oL ⟨1, 3, 9, [4, 2], 3, bT, bi, bf, noS, 0, 0, 0, 0, l0⟩ ⟨some ⟨g, 0, none⟩, pc, some ⟨n5, 0, none⟩, n2⟩) from H7.out.cur)
  go_wp2_with (refine wpList_ld la rfl rfl rfl ?_)
  refine (may_is HM.out w7 H7.out.row HZ.out).mono ?_
  rintro e w8 ⟨rfl, b8⟩
  have L8 : Hid (Below h w w8) := (Ops.down h H7.out.low b8).1
  clear b8 H7 la
  go_wp2_with (first | (go_at_call 13; refine (num_any _ _).mono ?_; rintro e v0 ⟨rfl, hw0⟩; have hw1 := hw0.symm; clear hw0; subst hw1) | fail)
  go_ret
  exact ⟨rfl, L8.out⟩

set_option maxHeartbeats 4000000 in
set_option maxRecDepth 100000 in
theorem arm_11 (which x : Int) (w : World) (hk : wrap64 ((IntKind.u64.wrap which).tmod 12) = 11) :
    Calls Try.prog 7 #[.int .i64 which, .int .i64 x] w fun e w' => e = .returned (.bool true) ∧ Below w.heap.size w w' := by
  obtain ⟨z, hz, ez⟩ : ∃ z : Nat, z < 64 ∧ bits .and .i64 x 63 = (z : Int) := and_mask x 6 (by omega)
  obtain ⟨h, hh⟩ : ∃ h, w.heap.size = h := ⟨_, rfl⟩
  have HW : Hid (w.heap.size = h) := hh
  rw [hh]
  clear hh
  go_enter Try.func7, Try.ntmps7
  go_wp2_with fail
  refine (awake11_any w).mono ?_
  rintro e w1 ⟨rfl, b1⟩
  have L1 : Hid (Below h w w1 ∧ h ≤ w1.heap.size) := ⟨HW.out ▸ b1, by have := b1.size; have := HW.out; omega⟩
  clear b1
  obtain ⟨kb, hkb⟩ : ∃ k, w1.heap.size = k := ⟨_, rfl⟩
  have L2 : Hid ((Below h w (w1.alloc (.cells #[.int .i64 4, .int .i64 4, .int .i64 4, .int .i64 5, .int .i64 5, .int .i64 1, .int .i64 3, .int .i64 3, .int .i64 0, .int .i64 3, .int .i64 3, .int .i64 2] 3)) ∧ h ≤ (w1.alloc (.cells #[.int .i64 4, .int .i64 4, .int .i64 4, .int .i64 5, .int .i64 5, .int .i64 1, .int .i64 3, .int .i64 3, .int .i64 0, .int .i64 3, .int .i64 3, .int .i64 2] 3)).heap.size) ∧ Has (w1.alloc (.cells #[.int .i64 4, .int .i64 4, .int .i64 4, .int .i64 5, .int .i64 5, .int .i64 1, .int .i64 3, .int .i64 3, .int .i64 0, .int .i64 3, .int .i64 3, .int .i64 2] 3)) kb [.int .i64 4, .int .i64 4, .int .i64 4, .int .i64 5, .int .i64 5, .int .i64 1, .int .i64 3, .int .i64 3, .int .i64 0, .int .i64 3, .int .i64 3, .int .i64 2]) := ⟨Ops.down h L1.out (Ops.newer _ _), hkb ▸ has_new w1 [.int .i64 4, .int .i64 4, .int .i64 4, .int .i64 5, .int .i64 5, .int .i64 1, .int .i64 3, .int .i64 3, .int .i64 0, .int .i64 3, .int .i64 3, .int .i64 2] _⟩
  clear L1
  go_upto_region 6 with fail
  generalize hE : w1.alloc (.cells #[.int .i64 4, .int .i64 4, .int .i64 4, .int .i64 5, .int .i64 5, .int .i64 1, .int .i64 3, .int .i64 3, .int .i64 0, .int .i64 3, .int .i64 3, .int .i64 2] 3) = w2 at L2 ⊢
  clear hE
  try simp only [hkb, hk]
  clear hkb hk
  have tk := L2.out.2.at 11 rfl
  go_wp2_with fail
  refine (one2_at w2).mono ?_
  rintro e w3 ⟨⟨po, pc, so, sc⟩, rfl, own, b3⟩
  obtain ⟨b, hb⟩ : ∃ b, w3.heap.size = b := ⟨_, rfl⟩
  have H4 : Hid (Fst w h b ⟨1, 3, 9, [4, 2], 2, bT, bi, bf, bv, 0, 0, 0, 0, []⟩ ⟨po, pc, so, sc⟩ (w3.alloc (.cells (oL ⟨1, 3, 9, [4, 2], 2, bT, bi, bf, bv, 0, 0, 0, 0, []⟩ ⟨po, pc, so, sc⟩).toArray 29))) := fs_new (Ops.down h L2.out.1 b3) own hb
  clear b3 own L2 tk
  go_upto_region 7 with fail
  generalize hE : w3.alloc (.cells (oL ⟨1, 3, 9, [4, 2], 2, bT, bi, bf, bv, 0, 0, 0, 0, []⟩ ⟨po, pc, so, sc⟩).toArray 29) = w4 at H4 ⊢
  clear hE
  try simp only [hb]
  clear hb
  have la := ld_op (show Has w4 b (oL ⟨1, 3, 9, [4, 2], 2, bT, bi, bf, bv, 0, 0, 0, 0, []⟩ ⟨po, pc, so, sc⟩) from H4.out.cur)
  go_wp2_with (refine wpList_ld la rfl rfl rfl ?_)
  refine (may_is may_one2 w4 H4.out.row siz_one2).mono ?_
  rintro e w5 ⟨rfl, b5⟩
  have H5 : Hid (Fst w h b ⟨1, 3, 9, [4, 2], 2, bT, bi, bf, bv, 0, 0, 0, 0, []⟩ ⟨po, pc, so, sc⟩ w5) := H4.out.later b5
  clear b5 H4 la
  have t10 := H5.out.cur.at 10 rfl
  have y10 := H5.out.cur.free 10 rfl
  go_upto_region 32 with fail
  have H6 : Hid (Fst w h b ⟨1, 3, 9, [4, 2], 2, bT, bi, bf, bv, 0, (-(1 + (z : Int))), 0, 0, []⟩ ⟨po, pc, so, sc⟩ (World.setCell w5 (⟨b, 10, none⟩ : Addr) (.int .i64 (-(1 + (z : Int)))))) := (Fst.set (o' := ⟨1, 3, 9, [4, 2], 2, bT, bi, bf, bv, 0, (-(1 + (z : Int))), 0, 0, []⟩) H5.out 10 (.int .i64 (-(1 + (z : Int)))) rfl rfl rfl)
  clear H5 t10 y10
  have HM : Hid (mayO ⟨1, 3, 9, [4, 2], 2, bT, bi, bf, bv, 0, (-(1 + (z : Int))), 0, 0, []⟩ 2 = false) := by
    show mayO _ _ = _
    exact no_what (no_k02 (Or.inr rfl) (by simp only [numZ]; rw [decide_eq_false (by omega)]; rfl))
  have HZ : Hid (Siz ⟨1, 3, 9, [4, 2], 2, bT, bi, bf, bv, 0, (-(1 + (z : Int))), 0, 0, []⟩) := siz_small (Nat.le_of_ble_eq_true rfl) (Nat.le_of_ble_eq_true rfl) (Nat.le_of_ble_eq_true rfl) (Nat.le_of_ble_eq_true rfl) (Nat.le_of_ble_eq_true rfl) (Nat.le_of_ble_eq_true rfl)
  generalize hE : (World.setCell w5 (⟨b, 10, none⟩ : Addr) (.int .i64 (-(1 + (z : Int))))) = w6 at H6 ⊢
  clear hE
  have la := ld_op (show Has w6 b (oL ⟨1, 3, 9, [4, 2], 2, bT, bi, bf, bv, 0, (-(1 + (z : Int))), 0, 0, []⟩ ⟨po, pc, so, sc⟩) from H6.out.cur)
  have hE : (⟨#[]⟩ : ByteArray).toList.isEmpty = true := noS_empty
  go_wp2_with (refine wpList_ld la rfl rfl rfl ?_)
  refine (put_no HM.out w6 H6.out.row HZ.out).mono ?_
  rintro e w7 ⟨rfl, b7⟩
  have H7 : Hid (Fst w h b ⟨1, 3, 9, [4, 2], 2, bT, bi, bf, bv, 0, (-(1 + (z : Int))), 0, 0, []⟩ ⟨po, pc, so, sc⟩ w7) := H6.out.later b7
  clear b7 H6 la
  go_upto_region 33 with fail
  have la := ld_op (show Has w7 b (oL ⟨1, 3, 9, [4, 2], 2, bT, bi, bf, bv, 0, (-(1 + (z : Int))), 0, 0, []⟩ ⟨po, pc, so, sc⟩) from H7.out.cur)
  go_wp2_with (refine wpList_ld la rfl rfl rfl ?_)
  refine (may_is HM.out w7 H7.out.row HZ.out).mono ?_
  rintro e w8 ⟨rfl, b8⟩
  have L8 : Hid (Below h w w8) := (Ops.down h H7.out.low b8).1
  clear b8 H7 la
  go_wp2_with (first | (go_at_call 13; refine (num_any _ _).mono ?_; rintro e v0 ⟨rfl, hw0⟩; have hw1 := hw0.symm; clear hw0; subst hw1) | fail)
  go_ret
  exact ⟨rfl, L8.out⟩

end Go.Proofs.Ytjfgccjdkflfoaa.OpParts

