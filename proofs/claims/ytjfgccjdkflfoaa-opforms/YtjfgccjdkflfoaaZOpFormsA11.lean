/-
  The walk of the law OpForms: each part of an operation that may not be (arms 0, 1, 2, 3, 7).
-/
import Derived.Test.YtjfgccjdkflfoaaZPack5
namespace Go.Proofs.Ytjfgccjdkflfoaa.OpForms
open Go.RowKit
set_option linter.unusedVariables false
set_option linter.unusedSimpArgs false

set_option maxHeartbeats 4000000 in
set_option maxRecDepth 100000 in
theorem arm_0 (which x : Int) (w : World) (hk : (IntKind.u64.wrap which).tmod 14 = 0) :
    Calls Try.prog 5 #[.int .i64 which, .int .i64 x] w fun e w' => e = .returned (.bool true) ∧ Below w.heap.size w w' := by
  obtain ⟨z, hz, ez⟩ : ∃ z : Nat, z < 64 ∧ bits .and .i64 x 63 = (z : Int) := and_mask x 6 (by omega)
  obtain ⟨h, hh⟩ : ∃ h, w.heap.size = h := ⟨_, rfl⟩
  have HW : Hid (w.heap.size = h) := hh
  rw [hh]
  clear hh
  go_enter Try.func5, Try.ntmps5
  go_wp2_with fail
  refine (awake11_any w).mono ?_
  rintro e w1 ⟨rfl, b1⟩
  have L1 : Hid (Below h w w1 ∧ h ≤ w1.heap.size) := ⟨HW.out ▸ b1, by have := b1.size; have := HW.out; omega⟩
  clear b1
  go_upto_region 4 with fail
  go_wp2_with fail
  refine (one4_at w1).mono ?_
  rintro e w2 ⟨⟨ro, rc, so, sc⟩, rfl, own, b2⟩
  obtain ⟨g, hro, hB, hg, hc⟩ := own.fwn.1 (by decide)
  simp only at hro
  subst hro
  obtain ⟨b, hb⟩ : ∃ b, w2.heap.size = b := ⟨_, rfl⟩
  have H4 : Hid (Fst w h b ⟨1, 3, 9, [4, 2], 4, bT, bi, bf, bv, 0, 0, 0, 1, []⟩ ⟨some ⟨g, 0, none⟩, rc, so, sc⟩ (w2.alloc (.cells (oL ⟨1, 3, 9, [4, 2], 4, bT, bi, bf, bv, 0, 0, 0, 1, []⟩ ⟨some ⟨g, 0, none⟩, rc, so, sc⟩).toArray 29)) ∧ h ≤ g ∧ g < b) := ⟨fs_new (Ops.down h L1.out b2) own hb, by have := L1.out.2; omega, by omega⟩
  have HO : Hid ((w2.alloc (.cells (oL ⟨1, 3, 9, [4, 2], 4, bT, bi, bf, bv, 0, 0, 0, 1, []⟩ ⟨some ⟨g, 0, none⟩, rc, so, sc⟩).toArray 29)).ownsRow w1.heap.size 3 1 (.slice (some ⟨g, 0, none⟩) 2 rc) 2 (flatI [4, 2]) ∧ w1.heap.size ≤ g) := ⟨own_later own.1 (Ops.newer _ _), hB⟩
  have HL1 : Hid (Below h w w1 ∧ h ≤ w1.heap.size) := L1
  clear b2 own hB hg hc L1
  go_upto_region 5 with fail
  generalize hE : w2.alloc (.cells (oL ⟨1, 3, 9, [4, 2], 4, bT, bi, bf, bv, 0, 0, 0, 1, []⟩ ⟨some ⟨g, 0, none⟩, rc, so, sc⟩).toArray 29) = w4 at H4 HO ⊢
  clear hE
  try simp only [hb]
  clear hb
  have t1 := H4.out.1.cur.at 0 rfl
  have y1 := H4.out.1.cur.free 0 rfl
  go_upto_region 33 with fail
  have H5 : Hid (Fst w h b ⟨(1 + (1 + (z : Int))), 3, 9, [4, 2], 4, bT, bi, bf, bv, 0, 0, 0, 1, []⟩ ⟨some ⟨g, 0, none⟩, rc, so, sc⟩ (w4.setCell ⟨b, 0, none⟩ (.int .i64 (1 + (1 + (z : Int)))))) := H4.out.1.set 0 (.int .i64 (1 + (1 + (z : Int)))) ⟨(1 + (1 + (z : Int))), 3, 9, [4, 2], 4, bT, bi, bf, bv, 0, 0, 0, 1, []⟩ rfl rfl rfl
  have HM : Hid (mayO ⟨(1 + (1 + (z : Int))), 3, 9, [4, 2], 4, bT, bi, bf, bv, 0, 0, 0, 1, []⟩ 2 = false) := by
    show mayO _ _ = _
    exact no_dot (by simp only; omega)
  have HZ : Hid (Siz ⟨(1 + (1 + (z : Int))), 3, 9, [4, 2], 4, bT, bi, bf, bv, 0, 0, 0, 1, []⟩) := siz_small (Nat.le_of_ble_eq_true rfl) (Nat.le_of_ble_eq_true rfl) (Nat.le_of_ble_eq_true rfl) (Nat.le_of_ble_eq_true rfl) (Nat.le_of_ble_eq_true rfl) (Nat.le_of_ble_eq_true rfl)
  clear H4 HO t1 y1 hk
  generalize hE : w4.setCell ⟨b, 0, none⟩ (.int .i64 (1 + (1 + (z : Int)))) = w5 at H5 ⊢
  clear hE
  have la := ld_op (show Has w5 b (oL ⟨(1 + (1 + (z : Int))), 3, 9, [4, 2], 4, bT, bi, bf, bv, 0, 0, 0, 1, []⟩ ⟨some ⟨g, 0, none⟩, rc, so, sc⟩) from H5.out.cur)
  go_wp2_with (refine wpList_ld la rfl rfl rfl ?_)
  refine (put_no HM.out w5 H5.out.row HZ.out).mono ?_
  rintro e w6 ⟨rfl, b6⟩
  have H6 : Hid (Fst w h b ⟨(1 + (1 + (z : Int))), 3, 9, [4, 2], 4, bT, bi, bf, bv, 0, 0, 0, 1, []⟩ ⟨some ⟨g, 0, none⟩, rc, so, sc⟩ w6) := H5.out.later b6
  clear b6 H5 la
  have hE : (⟨#[]⟩ : ByteArray).toList.isEmpty = true := noS_empty
  go_upto_region 34 with fail
  have la := ld_op (show Has w6 b (oL ⟨(1 + (1 + (z : Int))), 3, 9, [4, 2], 4, bT, bi, bf, bv, 0, 0, 0, 1, []⟩ ⟨some ⟨g, 0, none⟩, rc, so, sc⟩) from H6.out.cur)
  go_wp2_with (refine wpList_ld la rfl rfl rfl ?_)
  refine (may_is HM.out w6 H6.out.row HZ.out).mono ?_
  rintro e w7 ⟨rfl, b7⟩
  have L7 : Hid (Below h w w7 ∧ h ≤ w7.heap.size) := Ops.down h H6.out.low b7
  clear b7 H6 la
  go_wp2_with (first | (go_at_call 13; refine (num_any _ _).mono ?_; rintro e v0 ⟨rfl, hw0⟩; have hw1 := hw0.symm; clear hw0; subst hw1) | fail)
  refine (one4_at _).mono ?_
  rintro e w8 ⟨q8, rfl, own8, b8⟩
  have L8 : Hid (Below h w w8 ∧ h ≤ w8.heap.size) := Ops.down h L7.out b8
  have C8 := may_is may_one4 w8 own8.row siz_one4
  clear L7 b8 own8
  go_wp2_with fail
  refine C8.mono ?_
  rintro e w9 ⟨rfl, b9⟩
  have L9 : Hid (Below h w w9 ∧ h ≤ w9.heap.size) := Ops.down h L8.out b9
  clear L8 b9 C8
  go_wp2_with fail
  refine (one4_at _).mono ?_
  rintro e x8 ⟨q9, rfl, own8, b8⟩
  have L8 : Hid (Below h w x8 ∧ h ≤ x8.heap.size) := Ops.down h L9.out b8
  have C8 := may_is may_one4_3 x8 own8.row siz_one4
  clear L9 b8 own8
  go_wp2_with fail
  refine C8.mono ?_
  rintro e x9 ⟨rfl, b9⟩
  have L9 : Hid (Below h w x9 ∧ h ≤ x9.heap.size) := Ops.down h L8.out b9
  clear L8 b9 C8
  go_wp2
  go_ret
  exact ⟨rfl, L9.out.1⟩

set_option maxHeartbeats 4000000 in
set_option maxRecDepth 100000 in
theorem arm_1 (which x : Int) (w : World) (hk : (IntKind.u64.wrap which).tmod 14 = 1) :
    Calls Try.prog 5 #[.int .i64 which, .int .i64 x] w fun e w' => e = .returned (.bool true) ∧ Below w.heap.size w w' := by
  obtain ⟨z, hz, ez⟩ : ∃ z : Nat, z < 64 ∧ bits .and .i64 x 63 = (z : Int) := and_mask x 6 (by omega)
  obtain ⟨h, hh⟩ : ∃ h, w.heap.size = h := ⟨_, rfl⟩
  have HW : Hid (w.heap.size = h) := hh
  rw [hh]
  clear hh
  go_enter Try.func5, Try.ntmps5
  go_wp2_with fail
  refine (awake11_any w).mono ?_
  rintro e w1 ⟨rfl, b1⟩
  have L1 : Hid (Below h w w1 ∧ h ≤ w1.heap.size) := ⟨HW.out ▸ b1, by have := b1.size; have := HW.out; omega⟩
  clear b1
  go_upto_region 4 with fail
  go_wp2_with fail
  refine (one4_at w1).mono ?_
  rintro e w2 ⟨⟨ro, rc, so, sc⟩, rfl, own, b2⟩
  obtain ⟨g, hro, hB, hg, hc⟩ := own.fwn.1 (by decide)
  simp only at hro
  subst hro
  obtain ⟨b, hb⟩ : ∃ b, w2.heap.size = b := ⟨_, rfl⟩
  have H4 : Hid (Fst w h b ⟨1, 3, 9, [4, 2], 4, bT, bi, bf, bv, 0, 0, 0, 1, []⟩ ⟨some ⟨g, 0, none⟩, rc, so, sc⟩ (w2.alloc (.cells (oL ⟨1, 3, 9, [4, 2], 4, bT, bi, bf, bv, 0, 0, 0, 1, []⟩ ⟨some ⟨g, 0, none⟩, rc, so, sc⟩).toArray 29)) ∧ h ≤ g ∧ g < b) := ⟨fs_new (Ops.down h L1.out b2) own hb, by have := L1.out.2; omega, by omega⟩
  have HO : Hid ((w2.alloc (.cells (oL ⟨1, 3, 9, [4, 2], 4, bT, bi, bf, bv, 0, 0, 0, 1, []⟩ ⟨some ⟨g, 0, none⟩, rc, so, sc⟩).toArray 29)).ownsRow w1.heap.size 3 1 (.slice (some ⟨g, 0, none⟩) 2 rc) 2 (flatI [4, 2]) ∧ w1.heap.size ≤ g) := ⟨own_later own.1 (Ops.newer _ _), hB⟩
  have HL1 : Hid (Below h w w1 ∧ h ≤ w1.heap.size) := L1
  clear b2 own hB hg hc L1
  go_upto_region 5 with fail
  generalize hE : w2.alloc (.cells (oL ⟨1, 3, 9, [4, 2], 4, bT, bi, bf, bv, 0, 0, 0, 1, []⟩ ⟨some ⟨g, 0, none⟩, rc, so, sc⟩).toArray 29) = w4 at H4 HO ⊢
  clear hE
  try simp only [hb]
  clear hb
  have t1 := H4.out.1.cur.at 1 rfl
  have y1 := H4.out.1.cur.free 1 rfl
  go_upto_region 33 with fail
  have H5 : Hid (Fst w h b ⟨1, (1 - (1 + (z : Int))), 9, [4, 2], 4, bT, bi, bf, bv, 0, 0, 0, 1, []⟩ ⟨some ⟨g, 0, none⟩, rc, so, sc⟩ (w4.setCell ⟨b, 1, none⟩ (.int .i64 (1 - (1 + (z : Int)))))) := H4.out.1.set 1 (.int .i64 (1 - (1 + (z : Int)))) ⟨1, (1 - (1 + (z : Int))), 9, [4, 2], 4, bT, bi, bf, bv, 0, 0, 0, 1, []⟩ rfl rfl rfl
  have HM : Hid (mayO ⟨1, (1 - (1 + (z : Int))), 9, [4, 2], 4, bT, bi, bf, bv, 0, 0, 0, 1, []⟩ 2 = false) := by
    show mayO _ _ = _
    exact no_dot (by simp only; omega)
  have HZ : Hid (Siz ⟨1, (1 - (1 + (z : Int))), 9, [4, 2], 4, bT, bi, bf, bv, 0, 0, 0, 1, []⟩) := siz_small (Nat.le_of_ble_eq_true rfl) (Nat.le_of_ble_eq_true rfl) (Nat.le_of_ble_eq_true rfl) (Nat.le_of_ble_eq_true rfl) (Nat.le_of_ble_eq_true rfl) (Nat.le_of_ble_eq_true rfl)
  clear H4 HO t1 y1 hk
  generalize hE : w4.setCell ⟨b, 1, none⟩ (.int .i64 (1 - (1 + (z : Int)))) = w5 at H5 ⊢
  clear hE
  have la := ld_op (show Has w5 b (oL ⟨1, (1 - (1 + (z : Int))), 9, [4, 2], 4, bT, bi, bf, bv, 0, 0, 0, 1, []⟩ ⟨some ⟨g, 0, none⟩, rc, so, sc⟩) from H5.out.cur)
  go_wp2_with (refine wpList_ld la rfl rfl rfl ?_)
  refine (put_no HM.out w5 H5.out.row HZ.out).mono ?_
  rintro e w6 ⟨rfl, b6⟩
  have H6 : Hid (Fst w h b ⟨1, (1 - (1 + (z : Int))), 9, [4, 2], 4, bT, bi, bf, bv, 0, 0, 0, 1, []⟩ ⟨some ⟨g, 0, none⟩, rc, so, sc⟩ w6) := H5.out.later b6
  clear b6 H5 la
  have hE : (⟨#[]⟩ : ByteArray).toList.isEmpty = true := noS_empty
  go_upto_region 34 with fail
  have la := ld_op (show Has w6 b (oL ⟨1, (1 - (1 + (z : Int))), 9, [4, 2], 4, bT, bi, bf, bv, 0, 0, 0, 1, []⟩ ⟨some ⟨g, 0, none⟩, rc, so, sc⟩) from H6.out.cur)
  go_wp2_with (refine wpList_ld la rfl rfl rfl ?_)
  refine (may_is HM.out w6 H6.out.row HZ.out).mono ?_
  rintro e w7 ⟨rfl, b7⟩
  have L7 : Hid (Below h w w7 ∧ h ≤ w7.heap.size) := Ops.down h H6.out.low b7
  clear b7 H6 la
  go_wp2_with (first | (go_at_call 13; refine (num_any _ _).mono ?_; rintro e v0 ⟨rfl, hw0⟩; have hw1 := hw0.symm; clear hw0; subst hw1) | fail)
  refine (one4_at _).mono ?_
  rintro e w8 ⟨q8, rfl, own8, b8⟩
  have L8 : Hid (Below h w w8 ∧ h ≤ w8.heap.size) := Ops.down h L7.out b8
  have C8 := may_is may_one4 w8 own8.row siz_one4
  clear L7 b8 own8
  go_wp2_with fail
  refine C8.mono ?_
  rintro e w9 ⟨rfl, b9⟩
  have L9 : Hid (Below h w w9 ∧ h ≤ w9.heap.size) := Ops.down h L8.out b9
  clear L8 b9 C8
  go_wp2_with fail
  refine (one4_at _).mono ?_
  rintro e x8 ⟨q9, rfl, own8, b8⟩
  have L8 : Hid (Below h w x8 ∧ h ≤ x8.heap.size) := Ops.down h L9.out b8
  have C8 := may_is may_one4_3 x8 own8.row siz_one4
  clear L9 b8 own8
  go_wp2_with fail
  refine C8.mono ?_
  rintro e x9 ⟨rfl, b9⟩
  have L9 : Hid (Below h w x9 ∧ h ≤ x9.heap.size) := Ops.down h L8.out b9
  clear L8 b9 C8
  go_wp2
  go_ret
  exact ⟨rfl, L9.out.1⟩

set_option maxHeartbeats 4000000 in
set_option maxRecDepth 100000 in
theorem arm_2 (which x : Int) (w : World) (hk : (IntKind.u64.wrap which).tmod 14 = 2) :
    Calls Try.prog 5 #[.int .i64 which, .int .i64 x] w fun e w' => e = .returned (.bool true) ∧ Below w.heap.size w w' := by
  obtain ⟨z, hz, ez⟩ : ∃ z : Nat, z < 64 ∧ bits .and .i64 x 63 = (z : Int) := and_mask x 6 (by omega)
  obtain ⟨h, hh⟩ : ∃ h, w.heap.size = h := ⟨_, rfl⟩
  have HW : Hid (w.heap.size = h) := hh
  rw [hh]
  clear hh
  go_enter Try.func5, Try.ntmps5
  go_wp2_with fail
  refine (awake11_any w).mono ?_
  rintro e w1 ⟨rfl, b1⟩
  have L1 : Hid (Below h w w1 ∧ h ≤ w1.heap.size) := ⟨HW.out ▸ b1, by have := b1.size; have := HW.out; omega⟩
  clear b1
  go_upto_region 4 with fail
  go_wp2_with fail
  refine (one4_at w1).mono ?_
  rintro e w2 ⟨⟨ro, rc, so, sc⟩, rfl, own, b2⟩
  obtain ⟨g, hro, hB, hg, hc⟩ := own.fwn.1 (by decide)
  simp only at hro
  subst hro
  obtain ⟨b, hb⟩ : ∃ b, w2.heap.size = b := ⟨_, rfl⟩
  have H4 : Hid (Fst w h b ⟨1, 3, 9, [4, 2], 4, bT, bi, bf, bv, 0, 0, 0, 1, []⟩ ⟨some ⟨g, 0, none⟩, rc, so, sc⟩ (w2.alloc (.cells (oL ⟨1, 3, 9, [4, 2], 4, bT, bi, bf, bv, 0, 0, 0, 1, []⟩ ⟨some ⟨g, 0, none⟩, rc, so, sc⟩).toArray 29)) ∧ h ≤ g ∧ g < b) := ⟨fs_new (Ops.down h L1.out b2) own hb, by have := L1.out.2; omega, by omega⟩
  have HO : Hid ((w2.alloc (.cells (oL ⟨1, 3, 9, [4, 2], 4, bT, bi, bf, bv, 0, 0, 0, 1, []⟩ ⟨some ⟨g, 0, none⟩, rc, so, sc⟩).toArray 29)).ownsRow w1.heap.size 3 1 (.slice (some ⟨g, 0, none⟩) 2 rc) 2 (flatI [4, 2]) ∧ w1.heap.size ≤ g) := ⟨own_later own.1 (Ops.newer _ _), hB⟩
  have HL1 : Hid (Below h w w1 ∧ h ≤ w1.heap.size) := L1
  clear b2 own hB hg hc L1
  go_upto_region 5 with fail
  generalize hE : w2.alloc (.cells (oL ⟨1, 3, 9, [4, 2], 4, bT, bi, bf, bv, 0, 0, 0, 1, []⟩ ⟨some ⟨g, 0, none⟩, rc, so, sc⟩).toArray 29) = w4 at H4 HO ⊢
  clear hE
  try simp only [hb]
  clear hb
  have t1 := H4.out.1.cur.at 2 rfl
  have y1 := H4.out.1.cur.free 2 rfl
  go_upto_region 33 with fail
  have H5 : Hid (Fst w h b ⟨1, 3, (1 - (1 + (z : Int))), [4, 2], 4, bT, bi, bf, bv, 0, 0, 0, 1, []⟩ ⟨some ⟨g, 0, none⟩, rc, so, sc⟩ (w4.setCell ⟨b, 2, none⟩ (.int .i64 (1 - (1 + (z : Int)))))) := H4.out.1.set 2 (.int .i64 (1 - (1 + (z : Int)))) ⟨1, 3, (1 - (1 + (z : Int))), [4, 2], 4, bT, bi, bf, bv, 0, 0, 0, 1, []⟩ rfl rfl rfl
  have HM : Hid (mayO ⟨1, 3, (1 - (1 + (z : Int))), [4, 2], 4, bT, bi, bf, bv, 0, 0, 0, 1, []⟩ 2 = false) := by
    show mayO _ _ = _
    exact no_time (by simp only; omega)
  have HZ : Hid (Siz ⟨1, 3, (1 - (1 + (z : Int))), [4, 2], 4, bT, bi, bf, bv, 0, 0, 0, 1, []⟩) := siz_small (Nat.le_of_ble_eq_true rfl) (Nat.le_of_ble_eq_true rfl) (Nat.le_of_ble_eq_true rfl) (Nat.le_of_ble_eq_true rfl) (Nat.le_of_ble_eq_true rfl) (Nat.le_of_ble_eq_true rfl)
  clear H4 HO t1 y1 hk
  generalize hE : w4.setCell ⟨b, 2, none⟩ (.int .i64 (1 - (1 + (z : Int)))) = w5 at H5 ⊢
  clear hE
  have la := ld_op (show Has w5 b (oL ⟨1, 3, (1 - (1 + (z : Int))), [4, 2], 4, bT, bi, bf, bv, 0, 0, 0, 1, []⟩ ⟨some ⟨g, 0, none⟩, rc, so, sc⟩) from H5.out.cur)
  go_wp2_with (refine wpList_ld la rfl rfl rfl ?_)
  refine (put_no HM.out w5 H5.out.row HZ.out).mono ?_
  rintro e w6 ⟨rfl, b6⟩
  have H6 : Hid (Fst w h b ⟨1, 3, (1 - (1 + (z : Int))), [4, 2], 4, bT, bi, bf, bv, 0, 0, 0, 1, []⟩ ⟨some ⟨g, 0, none⟩, rc, so, sc⟩ w6) := H5.out.later b6
  clear b6 H5 la
  have hE : (⟨#[]⟩ : ByteArray).toList.isEmpty = true := noS_empty
  go_upto_region 34 with fail
  have la := ld_op (show Has w6 b (oL ⟨1, 3, (1 - (1 + (z : Int))), [4, 2], 4, bT, bi, bf, bv, 0, 0, 0, 1, []⟩ ⟨some ⟨g, 0, none⟩, rc, so, sc⟩) from H6.out.cur)
  go_wp2_with (refine wpList_ld la rfl rfl rfl ?_)
  refine (may_is HM.out w6 H6.out.row HZ.out).mono ?_
  rintro e w7 ⟨rfl, b7⟩
  have L7 : Hid (Below h w w7 ∧ h ≤ w7.heap.size) := Ops.down h H6.out.low b7
  clear b7 H6 la
  go_wp2_with (first | (go_at_call 13; refine (num_any _ _).mono ?_; rintro e v0 ⟨rfl, hw0⟩; have hw1 := hw0.symm; clear hw0; subst hw1) | fail)
  refine (one4_at _).mono ?_
  rintro e w8 ⟨q8, rfl, own8, b8⟩
  have L8 : Hid (Below h w w8 ∧ h ≤ w8.heap.size) := Ops.down h L7.out b8
  have C8 := may_is may_one4 w8 own8.row siz_one4
  clear L7 b8 own8
  go_wp2_with fail
  refine C8.mono ?_
  rintro e w9 ⟨rfl, b9⟩
  have L9 : Hid (Below h w w9 ∧ h ≤ w9.heap.size) := Ops.down h L8.out b9
  clear L8 b9 C8
  go_wp2_with fail
  refine (one4_at _).mono ?_
  rintro e x8 ⟨q9, rfl, own8, b8⟩
  have L8 : Hid (Below h w x8 ∧ h ≤ x8.heap.size) := Ops.down h L9.out b8
  have C8 := may_is may_one4_3 x8 own8.row siz_one4
  clear L9 b8 own8
  go_wp2_with fail
  refine C8.mono ?_
  rintro e x9 ⟨rfl, b9⟩
  have L9 : Hid (Below h w x9 ∧ h ≤ x9.heap.size) := Ops.down h L8.out b9
  clear L8 b9 C8
  go_wp2
  go_ret
  exact ⟨rfl, L9.out.1⟩

set_option maxHeartbeats 4000000 in
set_option maxRecDepth 100000 in
theorem arm_3 (which x : Int) (w : World) (hk : (IntKind.u64.wrap which).tmod 14 = 3) :
    Calls Try.prog 5 #[.int .i64 which, .int .i64 x] w fun e w' => e = .returned (.bool true) ∧ Below w.heap.size w w' := by
  obtain ⟨z, hz, ez⟩ : ∃ z : Nat, z < 64 ∧ bits .and .i64 x 63 = (z : Int) := and_mask x 6 (by omega)
  obtain ⟨h, hh⟩ : ∃ h, w.heap.size = h := ⟨_, rfl⟩
  have HW : Hid (w.heap.size = h) := hh
  rw [hh]
  clear hh
  go_enter Try.func5, Try.ntmps5
  go_wp2_with fail
  refine (awake11_any w).mono ?_
  rintro e w1 ⟨rfl, b1⟩
  have L1 : Hid (Below h w w1 ∧ h ≤ w1.heap.size) := ⟨HW.out ▸ b1, by have := b1.size; have := HW.out; omega⟩
  clear b1
  go_upto_region 4 with fail
  go_wp2_with fail
  refine (one4_at w1).mono ?_
  rintro e w2 ⟨⟨ro, rc, so, sc⟩, rfl, own, b2⟩
  obtain ⟨g, hro, hB, hg, hc⟩ := own.fwn.1 (by decide)
  simp only at hro
  subst hro
  obtain ⟨b, hb⟩ : ∃ b, w2.heap.size = b := ⟨_, rfl⟩
  have H4 : Hid (Fst w h b ⟨1, 3, 9, [4, 2], 4, bT, bi, bf, bv, 0, 0, 0, 1, []⟩ ⟨some ⟨g, 0, none⟩, rc, so, sc⟩ (w2.alloc (.cells (oL ⟨1, 3, 9, [4, 2], 4, bT, bi, bf, bv, 0, 0, 0, 1, []⟩ ⟨some ⟨g, 0, none⟩, rc, so, sc⟩).toArray 29)) ∧ h ≤ g ∧ g < b) := ⟨fs_new (Ops.down h L1.out b2) own hb, by have := L1.out.2; omega, by omega⟩
  have HO : Hid ((w2.alloc (.cells (oL ⟨1, 3, 9, [4, 2], 4, bT, bi, bf, bv, 0, 0, 0, 1, []⟩ ⟨some ⟨g, 0, none⟩, rc, so, sc⟩).toArray 29)).ownsRow w1.heap.size 3 1 (.slice (some ⟨g, 0, none⟩) 2 rc) 2 (flatI [4, 2]) ∧ w1.heap.size ≤ g) := ⟨own_later own.1 (Ops.newer _ _), hB⟩
  have HL1 : Hid (Below h w w1 ∧ h ≤ w1.heap.size) := L1
  clear b2 own hB hg hc L1
  go_upto_region 5 with fail
  generalize hE : w2.alloc (.cells (oL ⟨1, 3, 9, [4, 2], 4, bT, bi, bf, bv, 0, 0, 0, 1, []⟩ ⟨some ⟨g, 0, none⟩, rc, so, sc⟩).toArray 29) = w4 at H4 HO ⊢
  clear hE
  try simp only [hb]
  clear hb
  have t1 := H4.out.1.cur.at 2 rfl
  have y1 := H4.out.1.cur.free 2 rfl
  go_upto_region 33 with fail
  have H5 : Hid (Fst w h b ⟨1, 3, (16777215 + (1 + (z : Int))), [4, 2], 4, bT, bi, bf, bv, 0, 0, 0, 1, []⟩ ⟨some ⟨g, 0, none⟩, rc, so, sc⟩ (w4.setCell ⟨b, 2, none⟩ (.int .i64 (16777215 + (1 + (z : Int)))))) := H4.out.1.set 2 (.int .i64 (16777215 + (1 + (z : Int)))) ⟨1, 3, (16777215 + (1 + (z : Int))), [4, 2], 4, bT, bi, bf, bv, 0, 0, 0, 1, []⟩ rfl rfl rfl
  have HM : Hid (mayO ⟨1, 3, (16777215 + (1 + (z : Int))), [4, 2], 4, bT, bi, bf, bv, 0, 0, 0, 1, []⟩ 2 = false) := by
    show mayO _ _ = _
    exact no_time (by simp only; omega)
  have HZ : Hid (Siz ⟨1, 3, (16777215 + (1 + (z : Int))), [4, 2], 4, bT, bi, bf, bv, 0, 0, 0, 1, []⟩) := siz_small (Nat.le_of_ble_eq_true rfl) (Nat.le_of_ble_eq_true rfl) (Nat.le_of_ble_eq_true rfl) (Nat.le_of_ble_eq_true rfl) (Nat.le_of_ble_eq_true rfl) (Nat.le_of_ble_eq_true rfl)
  clear H4 HO t1 y1 hk
  generalize hE : w4.setCell ⟨b, 2, none⟩ (.int .i64 (16777215 + (1 + (z : Int)))) = w5 at H5 ⊢
  clear hE
  have la := ld_op (show Has w5 b (oL ⟨1, 3, (16777215 + (1 + (z : Int))), [4, 2], 4, bT, bi, bf, bv, 0, 0, 0, 1, []⟩ ⟨some ⟨g, 0, none⟩, rc, so, sc⟩) from H5.out.cur)
  go_wp2_with (refine wpList_ld la rfl rfl rfl ?_)
  refine (put_no HM.out w5 H5.out.row HZ.out).mono ?_
  rintro e w6 ⟨rfl, b6⟩
  have H6 : Hid (Fst w h b ⟨1, 3, (16777215 + (1 + (z : Int))), [4, 2], 4, bT, bi, bf, bv, 0, 0, 0, 1, []⟩ ⟨some ⟨g, 0, none⟩, rc, so, sc⟩ w6) := H5.out.later b6
  clear b6 H5 la
  have hE : (⟨#[]⟩ : ByteArray).toList.isEmpty = true := noS_empty
  go_upto_region 34 with fail
  have la := ld_op (show Has w6 b (oL ⟨1, 3, (16777215 + (1 + (z : Int))), [4, 2], 4, bT, bi, bf, bv, 0, 0, 0, 1, []⟩ ⟨some ⟨g, 0, none⟩, rc, so, sc⟩) from H6.out.cur)
  go_wp2_with (refine wpList_ld la rfl rfl rfl ?_)
  refine (may_is HM.out w6 H6.out.row HZ.out).mono ?_
  rintro e w7 ⟨rfl, b7⟩
  have L7 : Hid (Below h w w7 ∧ h ≤ w7.heap.size) := Ops.down h H6.out.low b7
  clear b7 H6 la
  go_wp2_with (first | (go_at_call 13; refine (num_any _ _).mono ?_; rintro e v0 ⟨rfl, hw0⟩; have hw1 := hw0.symm; clear hw0; subst hw1) | fail)
  refine (one4_at _).mono ?_
  rintro e w8 ⟨q8, rfl, own8, b8⟩
  have L8 : Hid (Below h w w8 ∧ h ≤ w8.heap.size) := Ops.down h L7.out b8
  have C8 := may_is may_one4 w8 own8.row siz_one4
  clear L7 b8 own8
  go_wp2_with fail
  refine C8.mono ?_
  rintro e w9 ⟨rfl, b9⟩
  have L9 : Hid (Below h w w9 ∧ h ≤ w9.heap.size) := Ops.down h L8.out b9
  clear L8 b9 C8
  go_wp2_with fail
  refine (one4_at _).mono ?_
  rintro e x8 ⟨q9, rfl, own8, b8⟩
  have L8 : Hid (Below h w x8 ∧ h ≤ x8.heap.size) := Ops.down h L9.out b8
  have C8 := may_is may_one4_3 x8 own8.row siz_one4
  clear L9 b8 own8
  go_wp2_with fail
  refine C8.mono ?_
  rintro e x9 ⟨rfl, b9⟩
  have L9 : Hid (Below h w x9 ∧ h ≤ x9.heap.size) := Ops.down h L8.out b9
  clear L8 b9 C8
  go_wp2
  go_ret
  exact ⟨rfl, L9.out.1⟩

set_option maxHeartbeats 4000000 in
set_option maxRecDepth 100000 in
theorem arm_7 (which x : Int) (w : World) (hk : (IntKind.u64.wrap which).tmod 14 = 7) :
    Calls Try.prog 5 #[.int .i64 which, .int .i64 x] w fun e w' => e = .returned (.bool true) ∧ Below w.heap.size w w' := by
  obtain ⟨z, hz, ez⟩ : ∃ z : Nat, z < 64 ∧ bits .and .i64 x 63 = (z : Int) := and_mask x 6 (by omega)
  obtain ⟨h, hh⟩ : ∃ h, w.heap.size = h := ⟨_, rfl⟩
  have HW : Hid (w.heap.size = h) := hh
  rw [hh]
  clear hh
  go_enter Try.func5, Try.ntmps5
  go_wp2_with fail
  refine (awake11_any w).mono ?_
  rintro e w1 ⟨rfl, b1⟩
  have L1 : Hid (Below h w w1 ∧ h ≤ w1.heap.size) := ⟨HW.out ▸ b1, by have := b1.size; have := HW.out; omega⟩
  clear b1
  go_upto_region 4 with fail
  go_wp2_with fail
  refine (one4_at w1).mono ?_
  rintro e w2 ⟨⟨ro, rc, so, sc⟩, rfl, own, b2⟩
  obtain ⟨g, hro, hB, hg, hc⟩ := own.fwn.1 (by decide)
  simp only at hro
  subst hro
  obtain ⟨b, hb⟩ : ∃ b, w2.heap.size = b := ⟨_, rfl⟩
  have H4 : Hid (Fst w h b ⟨1, 3, 9, [4, 2], 4, bT, bi, bf, bv, 0, 0, 0, 1, []⟩ ⟨some ⟨g, 0, none⟩, rc, so, sc⟩ (w2.alloc (.cells (oL ⟨1, 3, 9, [4, 2], 4, bT, bi, bf, bv, 0, 0, 0, 1, []⟩ ⟨some ⟨g, 0, none⟩, rc, so, sc⟩).toArray 29)) ∧ h ≤ g ∧ g < b) := ⟨fs_new (Ops.down h L1.out b2) own hb, by have := L1.out.2; omega, by omega⟩
  have HO : Hid ((w2.alloc (.cells (oL ⟨1, 3, 9, [4, 2], 4, bT, bi, bf, bv, 0, 0, 0, 1, []⟩ ⟨some ⟨g, 0, none⟩, rc, so, sc⟩).toArray 29)).ownsRow w1.heap.size 3 1 (.slice (some ⟨g, 0, none⟩) 2 rc) 2 (flatI [4, 2]) ∧ w1.heap.size ≤ g) := ⟨own_later own.1 (Ops.newer _ _), hB⟩
  have HL1 : Hid (Below h w w1 ∧ h ≤ w1.heap.size) := L1
  clear b2 own hB hg hc L1
  go_upto_region 5 with fail
  generalize hE : w2.alloc (.cells (oL ⟨1, 3, 9, [4, 2], 4, bT, bi, bf, bv, 0, 0, 0, 1, []⟩ ⟨some ⟨g, 0, none⟩, rc, so, sc⟩).toArray 29) = w4 at H4 HO ⊢
  clear hE
  try simp only [hb]
  clear hb
  have t1 := H4.out.1.cur.at 4 rfl
  have y1 := H4.out.1.cur.free 4 rfl
  go_upto_region 33 with fail
  have H5 : Hid (Fst w h b ⟨1, 3, 9, [4, 2], (5 + (1 + (z : Int))), bT, bi, bf, bv, 0, 0, 0, 1, []⟩ ⟨some ⟨g, 0, none⟩, rc, so, sc⟩ (w4.setCell ⟨b, 4, none⟩ (.int .i64 (5 + (1 + (z : Int)))))) := H4.out.1.set 4 (.int .i64 (5 + (1 + (z : Int)))) ⟨1, 3, 9, [4, 2], (5 + (1 + (z : Int))), bT, bi, bf, bv, 0, 0, 0, 1, []⟩ rfl rfl rfl
  have HM : Hid (mayO ⟨1, 3, 9, [4, 2], (5 + (1 + (z : Int))), bT, bi, bf, bv, 0, 0, 0, 1, []⟩ 2 = false) := by
    show mayO _ _ = _
    exact no_what (by unfold whatB; simp only [Bool.and_eq_false_iff]; right; rw [if_neg (by omega), if_neg (by omega), if_neg (by omega), if_neg (by omega), if_neg (by omega)])
  have HZ : Hid (Siz ⟨1, 3, 9, [4, 2], (5 + (1 + (z : Int))), bT, bi, bf, bv, 0, 0, 0, 1, []⟩) := siz_small (Nat.le_of_ble_eq_true rfl) (Nat.le_of_ble_eq_true rfl) (Nat.le_of_ble_eq_true rfl) (Nat.le_of_ble_eq_true rfl) (Nat.le_of_ble_eq_true rfl) (Nat.le_of_ble_eq_true rfl)
  clear H4 HO t1 y1 hk
  generalize hE : w4.setCell ⟨b, 4, none⟩ (.int .i64 (5 + (1 + (z : Int)))) = w5 at H5 ⊢
  clear hE
  have la := ld_op (show Has w5 b (oL ⟨1, 3, 9, [4, 2], (5 + (1 + (z : Int))), bT, bi, bf, bv, 0, 0, 0, 1, []⟩ ⟨some ⟨g, 0, none⟩, rc, so, sc⟩) from H5.out.cur)
  go_wp2_with (refine wpList_ld la rfl rfl rfl ?_)
  refine (put_no HM.out w5 H5.out.row HZ.out).mono ?_
  rintro e w6 ⟨rfl, b6⟩
  have H6 : Hid (Fst w h b ⟨1, 3, 9, [4, 2], (5 + (1 + (z : Int))), bT, bi, bf, bv, 0, 0, 0, 1, []⟩ ⟨some ⟨g, 0, none⟩, rc, so, sc⟩ w6) := H5.out.later b6
  clear b6 H5 la
  have hE : (⟨#[]⟩ : ByteArray).toList.isEmpty = true := noS_empty
  go_upto_region 34 with fail
  have la := ld_op (show Has w6 b (oL ⟨1, 3, 9, [4, 2], (5 + (1 + (z : Int))), bT, bi, bf, bv, 0, 0, 0, 1, []⟩ ⟨some ⟨g, 0, none⟩, rc, so, sc⟩) from H6.out.cur)
  go_wp2_with (refine wpList_ld la rfl rfl rfl ?_)
  refine (may_is HM.out w6 H6.out.row HZ.out).mono ?_
  rintro e w7 ⟨rfl, b7⟩
  have L7 : Hid (Below h w w7 ∧ h ≤ w7.heap.size) := Ops.down h H6.out.low b7
  clear b7 H6 la
  go_wp2_with (first | (go_at_call 13; refine (num_any _ _).mono ?_; rintro e v0 ⟨rfl, hw0⟩; have hw1 := hw0.symm; clear hw0; subst hw1) | fail)
  refine (one4_at _).mono ?_
  rintro e w8 ⟨q8, rfl, own8, b8⟩
  have L8 : Hid (Below h w w8 ∧ h ≤ w8.heap.size) := Ops.down h L7.out b8
  have C8 := may_is may_one4 w8 own8.row siz_one4
  clear L7 b8 own8
  go_wp2_with fail
  refine C8.mono ?_
  rintro e w9 ⟨rfl, b9⟩
  have L9 : Hid (Below h w w9 ∧ h ≤ w9.heap.size) := Ops.down h L8.out b9
  clear L8 b9 C8
  go_wp2_with fail
  refine (one4_at _).mono ?_
  rintro e x8 ⟨q9, rfl, own8, b8⟩
  have L8 : Hid (Below h w x8 ∧ h ≤ x8.heap.size) := Ops.down h L9.out b8
  have C8 := may_is may_one4_3 x8 own8.row siz_one4
  clear L9 b8 own8
  go_wp2_with fail
  refine C8.mono ?_
  rintro e x9 ⟨rfl, b9⟩
  have L9 : Hid (Below h w x9 ∧ h ≤ x9.heap.size) := Ops.down h L8.out b9
  clear L8 b9 C8
  go_wp2
  go_ret
  exact ⟨rfl, L9.out.1⟩

end Go.Proofs.Ytjfgccjdkflfoaa.OpForms

