/-
  The walk of the law OpForms: each part of an operation that may not be (arms 6, 12, 13, 4).
-/
import Derived.Test.YtjfgccjdkflfoaaZPack5
namespace Go.Proofs.Ytjfgccjdkflfoaa.OpForms
open Go.RowKit
set_option linter.unusedVariables false
set_option linter.unusedSimpArgs false

set_option maxHeartbeats 4000000 in
set_option maxRecDepth 100000 in
theorem arm_6 (which x : Int) (w : World) (hk : (IntKind.u64.wrap which).tmod 14 = 6) :
    Calls Try.prog 5 #[.int .i64 which, .int .i64 x] w fun e w' => e = .returned (.bool true) ∧ Below w.heap.size w w' := by
  obtain ⟨z, hz, ez⟩ : ∃ z : Nat, z < 64 ∧ bits .and .i64 x 63 = (z : Int) := and_mask x 6 (by omega)
  obtain ⟨h, hh⟩ : ∃ h, w.heap.size = h := ⟨_, rfl⟩
  have HW : Hid (w.heap.size = h) := hh
  rw [hh]
  clear hh
  go_enter Try.func5, Try.ntmps5
  go_wp2_with fail
  refine (awake11_any w).mono ?_
  rintro e w1 ⟨rfl, b1⟩
  have L1 : Hid (Below h w w1 ∧ h ≤ w1.heap.size) := ⟨HW.out ▸ b1, by have := b1.size; have := HW.out; omega⟩
  clear b1
  go_upto_region 4 with fail
  go_wp2_with fail
  refine (one4_at w1).mono ?_
  rintro e w2 ⟨⟨ro, rc, so, sc⟩, rfl, own, b2⟩
  obtain ⟨g, hro, hB, hg, hc⟩ := own.fwn.1 (by decide)
  simp only at hro
  subst hro
  obtain ⟨b, hb⟩ : ∃ b, w2.heap.size = b := ⟨_, rfl⟩
  have H4 : Hid (Fst w h b ⟨1, 3, 9, [4, 2], 4, bT, bi, bf, bv, 0, 0, 0, 1, []⟩ ⟨some ⟨g, 0, none⟩, rc, so, sc⟩ (w2.alloc (.cells (oL ⟨1, 3, 9, [4, 2], 4, bT, bi, bf, bv, 0, 0, 0, 1, []⟩ ⟨some ⟨g, 0, none⟩, rc, so, sc⟩).toArray 29)) ∧ h ≤ g ∧ g < b) := ⟨fs_new (Ops.down h L1.out b2) own hb, by have := L1.out.2; omega, by omega⟩
  have HO : Hid ((w2.alloc (.cells (oL ⟨1, 3, 9, [4, 2], 4, bT, bi, bf, bv, 0, 0, 0, 1, []⟩ ⟨some ⟨g, 0, none⟩, rc, so, sc⟩).toArray 29)).ownsRow w1.heap.size 3 1 (.slice (some ⟨g, 0, none⟩) 2 rc) 2 (flatI [4, 2]) ∧ w1.heap.size ≤ g) := ⟨own_later own.1 (Ops.newer _ _), hB⟩
  have HL1 : Hid (Below h w w1 ∧ h ≤ w1.heap.size) := L1
  clear b2 own hB hg hc L1
  go_upto_region 5 with fail
  generalize hE : w2.alloc (.cells (oL ⟨1, 3, 9, [4, 2], 4, bT, bi, bf, bv, 0, 0, 0, 1, []⟩ ⟨some ⟨g, 0, none⟩, rc, so, sc⟩).toArray 29) = w4 at H4 HO ⊢
  clear hE
  try simp only [hb]
  clear hb
  have t3 := H4.out.1.cur.at 3 rfl
  obtain ⟨⟨t1, y1⟩, _, _⟩ := H4.out.1.rd.at (i := 1) rfl
  go_upto_region 33 with fail
  have H5 : Hid (Fst w h b ⟨1, 3, 9, [4, 2 + (1 + (z : Int))], 4, bT, bi, bf, bv, 0, 0, 0, 1, []⟩ ⟨some ⟨g, 0, none⟩, rc, so, sc⟩ (w4.setCell ⟨g, 1, none⟩ (.int .i64 (2 + (1 + (z : Int)))))) := H4.out.1.dep H4.out.2.1 rfl 1 (2 + (1 + (z : Int))) [4, 2 + (1 + (z : Int))] rfl rfl (by have := H4.out.2.2; omega)
  have HM : Hid (mayO ⟨1, 3, 9, [4, 2 + (1 + (z : Int))], 4, bT, bi, bf, bv, 0, 0, 0, 1, []⟩ 2 = false) := by
    show mayO _ _ = _
    exact no_seq (by show ¬ 2 + (1 + (z : Int)) = 3 - 1; omega)
  have HZ : Hid (Siz ⟨1, 3, 9, [4, 2 + (1 + (z : Int))], 4, bT, bi, bf, bv, 0, 0, 0, 1, []⟩) := siz_small (Nat.le_of_ble_eq_true rfl) (Nat.le_of_ble_eq_true rfl) (Nat.le_of_ble_eq_true rfl) (Nat.le_of_ble_eq_true rfl) (Nat.le_of_ble_eq_true rfl) (Nat.le_of_ble_eq_true rfl)
  clear H4 HO t1 y1 t3 hk
  generalize hE : w4.setCell ⟨g, 1, none⟩ (.int .i64 (2 + (1 + (z : Int)))) = w5 at H5 ⊢
  clear hE
  have la := ld_op (show Has w5 b (oL ⟨1, 3, 9, [4, 2 + (1 + (z : Int))], 4, bT, bi, bf, bv, 0, 0, 0, 1, []⟩ ⟨some ⟨g, 0, none⟩, rc, so, sc⟩) from H5.out.cur)
  go_wp2_with (refine wpList_ld la rfl rfl rfl ?_)
  refine (put_no HM.out w5 H5.out.row HZ.out).mono ?_
  rintro e w6 ⟨rfl, b6⟩
  have H6 : Hid (Fst w h b ⟨1, 3, 9, [4, 2 + (1 + (z : Int))], 4, bT, bi, bf, bv, 0, 0, 0, 1, []⟩ ⟨some ⟨g, 0, none⟩, rc, so, sc⟩ w6) := H5.out.later b6
  clear b6 H5 la
  have hE : (⟨#[]⟩ : ByteArray).toList.isEmpty = true := noS_empty
  go_upto_region 34 with fail
  have la := ld_op (show Has w6 b (oL ⟨1, 3, 9, [4, 2 + (1 + (z : Int))], 4, bT, bi, bf, bv, 0, 0, 0, 1, []⟩ ⟨some ⟨g, 0, none⟩, rc, so, sc⟩) from H6.out.cur)
  go_wp2_with (refine wpList_ld la rfl rfl rfl ?_)
  refine (may_is HM.out w6 H6.out.row HZ.out).mono ?_
  rintro e w7 ⟨rfl, b7⟩
  have L7 : Hid (Below h w w7 ∧ h ≤ w7.heap.size) := Ops.down h H6.out.low b7
  clear b7 H6 la
  go_wp2_with (first | (go_at_call 13; refine (num_any _ _).mono ?_; rintro e v0 ⟨rfl, hw0⟩; have hw1 := hw0.symm; clear hw0; subst hw1) | fail)
  refine (one4_at _).mono ?_
  rintro e w8 ⟨q8, rfl, own8, b8⟩
  have L8 : Hid (Below h w w8 ∧ h ≤ w8.heap.size) := Ops.down h L7.out b8
  have C8 := may_is may_one4 w8 own8.row siz_one4
  clear L7 b8 own8
  go_wp2_with fail
  refine C8.mono ?_
  rintro e w9 ⟨rfl, b9⟩
  have L9 : Hid (Below h w w9 ∧ h ≤ w9.heap.size) := Ops.down h L8.out b9
  clear L8 b9 C8
  go_wp2_with fail
  refine (one4_at _).mono ?_
  rintro e x8 ⟨q9, rfl, own8, b8⟩
  have L8 : Hid (Below h w x8 ∧ h ≤ x8.heap.size) := Ops.down h L9.out b8
  have C8 := may_is may_one4_3 x8 own8.row siz_one4
  clear L9 b8 own8
  go_wp2_with fail
  refine C8.mono ?_
  rintro e x9 ⟨rfl, b9⟩
  have L9 : Hid (Below h w x9 ∧ h ≤ x9.heap.size) := Ops.down h L8.out b9
  clear L8 b9 C8
  go_wp2
  go_ret
  exact ⟨rfl, L9.out.1⟩

set_option maxHeartbeats 4000000 in
set_option maxRecDepth 100000 in
theorem arm_12 (which x : Int) (w : World) (hk : (IntKind.u64.wrap which).tmod 14 = 12) :
    Calls Try.prog 5 #[.int .i64 which, .int .i64 x] w fun e w' => e = .returned (.bool true) ∧ Below w.heap.size w w' := by
  obtain ⟨z, hz, ez⟩ : ∃ z : Nat, z < 64 ∧ bits .and .i64 x 63 = (z : Int) := and_mask x 6 (by omega)
  obtain ⟨h, hh⟩ : ∃ h, w.heap.size = h := ⟨_, rfl⟩
  have HW : Hid (w.heap.size = h) := hh
  rw [hh]
  clear hh
  go_enter Try.func5, Try.ntmps5
  go_wp2_with fail
  refine (awake11_any w).mono ?_
  rintro e w1 ⟨rfl, b1⟩
  have L1 : Hid (Below h w w1 ∧ h ≤ w1.heap.size) := ⟨HW.out ▸ b1, by have := b1.size; have := HW.out; omega⟩
  clear b1
  go_upto_region 4 with fail
  go_wp2_with fail
  refine (one4_at w1).mono ?_
  rintro e w2 ⟨⟨ro, rc, so, sc⟩, rfl, own, b2⟩
  obtain ⟨g, hro, hB, hg, hc⟩ := own.fwn.1 (by decide)
  simp only at hro
  subst hro
  obtain ⟨b, hb⟩ : ∃ b, w2.heap.size = b := ⟨_, rfl⟩
  have H4 : Hid (Fst w h b ⟨1, 3, 9, [4, 2], 4, bT, bi, bf, bv, 0, 0, 0, 1, []⟩ ⟨some ⟨g, 0, none⟩, rc, so, sc⟩ (w2.alloc (.cells (oL ⟨1, 3, 9, [4, 2], 4, bT, bi, bf, bv, 0, 0, 0, 1, []⟩ ⟨some ⟨g, 0, none⟩, rc, so, sc⟩).toArray 29)) ∧ h ≤ g ∧ g < b) := ⟨fs_new (Ops.down h L1.out b2) own hb, by have := L1.out.2; omega, by omega⟩
  have HO : Hid ((w2.alloc (.cells (oL ⟨1, 3, 9, [4, 2], 4, bT, bi, bf, bv, 0, 0, 0, 1, []⟩ ⟨some ⟨g, 0, none⟩, rc, so, sc⟩).toArray 29)).ownsRow w1.heap.size 3 1 (.slice (some ⟨g, 0, none⟩) 2 rc) 2 (flatI [4, 2]) ∧ w1.heap.size ≤ g) := ⟨own_later own.1 (Ops.newer _ _), hB⟩
  have HL1 : Hid (Below h w w1 ∧ h ≤ w1.heap.size) := L1
  clear b2 own hB hg hc L1
  go_upto_region 5 with fail
  generalize hE : w2.alloc (.cells (oL ⟨1, 3, 9, [4, 2], 4, bT, bi, bf, bv, 0, 0, 0, 1, []⟩ ⟨some ⟨g, 0, none⟩, rc, so, sc⟩).toArray 29) = w4 at H4 HO ⊢
  clear hE
  try simp only [hb]
  clear hb
  obtain ⟨i0, hi0, hz0, hz1, hz2⟩ := info_parts Try.infoByte
  obtain ⟨n2, hn2⟩ : ∃ n2 : Nat, n2 = 256 + (1 + z) := ⟨_, rfl⟩
  obtain ⟨Y, hY⟩ : ∃ Y : ByteArray, Y = ⟨(List.replicate n2 (0 : UInt8)).toArray⟩ := ⟨_, rfl⟩
  have hYs : Y.size = n2 := by rw [← size_list, hY]; simp
  have HY : Hid (Y = ⟨(List.replicate n2 (0 : UInt8)).toArray⟩ ∧ Y.size = n2 ∧ n2 = 256 + (1 + z)) := ⟨hY, hYs, hn2⟩
  clear hY hYs hn2
  go_upto_region 33 with (at_make; (refine wpList_make_full _ rfl _ _ 50 rfl w4.heap.size 5 i0 (.int .u8 0) 1 Try.underlying50 hi0 hz0 hz1 .i64 .i64 (256 + (1 + (z : Int))) (256 + (1 + (z : Int))) n2 rfl rfl ?c1 ?c2 ?c3 ?c4 (Nat.le_refl _) ?_; (case c1 => have := HY.out.2.2; omega); (case c2 => have := HY.out.2.2; omega); (case c3 => rw [hz2]; have := HY.out.2.2; omega); (case c4 => unfold maxLen; have := HY.out.2.2; omega); intro w6 hown hgrow; have hstr := zeros_string hown; rw [← HY.out.1] at hstr; have BB : Hid (Fst w h b ⟨1, 3, 9, [4, 2], 4, bT, bi, bf, bv, 0, 0, 0, 1, []⟩ ⟨some ⟨g, 0, none⟩, rc, so, sc⟩ w6) := H4.out.1.later ((Below.refl _ _).grown hgrow (Nat.le_refl _) (by simp)); clear hown hgrow; have y3 := BB.out.cur.at 6 rfl; have f3 := BB.out.cur.free 6 rfl))
  have H5 : Hid (Fst w h b ⟨1, 3, 9, [4, 2], 4, bT, Y, bf, bv, 0, 0, 0, 1, []⟩ ⟨some ⟨g, 0, none⟩, rc, so, sc⟩ (w6.setCell ⟨b, 6, none⟩ (.string Y))) := BB.out.set 6 (.string Y) ⟨1, 3, 9, [4, 2], 4, bT, Y, bf, bv, 0, 0, 0, 1, []⟩ rfl rfl rfl
  have HM : Hid (mayO ⟨1, 3, 9, [4, 2], 4, bT, Y, bf, bv, 0, 0, 0, 1, []⟩ 2 = false) := by
    show mayO _ _ = _
    exact no_where (by unfold whereB; simp only [Bool.and_eq_false_iff]; right; exact decide_eq_false (by have := HY.out.2; omega))
  have HZ : Hid (Siz ⟨1, 3, 9, [4, 2], 4, bT, Y, bf, bv, 0, 0, 0, 1, []⟩) := siz_small (Nat.le_of_ble_eq_true rfl) (Nat.le_of_ble_eq_true rfl) (Nat.le_of_ble_eq_true rfl) (by have := HY.out.2; show Y.size ≤ 1000; omega) (Nat.le_of_ble_eq_true rfl) (Nat.le_of_ble_eq_true rfl)
  clear H4 HO BB y3 f3 hstr hk
  generalize hE : w6.setCell ⟨b, 6, none⟩ (.string Y) = w5 at H5 ⊢
  clear hE
  have la := ld_op (show Has w5 b (oL ⟨1, 3, 9, [4, 2], 4, bT, Y, bf, bv, 0, 0, 0, 1, []⟩ ⟨some ⟨g, 0, none⟩, rc, so, sc⟩) from H5.out.cur)
  go_wp2_with (refine wpList_ld la rfl rfl rfl ?_)
  refine (put_no HM.out w5 H5.out.row HZ.out).mono ?_
  rintro e w6 ⟨rfl, b6⟩
  have H6 : Hid (Fst w h b ⟨1, 3, 9, [4, 2], 4, bT, Y, bf, bv, 0, 0, 0, 1, []⟩ ⟨some ⟨g, 0, none⟩, rc, so, sc⟩ w6) := H5.out.later b6
  clear b6 H5 la
  have hE : (⟨#[]⟩ : ByteArray).toList.isEmpty = true := noS_empty
  go_upto_region 34 with fail
  have la := ld_op (show Has w6 b (oL ⟨1, 3, 9, [4, 2], 4, bT, Y, bf, bv, 0, 0, 0, 1, []⟩ ⟨some ⟨g, 0, none⟩, rc, so, sc⟩) from H6.out.cur)
  go_wp2_with (refine wpList_ld la rfl rfl rfl ?_)
  refine (may_is HM.out w6 H6.out.row HZ.out).mono ?_
  rintro e w7 ⟨rfl, b7⟩
  have L7 : Hid (Below h w w7 ∧ h ≤ w7.heap.size) := Ops.down h H6.out.low b7
  clear b7 H6 la
  go_wp2_with (first | (go_at_call 13; refine (num_any _ _).mono ?_; rintro e v0 ⟨rfl, hw0⟩; have hw1 := hw0.symm; clear hw0; subst hw1) | fail)
  refine (one4_at _).mono ?_
  rintro e w8 ⟨q8, rfl, own8, b8⟩
  have L8 : Hid (Below h w w8 ∧ h ≤ w8.heap.size) := Ops.down h L7.out b8
  have C8 := may_is may_one4 w8 own8.row siz_one4
  clear L7 b8 own8
  go_wp2_with fail
  refine C8.mono ?_
  rintro e w9 ⟨rfl, b9⟩
  have L9 : Hid (Below h w w9 ∧ h ≤ w9.heap.size) := Ops.down h L8.out b9
  clear L8 b9 C8
  go_wp2_with fail
  refine (one4_at _).mono ?_
  rintro e x8 ⟨q9, rfl, own8, b8⟩
  have L8 : Hid (Below h w x8 ∧ h ≤ x8.heap.size) := Ops.down h L9.out b8
  have C8 := may_is may_one4_3 x8 own8.row siz_one4
  clear L9 b8 own8
  go_wp2_with fail
  refine C8.mono ?_
  rintro e x9 ⟨rfl, b9⟩
  have L9 : Hid (Below h w x9 ∧ h ≤ x9.heap.size) := Ops.down h L8.out b9
  clear L8 b9 C8
  go_wp2
  go_ret
  exact ⟨rfl, L9.out.1⟩

set_option maxHeartbeats 4000000 in
set_option maxRecDepth 100000 in
theorem arm_13 (which x : Int) (w : World) (hk : (IntKind.u64.wrap which).tmod 14 = 13) :
    Calls Try.prog 5 #[.int .i64 which, .int .i64 x] w fun e w' => e = .returned (.bool true) ∧ Below w.heap.size w w' := by
  obtain ⟨z, hz, ez⟩ : ∃ z : Nat, z < 64 ∧ bits .and .i64 x 63 = (z : Int) := and_mask x 6 (by omega)
  obtain ⟨h, hh⟩ : ∃ h, w.heap.size = h := ⟨_, rfl⟩
  have HW : Hid (w.heap.size = h) := hh
  rw [hh]
  clear hh
  go_enter Try.func5, Try.ntmps5
  go_wp2_with fail
  refine (awake11_any w).mono ?_
  rintro e w1 ⟨rfl, b1⟩
  have L1 : Hid (Below h w w1 ∧ h ≤ w1.heap.size) := ⟨HW.out ▸ b1, by have := b1.size; have := HW.out; omega⟩
  clear b1
  go_upto_region 4 with fail
  go_wp2_with fail
  refine (one4_at w1).mono ?_
  rintro e w2 ⟨⟨ro, rc, so, sc⟩, rfl, own, b2⟩
  obtain ⟨g, hro, hB, hg, hc⟩ := own.fwn.1 (by decide)
  simp only at hro
  subst hro
  obtain ⟨b, hb⟩ : ∃ b, w2.heap.size = b := ⟨_, rfl⟩
  have H4 : Hid (Fst w h b ⟨1, 3, 9, [4, 2], 4, bT, bi, bf, bv, 0, 0, 0, 1, []⟩ ⟨some ⟨g, 0, none⟩, rc, so, sc⟩ (w2.alloc (.cells (oL ⟨1, 3, 9, [4, 2], 4, bT, bi, bf, bv, 0, 0, 0, 1, []⟩ ⟨some ⟨g, 0, none⟩, rc, so, sc⟩).toArray 29)) ∧ h ≤ g ∧ g < b) := ⟨fs_new (Ops.down h L1.out b2) own hb, by have := L1.out.2; omega, by omega⟩
  have HO : Hid ((w2.alloc (.cells (oL ⟨1, 3, 9, [4, 2], 4, bT, bi, bf, bv, 0, 0, 0, 1, []⟩ ⟨some ⟨g, 0, none⟩, rc, so, sc⟩).toArray 29)).ownsRow w1.heap.size 3 1 (.slice (some ⟨g, 0, none⟩) 2 rc) 2 (flatI [4, 2]) ∧ w1.heap.size ≤ g) := ⟨own_later own.1 (Ops.newer _ _), hB⟩
  have HL1 : Hid (Below h w w1 ∧ h ≤ w1.heap.size) := L1
  clear b2 own hB hg hc L1
  go_upto_region 5 with fail
  generalize hE : w2.alloc (.cells (oL ⟨1, 3, 9, [4, 2], 4, bT, bi, bf, bv, 0, 0, 0, 1, []⟩ ⟨some ⟨g, 0, none⟩, rc, so, sc⟩).toArray 29) = w4 at H4 HO ⊢
  clear hE
  try simp only [hb]
  clear hb
  obtain ⟨i0, hi0, hz0, hz1, hz2⟩ := info_parts Try.infoByte
  obtain ⟨n2, hn2⟩ : ∃ n2 : Nat, n2 = 256 + (1 + z) := ⟨_, rfl⟩
  obtain ⟨Y, hY⟩ : ∃ Y : ByteArray, Y = ⟨(List.replicate n2 (0 : UInt8)).toArray⟩ := ⟨_, rfl⟩
  have hYs : Y.size = n2 := by rw [← size_list, hY]; simp
  have HY : Hid (Y = ⟨(List.replicate n2 (0 : UInt8)).toArray⟩ ∧ Y.size = n2 ∧ n2 = 256 + (1 + z)) := ⟨hY, hYs, hn2⟩
  clear hY hYs hn2
  go_upto_region 33 with (at_make; (refine wpList_make_full _ rfl _ _ 50 rfl w4.heap.size 5 i0 (.int .u8 0) 1 Try.underlying50 hi0 hz0 hz1 .i64 .i64 (256 + (1 + (z : Int))) (256 + (1 + (z : Int))) n2 rfl rfl ?c1 ?c2 ?c3 ?c4 (Nat.le_refl _) ?_; (case c1 => have := HY.out.2.2; omega); (case c2 => have := HY.out.2.2; omega); (case c3 => rw [hz2]; have := HY.out.2.2; omega); (case c4 => unfold maxLen; have := HY.out.2.2; omega); intro w6 hown hgrow; have hstr := zeros_string hown; rw [← HY.out.1] at hstr; have BB : Hid (Fst w h b ⟨1, 3, 9, [4, 2], 4, bT, bi, bf, bv, 0, 0, 0, 1, []⟩ ⟨some ⟨g, 0, none⟩, rc, so, sc⟩ w6) := H4.out.1.later ((Below.refl _ _).grown hgrow (Nat.le_refl _) (by simp)); clear hown hgrow; have y3 := BB.out.cur.at 8 rfl; have f3 := BB.out.cur.free 8 rfl))
  have H5 : Hid (Fst w h b ⟨1, 3, 9, [4, 2], 4, bT, bi, bf, Y, 0, 0, 0, 1, []⟩ ⟨some ⟨g, 0, none⟩, rc, so, sc⟩ (w6.setCell ⟨b, 8, none⟩ (.string Y))) := BB.out.set 8 (.string Y) ⟨1, 3, 9, [4, 2], 4, bT, bi, bf, Y, 0, 0, 0, 1, []⟩ rfl rfl rfl
  have HM : Hid (mayO ⟨1, 3, 9, [4, 2], 4, bT, bi, bf, Y, 0, 0, 0, 1, []⟩ 2 = false) := by
    show mayO _ _ = _
    exact no_what (by unfold whatB; simp only [Bool.and_eq_false_iff]; left; exact decide_eq_false (by have := HY.out.2; show ¬ Y.size ≤ 256; omega))
  have HZ : Hid (Siz ⟨1, 3, 9, [4, 2], 4, bT, bi, bf, Y, 0, 0, 0, 1, []⟩) := siz_small (Nat.le_of_ble_eq_true rfl) (Nat.le_of_ble_eq_true rfl) (Nat.le_of_ble_eq_true rfl) (Nat.le_of_ble_eq_true rfl) (Nat.le_of_ble_eq_true rfl) (by have := HY.out.2; show Y.size ≤ 1000; omega)
  clear H4 HO BB y3 f3 hstr hk
  generalize hE : w6.setCell ⟨b, 8, none⟩ (.string Y) = w5 at H5 ⊢
  clear hE
  have la := ld_op (show Has w5 b (oL ⟨1, 3, 9, [4, 2], 4, bT, bi, bf, Y, 0, 0, 0, 1, []⟩ ⟨some ⟨g, 0, none⟩, rc, so, sc⟩) from H5.out.cur)
  go_wp2_with (refine wpList_ld la rfl rfl rfl ?_)
  refine (put_no HM.out w5 H5.out.row HZ.out).mono ?_
  rintro e w6 ⟨rfl, b6⟩
  have H6 : Hid (Fst w h b ⟨1, 3, 9, [4, 2], 4, bT, bi, bf, Y, 0, 0, 0, 1, []⟩ ⟨some ⟨g, 0, none⟩, rc, so, sc⟩ w6) := H5.out.later b6
  clear b6 H5 la
  have hE : (⟨#[]⟩ : ByteArray).toList.isEmpty = true := noS_empty
  go_upto_region 34 with fail
  have la := ld_op (show Has w6 b (oL ⟨1, 3, 9, [4, 2], 4, bT, bi, bf, Y, 0, 0, 0, 1, []⟩ ⟨some ⟨g, 0, none⟩, rc, so, sc⟩) from H6.out.cur)
  go_wp2_with (refine wpList_ld la rfl rfl rfl ?_)
  refine (may_is HM.out w6 H6.out.row HZ.out).mono ?_
  rintro e w7 ⟨rfl, b7⟩
  have L7 : Hid (Below h w w7 ∧ h ≤ w7.heap.size) := Ops.down h H6.out.low b7
  clear b7 H6 la
  go_wp2_with (first | (go_at_call 13; refine (num_any _ _).mono ?_; rintro e v0 ⟨rfl, hw0⟩; have hw1 := hw0.symm; clear hw0; subst hw1) | fail)
  refine (one4_at _).mono ?_
  rintro e w8 ⟨q8, rfl, own8, b8⟩
  have L8 : Hid (Below h w w8 ∧ h ≤ w8.heap.size) := Ops.down h L7.out b8
  have C8 := may_is may_one4 w8 own8.row siz_one4
  clear L7 b8 own8
  go_wp2_with fail
  refine C8.mono ?_
  rintro e w9 ⟨rfl, b9⟩
  have L9 : Hid (Below h w w9 ∧ h ≤ w9.heap.size) := Ops.down h L8.out b9
  clear L8 b9 C8
  go_wp2_with fail
  refine (one4_at _).mono ?_
  rintro e x8 ⟨q9, rfl, own8, b8⟩
  have L8 : Hid (Below h w x8 ∧ h ≤ x8.heap.size) := Ops.down h L9.out b8
  have C8 := may_is may_one4_3 x8 own8.row siz_one4
  clear L9 b8 own8
  go_wp2_with fail
  refine C8.mono ?_
  rintro e x9 ⟨rfl, b9⟩
  have L9 : Hid (Below h w x9 ∧ h ≤ x9.heap.size) := Ops.down h L8.out b9
  clear L8 b9 C8
  go_wp2
  go_ret
  exact ⟨rfl, L9.out.1⟩

set_option maxHeartbeats 4000000 in
set_option maxRecDepth 100000 in
theorem arm_4 (which x : Int) (w : World) (hk : (IntKind.u64.wrap which).tmod 14 = 4) :
    Calls Try.prog 5 #[.int .i64 which, .int .i64 x] w fun e w' => e = .returned (.bool true) ∧ Below w.heap.size w w' := by
  obtain ⟨z, hz, ez⟩ : ∃ z : Nat, z < 64 ∧ bits .and .i64 x 63 = (z : Int) := and_mask x 6 (by omega)
  obtain ⟨h, hh⟩ : ∃ h, w.heap.size = h := ⟨_, rfl⟩
  have HW : Hid (w.heap.size = h) := hh
  rw [hh]
  clear hh
  go_enter Try.func5, Try.ntmps5
  go_wp2_with fail
  refine (awake11_any w).mono ?_
  rintro e w1 ⟨rfl, b1⟩
  have L1 : Hid (Below h w w1 ∧ h ≤ w1.heap.size) := ⟨HW.out ▸ b1, by have := b1.size; have := HW.out; omega⟩
  clear b1
  go_upto_region 4 with fail
  go_wp2_with fail
  refine (one4_at w1).mono ?_
  rintro e w2 ⟨⟨ro, rc, so, sc⟩, rfl, own, b2⟩
  obtain ⟨g, hro, hB, hg, hc⟩ := own.fwn.1 (by decide)
  simp only at hro
  subst hro
  obtain ⟨b, hb⟩ : ∃ b, w2.heap.size = b := ⟨_, rfl⟩
  have H4 : Hid (Fst w h b ⟨1, 3, 9, [4, 2], 4, bT, bi, bf, bv, 0, 0, 0, 1, []⟩ ⟨some ⟨g, 0, none⟩, rc, so, sc⟩ (w2.alloc (.cells (oL ⟨1, 3, 9, [4, 2], 4, bT, bi, bf, bv, 0, 0, 0, 1, []⟩ ⟨some ⟨g, 0, none⟩, rc, so, sc⟩).toArray 29)) ∧ h ≤ g ∧ g < b) := ⟨fs_new (Ops.down h L1.out b2) own hb, by have := L1.out.2; omega, by omega⟩
  have HO : Hid ((w2.alloc (.cells (oL ⟨1, 3, 9, [4, 2], 4, bT, bi, bf, bv, 0, 0, 0, 1, []⟩ ⟨some ⟨g, 0, none⟩, rc, so, sc⟩).toArray 29)).ownsRow w1.heap.size 3 1 (.slice (some ⟨g, 0, none⟩) 2 rc) 2 (flatI [4, 2]) ∧ w1.heap.size ≤ g) := ⟨own_later own.1 (Ops.newer _ _), hB⟩
  have HL1 : Hid (Below h w w1 ∧ h ≤ w1.heap.size) := L1
  clear b2 own hB hg hc L1
  go_upto_region 5 with fail
  generalize hE : w2.alloc (.cells (oL ⟨1, 3, 9, [4, 2], 4, bT, bi, bf, bv, 0, 0, 0, 1, []⟩ ⟨some ⟨g, 0, none⟩, rc, so, sc⟩).toArray 29) = w4 at H4 HO ⊢
  clear hE
  try simp only [hb]
  clear hb
  have t3 := H4.out.1.cur.at 3 rfl
  obtain ⟨n4, hn4⟩ : ∃ n, w4.heap.size = n := ⟨_, rfl⟩
  have HN4 : Hid (w4.heap.size = n4) := hn4
  have hbn : b < n4 := by rw [← hn4]; exact H4.out.1.cur.1
  have R : Hid (FRow (w4.alloc (.cells #[.int .i64 0] 3)) (some ⟨n4, 0, none⟩) [.int .i64 0]) := frow_newAt hn4 [.int .i64 0] _
  have O2 : Hid ((w4.alloc (.cells #[.int .i64 0] 3)).ownsRow w1.heap.size 3 1 (.slice (some ⟨g, 0, none⟩) 2 rc) 2 (flatI [4, 2]) ∧ Has (w4.alloc (.cells #[.int .i64 0] 3)) b (oL ⟨1, 3, 9, [4, 2], 4, bT, bi, bf, bv, 0, 0, 0, 1, []⟩ ⟨some ⟨g, 0, none⟩, rc, so, sc⟩) ∧ w1.heap.size ≤ (w4.alloc (.cells #[.int .i64 0] 3)).heap.size) := ⟨own_later HO.out.1 (Ops.newer _ _), H4.out.1.cur.later (Ops.newer _ _), by have := HO.out.2; have := H4.out.2.2; have := H4.out.1.cur.1; simp; omega⟩
  go_upto_region 33 with (at_builtin; refine wpList_ontoG rfl _ _ 24 rfl Try.underlying24 Try.infoInt rfl (by decide) (by decide) (B := w1.heap.size) rfl rfl O2.out.1 R.out rfl (fun u hu => by simp only [List.mem_singleton] at hu; subst hu; rfl) (by decide) O2.out.2.2 ?_; intro bo2 bc2 w3 o3 _ bb3 gb3 nb3; have C3 : Hid (Has w3 b (oL ⟨1, 3, 9, [4, 2], 4, bT, bi, bf, bv, 0, 0, 0, 1, []⟩ ⟨some ⟨g, 0, none⟩, rc, so, sc⟩) ∧ w3.ownsRow w1.heap.size 3 1 (.slice bo2 3 bc2) 3 (flatI [4, 2, 0]) ∧ Below w1.heap.size (w4.alloc (.cells #[.int .i64 0] 3)) w3 ∧ (w4.alloc (.cells #[.int .i64 0] 3)).heap.size ≤ w3.heap.size ∧ ∀ b', bo2 = some ⟨b', 0, none⟩ → b' ≠ b) := ⟨has_gb O2.out.2.1 gb3 (by simp [Value.ownBlock]; have := H4.out.2.2; omega), o3, bb3, gb3.size, fun b' e' => by have h8 := nb3 b' e'; have h9 := H4.out.2.2; have h10 := HN4.out; simp [Value.ownBlock] at h8; omega⟩; clear o3 bb3 gb3 nb3; have t1 := C3.out.1.at 3 rfl; have y1 := C3.out.1.free 3 rfl)
  have H5 : Hid (Fsr w h b ⟨1, 3, 9, [4, 2, 0], 4, bT, bi, bf, bv, 0, 0, 0, 1, []⟩ ⟨bo2, bc2, so, sc⟩ (w3.setCell ⟨b, 3, none⟩ (.slice bo2 3 bc2))) := by
    obtain ⟨x1, x2, x3, x4, x5⟩ := C3.out
    have hz : w1.heap.size ≤ w4.heap.size := by have := HO.out.2; have := H4.out.2.2; have := H4.out.1.cur.1; omega
    have hlow := H4.out.1.low
    have h1 : h ≤ w1.heap.size := HL1.out.2
    refine ⟨⟨((hlow.1.trans ((Ops.newer w4 _).mono hlow.2)).trans (x3.mono h1)).setCell (p := ⟨b, 3, none⟩) H4.out.1.hb _, by have := hlow.2; simp at x4 ⊢; omega⟩, x1.put 3 _, ?_⟩
    exact ⟨(own_row (own_ne x2 (ownb x2 x5) 3 _)).row, FRow.nil _ _⟩
  have HM : Hid (mayO ⟨1, 3, 9, [4, 2, 0], 4, bT, bi, bf, bv, 0, 0, 0, 1, []⟩ 2 = false) := by
    show mayO _ _ = _
    exact no_vec (by decide)
  have HZ : Hid (Siz ⟨1, 3, 9, [4, 2, 0], 4, bT, bi, bf, bv, 0, 0, 0, 1, []⟩) := siz_small (Nat.le_of_ble_eq_true rfl) (Nat.le_of_ble_eq_true rfl) (Nat.le_of_ble_eq_true rfl) (Nat.le_of_ble_eq_true rfl) (Nat.le_of_ble_eq_true rfl) (Nat.le_of_ble_eq_true rfl)
  clear H4 HO t1 y1 t3 hk R O2 C3 hn4 HN4 hbn
  generalize hE : w3.setCell ⟨b, 3, none⟩ (.slice bo2 3 bc2) = w5 at H5 ⊢
  clear hE
  have la := ld_op (show Has w5 b (oL ⟨1, 3, 9, [4, 2, 0], 4, bT, bi, bf, bv, 0, 0, 0, 1, []⟩ ⟨bo2, bc2, so, sc⟩) from H5.out.cur)
  go_wp2_with (refine wpList_ld la rfl rfl rfl ?_)
  refine (put_no HM.out w5 H5.out.row HZ.out).mono ?_
  rintro e w6 ⟨rfl, b6⟩
  have H6 : Hid (Fsr w h b ⟨1, 3, 9, [4, 2, 0], 4, bT, bi, bf, bv, 0, 0, 0, 1, []⟩ ⟨bo2, bc2, so, sc⟩ w6) := H5.out.later b6
  clear b6 H5 la
  have hE : (⟨#[]⟩ : ByteArray).toList.isEmpty = true := noS_empty
  go_upto_region 34 with fail
  have la := ld_op (show Has w6 b (oL ⟨1, 3, 9, [4, 2, 0], 4, bT, bi, bf, bv, 0, 0, 0, 1, []⟩ ⟨bo2, bc2, so, sc⟩) from H6.out.cur)
  go_wp2_with (refine wpList_ld la rfl rfl rfl ?_)
  refine (may_is HM.out w6 H6.out.row HZ.out).mono ?_
  rintro e w7 ⟨rfl, b7⟩
  have L7 : Hid (Below h w w7 ∧ h ≤ w7.heap.size) := Ops.down h H6.out.low b7
  clear b7 H6 la
  go_wp2_with (first | (go_at_call 13; refine (num_any _ _).mono ?_; rintro e v0 ⟨rfl, hw0⟩; have hw1 := hw0.symm; clear hw0; subst hw1) | fail)
  refine (one4_at _).mono ?_
  rintro e w8 ⟨q8, rfl, own8, b8⟩
  have L8 : Hid (Below h w w8 ∧ h ≤ w8.heap.size) := Ops.down h L7.out b8
  have C8 := may_is may_one4 w8 own8.row siz_one4
  clear L7 b8 own8
  go_wp2_with fail
  refine C8.mono ?_
  rintro e w9 ⟨rfl, b9⟩
  have L9 : Hid (Below h w w9 ∧ h ≤ w9.heap.size) := Ops.down h L8.out b9
  clear L8 b9 C8
  go_wp2_with fail
  refine (one4_at _).mono ?_
  rintro e x8 ⟨q9, rfl, own8, b8⟩
  have L8 : Hid (Below h w x8 ∧ h ≤ x8.heap.size) := Ops.down h L9.out b8
  have C8 := may_is may_one4_3 x8 own8.row siz_one4
  clear L9 b8 own8
  go_wp2_with fail
  refine C8.mono ?_
  rintro e x9 ⟨rfl, b9⟩
  have L9 : Hid (Below h w x9 ∧ h ≤ x9.heap.size) := Ops.down h L8.out b9
  clear L8 b9 C8
  go_wp2
  go_ret
  exact ⟨rfl, L9.out.1⟩

end Go.Proofs.Ytjfgccjdkflfoaa.OpForms

