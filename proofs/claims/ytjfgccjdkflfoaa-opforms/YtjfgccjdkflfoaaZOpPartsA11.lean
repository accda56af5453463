/-
  The walk of the law OpParts: parts that a kind does not name, or that may not be so (arms 0, 1, 2, 3).
-/
import Derived.Test.YtjfgccjdkflfoaaZPack5
namespace Go.Proofs.Ytjfgccjdkflfoaa.OpParts
open Go.RowKit
set_option linter.unusedVariables false
set_option linter.unusedSimpArgs false

set_option maxHeartbeats 4000000 in
set_option maxRecDepth 100000 in
theorem arm_0 (which x : Int) (w : World) (hk : wrap64 ((IntKind.u64.wrap which).tmod 12) = 0) :
    Calls Try.prog 7 #[.int .i64 which, .int .i64 x] w fun e w' => e = .returned (.bool true) ∧ Below w.heap.size w w' := by
  obtain ⟨z, hz, ez⟩ : ∃ z : Nat, z < 64 ∧ bits .and .i64 x 63 = (z : Int) := and_mask x 6 (by omega)
  obtain ⟨h, hh⟩ : ∃ h, w.heap.size = h := ⟨_, rfl⟩
  have HW : Hid (w.heap.size = h) := hh
  rw [hh]
  clear hh
  go_enter Try.func7, Try.ntmps7
  go_wp2_with fail
  refine (awake11_any w).mono ?_
  rintro e w1 ⟨rfl, b1⟩
  have L1 : Hid (Below h w w1 ∧ h ≤ w1.heap.size) := ⟨HW.out ▸ b1, by have := b1.size; have := HW.out; omega⟩
  clear b1
  obtain ⟨kb, hkb⟩ : ∃ k, w1.heap.size = k := ⟨_, rfl⟩
  have L2 : Hid ((Below h w (w1.alloc (.cells #[.int .i64 4, .int .i64 4, .int .i64 4, .int .i64 5, .int .i64 5, .int .i64 1, .int .i64 3, .int .i64 3, .int .i64 0, .int .i64 3, .int .i64 3, .int .i64 2] 3)) ∧ h ≤ (w1.alloc (.cells #[.int .i64 4, .int .i64 4, .int .i64 4, .int .i64 5, .int .i64 5, .int .i64 1, .int .i64 3, .int .i64 3, .int .i64 0, .int .i64 3, .int .i64 3, .int .i64 2] 3)).heap.size) ∧ Has (w1.alloc (.cells #[.int .i64 4, .int .i64 4, .int .i64 4, .int .i64 5, .int .i64 5, .int .i64 1, .int .i64 3, .int .i64 3, .int .i64 0, .int .i64 3, .int .i64 3, .int .i64 2] 3)) kb [.int .i64 4, .int .i64 4, .int .i64 4, .int .i64 5, .int .i64 5, .int .i64 1, .int .i64 3, .int .i64 3, .int .i64 0, .int .i64 3, .int .i64 3, .int .i64 2]) := ⟨Ops.down h L1.out (Ops.newer _ _), hkb ▸ has_new w1 [.int .i64 4, .int .i64 4, .int .i64 4, .int .i64 5, .int .i64 5, .int .i64 1, .int .i64 3, .int .i64 3, .int .i64 0, .int .i64 3, .int .i64 3, .int .i64 2] _⟩
  clear L1
  go_upto_region 6 with fail
  generalize hE : w1.alloc (.cells #[.int .i64 4, .int .i64 4, .int .i64 4, .int .i64 5, .int .i64 5, .int .i64 1, .int .i64 3, .int .i64 3, .int .i64 0, .int .i64 3, .int .i64 3, .int .i64 2] 3) = w2 at L2 ⊢
  clear hE
  try simp only [hkb, hk]
  clear hkb hk
  have tk := L2.out.2.at 0 rfl
  go_wp2_with fail
  refine (one4_at w2).mono ?_
  rintro e w3 ⟨⟨po, pc, so, sc⟩, rfl, own, b3⟩
  obtain ⟨b, hb⟩ : ∃ b, w3.heap.size = b := ⟨_, rfl⟩
  have H4 : Hid (Fst w h b ⟨1, 3, 9, [4, 2], 4, bT, bi, bf, bv, 0, 0, 0, 1, []⟩ ⟨po, pc, so, sc⟩ (w3.alloc (.cells (oL ⟨1, 3, 9, [4, 2], 4, bT, bi, bf, bv, 0, 0, 0, 1, []⟩ ⟨po, pc, so, sc⟩).toArray 29))) := fs_new (Ops.down h L2.out.1 b3) own hb
  clear b3 own L2 tk
  go_upto_region 7 with fail
  generalize hE : w3.alloc (.cells (oL ⟨1, 3, 9, [4, 2], 4, bT, bi, bf, bv, 0, 0, 0, 1, []⟩ ⟨po, pc, so, sc⟩).toArray 29) = w4 at H4 ⊢
  clear hE
  try simp only [hb]
  clear hb
  have la := ld_op (show Has w4 b (oL ⟨1, 3, 9, [4, 2], 4, bT, bi, bf, bv, 0, 0, 0, 1, []⟩ ⟨po, pc, so, sc⟩) from H4.out.cur)
  go_wp2_with (refine wpList_ld la rfl rfl rfl ?_)
  refine (may_is may_one4 w4 H4.out.row siz_one4).mono ?_
  rintro e w5 ⟨rfl, b5⟩
  have H5 : Hid (Fst w h b ⟨1, 3, 9, [4, 2], 4, bT, bi, bf, bv, 0, 0, 0, 1, []⟩ ⟨po, pc, so, sc⟩ w5) := H4.out.later b5
  clear b5 H4 la
  have t9 := H5.out.cur.at 9 rfl
  have y9 := H5.out.cur.free 9 rfl
  go_upto_region 32 with fail
  have H6 : Hid (Fst w h b ⟨1, 3, 9, [4, 2], 4, bT, bi, bf, bv, (1 + (z : Int)), 0, 0, 1, []⟩ ⟨po, pc, so, sc⟩ (World.setCell w5 (⟨b, 9, none⟩ : Addr) (.int .i64 (1 + (z : Int))))) := (Fst.set (o' := ⟨1, 3, 9, [4, 2], 4, bT, bi, bf, bv, (1 + (z : Int)), 0, 0, 1, []⟩) H5.out 9 (.int .i64 (1 + (z : Int))) rfl rfl rfl)
  clear H5 t9 y9
  have HM : Hid (mayO ⟨1, 3, 9, [4, 2], 4, bT, bi, bf, bv, (1 + (z : Int)), 0, 0, 1, []⟩ 2 = false) := by
    show mayO _ _ = _
    exact no_what (no_k4 rfl (by simp only [numZ]; rw [decide_eq_false (by omega)]; rfl))
  have HZ : Hid (Siz ⟨1, 3, 9, [4, 2], 4, bT, bi, bf, bv, (1 + (z : Int)), 0, 0, 1, []⟩) := siz_small (Nat.le_of_ble_eq_true rfl) (Nat.le_of_ble_eq_true rfl) (Nat.le_of_ble_eq_true rfl) (Nat.le_of_ble_eq_true rfl) (Nat.le_of_ble_eq_true rfl) (Nat.le_of_ble_eq_true rfl)
  generalize hE : (World.setCell w5 (⟨b, 9, none⟩ : Addr) (.int .i64 (1 + (z : Int)))) = w6 at H6 ⊢
  clear hE
  have la := ld_op (show Has w6 b (oL ⟨1, 3, 9, [4, 2], 4, bT, bi, bf, bv, (1 + (z : Int)), 0, 0, 1, []⟩ ⟨po, pc, so, sc⟩) from H6.out.cur)
  have hE : (⟨#[]⟩ : ByteArray).toList.isEmpty = true := noS_empty
  go_wp2_with (refine wpList_ld la rfl rfl rfl ?_)
  refine (put_no HM.out w6 H6.out.row HZ.out).mono ?_
  rintro e w7 ⟨rfl, b7⟩
  have H7 : Hid (Fst w h b ⟨1, 3, 9, [4, 2], 4, bT, bi, bf, bv, (1 + (z : Int)), 0, 0, 1, []⟩ ⟨po, pc, so, sc⟩ w7) := H6.out.later b7
  clear b7 H6 la
  go_upto_region 33 with fail
  have la := ld_op (show Has w7 b (oL ⟨1, 3, 9, [4, 2], 4, bT, bi, bf, bv, (1 + (z : Int)), 0, 0, 1, []⟩ ⟨po, pc, so, sc⟩) from H7.out.cur)
  go_wp2_with (refine wpList_ld la rfl rfl rfl ?_)
  refine (may_is HM.out w7 H7.out.row HZ.out).mono ?_
  rintro e w8 ⟨rfl, b8⟩
  have L8 : Hid (Below h w w8) := (Ops.down h H7.out.low b8).1
  clear b8 H7 la
  go_wp2_with (first | (go_at_call 13; refine (num_any _ _).mono ?_; rintro e v0 ⟨rfl, hw0⟩; have hw1 := hw0.symm; clear hw0; subst hw1) | fail)
  go_ret
  exact ⟨rfl, L8.out⟩

set_option maxHeartbeats 4000000 in
set_option maxRecDepth 100000 in
theorem arm_1 (which x : Int) (w : World) (hk : wrap64 ((IntKind.u64.wrap which).tmod 12) = 1) :
    Calls Try.prog 7 #[.int .i64 which, .int .i64 x] w fun e w' => e = .returned (.bool true) ∧ Below w.heap.size w w' := by
  obtain ⟨z, hz, ez⟩ : ∃ z : Nat, z < 64 ∧ bits .and .i64 x 63 = (z : Int) := and_mask x 6 (by omega)
  obtain ⟨h, hh⟩ : ∃ h, w.heap.size = h := ⟨_, rfl⟩
  have HW : Hid (w.heap.size = h) := hh
  rw [hh]
  clear hh
  go_enter Try.func7, Try.ntmps7
  go_wp2_with fail
  refine (awake11_any w).mono ?_
  rintro e w1 ⟨rfl, b1⟩
  have L1 : Hid (Below h w w1 ∧ h ≤ w1.heap.size) := ⟨HW.out ▸ b1, by have := b1.size; have := HW.out; omega⟩
  clear b1
  obtain ⟨kb, hkb⟩ : ∃ k, w1.heap.size = k := ⟨_, rfl⟩
  have L2 : Hid ((Below h w (w1.alloc (.cells #[.int .i64 4, .int .i64 4, .int .i64 4, .int .i64 5, .int .i64 5, .int .i64 1, .int .i64 3, .int .i64 3, .int .i64 0, .int .i64 3, .int .i64 3, .int .i64 2] 3)) ∧ h ≤ (w1.alloc (.cells #[.int .i64 4, .int .i64 4, .int .i64 4, .int .i64 5, .int .i64 5, .int .i64 1, .int .i64 3, .int .i64 3, .int .i64 0, .int .i64 3, .int .i64 3, .int .i64 2] 3)).heap.size) ∧ Has (w1.alloc (.cells #[.int .i64 4, .int .i64 4, .int .i64 4, .int .i64 5, .int .i64 5, .int .i64 1, .int .i64 3, .int .i64 3, .int .i64 0, .int .i64 3, .int .i64 3, .int .i64 2] 3)) kb [.int .i64 4, .int .i64 4, .int .i64 4, .int .i64 5, .int .i64 5, .int .i64 1, .int .i64 3, .int .i64 3, .int .i64 0, .int .i64 3, .int .i64 3, .int .i64 2]) := ⟨Ops.down h L1.out (Ops.newer _ _), hkb ▸ has_new w1 [.int .i64 4, .int .i64 4, .int .i64 4, .int .i64 5, .int .i64 5, .int .i64 1, .int .i64 3, .int .i64 3, .int .i64 0, .int .i64 3, .int .i64 3, .int .i64 2] _⟩
  clear L1
  go_upto_region 6 with fail
  generalize hE : w1.alloc (.cells #[.int .i64 4, .int .i64 4, .int .i64 4, .int .i64 5, .int .i64 5, .int .i64 1, .int .i64 3, .int .i64 3, .int .i64 0, .int .i64 3, .int .i64 3, .int .i64 2] 3) = w2 at L2 ⊢
  clear hE
  try simp only [hkb, hk]
  clear hkb hk
  have tk := L2.out.2.at 1 rfl
  go_wp2_with fail
  refine (one4_at w2).mono ?_
  rintro e w3 ⟨⟨po, pc, so, sc⟩, rfl, own, b3⟩
  obtain ⟨b, hb⟩ : ∃ b, w3.heap.size = b := ⟨_, rfl⟩
  have H4 : Hid (Fst w h b ⟨1, 3, 9, [4, 2], 4, bT, bi, bf, bv, 0, 0, 0, 1, []⟩ ⟨po, pc, so, sc⟩ (w3.alloc (.cells (oL ⟨1, 3, 9, [4, 2], 4, bT, bi, bf, bv, 0, 0, 0, 1, []⟩ ⟨po, pc, so, sc⟩).toArray 29))) := fs_new (Ops.down h L2.out.1 b3) own hb
  clear b3 own L2 tk
  go_upto_region 7 with fail
  generalize hE : w3.alloc (.cells (oL ⟨1, 3, 9, [4, 2], 4, bT, bi, bf, bv, 0, 0, 0, 1, []⟩ ⟨po, pc, so, sc⟩).toArray 29) = w4 at H4 ⊢
  clear hE
  try simp only [hb]
  clear hb
  have la := ld_op (show Has w4 b (oL ⟨1, 3, 9, [4, 2], 4, bT, bi, bf, bv, 0, 0, 0, 1, []⟩ ⟨po, pc, so, sc⟩) from H4.out.cur)
  go_wp2_with (refine wpList_ld la rfl rfl rfl ?_)
  refine (may_is may_one4 w4 H4.out.row siz_one4).mono ?_
  rintro e w5 ⟨rfl, b5⟩
  have H5 : Hid (Fst w h b ⟨1, 3, 9, [4, 2], 4, bT, bi, bf, bv, 0, 0, 0, 1, []⟩ ⟨po, pc, so, sc⟩ w5) := H4.out.later b5
  clear b5 H4 la
  obtain ⟨n5, hn5⟩ : ∃ n, w5.heap.size = n := ⟨_, rfl⟩
  have HN5 : Hid (w5.heap.size = n5) := hn5
  have hbn : b < n5 := by rw [← hn5]; exact H5.out.cur.1
  have t13 := H5.out.cur.at 13 rfl
  have y13 := H5.out.cur.free 13 rfl
  go_upto_region 32 with fail
  have H6 : Hid (Fst w h b ⟨1, 3, 9, [4, 2], 4, bT, bi, bf, bv, 0, 0, 0, 1, [(0, 1)]⟩ ⟨po, pc, some ⟨n5, 0, none⟩, 1⟩ ((w5.setCell (⟨b, 13, none⟩ : Addr) (.slice (some ⟨n5, 0, none⟩) 1 1)).alloc (.cells #[.int .i64 0, .int .i64 1] 23))) := by
    have hal := Ops.newer (w5.setCell (⟨b, 13, none⟩ : Addr) (.slice (some ⟨n5, 0, none⟩) 1 1)) (.cells #[.int .i64 0, .int .i64 1] 23)
    have hw : (w5.setCell (⟨b, 13, none⟩ : Addr) (.slice (some ⟨n5, 0, none⟩) 1 1)).heap.size = n5 := by simpa using HN5.out
    have hn := has_new (w5.setCell (⟨b, 13, none⟩ : Addr) (.slice (some ⟨n5, 0, none⟩) 1 1)) [.int .i64 0, .int .i64 1] 23
    rw [hw] at hn
    exact ⟨Ops.down h ⟨H5.out.low.1.setCell (p := ⟨b, 13, none⟩) H5.out.hb _, by simpa using H5.out.low.2⟩ hal, (H5.out.cur.put 13 _).later hal, (H5.out.rd.set 13 _).later hal, fun _ => ⟨n5, rfl, by omega, hn.1, hn.2⟩, H5.out.hb⟩
  clear H5 t13 y13 hn5 HN5 hbn
  have HM : Hid (mayO ⟨1, 3, 9, [4, 2], 4, bT, bi, bf, bv, 0, 0, 0, 1, [(0, 1)]⟩ 2 = false) := by
    show mayO _ _ = _
    exact no_what (no_k4 rfl (by decide +kernel))
  have HZ : Hid (Siz ⟨1, 3, 9, [4, 2], 4, bT, bi, bf, bv, 0, 0, 0, 1, [(0, 1)]⟩) := siz_small (Nat.le_of_ble_eq_true rfl) (Nat.le_of_ble_eq_true rfl) (Nat.le_of_ble_eq_true rfl) (Nat.le_of_ble_eq_true rfl) (Nat.le_of_ble_eq_true rfl) (Nat.le_of_ble_eq_true rfl)
  generalize hE : ((w5.setCell (⟨b, 13, none⟩ : Addr) (.slice (some ⟨n5, 0, none⟩) 1 1)).alloc (.cells #[.int .i64 0, .int .i64 1] 23)) = w6 at H6 ⊢
  clear hE
  have la := ld_op (show Has w6 b (oL ⟨1, 3, 9, [4, 2], 4, bT, bi, bf, bv, 0, 0, 0, 1, [(0, 1)]⟩ ⟨po, pc, some ⟨n5, 0, none⟩, 1⟩) from H6.out.cur)
  have hE : (⟨#[]⟩ : ByteArray).toList.isEmpty = true := noS_empty
  go_wp2_with (refine wpList_ld la rfl rfl rfl ?_)
  refine (put_no HM.out w6 H6.out.row HZ.out).mono ?_
  rintro e w7 ⟨rfl, b7⟩
  have H7 : Hid (Fst w h b ⟨1, 3, 9, [4, 2], 4, bT, bi, bf, bv, 0, 0, 0, 1, [(0, 1)]⟩ ⟨po, pc, some ⟨n5, 0, none⟩, 1⟩ w7) := H6.out.later b7
  clear b7 H6 la
  go_upto_region 33 with fail
  have la := ld_op (show Has w7 b (oL ⟨1, 3, 9, [4, 2], 4, bT, bi, bf, bv, 0, 0, 0, 1, [(0, 1)]⟩ ⟨po, pc, some ⟨n5, 0, none⟩, 1⟩) from H7.out.cur)
  go_wp2_with (refine wpList_ld la rfl rfl rfl ?_)
  refine (may_is HM.out w7 H7.out.row HZ.out).mono ?_
  rintro e w8 ⟨rfl, b8⟩
  have L8 : Hid (Below h w w8) := (Ops.down h H7.out.low b8).1
  clear b8 H7 la
  go_wp2_with (first | (go_at_call 13; refine (num_any _ _).mono ?_; rintro e v0 ⟨rfl, hw0⟩; have hw1 := hw0.symm; clear hw0; subst hw1) | fail)
  go_ret
  exact ⟨rfl, L8.out⟩

set_option maxHeartbeats 4000000 in
set_option maxRecDepth 100000 in
theorem arm_2 (which x : Int) (w : World) (hk : wrap64 ((IntKind.u64.wrap which).tmod 12) = 2) :
    Calls Try.prog 7 #[.int .i64 which, .int .i64 x] w fun e w' => e = .returned (.bool true) ∧ Below w.heap.size w w' := by
  obtain ⟨z, hz, ez⟩ : ∃ z : Nat, z < 64 ∧ bits .and .i64 x 63 = (z : Int) := and_mask x 6 (by omega)
  obtain ⟨h, hh⟩ : ∃ h, w.heap.size = h := ⟨_, rfl⟩
  have HW : Hid (w.heap.size = h) := hh
  rw [hh]
  clear hh
  go_enter Try.func7, Try.ntmps7
  go_wp2_with fail
  refine (awake11_any w).mono ?_
  rintro e w1 ⟨rfl, b1⟩
  have L1 : Hid (Below h w w1 ∧ h ≤ w1.heap.size) := ⟨HW.out ▸ b1, by have := b1.size; have := HW.out; omega⟩
  clear b1
  obtain ⟨kb, hkb⟩ : ∃ k, w1.heap.size = k := ⟨_, rfl⟩
  have L2 : Hid ((Below h w (w1.alloc (.cells #[.int .i64 4, .int .i64 4, .int .i64 4, .int .i64 5, .int .i64 5, .int .i64 1, .int .i64 3, .int .i64 3, .int .i64 0, .int .i64 3, .int .i64 3, .int .i64 2] 3)) ∧ h ≤ (w1.alloc (.cells #[.int .i64 4, .int .i64 4, .int .i64 4, .int .i64 5, .int .i64 5, .int .i64 1, .int .i64 3, .int .i64 3, .int .i64 0, .int .i64 3, .int .i64 3, .int .i64 2] 3)).heap.size) ∧ Has (w1.alloc (.cells #[.int .i64 4, .int .i64 4, .int .i64 4, .int .i64 5, .int .i64 5, .int .i64 1, .int .i64 3, .int .i64 3, .int .i64 0, .int .i64 3, .int .i64 3, .int .i64 2] 3)) kb [.int .i64 4, .int .i64 4, .int .i64 4, .int .i64 5, .int .i64 5, .int .i64 1, .int .i64 3, .int .i64 3, .int .i64 0, .int .i64 3, .int .i64 3, .int .i64 2]) := ⟨Ops.down h L1.out (Ops.newer _ _), hkb ▸ has_new w1 [.int .i64 4, .int .i64 4, .int .i64 4, .int .i64 5, .int .i64 5, .int .i64 1, .int .i64 3, .int .i64 3, .int .i64 0, .int .i64 3, .int .i64 3, .int .i64 2] _⟩
  clear L1
  go_upto_region 6 with fail
  generalize hE : w1.alloc (.cells #[.int .i64 4, .int .i64 4, .int .i64 4, .int .i64 5, .int .i64 5, .int .i64 1, .int .i64 3, .int .i64 3, .int .i64 0, .int .i64 3, .int .i64 3, .int .i64 2] 3) = w2 at L2 ⊢
  clear hE
  try simp only [hkb, hk]
  clear hkb hk
  have tk := L2.out.2.at 2 rfl
  go_wp2_with fail
  refine (one4_at w2).mono ?_
  rintro e w3 ⟨⟨po, pc, so, sc⟩, rfl, own, b3⟩
  obtain ⟨b, hb⟩ : ∃ b, w3.heap.size = b := ⟨_, rfl⟩
  have H4 : Hid (Fst w h b ⟨1, 3, 9, [4, 2], 4, bT, bi, bf, bv, 0, 0, 0, 1, []⟩ ⟨po, pc, so, sc⟩ (w3.alloc (.cells (oL ⟨1, 3, 9, [4, 2], 4, bT, bi, bf, bv, 0, 0, 0, 1, []⟩ ⟨po, pc, so, sc⟩).toArray 29))) := fs_new (Ops.down h L2.out.1 b3) own hb
  clear b3 own L2 tk
  go_upto_region 7 with fail
  generalize hE : w3.alloc (.cells (oL ⟨1, 3, 9, [4, 2], 4, bT, bi, bf, bv, 0, 0, 0, 1, []⟩ ⟨po, pc, so, sc⟩).toArray 29) = w4 at H4 ⊢
  clear hE
  try simp only [hb]
  clear hb
  have la := ld_op (show Has w4 b (oL ⟨1, 3, 9, [4, 2], 4, bT, bi, bf, bv, 0, 0, 0, 1, []⟩ ⟨po, pc, so, sc⟩) from H4.out.cur)
  go_wp2_with (refine wpList_ld la rfl rfl rfl ?_)
  refine (may_is may_one4 w4 H4.out.row siz_one4).mono ?_
  rintro e w5 ⟨rfl, b5⟩
  have H5 : Hid (Fst w h b ⟨1, 3, 9, [4, 2], 4, bT, bi, bf, bv, 0, 0, 0, 1, []⟩ ⟨po, pc, so, sc⟩ w5) := H4.out.later b5
  clear b5 H4 la
  have t11 := H5.out.cur.at 11 rfl
  have y11 := H5.out.cur.free 11 rfl
  have t12 := H5.out.cur.at 12 rfl
  have y12 := H5.out.cur.free 12 rfl
  go_upto_region 32 with fail
  have H6 : Hid (Fst w h b ⟨1, 3, 9, [4, 2], 4, bT, bi, bf, bv, 0, 0, 0, (4 + (1 + (z : Int))), []⟩ ⟨po, pc, so, sc⟩ (World.setCell (World.setCell w5 (⟨b, 11, none⟩ : Addr) (.int .i64 0)) (⟨b, 12, none⟩ : Addr) (.int .i64 (4 + (1 + (z : Int)))))) := (Fst.set (o' := ⟨1, 3, 9, [4, 2], 4, bT, bi, bf, bv, 0, 0, 0, (4 + (1 + (z : Int))), []⟩) (Fst.set (o' := ⟨1, 3, 9, [4, 2], 4, bT, bi, bf, bv, 0, 0, 0, 1, []⟩) H5.out 11 (.int .i64 0) rfl rfl rfl) 12 (.int .i64 (4 + (1 + (z : Int)))) rfl rfl rfl)
  clear H5 t11 y11 t12 y12
  have HM : Hid (mayO ⟨1, 3, 9, [4, 2], 4, bT, bi, bf, bv, 0, 0, 0, (4 + (1 + (z : Int))), []⟩ 2 = false) := by
    show mayO _ _ = _
    exact no_what (no_k4 rfl (by simp only [refZ, hasB]; rw [decide_eq_false (by omega), decide_eq_false (by simp; omega)]; simp))
  have HZ : Hid (Siz ⟨1, 3, 9, [4, 2], 4, bT, bi, bf, bv, 0, 0, 0, (4 + (1 + (z : Int))), []⟩) := siz_small (Nat.le_of_ble_eq_true rfl) (Nat.le_of_ble_eq_true rfl) (Nat.le_of_ble_eq_true rfl) (Nat.le_of_ble_eq_true rfl) (Nat.le_of_ble_eq_true rfl) (Nat.le_of_ble_eq_true rfl)
  generalize hE : (World.setCell (World.setCell w5 (⟨b, 11, none⟩ : Addr) (.int .i64 0)) (⟨b, 12, none⟩ : Addr) (.int .i64 (4 + (1 + (z : Int))))) = w6 at H6 ⊢
  clear hE
  have la := ld_op (show Has w6 b (oL ⟨1, 3, 9, [4, 2], 4, bT, bi, bf, bv, 0, 0, 0, (4 + (1 + (z : Int))), []⟩ ⟨po, pc, so, sc⟩) from H6.out.cur)
  have hE : (⟨#[]⟩ : ByteArray).toList.isEmpty = true := noS_empty
  go_wp2_with (refine wpList_ld la rfl rfl rfl ?_)
  refine (put_no HM.out w6 H6.out.row HZ.out).mono ?_
  rintro e w7 ⟨rfl, b7⟩
  have H7 : Hid (Fst w h b ⟨1, 3, 9, [4, 2], 4, bT, bi, bf, bv, 0, 0, 0, (4 + (1 + (z : Int))), []⟩ ⟨po, pc, so, sc⟩ w7) := H6.out.later b7
  clear b7 H6 la
  go_upto_region 33 with fail
  have la := ld_op (show Has w7 b (oL ⟨1, 3, 9, [4, 2], 4, bT, bi, bf, bv, 0, 0, 0, (4 + (1 + (z : Int))), []⟩ ⟨po, pc, so, sc⟩) from H7.out.cur)
  go_wp2_with (refine wpList_ld la rfl rfl rfl ?_)
  refine (may_is HM.out w7 H7.out.row HZ.out).mono ?_
  rintro e w8 ⟨rfl, b8⟩
  have L8 : Hid (Below h w w8) := (Ops.down h H7.out.low b8).1
  clear b8 H7 la
  go_wp2_with (first | (go_at_call 13; refine (num_any _ _).mono ?_; rintro e v0 ⟨rfl, hw0⟩; have hw1 := hw0.symm; clear hw0; subst hw1) | fail)
  go_ret
  exact ⟨rfl, L8.out⟩

set_option maxHeartbeats 4000000 in
set_option maxRecDepth 100000 in
theorem arm_3 (which x : Int) (w : World) (hk : wrap64 ((IntKind.u64.wrap which).tmod 12) = 3) :
    Calls Try.prog 7 #[.int .i64 which, .int .i64 x] w fun e w' => e = .returned (.bool true) ∧ Below w.heap.size w w' := by
  obtain ⟨z, hz, ez⟩ : ∃ z : Nat, z < 64 ∧ bits .and .i64 x 63 = (z : Int) := and_mask x 6 (by omega)
  obtain ⟨h, hh⟩ : ∃ h, w.heap.size = h := ⟨_, rfl⟩
  have HW : Hid (w.heap.size = h) := hh
  rw [hh]
  clear hh
  go_enter Try.func7, Try.ntmps7
  go_wp2_with fail
  refine (awake11_any w).mono ?_
  rintro e w1 ⟨rfl, b1⟩
  have L1 : Hid (Below h w w1 ∧ h ≤ w1.heap.size) := ⟨HW.out ▸ b1, by have := b1.size; have := HW.out; omega⟩
  clear b1
  obtain ⟨kb, hkb⟩ : ∃ k, w1.heap.size = k := ⟨_, rfl⟩
  have L2 : Hid ((Below h w (w1.alloc (.cells #[.int .i64 4, .int .i64 4, .int .i64 4, .int .i64 5, .int .i64 5, .int .i64 1, .int .i64 3, .int .i64 3, .int .i64 0, .int .i64 3, .int .i64 3, .int .i64 2] 3)) ∧ h ≤ (w1.alloc (.cells #[.int .i64 4, .int .i64 4, .int .i64 4, .int .i64 5, .int .i64 5, .int .i64 1, .int .i64 3, .int .i64 3, .int .i64 0, .int .i64 3, .int .i64 3, .int .i64 2] 3)).heap.size) ∧ Has (w1.alloc (.cells #[.int .i64 4, .int .i64 4, .int .i64 4, .int .i64 5, .int .i64 5, .int .i64 1, .int .i64 3, .int .i64 3, .int .i64 0, .int .i64 3, .int .i64 3, .int .i64 2] 3)) kb [.int .i64 4, .int .i64 4, .int .i64 4, .int .i64 5, .int .i64 5, .int .i64 1, .int .i64 3, .int .i64 3, .int .i64 0, .int .i64 3, .int .i64 3, .int .i64 2]) := ⟨Ops.down h L1.out (Ops.newer _ _), hkb ▸ has_new w1 [.int .i64 4, .int .i64 4, .int .i64 4, .int .i64 5, .int .i64 5, .int .i64 1, .int .i64 3, .int .i64 3, .int .i64 0, .int .i64 3, .int .i64 3, .int .i64 2] _⟩
  clear L1
  go_upto_region 6 with fail
  generalize hE : w1.alloc (.cells #[.int .i64 4, .int .i64 4, .int .i64 4, .int .i64 5, .int .i64 5, .int .i64 1, .int .i64 3, .int .i64 3, .int .i64 0, .int .i64 3, .int .i64 3, .int .i64 2] 3) = w2 at L2 ⊢
  clear hE
  try simp only [hkb, hk]
  clear hkb hk
  have tk := L2.out.2.at 3 rfl
  go_wp2_with fail
  refine (one5_at w2).mono ?_
  rintro e w3 ⟨⟨po, pc, so, sc⟩, rfl, own, b3⟩
  obtain ⟨b, hb⟩ : ∃ b, w3.heap.size = b := ⟨_, rfl⟩
  have H4 : Hid (Fst w h b ⟨1, 3, 9, [4, 2], 5, bT, bi, bf, noS, 0, 0, 0, 1, []⟩ ⟨po, pc, so, sc⟩ (w3.alloc (.cells (oL ⟨1, 3, 9, [4, 2], 5, bT, bi, bf, noS, 0, 0, 0, 1, []⟩ ⟨po, pc, so, sc⟩).toArray 29))) := fs_new (Ops.down h L2.out.1 b3) own hb
  clear b3 own L2 tk
  go_upto_region 7 with fail
  generalize hE : w3.alloc (.cells (oL ⟨1, 3, 9, [4, 2], 5, bT, bi, bf, noS, 0, 0, 0, 1, []⟩ ⟨po, pc, so, sc⟩).toArray 29) = w4 at H4 ⊢
  clear hE
  try simp only [hb]
  clear hb
  have la := ld_op (show Has w4 b (oL ⟨1, 3, 9, [4, 2], 5, bT, bi, bf, noS, 0, 0, 0, 1, []⟩ ⟨po, pc, so, sc⟩) from H4.out.cur)
  go_wp2_with (refine wpList_ld la rfl rfl rfl ?_)
  refine (may_is may_one5 w4 H4.out.row siz_one5).mono ?_
  rintro e w5 ⟨rfl, b5⟩
  have H5 : Hid (Fst w h b ⟨1, 3, 9, [4, 2], 5, bT, bi, bf, noS, 0, 0, 0, 1, []⟩ ⟨po, pc, so, sc⟩ w5) := H4.out.later b5
  clear b5 H4 la
  have t11 := H5.out.cur.at 11 rfl
  have y11 := H5.out.cur.free 11 rfl
  have t12 := H5.out.cur.at 12 rfl
  have y12 := H5.out.cur.free 12 rfl
  go_upto_region 32 with fail
  have H6 : Hid (Fst w h b ⟨1, 3, 9, [4, 2], 5, bT, bi, bf, noS, 0, 0, 0, 0, []⟩ ⟨po, pc, so, sc⟩ (World.setCell (World.setCell w5 (⟨b, 11, none⟩ : Addr) (.int .i64 0)) (⟨b, 12, none⟩ : Addr) (.int .i64 0))) := (Fst.set (o' := ⟨1, 3, 9, [4, 2], 5, bT, bi, bf, noS, 0, 0, 0, 0, []⟩) (Fst.set (o' := ⟨1, 3, 9, [4, 2], 5, bT, bi, bf, noS, 0, 0, 0, 1, []⟩) H5.out 11 (.int .i64 0) rfl rfl rfl) 12 (.int .i64 0) rfl rfl rfl)
  clear H5 t11 y11 t12 y12
  have HM : Hid (mayO ⟨1, 3, 9, [4, 2], 5, bT, bi, bf, noS, 0, 0, 0, 0, []⟩ 2 = false) := by
    show mayO _ _ = _
    exact no_what (no_k5 rfl (by decide +kernel))
  have HZ : Hid (Siz ⟨1, 3, 9, [4, 2], 5, bT, bi, bf, noS, 0, 0, 0, 0, []⟩) := siz_small (Nat.le_of_ble_eq_true rfl) (Nat.le_of_ble_eq_true rfl) (Nat.le_of_ble_eq_true rfl) (Nat.le_of_ble_eq_true rfl) (Nat.le_of_ble_eq_true rfl) (Nat.le_of_ble_eq_true rfl)
  generalize hE : (World.setCell (World.setCell w5 (⟨b, 11, none⟩ : Addr) (.int .i64 0)) (⟨b, 12, none⟩ : Addr) (.int .i64 0)) = w6 at H6 ⊢
  clear hE
  have la := ld_op (show Has w6 b (oL ⟨1, 3, 9, [4, 2], 5, bT, bi, bf, noS, 0, 0, 0, 0, []⟩ ⟨po, pc, so, sc⟩) from H6.out.cur)
  have hE : (⟨#[]⟩ : ByteArray).toList.isEmpty = true := noS_empty
  go_wp2_with (refine wpList_ld la rfl rfl rfl ?_)
  refine (put_no HM.out w6 H6.out.row HZ.out).mono ?_
  rintro e w7 ⟨rfl, b7⟩
  have H7 : Hid (Fst w h b ⟨1, 3, 9, [4, 2], 5, bT, bi, bf, noS, 0, 0, 0, 0, []⟩ ⟨po, pc, so, sc⟩ w7) := H6.out.later b7
  clear b7 H6 la
  go_upto_region 33 with fail
  have la := ld_op (show Has w7 b (oL ⟨1, 3, 9, [4, 2], 5, bT, bi, bf, noS, 0, 0, 0, 0, []⟩ ⟨po, pc, so, sc⟩) from H7.out.cur)
  go_wp2_with (refine wpList_ld la rfl rfl rfl ?_)
  refine (may_is HM.out w7 H7.out.row HZ.out).mono ?_
  rintro e w8 ⟨rfl, b8⟩
  have L8 : Hid (Below h w w8) := (Ops.down h H7.out.low b8).1
  clear b8 H7 la
  go_wp2_with (first | (go_at_call 13; refine (num_any _ _).mono ?_; rintro e v0 ⟨rfl, hw0⟩; have hw1 := hw0.symm; clear hw0; subst hw1) | fail)
  go_ret
  exact ⟨rfl, L8.out⟩

end Go.Proofs.Ytjfgccjdkflfoaa.OpParts

