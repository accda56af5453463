/-
  The walk of the law LwwForms: kinds, stamps and values that may not be.
-/
import Derived.Test.YtdcfahkcgedegaaCeBare
import Derived.Test.YtdcfahkcgedegaaBytes
import Derived.Test.YtdcfahkcgedegaaStrs
import Derived.OwnWalk
namespace Go.Proofs.Ytdcfahkcgedegaa.LwwForms
open Go.RowKit
set_option linter.unusedVariables false
set_option linter.unusedSimpArgs false

theorem mod7 (a : Int) : ∃ k : Nat, k < 7 ∧ (IntKind.u64.wrap a).tmod 7 = (k : Int) := by
  have h1 : IntKind.u64.wrap a = a % 18446744073709551616 := by simp [IntKind.wrap, IntKind.bits, IntKind.signed]
  rw [h1]
  generalize hz : a % 18446744073709551616 = z
  have hz0 : 0 ≤ z := by omega
  rw [Int.tmod_eq_emod_of_nonneg hz0]
  exact ⟨(z % 7).toNat, by omega, by omega⟩

set_option maxHeartbeats 4000000 in
set_option maxRecDepth 100000 in
theorem walk (which x : Int) (w : World) (_ : (Lit.int .i64 which).wf = true) (_ : (Lit.int .i64 x).wf = true) :
    Calls Try.prog 5 #[.int .i64 which, .int .i64 x] w fun e w' => e = .returned (.bool true) ∧ Below w.heap.size w w' := by
  obtain ⟨k, hk, ek⟩ := mod7 which
  obtain ⟨z, hz, ez⟩ : ∃ z : Nat, z < 64 ∧ bits .and .i64 x 63 = (z : Int) := and_mask x 6 (by omega)
  obtain ⟨i0, hi0, hz0, hz1, hz2⟩ := info_parts Try.infoByte
  obtain ⟨n, hn⟩ : ∃ n : Nat, n = 256 := ⟨_, rfl⟩
  obtain ⟨Z, hZ⟩ : ∃ Z : ByteArray, Z = ⟨(List.replicate n (0 : UInt8)).toArray⟩ := ⟨_, rfl⟩
  have hZs : Z.size = 256 := by rw [← size_list, hZ]; simp [hn]
  have HZ : Hid (Z = ⟨(List.replicate n (0 : UInt8)).toArray⟩ ∧ Z.size = 256 ∧ n = 256) := ⟨hZ, hZs, hn⟩
  clear hZ hZs hn
  obtain ⟨h, hh⟩ : ∃ h, w.heap.size = h := ⟨_, rfl⟩
  rw [hh]
  go_enter Try.func5, Try.ntmps5
  go_wp2_with fail
  refine (awake7_any _).mono ?_
  rintro e w1 ⟨rfl, b1⟩
  have H1 : Hid (Regs h w w1 []) := ⟨hh ▸ b1, by have := b1.size; omega⟩
  obtain ⟨g, hg⟩ : ∃ g, w1.heap.size = g := ⟨_, rfl⟩
  have HG : Hid (h ≤ g) := by have := H1.out.2; show h ≤ g; omega
  have H2 : Hid (Regs h w ((w1.alloc (.cells (zl 0).toArray 30)).alloc (.cells #[.int .i64 16777215, .int .i64 15] 23)) [(g + 1, [.int .i64 16777215, .int .i64 15]), (g, zl 0)]) := Regs.push (Regs.push H1.out hg (zl 0) _) (by simp [hg]) [.int .i64 16777215, .int .i64 15] _
  have hX : ((w1.alloc (.cells (zl 0).toArray 30)).alloc (.cells #[.int .i64 16777215, .int .i64 15] 23)).heap.size = w1.heap.size + 1 + 1 := by simp
  have HXs : Hid (((w1.alloc (.cells (zl 0).toArray 30)).alloc (.cells #[.int .i64 16777215, .int .i64 15] 23)).heap.size = w1.heap.size + 1 + 1) := hX
  clear b1 H1 hX
  have m1 : mayS 16777215 15 = true := by decide
  go_wp2_with (at_make; (refine wpList_make_full _ rfl _ _ 45 rfl (g + 2) 5 i0 (.int .u8 0) 1 Try.underlying45 hi0 hz0 hz1 .i64 .i64 256 256 n rfl rfl ?c1 ?c2 ?c3 ?c4 ?c5 ?_; (case c1 => have := HZ.out.2.2; omega); (case c2 => have := HZ.out.2.2; omega); (case c3 => rw [hz2]; have := HZ.out.2.2; omega); (case c4 => unfold maxLen; have := HZ.out.2.2; omega); (case c5 => exact Nat.le_of_eq (by rw [HXs.out, hg])); intro w4 hown hgrow; have hstr := zeros_string hown; rw [← HZ.out.1] at hstr; rw [HXs.out] at hstr; have H4 : Hid (Regs h w w4 [(g + 1, [.int .i64 16777215, .int .i64 15]), (g, zl 0)]) := H2.out.later ((Below.refl _ _).grown hgrow (Nat.le_refl _) (by simp)); clear H2 HXs hg hown hgrow; obtain ⟨t0, t1, t2, t3, t4, t5, t6, t7, t8, t9⟩ := H4.out.2.1.ten; have s0 := H4.out.1.at 0 rfl; have s1 := H4.out.1.at 1 rfl))
  refine (lset_first 16777215 15 Z _ m1 (by have := HZ.out.2.1; omega)).mono ?_
  rintro e w5 ⟨rfl, b5⟩
  have H5 : Hid (Regs h w w5 [(g + 1, [.int .i64 16777215, .int .i64 15]), (g, zl 0)]) := H4.out.later b5
  clear b5 H4 hstr t0 t1 t2 t3 t4 t5 t6 t7 t8 t9 s0 s1
  obtain ⟨t0, t1, t2, t3, t4, t5, t6, t7, t8, t9⟩ := H5.out.2.1.ten
  have s0 := H5.out.1.at 0 rfl
  have s1 := H5.out.1.at 1 rfl
  obtain ⟨q, hq⟩ : ∃ q, w5.heap.size = q := ⟨_, rfl⟩
  have l1 : g < q := by have := H5.out.2.1.1; omega
  have l2 : g + 1 < q := by have := H5.out.1.1; omega
  have hzz : z < 64 := hz
  have h7 : k = 0 ∨ k = 1 ∨ k = 2 ∨ k = 3 ∨ k = 4 ∨ k = 5 ∨ k = 6 := by omega
  clear hk
  rcases h7 with rfl | rfl | rfl | rfl | rfl | rfl | rfl
  · have f0 := H5.out.2.1.free 0 rfl
    have BB : Hid (Below h w ((w5.setCell ⟨g, 0, none⟩ (.int .i64 (1 + (z : Int)))).alloc (.cells (bl 16777215 15 Z).toArray 30))) := (H5.out.base.1.setCell (p := ⟨g, 0, none⟩) (by have := HG.out; show h ≤ g; omega) _).alloc (by have := H5.out.base.2; simp; omega) _
    go_wp2_with fail
    refine (lset_bad (1 + (z : Int)) (16777215) (15) Z _ (by simp [setB, mayS]; omega) (by have := HZ.out.2.1; unfold maxLen; omega)).mono ?_
    rintro e w6 ⟨rfl, b6⟩
    have B6 : Below h w w6 := BB.out.trans (b6.mono (Nat.le_trans (Nat.le_of_eq hh.symm) BB.out.size))
    clear BB b6 H5 hq t0 t1 t2 t3 t4 t5 t6 t7 t8 t9 s0 s1
    obtain ⟨q2, hq2⟩ : ∃ q, w6.heap.size = q := ⟨_, rfl⟩
    have B7 : Hid (Below h w (w6.alloc (.cells (zl 0).toArray 30))) := B6.alloc (by have := B6.size; omega) _
    go_wp2_with (go_at_call 11; refine (num_any _ _).mono ?_; rintro e w0 ⟨rfl, rfl⟩)
    refine (same_none _).mono ?_
    rintro e w8 ⟨rfl, b8⟩
    have B8 : Below h w w8 := B7.out.trans (b8.mono (Nat.le_trans (Nat.le_of_eq hh.symm) B7.out.size))
    go_wp2_with (go_at_call 11; refine (num_any _ _).mono ?_; rintro e w0 ⟨rfl, rfl⟩)
    go_ret
    exact ⟨rfl, B8⟩
  · have f0 := H5.out.2.1.free 0 rfl
    have BB : Hid (Below h w ((w5.setCell ⟨g, 0, none⟩ (.int .i64 (-(1 + (z : Int))))).alloc (.cells (bl 16777215 15 Z).toArray 30))) := (H5.out.base.1.setCell (p := ⟨g, 0, none⟩) (by have := HG.out; show h ≤ g; omega) _).alloc (by have := H5.out.base.2; simp; omega) _
    go_wp2_with fail
    refine (lset_bad (-(1 + (z : Int))) (16777215) (15) Z _ (by simp [setB, mayS]; omega) (by have := HZ.out.2.1; unfold maxLen; omega)).mono ?_
    rintro e w6 ⟨rfl, b6⟩
    have B6 : Below h w w6 := BB.out.trans (b6.mono (Nat.le_trans (Nat.le_of_eq hh.symm) BB.out.size))
    clear BB b6 H5 hq t0 t1 t2 t3 t4 t5 t6 t7 t8 t9 s0 s1
    obtain ⟨q2, hq2⟩ : ∃ q, w6.heap.size = q := ⟨_, rfl⟩
    have B7 : Hid (Below h w (w6.alloc (.cells (zl 0).toArray 30))) := B6.alloc (by have := B6.size; omega) _
    go_wp2_with (go_at_call 11; refine (num_any _ _).mono ?_; rintro e w0 ⟨rfl, rfl⟩)
    refine (same_none _).mono ?_
    rintro e w8 ⟨rfl, b8⟩
    have B8 : Below h w w8 := B7.out.trans (b8.mono (Nat.le_trans (Nat.le_of_eq hh.symm) B7.out.size))
    go_wp2_with (go_at_call 11; refine (num_any _ _).mono ?_; rintro e w0 ⟨rfl, rfl⟩)
    go_ret
    exact ⟨rfl, B8⟩
  · have f0 := H5.out.1.free 0 rfl
    have BB : Hid (Below h w ((w5.setCell ⟨g + 1, 0, none⟩ (.int .i64 (1 - (1 + (z : Int))))).alloc (.cells (bl 16777215 15 Z).toArray 30))) := (H5.out.base.1.setCell (p := ⟨g + 1, 0, none⟩) (by have := HG.out; show h ≤ g + 1; omega) _).alloc (by have := H5.out.base.2; simp; omega) _
    go_wp2_with fail
    refine (lset_bad (0) (1 - (1 + (z : Int))) (15) Z _ (by simp [setB, mayS]; omega) (by have := HZ.out.2.1; unfold maxLen; omega)).mono ?_
    rintro e w6 ⟨rfl, b6⟩
    have B6 : Below h w w6 := BB.out.trans (b6.mono (Nat.le_trans (Nat.le_of_eq hh.symm) BB.out.size))
    clear BB b6 H5 hq t0 t1 t2 t3 t4 t5 t6 t7 t8 t9 s0 s1
    obtain ⟨q2, hq2⟩ : ∃ q, w6.heap.size = q := ⟨_, rfl⟩
    have B7 : Hid (Below h w (w6.alloc (.cells (zl 0).toArray 30))) := B6.alloc (by have := B6.size; omega) _
    go_wp2_with (go_at_call 11; refine (num_any _ _).mono ?_; rintro e w0 ⟨rfl, rfl⟩)
    refine (same_none _).mono ?_
    rintro e w8 ⟨rfl, b8⟩
    have B8 : Below h w w8 := B7.out.trans (b8.mono (Nat.le_trans (Nat.le_of_eq hh.symm) B7.out.size))
    go_wp2_with (go_at_call 11; refine (num_any _ _).mono ?_; rintro e w0 ⟨rfl, rfl⟩)
    go_ret
    exact ⟨rfl, B8⟩
  · have f0 := H5.out.1.free 0 rfl
    have BB : Hid (Below h w ((w5.setCell ⟨g + 1, 0, none⟩ (.int .i64 (16777215 + (1 + (z : Int))))).alloc (.cells (bl 16777215 15 Z).toArray 30))) := (H5.out.base.1.setCell (p := ⟨g + 1, 0, none⟩) (by have := HG.out; show h ≤ g + 1; omega) _).alloc (by have := H5.out.base.2; simp; omega) _
    go_wp2_with fail
    refine (lset_bad (0) (16777215 + (1 + (z : Int))) (15) Z _ (by simp [setB, mayS]; omega) (by have := HZ.out.2.1; unfold maxLen; omega)).mono ?_
    rintro e w6 ⟨rfl, b6⟩
    have B6 : Below h w w6 := BB.out.trans (b6.mono (Nat.le_trans (Nat.le_of_eq hh.symm) BB.out.size))
    clear BB b6 H5 hq t0 t1 t2 t3 t4 t5 t6 t7 t8 t9 s0 s1
    obtain ⟨q2, hq2⟩ : ∃ q, w6.heap.size = q := ⟨_, rfl⟩
    have B7 : Hid (Below h w (w6.alloc (.cells (zl 0).toArray 30))) := B6.alloc (by have := B6.size; omega) _
    go_wp2_with (go_at_call 11; refine (num_any _ _).mono ?_; rintro e w0 ⟨rfl, rfl⟩)
    refine (same_none _).mono ?_
    rintro e w8 ⟨rfl, b8⟩
    have B8 : Below h w w8 := B7.out.trans (b8.mono (Nat.le_trans (Nat.le_of_eq hh.symm) B7.out.size))
    go_wp2_with (go_at_call 11; refine (num_any _ _).mono ?_; rintro e w0 ⟨rfl, rfl⟩)
    go_ret
    exact ⟨rfl, B8⟩
  · have f0 := H5.out.1.free 1 rfl
    have BB : Hid (Below h w ((w5.setCell ⟨g + 1, 1, none⟩ (.int .i64 (-(1 + (z : Int))))).alloc (.cells (bl 16777215 15 Z).toArray 30))) := (H5.out.base.1.setCell (p := ⟨g + 1, 1, none⟩) (by have := HG.out; show h ≤ g + 1; omega) _).alloc (by have := H5.out.base.2; simp; omega) _
    go_wp2_with fail
    refine (lset_bad (0) (16777215) (-(1 + (z : Int))) Z _ (by simp [setB, mayS]; omega) (by have := HZ.out.2.1; unfold maxLen; omega)).mono ?_
    rintro e w6 ⟨rfl, b6⟩
    have B6 : Below h w w6 := BB.out.trans (b6.mono (Nat.le_trans (Nat.le_of_eq hh.symm) BB.out.size))
    clear BB b6 H5 hq t0 t1 t2 t3 t4 t5 t6 t7 t8 t9 s0 s1
    obtain ⟨q2, hq2⟩ : ∃ q, w6.heap.size = q := ⟨_, rfl⟩
    have B7 : Hid (Below h w (w6.alloc (.cells (zl 0).toArray 30))) := B6.alloc (by have := B6.size; omega) _
    go_wp2_with (go_at_call 11; refine (num_any _ _).mono ?_; rintro e w0 ⟨rfl, rfl⟩)
    refine (same_none _).mono ?_
    rintro e w8 ⟨rfl, b8⟩
    have B8 : Below h w w8 := B7.out.trans (b8.mono (Nat.le_trans (Nat.le_of_eq hh.symm) B7.out.size))
    go_wp2_with (go_at_call 11; refine (num_any _ _).mono ?_; rintro e w0 ⟨rfl, rfl⟩)
    go_ret
    exact ⟨rfl, B8⟩
  · have f0 := H5.out.1.free 1 rfl
    have BB : Hid (Below h w ((w5.setCell ⟨g + 1, 1, none⟩ (.int .i64 (15 + (1 + (z : Int))))).alloc (.cells (bl 16777215 15 Z).toArray 30))) := (H5.out.base.1.setCell (p := ⟨g + 1, 1, none⟩) (by have := HG.out; show h ≤ g + 1; omega) _).alloc (by have := H5.out.base.2; simp; omega) _
    go_wp2_with fail
    refine (lset_bad (0) (16777215) (15 + (1 + (z : Int))) Z _ (by simp [setB, mayS]; omega) (by have := HZ.out.2.1; unfold maxLen; omega)).mono ?_
    rintro e w6 ⟨rfl, b6⟩
    have B6 : Below h w w6 := BB.out.trans (b6.mono (Nat.le_trans (Nat.le_of_eq hh.symm) BB.out.size))
    clear BB b6 H5 hq t0 t1 t2 t3 t4 t5 t6 t7 t8 t9 s0 s1
    obtain ⟨q2, hq2⟩ : ∃ q, w6.heap.size = q := ⟨_, rfl⟩
    have B7 : Hid (Below h w (w6.alloc (.cells (zl 0).toArray 30))) := B6.alloc (by have := B6.size; omega) _
    go_wp2_with (go_at_call 11; refine (num_any _ _).mono ?_; rintro e w0 ⟨rfl, rfl⟩)
    refine (same_none _).mono ?_
    rintro e w8 ⟨rfl, b8⟩
    have B8 : Below h w w8 := B7.out.trans (b8.mono (Nat.le_trans (Nat.le_of_eq hh.symm) B7.out.size))
    go_wp2_with (go_at_call 11; refine (num_any _ _).mono ?_; rintro e w0 ⟨rfl, rfl⟩)
    go_ret
    exact ⟨rfl, B8⟩
  · obtain ⟨n2, hn2⟩ : ∃ n2 : Nat, n2 = 1 + z := ⟨_, rfl⟩
    obtain ⟨Y, hY⟩ : ∃ Y : ByteArray, Y = ⟨(List.replicate n2 (0 : UInt8)).toArray⟩ := ⟨_, rfl⟩
    have hYs : Y.size = n2 := by rw [← size_list, hY]; simp
    have HY : Hid (Y = ⟨(List.replicate n2 (0 : UInt8)).toArray⟩ ∧ Y.size = n2 ∧ n2 = 1 + z) := ⟨hY, hYs, hn2⟩
    clear hY hYs hn2 hq l1 l2
    have hsz : Z.size + Y.size ≤ 320 := by have := HZ.out.2.1; have := HY.out.2.1; have := HY.out.2.2; omega
    have H5' : Hid (Regs h w (w5.alloc (.cells (bl 16777215 15 Z).toArray 30)) [(g + 1, [.int .i64 16777215, .int .i64 15]), (g, zl 0)]) := H5.out.later ((Below.refl _ _).alloc (Nat.le_refl _) _)
    have HX5 : Hid ((w5.alloc (.cells (bl 16777215 15 Z).toArray 30)).heap.size = w5.heap.size + 1) := (show (w5.alloc (.cells (bl 16777215 15 Z).toArray 30)).heap.size = w5.heap.size + 1 by simp)
    go_wp2_with (at_make; (refine wpList_make_full _ rfl _ _ 45 rfl (w5.alloc (.cells (bl 16777215 15 Z).toArray 30)).heap.size 5 i0 (.int .u8 0) 1 Try.underlying45 hi0 hz0 hz1 .i64 .i64 (1 + (z : Int)) (1 + (z : Int)) n2 rfl rfl ?c1 ?c2 ?c3 ?c4 (Nat.le_refl _) ?_; (case c1 => have := HY.out.2.2; omega); (case c2 => have := HY.out.2.2; omega); (case c3 => rw [hz2]; have := HY.out.2.2; omega); (case c4 => unfold maxLen; have := HY.out.2.2; omega); intro w6 hown hgrow; have hstr := zeros_string hown; rw [← HY.out.1, HX5.out] at hstr; have H6 : Hid (Regs h w w6 [(g + 1, [.int .i64 16777215, .int .i64 15]), (g, zl 0)]) := H5'.out.later ((Below.refl _ _).grown hgrow (Nat.le_refl _) (by simp)); clear H5 H5' HX5 hown hgrow t0 t1 t2 t3 t4 t5 t6 t7 t8 t9 s0 s1; obtain ⟨t0, t1, t2, t3, t4, t5, t6, t7, t8, t9⟩ := H6.out.2.1.ten; have s0 := H6.out.1.at 0 rfl; have s1 := H6.out.1.at 1 rfl))
    refine (lset_bad 0 16777215 15 (Z ++ Y) _ (by have := HZ.out.2.1; have := HY.out.2.1; have := HY.out.2.2; simp [setB, mayS]; omega) (by have := HZ.out.2.1; simp; unfold maxLen; omega)).mono ?_
    rintro e w7 ⟨rfl, b6⟩
    have B6 : Below h w w7 := H6.out.base.1.trans (b6.mono H6.out.base.2)
    clear b6 H6 hstr t0 t1 t2 t3 t4 t5 t6 t7 t8 t9 s0 s1
    obtain ⟨q2, hq2⟩ : ∃ q, w7.heap.size = q := ⟨_, rfl⟩
    have B7 : Hid (Below h w (w7.alloc (.cells (zl 0).toArray 30))) := B6.alloc (by have := B6.size; omega) _
    go_wp2_with (go_at_call 11; refine (num_any _ _).mono ?_; rintro e w0 ⟨rfl, rfl⟩)
    refine (same_none _).mono ?_
    rintro e w8 ⟨rfl, b8⟩
    have B8 : Below h w w8 := B7.out.trans (b8.mono (Nat.le_trans (Nat.le_of_eq hh.symm) B7.out.size))
    go_wp2_with (go_at_call 11; refine (num_any _ _).mono ?_; rintro e w0 ⟨rfl, rfl⟩)
    go_ret
    exact ⟨rfl, B8⟩

end Go.Proofs.Ytdcfahkcgedegaa.LwwForms
