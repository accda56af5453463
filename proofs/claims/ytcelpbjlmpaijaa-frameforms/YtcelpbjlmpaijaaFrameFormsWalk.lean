/-
  The law FrameForms: bodies that are too long, places that are none, lengths that lie are no frames: the walk.
-/
import Derived.Test.YtcelpbjlmpaijaaAwake2
import Derived.Test.YtcelpbjlmpaijaaViLong
namespace Go.Proofs.Ytcelpbjlmpaijaa.FrameForms
open Go.RowKit
set_option linter.unusedVariables false

theorem abc_put : Fr.put [97, 98, 99] = ([3, 2, 77, 1, 39, 97, 98, 99], 0) := by decide +kernel
theorem abc_four : Fr.get [4, 2, 77, 1, 39, 97, 98, 99] 0 = ([], 0, 200) := by decide +kernel
theorem abc_two : Fr.get [2, 2, 77, 1, 39, 97, 98, 99] 0 = ([], 0, 200) := by decide +kernel
theorem abc_x4 : ((⟨#[4]⟩ : ByteArray) ++ (⟨#[2, 77, 1, 39, 97, 98, 99]⟩ : ByteArray)) = ⟨#[4, 2, 77, 1, 39, 97, 98, 99]⟩ := by decide +kernel
theorem abc_x2 : ((⟨#[2]⟩ : ByteArray) ++ (⟨#[2, 77, 1, 39, 97, 98, 99]⟩ : ByteArray)) = ⟨#[2, 2, 77, 1, 39, 97, 98, 99]⟩ := by decide +kernel
theorem abc_cut : (⟨#[3, 2, 77, 1, 39, 97, 98, 99]⟩ : ByteArray).extract 1 8 = ⟨#[2, 77, 1, 39, 97, 98, 99]⟩ := by decide +kernel

theorem get_out (l : List UInt8) (a : Int) (h : a < 0 ∨ l.length ≤ a) : Fr.get l a = ([], 0, 200) := by
  obtain ⟨x, t, n, hg⟩ : ∃ x t n, Vi.getI l a = (x, t, n) := ⟨_, _, _, rfl⟩
  refine get_none hg ?_
  rintro ⟨rfl, _⟩
  have := Vi.getI_ok hg
  omega

theorem wf_small (n : Int) (h1 : -1000000 ≤ n) (h2 : n ≤ 1000000) : (Lit.int .i64 n).wf = true := by
  simp only [Lit.wf, IntKind.min, IntKind.max, IntKind.signed, IntKind.bits, Bool.and_eq_true, decide_eq_true_eq, if_true]
  omega

set_option maxHeartbeats 1000000 in
set_option maxRecDepth 100000 in
theorem short (m a : Int) (w : World) (hm : (Lit.int .i64 m).wf = true) (ha : (Lit.int .i64 a).wf = true) {z : Nat} (hz : z < 8) (ez : bits .and .i64 m 7 = (z : Int)) (hle : z ≤ 4) :
    Calls Try.prog 5 #[.int .i64 m, .int .i64 a] w fun e w' => e = .returned (.bool true) ∧ Below w.heap.size w w' := by
  obtain ⟨y, hy, ey⟩ : ∃ y : Nat, y < 64 ∧ bits .and .i64 a 63 = (y : Int) := Vi.and_mask a 6 (by omega)
  obtain ⟨i0, hi0, hz0, hz1, hz2⟩ := info_parts Try.infoByte
  obtain ⟨n, hn⟩ : ∃ n : Nat, n = 32764 + z := ⟨_, rfl⟩
  obtain ⟨Z, hZ⟩ : ∃ Z : ByteArray, Z = ⟨(List.replicate n (0 : UInt8)).toArray⟩ := ⟨_, rfl⟩
  have hZs : Z.size = n := by rw [← size_list, hZ]; simp
  have x4 := abc_x4
  have x2 := abc_x2
  have x1 := abc_cut
  have hd : decide ((32764 : Int) + (z : Int) ≤ 32768) = true := by simp; omega
  obtain ⟨l, hl⟩ : ∃ l, Fr.put Z.data.toList = (l, 0) := ⟨_, by unfold Fr.put; rw [if_neg (by rw [size_list]; omega)]⟩
  have HZ : Hid (Z = ⟨(List.replicate n (0 : UInt8)).toArray⟩ ∧ Z.size = n ∧ Fr.put Z.data.toList = (l, 0) ∧ n = 32764 + z) := ⟨hZ, hZs, hl, hn⟩
  clear hZ hZs hn hl
  go_enter Try.func5, Try.ntmps5
  go_wp2_with fail
  refine (awake_any _).mono ?_
  rintro e w1 ⟨rfl, h1⟩
  go_wp2_with (at_make; (refine wpList_make_full _ rfl _ _ 37 rfl w.heap.size 5 i0 (.int .u8 0) 1 Try.underlying37 hi0 hz0 hz1 .i64 .i64 _ _ n rfl rfl ?c1 ?c2 ?c3 ?c4 h1.size ?_; (case c1 => have := HZ.out.2.2.2; omega); (case c2 => have := HZ.out.2.2.2; omega); (case c3 => rw [hz2]; have := HZ.out.2.2.2; omega); (case c4 => unfold maxLen; have := HZ.out.2.2.2; omega); intro w4 hown hgrow; have hstr := zeros_string hown; rw [← HZ.out.1] at hstr))
  go_wp2_with fail
  refine (framePut_any Z _ (by rw [HZ.out.2.1, HZ.out.2.2.2]; unfold maxLen; omega) HZ.out.2.2.1).mono ?_
  rintro e w5 ⟨rfl, h5⟩
  have hb5 := (h1.grown hgrow h1.size (by simp)).trans (h5.mono (Nat.le_trans h1.size hgrow.size))
  go_wp2_with fail
  refine (framePut_any ⟨#[97, 98, 99]⟩ _ (by decide) abc_put).mono ?_
  rintro e w6 ⟨rfl, h6⟩
  go_wp2_with fail
  refine (frameGet_any ⟨#[3, 2, 77, 1, 39, 97, 98, 99]⟩ (-1 - (y : Int)) _ (by decide) (wf_small _ (by omega) (by omega)) (get_out _ _ (.inl (by omega)))).mono ?_
  rintro e w7 ⟨rfl, h7⟩
  go_wp2_with fail
  refine (frameGet_any ⟨#[3, 2, 77, 1, 39, 97, 98, 99]⟩ (8 + (y : Int)) _ (by decide) (wf_small _ (by omega) (by omega)) (get_out _ _ (.inr (by simp; omega)))).mono ?_
  rintro e w8 ⟨rfl, h8⟩
  go_wp2_with fail
  refine (frameGet_any ⟨#[4, 2, 77, 1, 39, 97, 98, 99]⟩ 0 _ (by decide) (by decide) abc_four).mono ?_
  rintro e w9 ⟨rfl, h9⟩
  go_wp2_with fail
  refine (frameGet_any ⟨#[2, 2, 77, 1, 39, 97, 98, 99]⟩ 0 _ (by decide) (by decide) abc_two).mono ?_
  rintro e wa ⟨rfl, ha'⟩
  go_wp2_with (go_at_call 11; refine (num_any _ _).mono ?_; rintro e w0 ⟨rfl, rfl⟩)
  go_ret
  exact ⟨rfl, thenB (thenB (thenB (thenB (thenB hb5 h6) h7) h8) h9) ha'⟩

set_option maxHeartbeats 1000000 in
set_option maxRecDepth 100000 in
theorem long (m a : Int) (w : World) (hm : (Lit.int .i64 m).wf = true) (ha : (Lit.int .i64 a).wf = true) {z : Nat} (hz : z < 8) (ez : bits .and .i64 m 7 = (z : Int)) (hle : ¬ z ≤ 4) :
    Calls Try.prog 5 #[.int .i64 m, .int .i64 a] w fun e w' => e = .returned (.bool true) ∧ Below w.heap.size w w' := by
  obtain ⟨y, hy, ey⟩ : ∃ y : Nat, y < 64 ∧ bits .and .i64 a 63 = (y : Int) := Vi.and_mask a 6 (by omega)
  obtain ⟨i0, hi0, hz0, hz1, hz2⟩ := info_parts Try.infoByte
  obtain ⟨n, hn⟩ : ∃ n : Nat, n = 32764 + z := ⟨_, rfl⟩
  obtain ⟨Z, hZ⟩ : ∃ Z : ByteArray, Z = ⟨(List.replicate n (0 : UInt8)).toArray⟩ := ⟨_, rfl⟩
  have hZs : Z.size = n := by rw [← size_list, hZ]; simp
  have x4 := abc_x4
  have x2 := abc_x2
  have x1 := abc_cut
  have hd : decide ((32764 : Int) + (z : Int) ≤ 32768) = false := by simp; omega
  have hl : Fr.put Z.data.toList = ([], 200) := by unfold Fr.put; rw [if_pos (by rw [size_list]; omega)]
  have HZ : Hid (Z = ⟨(List.replicate n (0 : UInt8)).toArray⟩ ∧ Z.size = n ∧ Fr.put Z.data.toList = ([], 200) ∧ n = 32764 + z) := ⟨hZ, hZs, hl, hn⟩
  clear hZ hZs hn hl
  go_enter Try.func5, Try.ntmps5
  go_wp2_with fail
  refine (awake_any _).mono ?_
  rintro e w1 ⟨rfl, h1⟩
  go_wp2_with (at_make; (refine wpList_make_full _ rfl _ _ 37 rfl w.heap.size 5 i0 (.int .u8 0) 1 Try.underlying37 hi0 hz0 hz1 .i64 .i64 _ _ n rfl rfl ?c1 ?c2 ?c3 ?c4 h1.size ?_; (case c1 => have := HZ.out.2.2.2; omega); (case c2 => have := HZ.out.2.2.2; omega); (case c3 => rw [hz2]; have := HZ.out.2.2.2; omega); (case c4 => unfold maxLen; have := HZ.out.2.2.2; omega); intro w4 hown hgrow; have hstr := zeros_string hown; rw [← HZ.out.1] at hstr))
  go_wp2_with fail
  refine (framePut_any Z _ (by rw [HZ.out.2.1, HZ.out.2.2.2]; unfold maxLen; omega) HZ.out.2.2.1).mono ?_
  rintro e w5 ⟨rfl, h5⟩
  have hb5 := (h1.grown hgrow h1.size (by simp)).trans (h5.mono (Nat.le_trans h1.size hgrow.size))
  go_wp2_with fail
  refine (framePut_any ⟨#[97, 98, 99]⟩ _ (by decide) abc_put).mono ?_
  rintro e w6 ⟨rfl, h6⟩
  go_wp2_with fail
  refine (frameGet_any ⟨#[3, 2, 77, 1, 39, 97, 98, 99]⟩ (-1 - (y : Int)) _ (by decide) (wf_small _ (by omega) (by omega)) (get_out _ _ (.inl (by omega)))).mono ?_
  rintro e w7 ⟨rfl, h7⟩
  go_wp2_with fail
  refine (frameGet_any ⟨#[3, 2, 77, 1, 39, 97, 98, 99]⟩ (8 + (y : Int)) _ (by decide) (wf_small _ (by omega) (by omega)) (get_out _ _ (.inr (by simp; omega)))).mono ?_
  rintro e w8 ⟨rfl, h8⟩
  go_wp2_with fail
  refine (frameGet_any ⟨#[4, 2, 77, 1, 39, 97, 98, 99]⟩ 0 _ (by decide) (by decide) abc_four).mono ?_
  rintro e w9 ⟨rfl, h9⟩
  go_wp2_with fail
  refine (frameGet_any ⟨#[2, 2, 77, 1, 39, 97, 98, 99]⟩ 0 _ (by decide) (by decide) abc_two).mono ?_
  rintro e wa ⟨rfl, ha'⟩
  go_wp2_with (go_at_call 11; refine (num_any _ _).mono ?_; rintro e w0 ⟨rfl, rfl⟩)
  go_ret
  exact ⟨rfl, thenB (thenB (thenB (thenB (thenB hb5 h6) h7) h8) h9) ha'⟩

theorem walk (m a : Int) (w : World) (hm : (Lit.int .i64 m).wf = true) (ha : (Lit.int .i64 a).wf = true) :
    Calls Try.prog 5 #[.int .i64 m, .int .i64 a] w fun e w' => e = .returned (.bool true) ∧ Below w.heap.size w w' := by
  obtain ⟨z, hz, ez⟩ : ∃ z : Nat, z < 8 ∧ bits .and .i64 m 7 = (z : Int) := Vi.and_mask m 3 (by omega)
  by_cases hle : z ≤ 4
  · exact short m a w hm ha hz ez hle
  · exact long m a w hm ha hz ez hle

end Go.Proofs.Ytcelpbjlmpaijaa.FrameForms
