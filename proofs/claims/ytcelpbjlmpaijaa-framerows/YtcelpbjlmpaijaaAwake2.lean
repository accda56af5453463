/-
  The law's own first look at package frame ('awake'): it answers true.
-/
import Derived.Test.YtcelpbjlmpaijaaFramePut
import Derived.Test.YtcelpbjlmpaijaaFrameGet
import Derived.Test.YtcelpbjlmpaijaaNum
namespace Go.Proofs.Ytcelpbjlmpaijaa
open Go.RowKit
set_option linter.unusedVariables false

theorem wiki_put : Fr.put [87, 105, 107, 105, 112, 101, 100, 105, 97] = ([9, 17, 230, 3, 152, 87, 105, 107, 105, 112, 101, 100, 105, 97], 0) := by decide +kernel
theorem wiki_get : Fr.get [122, 9, 17, 230, 3, 152, 87, 105, 107, 105, 112, 101, 100, 105, 97] 1 = ([87, 105, 107, 105, 112, 101, 100, 105, 97], 15, 0) := by decide +kernel
theorem wiki_bad : Fr.get [9, 17, 230, 3, 152, 87, 105, 107, 105, 112, 101, 100, 105, 97, 120] 1 = ([], 0, 200) := by decide +kernel
theorem wiki_sum : Fr.sum [87, 105, 107, 105, 112, 101, 100, 105, 97] = 300286872 := by decide +kernel
theorem wiki_z : ((⟨#[122]⟩ : ByteArray) ++ (⟨#[9, 17, 230, 3, 152, 87, 105, 107, 105, 112, 101, 100, 105, 97]⟩ : ByteArray)) = ⟨#[122, 9, 17, 230, 3, 152, 87, 105, 107, 105, 112, 101, 100, 105, 97]⟩ := by decide +kernel
theorem wiki_x : ((⟨#[9, 17, 230, 3, 152, 87, 105, 107, 105, 112, 101, 100, 105, 97]⟩ : ByteArray) ++ (⟨#[120]⟩ : ByteArray)) = ⟨#[9, 17, 230, 3, 152, 87, 105, 107, 105, 112, 101, 100, 105, 97, 120]⟩ := by decide +kernel

set_option maxHeartbeats 400000 in
set_option maxRecDepth 100000 in
theorem awake_any (w : World) :
    Calls Try.prog 14 #[] w fun e w' => e = .returned (.bool true) ∧ Below w.heap.size w w' := by
  obtain ⟨i0, hi0, hz0, hz1, hz2⟩ := info_parts Try.infoByte
  obtain ⟨n, hn⟩ : ∃ n : Nat, n = 32769 := ⟨_, rfl⟩
  obtain ⟨Z, hZ⟩ : ∃ Z : ByteArray, Z = ⟨(List.replicate n (0 : UInt8)).toArray⟩ := ⟨_, rfl⟩
  have hZs : Z.size = n := by rw [← size_list, hZ]; simp
  have HZ : Hid (Z = ⟨(List.replicate n (0 : UInt8)).toArray⟩ ∧ Z.size = n ∧ Fr.put Z.data.toList = ([], 200) ∧ n = 32769) := ⟨hZ, hZs, by unfold Fr.put; rw [if_pos (by rw [size_list]; omega)], hn⟩
  clear hZ hZs hn
  have z1 := wiki_z
  have z2 := wiki_x
  go_enter Try.func14, Try.ntmps14
  go_wp2_with fail
  refine (framePut_any ⟨#[87, 105, 107, 105, 112, 101, 100, 105, 97]⟩ _ (by decide) wiki_put).mono ?_
  rintro e w1 ⟨rfl, h1⟩
  go_wp2_with fail
  refine (frameGet_any ⟨#[122, 9, 17, 230, 3, 152, 87, 105, 107, 105, 112, 101, 100, 105, 97]⟩ 1 _ (by decide) (by decide) wiki_get).mono ?_
  rintro e w2 ⟨rfl, h2⟩
  go_wp2_with fail
  refine (frameGet_any ⟨#[9, 17, 230, 3, 152, 87, 105, 107, 105, 112, 101, 100, 105, 97, 120]⟩ 1 _ (by decide) (by decide) wiki_bad).mono ?_
  rintro e w3 ⟨rfl, h3⟩
  have hb3 := thenB (thenB h1 h2) h3
  go_wp2_with (at_make; (refine wpList_make_full _ rfl _ _ 37 rfl w.heap.size 5 i0 (.int .u8 0) 1 Try.underlying37 hi0 hz0 hz1 .i64 .i64 32769 32769 n rfl rfl ?c1 ?c2 ?c3 ?c4 hb3.size ?_; (case c1 => have := HZ.out.2.2.2; omega); (case c2 => have := HZ.out.2.2.2; omega); (case c3 => rw [hz2]; have := HZ.out.2.2.2; omega); (case c4 => unfold maxLen; have := HZ.out.2.2.2; omega); intro w4 hown hgrow; have hstr := zeros_string hown; rw [← HZ.out.1] at hstr))
  go_wp2_with fail
  refine (framePut_any Z _ (by rw [HZ.out.2.1, HZ.out.2.2.2]; decide) HZ.out.2.2.1).mono ?_
  rintro e w5 ⟨rfl, h5⟩
  go_wp2_with fail
  refine (sum_is ⟨#[87, 105, 107, 105, 112, 101, 100, 105, 97]⟩ _ (by decide) wiki_sum).mono ?_
  rintro e w0 ⟨rfl, rfl⟩
  go_wp2_with fail
  refine (sum_is ⟨#[]⟩ _ (by decide) (n := 1) (by decide)).mono ?_
  rintro e w0 ⟨rfl, rfl⟩
  go_wp2_with (go_at_call 11; refine (num_any _ _).mono ?_; rintro e w0 ⟨rfl, rfl⟩)
  go_ret
  exact ⟨rfl, (hb3.grown hgrow hb3.size (by simp)).trans (h5.mono (Nat.le_trans hb3.size hgrow.size))⟩

end Go.Proofs.Ytcelpbjlmpaijaa
