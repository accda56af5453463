/-
  Package varint's Put, by a contract: what it answers for every number.
-/
import Derived.Test.YtjfgccjdkflfoaaChecked
import Derived.Test.YtjfgccjdkflfoaaBytes
import Derived.WalkKit
import Derived.OpenShut
import Derived.WalkSpells
import Derived.WalkLawsBesides
import Derived.Deep.LoopGhost
namespace Go.Proofs.Ytjfgccjdkflfoaa
open Go.RowKit
set_option linter.unusedVariables false

theorem ret_si {s s' : ByteArray} {a a' : Int} (h1 : s = s') (h2 : a = a') :
    Ending.returned (.tuple #[.string s, .int .i64 a]) = .returned (.tuple #[.string s', .int .i64 a']) := by rw [h1, h2]

set_option maxHeartbeats 1000000 in
set_option maxRecDepth 100000 in
theorem put_nat (x : Nat) (w : World) (hx : x < 9223372036854775808) :
    Calls Try.prog 64 #[.int .i64 x] w fun e w' => e = .returned (.tuple #[.string ⟨(Vi.put x).toArray⟩, .int .i64 0]) ∧ Below w.heap.size w w' := by
  obtain ⟨i0, hi, hz0, hz1, hz2⟩ := info_parts Try.infoByte
  have hd0 : decide ((x : Int) < 0) = false := by simp
  go_enter Try.func64, Try.ntmps64
  go_wp2_with (first
    | (at_make; refine wpList_make_own _ rfl _ _ 50 rfl w.heap.size 5 i0 (.int .u8 0) 1 Try.underlying50 hi hz0 hz1 .i64 .i64 9 9 rfl rfl rfl (by rw [hz2]; omega) (by unfold maxLen; omega) (Nat.le_refl _) ?_; intro w1 hown hgrow))
  have hbel : Below w.heap.size w w1 := (Below.refl _ _).grown hgrow (Nat.le_refl _) (by simp)
  have H : Hid (Vi.put x = [] ++ Vi.putF 9 x) := rfl
  clear hgrow
  go_loopg [0, 4] 9 (fun f xv v wr => ∃ (y : Nat) (l : List UInt8), l.length + f = 9 ∧ 0 < f ∧ y < 128 ^ f ∧ Vi.put x = l ++ Vi.putF f y ∧ xv = .int .i64 y ∧ wr.ownsRow w.heap.size 5 1 v l.length (Vi.cells l) ∧ Below w.heap.size w wr)
  case atStart => exact ⟨x, [], rfl, by omega, hx, H.out, rfl, hown, hbel⟩
  case round =>
    clear hown hbel H
    obtain ⟨y, l, hlf, hf, hy, hput, rfl, hown, hbel⟩ := hrel
    have HY : Hid (y < 128 ^ gk ∧ l.length + gk = 9 ∧ 0 < gk ∧ Vi.put x = l ++ Vi.putF gk y) := ⟨hy, hlf, hf, hput⟩
    have hy63 : y < 9223372036854775808 := Vi.lt63 hy (by omega)
    clear hy hlf hf hput
    have hsz : w.heap.size ≤ wr.heap.size := hbel.size
    by_cases hc : 128 ≤ y
    · go_wp2_with (at_builtin; refine wpList_append_byte rfl _ _ rfl (UInt8.ofNat (y % 128 + 128)) (Vi.or128 y) rfl rfl hown (by have := HY.out; omega) hsz ?_; intro v' w' hown' hbel')
      have hb2 := hbel.trans hbel'
      have hn := Vi.putF_more HY.out.1 HY.out.2.2.1 hc
      go_roundg (gk - 1)
      case measure => omega
      case rel =>
        refine ⟨y / 128, l ++ [UInt8.ofNat (y % 128 + 128)], by have := HY.out.2.1; simp; omega, by omega, hn.2.1, ?_, ?_, hown', hb2⟩
        · rw [HY.out.2.2.2, hn.2.2]; simp
        · go_num
    · go_wp2_with (at_builtin; refine wpList_append_byte rfl _ _ rfl (UInt8.ofNat y) (Vi.byte_small hc) rfl rfl hown (by have := HY.out; omega) hsz ?_; intro v' w' hown' hbel'; have hstr := run_string_own hown')
      go_ret2
      exact ⟨ret_si (by rw [HY.out.2.2.2, Vi.putF_last HY.out.2.2.1 hc]) rfl, hbel.trans hbel'⟩

theorem put_neg (x : Int) (w : World) (hx : x < 0) :
    Calls Try.prog 64 #[.int .i64 x] w fun e w' => e = .returned (.tuple #[.string ⟨#[]⟩, .int .i64 101]) ∧ w' = w := by
  go_enter Try.func64, Try.ntmps64
  go_wp2
  go_ret2
  exact ⟨rfl, rfl⟩

/-- Put of whatever number. -/
theorem put_any (x : Int) (w : World) (hw : (Lit.int .i64 x).wf = true) {l : List UInt8} {n : Nat} (hp : Vi.putI x = (l, n)) :
    Calls Try.prog 64 #[.int .i64 x] w fun e w' => e = .returned (.tuple #[.string ⟨l.toArray⟩, .int .i64 n]) ∧ Below w.heap.size w w' := by
  by_cases h : x < 0
  · rw [show Vi.putI x = ([], 101) by unfold Vi.putI; rw [if_pos h]] at hp
    simp only [Prod.mk.injEq] at hp
    obtain ⟨rfl, rfl⟩ := hp
    refine (put_neg x w h).mono ?_
    rintro e w' ⟨rfl, rfl⟩
    exact ⟨rfl, Below.refl _ _⟩
  · rw [show Vi.putI x = (Vi.put x.toNat, 0) by unfold Vi.putI; rw [if_neg h]] at hp
    simp only [Prod.mk.injEq] at hp
    obtain ⟨rfl, rfl⟩ := hp
    obtain ⟨y, rfl⟩ := Int.eq_ofNat_of_zero_le (show 0 ≤ x by omega)
    have hb := bounds_i64 hw
    refine (put_nat y w (by omega)).mono ?_
    rintro e w' ⟨rfl, h2⟩
    exact ⟨rfl, h2⟩

end Go.Proofs.Ytjfgccjdkflfoaa
