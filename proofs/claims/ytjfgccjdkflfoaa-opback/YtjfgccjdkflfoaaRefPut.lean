/-
  The document's own way to tell a number's bytes ('put' of the reference package), by a contract: the same plain function as varint's Put.
-/
import Derived.Test.YtjfgccjdkflfoaaVarintPut
namespace Go.Proofs.Ytjfgccjdkflfoaa
open Go.RowKit
set_option linter.unusedVariables false

set_option maxHeartbeats 1000000 in
set_option maxRecDepth 100000 in
theorem refput_nat (x : Nat) (w : World) (hx : x < 9223372036854775808) :
    Calls Try.prog 24 #[.int .i64 x] w fun e w' => e = .returned (.string ⟨(Vi.put x).toArray⟩) ∧ Below w.heap.size w w' := by
  have H : Hid (Vi.put x = [] ++ Vi.putF 9 x) := rfl
  go_enter Try.func24, Try.ntmps24
  go_wp2
  go_loopg [0, 3] 9 (fun f xv v wr => ∃ (y : Nat) (l : List UInt8), l.length + f = 9 ∧ 0 < f ∧ y < 128 ^ f ∧ Vi.put x = l ++ Vi.putF f y ∧ xv = .int .i64 y ∧ wr.ownsRow w.heap.size 5 1 v l.length (Vi.cells l) ∧ Below w.heap.size w wr)
  case atStart => exact ⟨x, [], rfl, by omega, hx, H.out, rfl, World.ownsRow_nil _ _ _ _, Below.refl _ _⟩
  case round =>
    clear H
    obtain ⟨y, l, hlf, hf, hy, hput, rfl, hown, hbel⟩ := hrel
    have HY : Hid (y < 128 ^ gk ∧ l.length + gk = 9 ∧ 0 < gk ∧ Vi.put x = l ++ Vi.putF gk y) := ⟨hy, hlf, hf, hput⟩
    have hy63 : y < 9223372036854775808 := Vi.lt63 hy (by omega)
    clear hy hlf hf hput
    have hsz : w.heap.size ≤ wr.heap.size := hbel.size
    by_cases hc : 128 ≤ y
    · go_wp2_with (at_builtin; refine wpList_append_byte rfl _ _ rfl (UInt8.ofNat (y % 128 + 128)) (Vi.ref128 y) rfl rfl hown (by have := HY.out; omega) hsz ?_; intro v' w' hown' hbel')
      have hb2 := hbel.trans hbel'
      have hn := Vi.putF_more HY.out.1 HY.out.2.2.1 hc
      go_roundg (gk - 1)
      case measure => omega
      case rel =>
        refine ⟨y / 128, l ++ [UInt8.ofNat (y % 128 + 128)], by have := HY.out.2.1; simp; omega, by omega, hn.2.1, ?_, ?_, hown', hb2⟩
        · rw [HY.out.2.2.2, hn.2.2]; simp
        · go_num
    · have hc2 : ¬ (127 : Int) < (y : Int) := by omega
      have hc3 : y ≤ 127 := by omega
      go_wp2_with (at_builtin; refine wpList_append_byte rfl _ _ rfl (UInt8.ofNat y) (Vi.byte_small hc) rfl rfl hown (by have := HY.out; omega) hsz ?_; intro v' w' hown' hbel'; have hstr := run_string_own hown')
      go_ret
      exact ⟨by rw [HY.out.2.2.2, Vi.putF_last HY.out.2.2.1 hc]; rfl, hbel.trans hbel'⟩

end Go.Proofs.Ytjfgccjdkflfoaa
