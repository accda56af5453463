/-
  Small laws: 'int(uint(a) % uint(n))' is a place below n; 'x & (1<<k - 1)' is a number below 1<<k.
-/
import Derived.Laws.BitsAllLaws
import Derived.Laws.Bits128
import Derived.RowKit
namespace Go.Proofs.Ytjfgccjdkflfoaa
open Go.RowKit
set_option linter.unusedVariables false

theorem mod_any (a : Int) (n : Nat) (h0 : 0 < n) (hn : n ≤ 1000000) : ∃ k : Nat, k < n ∧ wrap64 ((IntKind.u64.wrap a).tmod (n : Int)) = (k : Int) := by
  have h1 : IntKind.u64.wrap a = a % 18446744073709551616 := by simp [IntKind.wrap, IntKind.bits, IntKind.signed]
  rw [h1]
  generalize hz : a % 18446744073709551616 = z
  have hz0 : 0 ≤ z := by omega
  rw [Int.tmod_eq_emod_of_nonneg hz0]
  have b1 := Int.emod_nonneg z (show (n : Int) ≠ 0 by omega)
  have b2 := Int.emod_lt_of_pos z (show (0 : Int) < n by omega)
  generalize z % (n : Int) = r at *
  refine ⟨r.toNat, by omega, ?_⟩
  unfold wrap64; omega

theorem wrap_nat (n : Nat) (h : n < 9223372036854775808) : IntKind.i64.wrap (n : Int) = (n : Int) := by
  rw [IntKind.wrap_i64]; omega

theorem and_mask (x : Int) (k : Nat) (hk : k < 63) : ∃ z : Nat, z < 2 ^ k ∧ bits .and .i64 x ((2 ^ k - 1 : Nat) : Int) = (z : Int) := by
  have hp : (2 : Nat) ^ k ≤ 2 ^ 62 := Nat.pow_le_pow_right (by omega) (by omega)
  have e : (2 : Nat) ^ 62 = 4611686018427387904 := by decide
  have hpos : 0 < (2 : Nat) ^ k := Nat.two_pow_pos k
  refine ⟨((BitVec.ofInt 64 x).toNat) % 2 ^ k, Nat.mod_lt _ hpos, ?_⟩
  show IntKind.i64.wrap ((BitVec.ofInt 64 x &&& BitVec.ofInt 64 ((2 ^ k - 1 : Nat) : Int)).toNat : Int) = _
  rw [BitVec.toNat_and, ofInt_u64 (2 ^ k - 1) (by omega), Nat.and_two_pow_sub_one_eq_mod]
  have hlt : (BitVec.ofInt 64 x).toNat % 2 ^ k < 2 ^ k := Nat.mod_lt _ hpos
  exact wrap_nat _ (by omega)

end Go.Proofs.Ytjfgccjdkflfoaa
