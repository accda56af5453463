/-
  Plain mathematics of layer 1: how many bytes a number has.
-/
import Derived.Test.YtgkddimijmnpcaaGreatDoorZPack2
import Derived.WalkKit
namespace Go.Proofs.YtgkddimijmnpcaaGreatDoor.Vi
open Go.RowKit
set_option linter.unusedVariables false

theorem mod62 (b : Int) : ∃ k : Nat, k < 62 ∧ wrap64 ((IntKind.u64.wrap b).tmod 62) = (k : Int) := by
  have h1 : IntKind.u64.wrap b = b % 18446744073709551616 := by simp [IntKind.wrap, IntKind.bits, IntKind.signed]
  rw [h1]
  generalize hz : b % 18446744073709551616 = z
  have hz0 : 0 ≤ z := by omega
  rw [Int.tmod_eq_emod_of_nonneg hz0]
  refine ⟨(z % 62).toNat, by omega, ?_⟩
  unfold wrap64; omega

theorem lt_two_pow {k y : Nat} (hk : k < 62) (hy : y < 2 ^ (k + 1)) : y < 9223372036854775808 := by
  have : (2 : Nat) ^ (k + 1) ≤ 2 ^ 63 := Nat.pow_le_pow_right (by omega) (by omega)
  have e : (2 : Nat) ^ 63 = 9223372036854775808 := by decide
  omega

theorem putI_nat (y : Nat) : putI (y : Int) = (put y, 0) := by
  unfold putI
  rw [if_neg (by omega), Int.toNat_natCast]

theorem and_mask (x : Int) (k : Nat) (hk : k < 63) : ∃ z : Nat, z < 2 ^ k ∧ bits .and .i64 x ((2 ^ k - 1 : Nat) : Int) = (z : Int) := by
  have hp : (2 : Nat) ^ k ≤ 2 ^ 62 := Nat.pow_le_pow_right (by omega) (by omega)
  have e : (2 : Nat) ^ 62 = 4611686018427387904 := by decide
  have hpos : 0 < (2 : Nat) ^ k := Nat.two_pow_pos k
  refine ⟨((BitVec.ofInt 64 x).toNat) % 2 ^ k, Nat.mod_lt _ hpos, ?_⟩
  show IntKind.i64.wrap ((BitVec.ofInt 64 x &&& BitVec.ofInt 64 ((2 ^ k - 1 : Nat) : Int)).toNat : Int) = _
  rw [BitVec.toNat_and, ofInt_u64 (2 ^ k - 1) (by omega), Nat.and_two_pow_sub_one_eq_mod]
  have hlt : (BitVec.ofInt 64 x).toNat % 2 ^ k < 2 ^ k := Nat.mod_lt _ hpos
  exact wrap_small _ (by omega)

theorem shift_one (k : Nat) (hk : k < 62) : wrap64 (2 ^ min (IntKind.u64.wrap (k : Int)).toNat 64) = ((2 ^ k : Nat) : Int) := by
  have hp : (2 : Nat) ^ k ≤ 2 ^ 62 := Nat.pow_le_pow_right (by omega) (by omega)
  have e : (2 : Nat) ^ 62 = 4611686018427387904 := by decide
  have h1 : IntKind.u64.wrap (k : Int) = (k : Int) := by
    simp [IntKind.wrap, IntKind.bits, IntKind.signed]; omega
  rw [h1, Int.toNat_natCast, Nat.min_eq_left (by omega)]
  have h2 : ((2 : Int) ^ k) = ((2 ^ k : Nat) : Int) := by simp
  rw [h2]
  generalize (2 : Nat) ^ k = z at *
  unfold wrap64; omega

/-- '1<<k | x&(1<<k-1)': a number whose highest bit is k. -/
theorem topbit (x : Int) (k : Nat) (hk : k < 62) : ∃ y : Nat, 2 ^ k ≤ y ∧ y < 2 ^ (k + 1) ∧
    bits .or .i64 (wrap64 (2 ^ min (IntKind.u64.wrap (k : Int)).toNat 64)) (bits .and .i64 x (wrap64 (wrap64 (2 ^ min (IntKind.u64.wrap (k : Int)).toNat 64) - 1))) = (y : Int) := by
  have hp : (2 : Nat) ^ k ≤ 2 ^ 62 := Nat.pow_le_pow_right (by omega) (by omega)
  have e : (2 : Nat) ^ 62 = 4611686018427387904 := by decide
  have hpos : 0 < (2 : Nat) ^ k := Nat.two_pow_pos k
  obtain ⟨z, hz, ez⟩ := and_mask x k (by omega)
  have e1 : wrap64 (((2 ^ k : Nat) : Int) - 1) = ((2 ^ k - 1 : Nat) : Int) := by
    generalize (2 : Nat) ^ k = q at *
    unfold wrap64; omega
  refine ⟨2 ^ k + z, by omega, by rw [Nat.pow_succ]; omega, ?_⟩
  rw [shift_one k hk, e1, ez]
  have h := i64_or_join 1 z k hz (by omega)
  rw [Nat.mul_one] at h
  exact h

theorem putF_length : ∀ (f k y : Nat), k / 7 < f → 2 ^ k ≤ y → y < 2 ^ (k + 1) → (putF f y).length = k / 7 + 1
  | 0, _, _, h, _, _ => by omega
  | f + 1, k, y, h, h1, h2 => by
    by_cases hy : y < 128
    · have hk : k < 7 := by
        rcases Nat.lt_or_ge k 7 with h7 | h7
        · exact h7
        · have : (2 : Nat) ^ 7 ≤ 2 ^ k := Nat.pow_le_pow_right (by omega) h7
          omega
      rw [putF_last (by omega) (by omega)]
      simp; omega
    · have hk : 7 ≤ k := by
        rcases Nat.lt_or_ge k 7 with h7 | h7
        · have : (2 : Nat) ^ (k + 1) ≤ 2 ^ 7 := Nat.pow_le_pow_right (by omega) (by omega)
          omega
        · exact h7
      have e : putF (f + 1) y = UInt8.ofNat (y % 128 + 128) :: putF f (y / 128) := by
        show (if _ then _ else _) = _
        rw [if_neg hy]
      obtain ⟨j, rfl⟩ : ∃ j, k = j + 7 := ⟨k - 7, by omega⟩
      have p1 : (2 : Nat) ^ (j + 7) = 2 ^ j * 128 := by rw [Nat.pow_add]
      have p2 : (2 : Nat) ^ (j + 7 + 1) = 2 ^ (j + 1) * 128 := by rw [show j + 7 + 1 = j + 1 + 7 by omega, Nat.pow_add]
      rw [e, List.length_cons, putF_length f j (y / 128) (by omega) (by omega) (by omega)]
      omega

theorem put_length {k y : Nat} (hk : k < 62) (h1 : 2 ^ k ≤ y) (h2 : y < 2 ^ (k + 1)) : (put y).length = k / 7 + 1 :=
  putF_length 9 k y (by omega) h1 h2

end Go.Proofs.YtgkddimijmnpcaaGreatDoor.Vi

