/-
  Small laws: 'int(uint(a) % uint(n))' is a place below n; 'x ^ byte(1 + d)' is another byte than x.
-/
import Derived.Test.YtcelpbjlmpaijaaChecked
import Derived.Test.YtcelpbjlmpaijaaBytes
namespace Go.Proofs.Ytcelpbjlmpaijaa
open Go.RowKit
set_option linter.unusedVariables false

theorem mod_any (a : Int) (n : Nat) (h0 : 0 < n) (hn : n ≤ 1000000) : ∃ k : Nat, k < n ∧ wrap64 ((IntKind.u64.wrap a).tmod (n : Int)) = (k : Int) := by
  have h1 : IntKind.u64.wrap a = a % 18446744073709551616 := by simp [IntKind.wrap, IntKind.bits, IntKind.signed]
  rw [h1]
  generalize hz : a % 18446744073709551616 = z
  have hz0 : 0 ≤ z := by omega
  rw [Int.tmod_eq_emod_of_nonneg hz0]
  have b1 := Int.emod_nonneg z (show (n : Int) ≠ 0 by omega)
  have b2 := Int.emod_lt_of_pos z (show (0 : Int) < n by omega)
  generalize z % (n : Int) = r at *
  refine ⟨r.toNat, by omega, ?_⟩
  unfold wrap64; omega

theorem xor_byte (x : UInt8) (d : Nat) (hd : d < 128) : bits .xor .u8 (x.toNat : Int) (1 + (d : Int)) = ((x ^^^ UInt8.ofNat (1 + d)).toNat : Int) := by
  have hx := x.toNat_lt
  have e : (1 + (d : Int)) = ((1 + d : Nat) : Int) := by omega
  rw [e, u8_xor_nat _ _ hx (by omega), UInt8.toNat_xor, UInt8.toNat_ofNat']
  congr 2
  omega

theorem xor_ne (x : UInt8) (d : Nat) (hd : d < 128) : x ^^^ UInt8.ofNat (1 + d) ≠ x := by
  intro h
  have h2 : UInt8.ofNat (1 + d) = 0 := by
    have : x ^^^ (x ^^^ UInt8.ofNat (1 + d)) = x ^^^ x := by rw [h]
    simpa [← UInt8.xor_assoc] using this
  have h3 := congrArg UInt8.toNat h2
  rw [UInt8.toNat_ofNat'] at h3
  simp at h3
  omega

end Go.Proofs.Ytcelpbjlmpaijaa
