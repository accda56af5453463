/-
  The walk of the law OpForms: each part of an operation that may not be.
-/
import Derived.Test.YtjfgccjdkflfoaaZOpFormsA11
import Derived.Test.YtjfgccjdkflfoaaZOpFormsB11
import Derived.Test.YtjfgccjdkflfoaaZOpFormsC11
import Derived.Test.YtjfgccjdkflfoaaZOpPartsA11
import Derived.Test.YtjfgccjdkflfoaaZOpPartsB11
import Derived.Test.YtjfgccjdkflfoaaZOpPartsC11
namespace Go.Proofs.Ytjfgccjdkflfoaa.OpForms
open Go.RowKit
set_option linter.unusedVariables false
set_option linter.unusedSimpArgs false

theorem mod14 (a : Int) : ∃ k : Nat, k < 14 ∧ (IntKind.u64.wrap a).tmod 14 = (k : Int) := by
  have h1 : IntKind.u64.wrap a = a % 18446744073709551616 := by simp [IntKind.wrap, IntKind.bits, IntKind.signed]
  rw [h1]
  generalize hz : a % 18446744073709551616 = z
  have hz0 : 0 ≤ z := by omega
  rw [Int.tmod_eq_emod_of_nonneg hz0]
  exact ⟨(z % 14).toNat, by omega, by omega⟩

theorem walk (which x : Int) (w : World) (_ : (Lit.int .i64 which).wf = true) (_ : (Lit.int .i64 x).wf = true) :
    Calls Try.prog 5 #[.int .i64 which, .int .i64 x] w fun e w' => e = .returned (.bool true) ∧ Below w.heap.size w w' := by
  obtain ⟨k, hk, ek⟩ := mod14 which
  have : k = 0 ∨ k = 1 ∨ k = 2 ∨ k = 3 ∨ k = 4 ∨ k = 5 ∨ k = 6 ∨ k = 7 ∨ k = 8 ∨ k = 9 ∨ k = 10 ∨ k = 11 ∨ k = 12 ∨ k = 13 := by omega
  rcases this with rfl | rfl | rfl | rfl | rfl | rfl | rfl | rfl | rfl | rfl | rfl | rfl | rfl | rfl
  · exact arm_0 which x w ek
  · exact arm_1 which x w ek
  · exact arm_2 which x w ek
  · exact arm_3 which x w ek
  · exact arm_4 which x w ek
  · exact arm_5 which x w ek
  · exact arm_6 which x w ek
  · exact arm_7 which x w ek
  · exact arm_8 which x w ek
  · exact arm_9 which x w ek
  · exact arm_10 which x w ek
  · exact arm_11 which x w ek
  · exact arm_12 which x w ek
  · exact arm_13 which x w ek

end Go.Proofs.Ytjfgccjdkflfoaa.OpForms

/-
  The walk of the law OpParts: parts that a kind does not name, or that may not be so.
-/
namespace Go.Proofs.Ytjfgccjdkflfoaa.OpParts
open Go.RowKit
set_option linter.unusedVariables false
set_option linter.unusedSimpArgs false

theorem walk (which x : Int) (w : World) (_ : (Lit.int .i64 which).wf = true) (_ : (Lit.int .i64 x).wf = true) :
    Calls Try.prog 7 #[.int .i64 which, .int .i64 x] w fun e w' => e = .returned (.bool true) ∧ Below w.heap.size w w' := by
  obtain ⟨k, hk, ek⟩ := mod_any which 12 (by omega) (by omega)
  have : k = 0 ∨ k = 1 ∨ k = 2 ∨ k = 3 ∨ k = 4 ∨ k = 5 ∨ k = 6 ∨ k = 7 ∨ k = 8 ∨ k = 9 ∨ k = 10 ∨ k = 11 := by omega
  rcases this with rfl | rfl | rfl | rfl | rfl | rfl | rfl | rfl | rfl | rfl | rfl | rfl
  · exact arm_0 which x w ek
  · exact arm_1 which x w ek
  · exact arm_2 which x w ek
  · exact arm_3 which x w ek
  · exact arm_4 which x w ek
  · exact arm_5 which x w ek
  · exact arm_6 which x w ek
  · exact arm_7 which x w ek
  · exact arm_8 which x w ek
  · exact arm_9 which x w ek
  · exact arm_10 which x w ek
  · exact arm_11 which x w ek

end Go.Proofs.Ytjfgccjdkflfoaa.OpParts

