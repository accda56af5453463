/-
  Package dot, and the document's own answers to it: whether a dot may be, which stamp is less.
-/
import Derived.Test.YtjfgccjdkflfoaaBase
import Derived.Test.YtjfgccjdkflfoaaNum
namespace Go.Proofs.Ytjfgccjdkflfoaa
open Go.RowKit
set_option linter.unusedVariables false

def mayB (k s n : Int) : Bool := decide (1 ≤ n ∧ n ≤ 16 ∧ 0 ≤ k ∧ k < n ∧ 1 ≤ s ∧ s ≤ 1048575)
def lessB (t n t' n' : Int) : Bool := decide (t < t' ∨ t = t' ∧ n < n')

set_option maxHeartbeats 400000 in
theorem may_any (k s n : Int) (w : World) :
    Calls Try.prog 57 #[.agg #[.int .i64 k, .int .i64 s], .int .i64 n] w fun e w' => e = .returned (.bool (mayB k s n)) ∧ Below w.heap.size w w' := by
  go_enter Try.func57, Try.ntmps57
  go_wp2
  all_goals (go_ret; exact ⟨ret_bool (by unfold mayB; rw [Bool.eq_iff_iff]; simp; omega), (Below.refl _ _).alloc (Nat.le_refl _) _⟩)

set_option maxHeartbeats 400000 in
theorem refMay_any (k s n : Int) (w : World) :
    Calls Try.prog 38 #[.agg #[.int .i64 k, .int .i64 s], .int .i64 n] w fun e w' => e = .returned (.bool (mayB k s n)) ∧ Below w.heap.size w w' := by
  go_enter Try.func38, Try.ntmps38
  go_wp2
  all_goals (go_ret; exact ⟨ret_bool (by unfold mayB; rw [Bool.eq_iff_iff]; simp; omega), (Below.refl _ _).alloc (Nat.le_refl _) _⟩)

end Go.Proofs.Ytjfgccjdkflfoaa
