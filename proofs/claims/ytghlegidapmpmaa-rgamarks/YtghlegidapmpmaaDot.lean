/-
  Package dot, and the document's own answers to it: whether a dot may be, which stamp is less.
-/
import Derived.Test.YtghlegidapmpmaaBase
import Derived.Test.YtghlegidapmpmaaNum
namespace Go.Proofs.Ytghlegidapmpmaa
open Go.RowKit
set_option linter.unusedVariables false

def mayB (k s n : Int) : Bool := decide (1 ≤ n ∧ n ≤ 16 ∧ 0 ≤ k ∧ k < n ∧ 1 ≤ s ∧ s ≤ 1048575)
def lessB (t n t' n' : Int) : Bool := decide (t < t' ∨ t = t' ∧ n < n')

set_option maxHeartbeats 400000 in
theorem may_any (k s n : Int) (w : World) :
    Calls Try.prog 23 #[.agg #[.int .i64 k, .int .i64 s], .int .i64 n] w fun e w' => e = .returned (.bool (mayB k s n)) ∧ Below w.heap.size w w' := by
  go_enter Try.func23, Try.ntmps23
  go_wp2
  all_goals (go_ret; exact ⟨ret_bool (by unfold mayB; rw [Bool.eq_iff_iff]; simp; omega), (Below.refl _ _).alloc (Nat.le_refl _) _⟩)

set_option maxHeartbeats 400000 in
theorem less_any (t n t' n' : Int) (w : World) :
    Calls Try.prog 32 #[.agg #[.int .i64 t, .int .i64 n], .agg #[.int .i64 t', .int .i64 n']] w fun e w' => e = .returned (.bool (lessB t n t' n')) ∧ Below w.heap.size w w' := by
  by_cases ht : t = t'
  · subst ht
    have hd : (t == t) = true := by simp
    go_enter Try.func32, Try.ntmps32
    go_wp2
    all_goals (go_ret; exact ⟨ret_bool (by unfold lessB; rw [Bool.eq_iff_iff]; simp), ((Below.refl _ _).alloc (Nat.le_refl _) _).alloc (by simp) _⟩)
  · have hd : (t == t') = false := by simpa using ht
    go_enter Try.func32, Try.ntmps32
    go_wp2
    all_goals (go_ret; exact ⟨ret_bool (by unfold lessB; rw [Bool.eq_iff_iff]; simp [ht]), ((Below.refl _ _).alloc (Nat.le_refl _) _).alloc (by simp) _⟩)

end Go.Proofs.Ytghlegidapmpmaa
