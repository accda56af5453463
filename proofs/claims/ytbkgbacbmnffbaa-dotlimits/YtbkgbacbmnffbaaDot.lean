/-
  Package dot, and the document's own answers to it: whether a dot may be, which stamp is less.
-/
import Derived.Test.YtbkgbacbmnffbaaBase
import Derived.Test.YtbkgbacbmnffbaaNum
namespace Go.Proofs.Ytbkgbacbmnffbaa
open Go.RowKit
set_option linter.unusedVariables false

def mayB (k s n : Int) : Bool := decide (1 ≤ n ∧ n ≤ 16 ∧ 0 ≤ k ∧ k < n ∧ 1 ≤ s ∧ s ≤ 1048575)
def lessB (t n t' n' : Int) : Bool := decide (t < t' ∨ t = t' ∧ n < n')

set_option maxHeartbeats 400000 in
theorem may_any (k s n : Int) (w : World) :
    Calls Try.prog 6 #[.agg #[.int .i64 k, .int .i64 s], .int .i64 n] w fun e w' => e = .returned (.bool (mayB k s n)) ∧ Below w.heap.size w w' := by
  go_enter Try.func6, Try.ntmps6
  go_wp2
  all_goals (go_ret; exact ⟨ret_bool (by unfold mayB; rw [Bool.eq_iff_iff]; simp; omega), (Below.refl _ _).alloc (Nat.le_refl _) _⟩)

set_option maxHeartbeats 400000 in
theorem refMay_any (k s n : Int) (w : World) :
    Calls Try.prog 7 #[.agg #[.int .i64 k, .int .i64 s], .int .i64 n] w fun e w' => e = .returned (.bool (mayB k s n)) ∧ Below w.heap.size w w' := by
  go_enter Try.func7, Try.ntmps7
  go_wp2
  all_goals (go_ret; exact ⟨ret_bool (by unfold mayB; rw [Bool.eq_iff_iff]; simp; omega), (Below.refl _ _).alloc (Nat.le_refl _) _⟩)

set_option maxHeartbeats 400000 in
theorem less_any (t n t' n' : Int) (w : World) :
    Calls Try.prog 8 #[.agg #[.int .i64 t, .int .i64 n], .agg #[.int .i64 t', .int .i64 n']] w fun e w' => e = .returned (.bool (lessB t n t' n')) ∧ Below w.heap.size w w' := by
  by_cases ht : t = t'
  · subst ht
    have hd : (t == t) = true := by simp
    go_enter Try.func8, Try.ntmps8
    go_wp2
    all_goals (go_ret; exact ⟨ret_bool (by unfold lessB; rw [Bool.eq_iff_iff]; simp), ((Below.refl _ _).alloc (Nat.le_refl _) _).alloc (by simp) _⟩)
  · have hd : (t == t') = false := by simpa using ht
    go_enter Try.func8, Try.ntmps8
    go_wp2
    all_goals (go_ret; exact ⟨ret_bool (by unfold lessB; rw [Bool.eq_iff_iff]; simp [ht]), ((Below.refl _ _).alloc (Nat.le_refl _) _).alloc (by simp) _⟩)

set_option maxHeartbeats 400000 in
theorem refLess_any (t n t' n' : Int) (w : World) :
    Calls Try.prog 9 #[.agg #[.int .i64 t, .int .i64 n], .agg #[.int .i64 t', .int .i64 n']] w fun e w' => e = .returned (.bool (lessB t n t' n')) ∧ Below w.heap.size w w' := by
  go_enter Try.func9, Try.ntmps9
  go_wp2
  all_goals (go_ret; exact ⟨ret_bool (by unfold lessB; rw [Bool.eq_iff_iff]; simp; omega), ((Below.refl _ _).alloc (Nat.le_refl _) _).alloc (by simp) _⟩)

/-- The law's own first look at package dot ('awake'): it answers true. -/
theorem awake_any (w : World) :
    Calls Try.prog 10 #[] w fun e w' => e = .returned (.bool true) ∧ Below w.heap.size w w' := by
  have m1 : mayB 2 1 3 = true := by decide
  have m2 : mayB 3 1 3 = false := by decide
  have m3 : mayB 0 0 3 = false := by decide
  have l1 : lessB 1 5 2 0 = true := by decide
  have l2 : lessB 2 0 2 1 = true := by decide
  have l3 : lessB 0 0 0 0 = false := by decide
  go_enter Try.func10, Try.ntmps10
  go_wp2_with fail
  refine (may_any 2 1 3 _).mono ?_
  rintro e w1 ⟨rfl, h1⟩
  go_wp2_with fail
  refine (may_any 3 1 3 _).mono ?_
  rintro e w2 ⟨rfl, h2⟩
  go_wp2_with fail
  refine (may_any 0 0 3 _).mono ?_
  rintro e w3 ⟨rfl, h3⟩
  go_wp2_with fail
  refine (less_any 1 5 2 0 _).mono ?_
  rintro e w4 ⟨rfl, h4⟩
  go_wp2_with fail
  refine (less_any 2 0 2 1 _).mono ?_
  rintro e w5 ⟨rfl, h5⟩
  go_wp2_with fail
  refine (less_any 0 0 0 0 _).mono ?_
  rintro e w6 ⟨rfl, h6⟩
  go_wp2_with (go_at_call 11; refine (num_any _ _).mono ?_; rintro e w0 ⟨rfl, rfl⟩)
  go_ret
  exact ⟨rfl, thenB (thenB (thenB (thenB (thenB h1 h2) h3) h4) h5) h6⟩

end Go.Proofs.Ytbkgbacbmnffbaa
