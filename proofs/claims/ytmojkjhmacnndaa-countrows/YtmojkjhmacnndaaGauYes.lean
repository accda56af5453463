/-
  Package gauss: Add at pairs whose sum may be, and at others.
-/
import Derived.Test.YtmojkjhmacnndaaGauAdd
namespace Go.Proofs.Ytmojkjhmacnndaa
open Go.RowKit
set_option linter.unusedVariables false
set_option linter.unusedSimpArgs false

/-- Add at pairs whose sum may be. -/
theorem gadd_yes {a b c d : Int} (x y : Int) (h : addB a b c d = true) (hx : x = a + c) (hy : y = b + d) (w : World) :
    Calls Try.prog 14 #[pv a b, pv c d] w fun e w' => e = .returned (.tuple #[pv x y, .int .i64 0]) ∧ Below w.heap.size w w' := by
  have C := gadd_any a b c d w
  have e := add_yes h
  rw [e.1, e.2.1, e.2.2] at C
  subst hx hy
  exact C

/-- Add at others. -/
theorem gadd_no {a b c d : Int} (h : addB a b c d = false) (w : World) :
    Calls Try.prog 14 #[pv a b, pv c d] w fun e w' => e = .returned (.tuple #[pv 0 0, .int .i64 600]) ∧ Below w.heap.size w w' := by
  have C := gadd_any a b c d w
  have e := add_no h
  rw [e.1, e.2.1, e.2.2] at C
  exact C

/-- Small sums may be. -/
theorem add_small {a b c d : Int} (ha : -2251799813685248 ≤ a ∧ a ≤ 2251799813685248) (hb : -2251799813685248 ≤ b ∧ b ≤ 2251799813685248) (hc : -2251799813685248 ≤ c ∧ c ≤ 2251799813685248) (hd : -2251799813685248 ≤ d ∧ d ≤ 2251799813685248) : addB a b c d = true := by
  simp [addB, pairB, partB]; omega

/-- Add at small pairs. -/
theorem gadd_small {a b c d : Int} (x y : Int) (hx : x = a + c) (hy : y = b + d) (ha : -2251799813685248 ≤ a ∧ a ≤ 2251799813685248) (hb : -2251799813685248 ≤ b ∧ b ≤ 2251799813685248) (hc : -2251799813685248 ≤ c ∧ c ≤ 2251799813685248) (hd : -2251799813685248 ≤ d ∧ d ≤ 2251799813685248) (w : World) :
    Calls Try.prog 14 #[pv a b, pv c d] w fun e w' => e = .returned (.tuple #[pv x y, .int .i64 0]) ∧ Below w.heap.size w w' := gadd_yes x y (add_small ha hb hc hd) hx hy w

/-- 'a % (MaxNum + 1)'. -/
theorem rem_num (a : Int) : ∃ x, a.tmod 1099511627777 = x ∧ -1099511627776 ≤ x ∧ x ≤ 1099511627776 := by
  refine ⟨_, rfl, ?_, ?_⟩
  · have := Int.tmod_lt_of_pos (-a) (b := 1099511627777) (by omega)
    rw [Int.neg_tmod] at this
    omega
  · have := Int.tmod_lt_of_pos a (b := 1099511627777) (by omega)
    omega

end Go.Proofs.Ytmojkjhmacnndaa
