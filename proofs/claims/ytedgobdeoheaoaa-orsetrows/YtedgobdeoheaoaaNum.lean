/-
  The laws' own Num: an error's number.
-/
import Derived.Test.YtedgobdeoheaoaaChecked
import Derived.WalkKit
namespace Go.Proofs.Ytedgobdeoheaoaa
open Go.RowKit
set_option linter.unusedVariables false

theorem num_any (x : Int) (w : World) :
    Calls Try.prog 19 #[.int .i64 x] w fun e w' => e = .returned (.int .i64 x) ∧ w' = w := by
  go_enter Try.func19, Try.ntmps19
  go_wp2
  go_ret
  exact ⟨rfl, rfl⟩

end Go.Proofs.Ytedgobdeoheaoaa
