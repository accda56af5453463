/-
  The laws' own Num: an error's number.
-/
import Derived.Test.YthogncopedfmmaaDoorChecked
import Derived.WalkKit
namespace Go.Proofs.YthogncopedfmmaaDoor
open Go.RowKit
set_option linter.unusedVariables false

theorem num_any (x : Int) (w : World) :
    Calls Tryd.prog 14 #[.int .i64 x] w fun e w' => e = .returned (.int .i64 x) ∧ w' = w := by
  go_enter Tryd.func14, Tryd.ntmps14
  go_wp2
  go_ret
  exact ⟨rfl, rfl⟩

end Go.Proofs.YthogncopedfmmaaDoor
