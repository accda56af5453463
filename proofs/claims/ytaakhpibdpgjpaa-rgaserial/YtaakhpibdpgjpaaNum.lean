/-
  The laws' own Num: an error's number.
-/
import Derived.Test.YtaakhpibdpgjpaaChecked
import Derived.WalkKit
namespace Go.Proofs.Ytaakhpibdpgjpaa
open Go.RowKit
set_option linter.unusedVariables false

theorem num_any (x : Int) (w : World) :
    Calls Try.prog 21 #[.int .i64 x] w fun e w' => e = .returned (.int .i64 x) ∧ w' = w := by
  go_enter Try.func21, Try.ntmps21
  go_wp2
  go_ret
  exact ⟨rfl, rfl⟩

end Go.Proofs.Ytaakhpibdpgjpaa
