/-
  Package vec, by contracts: the greater and the lesser (Max, Min, made and the two function literals).
-/
import Derived.Test.YtgkddimijmnpcaaGreatDoorZVecMade
import Derived.OwnWalk
namespace Go.Proofs.YtgkddimijmnpcaaGreatDoor
open Go.RowKit
set_option linter.unusedVariables false

theorem ret_int {a b : Int} (h : a = b) : Ending.returned (.int .i64 a) = .returned (.int .i64 b) := by rw [h]

theorem zeros_at (n j : Nat) (h : j < n) : ((madeCells (Value.int .i64 0).cells (n * 1)).toList)[j]? = some (.int .i64 0) := by
  rw [Nat.mul_one, show (Value.int .i64 0).cells = #[.int .i64 0] from rfl, toList_madeCells_one]
  simp [h]

end Go.Proofs.YtgkddimijmnpcaaGreatDoor

