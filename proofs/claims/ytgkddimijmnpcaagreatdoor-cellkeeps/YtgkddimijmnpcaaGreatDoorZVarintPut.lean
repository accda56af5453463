/-
  Package varint's Put, by a contract: what it answers for every number.
-/
import Derived.Test.YtgkddimijmnpcaaGreatDoorChecked
import Derived.Test.YtgkddimijmnpcaaGreatDoorZPack2
import Derived.WalkKit
import Derived.OpenShut
import Derived.WalkSpells
import Derived.WalkLawsBesides
import Derived.Deep.LoopGhost
namespace Go.Proofs.YtgkddimijmnpcaaGreatDoor
open Go.RowKit
set_option linter.unusedVariables false

theorem ret_si {s s' : ByteArray} {a a' : Int} (h1 : s = s') (h2 : a = a') :
    Ending.returned (.tuple #[.string s, .int .i64 a]) = .returned (.tuple #[.string s', .int .i64 a']) := by rw [h1, h2]

end Go.Proofs.YtgkddimijmnpcaaGreatDoor

