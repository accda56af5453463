/-
  Package varint's PutText and GetText, by contracts.
-/
import Derived.Test.YtgkddimijmnpcaaGreatDoorZPack2
import Derived.Test.YtgkddimijmnpcaaGreatDoorZVarintPut
import Derived.Test.YtgkddimijmnpcaaGreatDoorZPack1
namespace Go.Proofs.YtgkddimijmnpcaaGreatDoor
open Go.RowKit
set_option linter.unusedVariables false

end Go.Proofs.YtgkddimijmnpcaaGreatDoor

