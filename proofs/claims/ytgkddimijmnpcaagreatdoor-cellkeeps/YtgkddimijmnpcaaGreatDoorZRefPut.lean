/-
  The document's own way to tell a number's bytes ('put' of the reference package), by a contract: the same plain function as varint's Put.
-/
import Derived.Test.YtgkddimijmnpcaaGreatDoorZVarintPut
namespace Go.Proofs.YtgkddimijmnpcaaGreatDoor
open Go.RowKit
set_option linter.unusedVariables false

end Go.Proofs.YtgkddimijmnpcaaGreatDoor

