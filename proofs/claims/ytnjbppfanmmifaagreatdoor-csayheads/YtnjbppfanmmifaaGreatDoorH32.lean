/-
  When the document says that trees are the same: they differ in a field, or in how many nodes are in them.
-/
import Derived.Test.YtnjbppfanmmifaaGreatDoorH30
namespace Go.Proofs.YtnjbppfanmmifaaGreatDoor
open Go.RowKit
set_option linter.unusedVariables false

end Go.Proofs.YtnjbppfanmmifaaGreatDoor
