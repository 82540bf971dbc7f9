/-
  When the document says that trees are the same: they differ in a field, or in how many nodes are in them.
  When the document says that trees are the same: their fields are the same.
  When the document says that trees are the same: put together.
  The document's Few, Size, Deep, Same, and both.
-/
import Derived.Test.YtnjbppfanmmifaaGreatDoorH19
import Derived.Test.YtnjbppfanmmifaaGreatDoorH2
namespace Go.Proofs.YtnjbppfanmmifaaGreatDoor
open Go.RowKit
set_option linter.unusedVariables false

end Go.Proofs.YtnjbppfanmmifaaGreatDoor
namespace Go.Proofs.YtnjbppfanmmifaaGreatDoor
open Go.RowKit
set_option linter.unusedVariables false

end Go.Proofs.YtnjbppfanmmifaaGreatDoor
namespace Go.Proofs.YtnjbppfanmmifaaGreatDoor
open Go.RowKit
set_option linter.unusedVariables false

end Go.Proofs.YtnjbppfanmmifaaGreatDoor
namespace Go.Proofs.YtnjbppfanmmifaaGreatDoor
open Go.RowKit
set_option linter.unusedVariables false
end Go.Proofs.YtnjbppfanmmifaaGreatDoor
