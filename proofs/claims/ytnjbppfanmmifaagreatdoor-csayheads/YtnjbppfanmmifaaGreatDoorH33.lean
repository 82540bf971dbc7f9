/-
  When the document says that trees are the same: their fields are the same.
  When the document says that trees are the same: put together.
  The document's Few, Size, Deep, Same, and both.
-/
import Derived.Test.YtnjbppfanmmifaaGreatDoorH30
import Derived.Test.YtnjbppfanmmifaaGreatDoorH31
import Derived.Test.YtnjbppfanmmifaaGreatDoorH32
import Derived.Test.YtnjbppfanmmifaaGreatDoorH2
namespace Go.Proofs.YtnjbppfanmmifaaGreatDoor
open Go.RowKit
set_option linter.unusedVariables false

end Go.Proofs.YtnjbppfanmmifaaGreatDoor
namespace Go.Proofs.YtnjbppfanmmifaaGreatDoor
open Go.RowKit
set_option linter.unusedVariables false

end Go.Proofs.YtnjbppfanmmifaaGreatDoor
namespace Go.Proofs.YtnjbppfanmmifaaGreatDoor
open Go.RowKit
set_option linter.unusedVariables false
end Go.Proofs.YtnjbppfanmmifaaGreatDoor
