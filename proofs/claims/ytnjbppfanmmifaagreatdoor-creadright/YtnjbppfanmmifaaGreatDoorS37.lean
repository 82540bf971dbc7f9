/-
  What is wrong with a node itself: tree.fault, of a whole number.
-/
import Derived.Test.YtnjbppfanmmifaaGreatDoorS8
import Derived.Test.YtnjbppfanmmifaaGreatDoorS30
namespace Go.Proofs.YtnjbppfanmmifaaGreatDoor
open Go.RowKit
set_option linter.unusedVariables false

end Go.Proofs.YtnjbppfanmmifaaGreatDoor
