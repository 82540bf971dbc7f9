/-
  What is wrong with a node itself: tree.fault, of a text.
  What is wrong with a node itself: tree.fault, of bytes.
  What is wrong with a node itself: tree.fault, of a whole number.
  What is wrong with a node itself: tree.fault, of a number that is not whole.
-/
import Derived.Test.YtnjbppfanmmifaaGreatDoorS7
import Derived.Test.YtnjbppfanmmifaaGreatDoorS18
namespace Go.Proofs.YtnjbppfanmmifaaGreatDoor
open Go.RowKit
set_option linter.unusedVariables false

end Go.Proofs.YtnjbppfanmmifaaGreatDoor
namespace Go.Proofs.YtnjbppfanmmifaaGreatDoor
open Go.RowKit
set_option linter.unusedVariables false

end Go.Proofs.YtnjbppfanmmifaaGreatDoor
namespace Go.Proofs.YtnjbppfanmmifaaGreatDoor
open Go.RowKit
set_option linter.unusedVariables false

end Go.Proofs.YtnjbppfanmmifaaGreatDoor
namespace Go.Proofs.YtnjbppfanmmifaaGreatDoor
open Go.RowKit
set_option linter.unusedVariables false

end Go.Proofs.YtnjbppfanmmifaaGreatDoor
