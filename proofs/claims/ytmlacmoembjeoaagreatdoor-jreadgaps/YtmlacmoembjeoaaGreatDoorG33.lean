/-
  The fault of a node, what is in it aside, as the document's call tells it: gantlineref08.alone, of Tags and Simples.
-/
import Derived.Test.YtmlacmoembjeoaaGreatDoorG27
import Derived.Test.YtmlacmoembjeoaaGreatDoorG22
import Derived.Test.YtmlacmoembjeoaaGreatDoorG31
import Derived.Test.YtmlacmoembjeoaaGreatDoorG15
namespace Go.Proofs.YtmlacmoembjeoaaGreatDoor
open Go.RowKit
set_option linter.unusedVariables false

end Go.Proofs.YtmlacmoembjeoaaGreatDoor
