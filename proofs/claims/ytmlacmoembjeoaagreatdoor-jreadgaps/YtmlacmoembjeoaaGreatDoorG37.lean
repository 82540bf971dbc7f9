/-
  The fault of a node, what is in it aside, as the document's call tells it: gantlineref08.alone, of Texts.
  The fault of a node, what is in it aside, as the document's call tells it: gantlineref08.alone, of other Kinds.
  The fault of a node, what is in it aside, as the document's call tells it: gantlineref08.alone.
-/
import Derived.Test.YtmlacmoembjeoaaGreatDoorG27
import Derived.Test.YtmlacmoembjeoaaGreatDoorG22
import Derived.Test.YtmlacmoembjeoaaGreatDoorG31
import Derived.Test.YtmlacmoembjeoaaGreatDoorG15
import Derived.Test.YtmlacmoembjeoaaGreatDoorG32
import Derived.Test.YtmlacmoembjeoaaGreatDoorG33
import Derived.Test.YtmlacmoembjeoaaGreatDoorG34
import Derived.Test.YtmlacmoembjeoaaGreatDoorG35
import Derived.Test.YtmlacmoembjeoaaGreatDoorG36
namespace Go.Proofs.YtmlacmoembjeoaaGreatDoor
open Go.RowKit
set_option linter.unusedVariables false

end Go.Proofs.YtmlacmoembjeoaaGreatDoor
namespace Go.Proofs.YtmlacmoembjeoaaGreatDoor
open Go.RowKit
set_option linter.unusedVariables false

end Go.Proofs.YtmlacmoembjeoaaGreatDoor
namespace Go.Proofs.YtmlacmoembjeoaaGreatDoor
open Go.RowKit
set_option linter.unusedVariables false
end Go.Proofs.YtmlacmoembjeoaaGreatDoor
