/-
  What a node of its Kind has, all else zero, as the document's calls have it: gantlineref08.bare; its number; which numbers a Simple may have.
-/
import Derived.Test.YtmlacmoembjeoaaGreatDoorG22
import Derived.Test.YtmlacmoembjeoaaGreatDoorG4
namespace Go.Proofs.YtmlacmoembjeoaaGreatDoor
open Go.RowKit
set_option linter.unusedVariables false

end Go.Proofs.YtmlacmoembjeoaaGreatDoor
