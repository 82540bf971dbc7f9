/-
  When the document says that trees are the same: their fields are the same.
-/
import Derived.Test.YtmlacmoembjeoaaGreatDoorR28
namespace Go.Proofs.YtmlacmoembjeoaaGreatDoor
open Go.RowKit
set_option linter.unusedVariables false

end Go.Proofs.YtmlacmoembjeoaaGreatDoor
