/-
  Parts of the proof.
-/
import Derived.Test.YtmlacmoembjeoaaGreatDoorV28
namespace Go.Proofs.YtmlacmoembjeoaaGreatDoor
open Go.RowKit
set_option linter.unusedVariables false

end Go.Proofs.YtmlacmoembjeoaaGreatDoor
