/-
  Parts of the proof.
-/
import Derived.Test.YtmlacmoembjeoaaGreatDoorV32
import Derived.Test.YtmlacmoembjeoaaGreatDoorV34
import Derived.Test.YtmlacmoembjeoaaGreatDoorV2
import Derived.Test.YtmlacmoembjeoaaGreatDoorV26
import Derived.Deep.RegionHeld3
namespace Go.Proofs.YtmlacmoembjeoaaGreatDoor
open Go.RowKit
set_option linter.unusedVariables false

def Bo1 (w wx : World) (b : Nb) : Prop := NBox wx w.heap.size b ∧ Below w.heap.size w wx
end Go.Proofs.YtmlacmoembjeoaaGreatDoor
namespace Go.Proofs.YtmlacmoembjeoaaGreatDoor
open Go.RowKit
set_option linter.unusedVariables false

end Go.Proofs.YtmlacmoembjeoaaGreatDoor
namespace Go.Proofs.YtmlacmoembjeoaaGreatDoor
open Go.RowKit
set_option linter.unusedVariables false

end Go.Proofs.YtmlacmoembjeoaaGreatDoor
