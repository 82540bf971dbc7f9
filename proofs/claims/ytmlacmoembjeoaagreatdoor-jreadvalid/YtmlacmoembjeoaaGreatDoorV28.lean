/-
  Parts of the proof.
-/
import Derived.Test.YtmlacmoembjeoaaGreatDoorV25
import Derived.Test.YtmlacmoembjeoaaGreatDoorV4
import Derived.Test.YtmlacmoembjeoaaGreatDoorV26
import Derived.Deep.RegionHeld3
namespace Go.Proofs.YtmlacmoembjeoaaGreatDoor
open Go.RowKit
set_option linter.unusedVariables false

end Go.Proofs.YtmlacmoembjeoaaGreatDoor
namespace Go.Proofs.YtmlacmoembjeoaaGreatDoor
open Go.RowKit
set_option linter.unusedVariables false
end Go.Proofs.YtmlacmoembjeoaaGreatDoor
namespace Go.Proofs.YtmlacmoembjeoaaGreatDoor
open Go.RowKit
set_option linter.unusedVariables false

structure Bo2 (w wx : World) (a b : Nb) : Prop where
  one : NBox wx w.heap.size a
  two : NBox wx (w.heap.size + 1) b
  bel : Below w.heap.size w wx
end Go.Proofs.YtmlacmoembjeoaaGreatDoor
