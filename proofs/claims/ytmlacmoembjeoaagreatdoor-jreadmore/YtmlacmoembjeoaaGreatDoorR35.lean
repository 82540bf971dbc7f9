/-
  Whether a map has two keys that are the same, as the document's call tells it: gantlineref08.twice.
  The document's count of nodes and depth: left, deep.
  The document's depth, and when it says that trees are the same: deep, same.
-/
import Derived.Test.YtmlacmoembjeoaaGreatDoorR32
import Derived.Test.YtmlacmoembjeoaaGreatDoorR34
import Derived.Test.YtmlacmoembjeoaaGreatDoorR2
import Derived.Test.YtmlacmoembjeoaaGreatDoorR26
import Derived.Deep.RegionHeld3
namespace Go.Proofs.YtmlacmoembjeoaaGreatDoor
open Go.RowKit
set_option linter.unusedVariables false

/-- A node's box, and nothing else turned. -/
def Bo1 (w wx : World) (b : Nb) : Prop := NBox wx w.heap.size b ∧ Below w.heap.size w wx
theorem Bo1.on {w wx wy : World} {b : Nb} (h : Bo1 w wx b) (hb : Below wx.heap.size wx wy) : Bo1 w wy b := ⟨h.1.kept hb h.1.lt, h.2.trans (hb.mono h.2.size)⟩
theorem Bo1.drew {w wx : World} {b : Nb} (h : Bo1 w wx b) : Bo1 w wx.drew b := h.on (Below.refl _ _).drew
end Go.Proofs.YtmlacmoembjeoaaGreatDoor
namespace Go.Proofs.YtmlacmoembjeoaaGreatDoor
open Go.RowKit
set_option linter.unusedVariables false

end Go.Proofs.YtmlacmoembjeoaaGreatDoor
namespace Go.Proofs.YtmlacmoembjeoaaGreatDoor
open Go.RowKit
set_option linter.unusedVariables false

end Go.Proofs.YtmlacmoembjeoaaGreatDoor
