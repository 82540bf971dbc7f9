/-
  The document's count of nodes and depth: left, deep.
  The document's depth, and when it says that trees are the same: deep, same.
  When the document says that trees are the same: same.
-/
import Derived.Test.YtnjbppfanmmifaaGreatDoorH3
import Derived.Test.YtnjbppfanmmifaaGreatDoorH6
import Derived.Deep.RegionHeld3
namespace Go.Proofs.YtnjbppfanmmifaaGreatDoor
open Go.RowKit
set_option linter.unusedVariables false

end Go.Proofs.YtnjbppfanmmifaaGreatDoor
namespace Go.Proofs.YtnjbppfanmmifaaGreatDoor
open Go.RowKit
set_option linter.unusedVariables false

end Go.Proofs.YtnjbppfanmmifaaGreatDoor
namespace Go.Proofs.YtnjbppfanmmifaaGreatDoor
open Go.RowKit
set_option linter.unusedVariables false

/-- Two boxes. -/
structure Bo2 (w wx : World) (a b : Nb) : Prop where
  one : NBox wx w.heap.size a
  two : NBox wx (w.heap.size + 1) b
  bel : Below w.heap.size w wx
theorem Bo2.on {w wx wy : World} {a b : Nb} (h : Bo2 w wx a b) (hb : Below wx.heap.size wx wy) : Bo2 w wy a b := ⟨h.one.kept hb h.one.lt, h.two.kept hb h.two.lt, h.bel.trans (hb.mono h.bel.size)⟩
theorem Bo2.drew {w wx : World} {a b : Nb} (h : Bo2 w wx a b) : Bo2 w wx.drew a b := ⟨h.one, h.two, h.bel.drew⟩
end Go.Proofs.YtnjbppfanmmifaaGreatDoor
