/-
  Whether a node is not of its Kind's form, as the document's call asks it.
  When the document says that trees are the same: same.
-/
import Derived.Test.YtmlacmoembjeoaaGreatDoorG26
import Derived.Test.YtmlacmoembjeoaaGreatDoorG23
import Derived.Deep.RegionHeld3
namespace Go.Proofs.YtmlacmoembjeoaaGreatDoor
open Go.RowKit
set_option linter.unusedVariables false
end Go.Proofs.YtmlacmoembjeoaaGreatDoor
namespace Go.Proofs.YtmlacmoembjeoaaGreatDoor
open Go.RowKit
set_option linter.unusedVariables false

def EsAt (D : Nat) : Prop := ∀ (t u : Tr) (a b : Nb) (w : World) (v : Bool), Nd D w a t → Nd D w b u → (v = true ↔ t = u) → Calls Tryz.prog 21 #[.agg a.arr, .agg b.arr] w fun e w' => e = .returned (.bool v) ∧ Below w.heap.size w w'
/-- Two boxes. -/
structure Bo2 (w wx : World) (a b : Nb) : Prop where
  one : NBox wx w.heap.size a
  two : NBox wx (w.heap.size + 1) b
  bel : Below w.heap.size w wx
theorem Bo2.on {w wx wy : World} {a b : Nb} (h : Bo2 w wx a b) (hb : Below wx.heap.size wx wy) : Bo2 w wy a b := ⟨h.one.kept hb h.one.lt, h.two.kept hb h.two.lt, h.bel.trans (hb.mono h.bel.size)⟩
theorem Bo2.drew {w wx : World} {a b : Nb} (h : Bo2 w wx a b) : Bo2 w wx.drew a b := ⟨h.one, h.two, h.bel.drew⟩
theorem bo2_new (w : World) (a b : Nb) : Bo2 w ((w.alloc (.cells a.arr 26)).alloc (.cells b.arr 26)) a b := by
  have a1 := alloc_below w (.cells a.arr 26)
  have a2 := alloc_below (w.alloc (.cells a.arr 26)) (.cells b.arr 26)
  have s1 : (w.alloc (.cells a.arr 26)).heap.size = w.heap.size + 1 := by simp
  have n2 := nbox_new (w.alloc (.cells a.arr 26)) b
  rw [s1] at n2
  exact ⟨(nbox_new w a).kept a2 (by omega), n2, a1.trans (a2.mono (by omega))⟩
/-- An element of a row, as a place. -/
theorem row_sp {D : Nat} {w w' : World} {a : Option Addr} {len cap : Nat} {l : List Tr} (h : RowN (Nd D w) w a len cap l) (hb : Below w.heap.size w w') {i : Nat} (hi : i < l.length) :
    ∃ (bk off : Nat) (nb : Nb), a = some ⟨bk, off, none⟩ ∧ (∀ w'', Below w.heap.size w w'' → ∀ j, j < 9 → w''.cell? ⟨bk, off + (i * 9 + j), none⟩ = nb.cells[j]?) ∧ Nd D w nb l[i] := by
  obtain ⟨bk, off, nb, ha, hc, hN, hlt⟩ := row_el h (Below.refl _ _) hi
  exact ⟨bk, off, nb, ha, fun w'' hb'' j hj => by rw [hb''.cell (p := ⟨bk, off + (i * 9 + j), none⟩) hlt]; exact hc j hj, hN⟩
end Go.Proofs.YtmlacmoembjeoaaGreatDoor
