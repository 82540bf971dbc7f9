/-
  What reads a string's characters: jlex's reader, its digits and halves.
  What reads a string's characters: behind a number's last digit, behind a digit, behind a character.
  What reads a string's characters: behind a backslash; one more character: (*jlex.reader).take.
-/
import Derived.Test.YtelabgonpmafpaaGreatDoorP6
import Derived.Test.YtelabgonpmafpaaGreatDoorP7
namespace Go.Proofs.YtelabgonpmafpaaGreatDoor
open Go.RowKit
set_option linter.unusedVariables false

/-- A reader's cells. -/
abbrev rdc (q : Int) (p : Option Addr) (v : Value) (num dig fst : Int) : Array Value := #[.int .i64 q, .pointer p, v, .int .i32 num, .int .i64 dig, .int .i32 fst]
/-- A READER in memory: its state, digits and first half, and the bytes read. -/
def Rdr (w : World) (g B : Nat) (q num dig fst : Nat) (zs : List Int) : Prop := ∃ p v, Bdr w g 1 B (rdc (q : Nat) p v (num : Nat) (dig : Nat) (fst : Nat)) 168 p v zs
theorem Bdr.other {w : World} {g o B : Nat} {cs : Array Value} {T : TypeId} {p : Option Addr} {v : Value} {zs : List Int} (h : Bdr w g o B cs T p v zs) (j : Nat) (h0 : j ≠ o) (h1 : j ≠ o + 1) (x : Value) : Bdr (w.setCell ⟨g, j, none⟩ x) g o B (cs.setIfInBounds j x) T p v zs :=
  ⟨h.blk.set j x, by rw [Array.getElem?_setIfInBounds_ne h0]; exact h.ptr, h.own, by rw [Array.getElem?_setIfInBounds_ne h1]; exact h.buf, by rw [Array.size_setIfInBounds]; exact h.lies, ⟨ownsRow_setCell_below h.row.1 (a := ⟨g, j, none⟩) h.low _, h.row.2⟩, h.low, Nat.le_trans h.top (Kq.set g B w j x).size⟩
theorem Rdr.c0 {w : World} {g B q num dig fst : Nat} {zs : List Int} (h : Rdr w g B q num dig fst zs) : w.cell? ⟨g, 0, none⟩ = some (.int .i64 (q : Nat)) := by obtain ⟨p, v, h⟩ := h; rw [h.blk.cell 0]; rfl
theorem Rdr.c3 {w : World} {g B q num dig fst : Nat} {zs : List Int} (h : Rdr w g B q num dig fst zs) : w.cell? ⟨g, 3, none⟩ = some (.int .i32 (num : Nat)) := by obtain ⟨p, v, h⟩ := h; rw [h.blk.cell 3]; rfl
theorem Rdr.c4 {w : World} {g B q num dig fst : Nat} {zs : List Int} (h : Rdr w g B q num dig fst zs) : w.cell? ⟨g, 4, none⟩ = some (.int .i64 (dig : Nat)) := by obtain ⟨p, v, h⟩ := h; rw [h.blk.cell 4]; rfl
theorem Rdr.c5 {w : World} {g B q num dig fst : Nat} {zs : List Int} (h : Rdr w g B q num dig fst zs) : w.cell? ⟨g, 5, none⟩ = some (.int .i32 (fst : Nat)) := by obtain ⟨p, v, h⟩ := h; rw [h.blk.cell 5]; rfl
theorem Rdr.fz {w : World} {g B q num dig fst : Nat} {zs : List Int} (h : Rdr w g B q num dig fst zs) (j : Nat) : w.frozen? ⟨g, j, none⟩ = false := by obtain ⟨p, v, h⟩ := h; exact h.blk.fz j
theorem Rdr.s3 {w : World} {g B q num dig fst : Nat} {zs : List Int} (h : Rdr w g B q num dig fst zs) (x : Nat) : Rdr (w.setCell ⟨g, 3, none⟩ (.int .i32 (x : Nat))) g B q x dig fst zs := by obtain ⟨p, v, h⟩ := h; exact ⟨p, v, h.other 3 (by omega) (by omega) _⟩
theorem Rdr.s4 {w : World} {g B q num dig fst : Nat} {zs : List Int} (h : Rdr w g B q num dig fst zs) (x : Nat) : Rdr (w.setCell ⟨g, 4, none⟩ (.int .i64 (x : Nat))) g B q num x fst zs := by obtain ⟨p, v, h⟩ := h; exact ⟨p, v, h.other 4 (by omega) (by omega) _⟩
theorem Rdr.s5 {w : World} {g B q num dig fst : Nat} {zs : List Int} (h : Rdr w g B q num dig fst zs) (x : Nat) : Rdr (w.setCell ⟨g, 5, none⟩ (.int .i32 (x : Nat))) g B q num dig x zs := by obtain ⟨p, v, h⟩ := h; exact ⟨p, v, h.other 5 (by omega) (by omega) _⟩
theorem Rdr.low {w : World} {g B q num dig fst : Nat} {zs : List Int} (h : Rdr w g B q num dig fst zs) : g < B := by obtain ⟨p, v, h⟩ := h; exact h.low

end Go.Proofs.YtelabgonpmafpaaGreatDoor
namespace Go.Proofs.YtelabgonpmafpaaGreatDoor
open Go.RowKit
set_option linter.unusedVariables false

theorem Bdr.drew {w : World} {g o B : Nat} {cs : Array Value} {T : TypeId} {p : Option Addr} {v : Value} {zs : List Int} (h : Bdr w g o B cs T p v zs) : Bdr w.drew g o B cs T p v zs := ⟨h.blk, h.ptr, h.own, h.buf, h.lies, h.row, h.low, h.top⟩
theorem Rdr.drew {w : World} {g B q num dig fst : Nat} {zs : List Int} (h : Rdr w g B q num dig fst zs) : Rdr w.drew g B q num dig fst zs := by obtain ⟨p, v, h⟩ := h; exact ⟨p, v, h.drew⟩
theorem Kq.drew (g B : Nat) (w : World) : Kq g B w w.drew := Kq.of (Below.refl B w).drew

theorem Rdr.below {w w' : World} {g B q num dig fst : Nat} {zs : List Int} (h : Rdr w g B q num dig fst zs) (hb : Below w.heap.size w w') : Rdr w' g B q num dig fst zs := by
  obtain ⟨p, v, h⟩ := h
  exact ⟨p, v, h.blk.kept hb h.blk.lt, h.ptr, h.own, h.buf, h.lies, h.row.below hb, h.low, Nat.le_trans h.top hb.size⟩
end Go.Proofs.YtelabgonpmafpaaGreatDoor
namespace Go.Proofs.YtelabgonpmafpaaGreatDoor
open Go.RowKit
set_option linter.unusedVariables false

theorem Rdr.top {w : World} {g B q num dig fst : Nat} {zs : List Int} (h : Rdr w g B q num dig fst zs) : B ≤ w.heap.size := by obtain ⟨p, v, h⟩ := h; exact h.top
theorem Rdr.kq {w w' : World} {g B q num dig fst : Nat} {zs : List Int} (h : Rdr w g B q num dig fst zs) (hb : Below w.heap.size w w') : Kq g B w w' := Kq.of (hb.mono h.top)
end Go.Proofs.YtelabgonpmafpaaGreatDoor
