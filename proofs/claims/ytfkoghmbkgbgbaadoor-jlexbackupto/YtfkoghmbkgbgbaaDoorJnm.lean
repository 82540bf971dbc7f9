/-
  The number that begins at a place: jlex.numberAt.
-/
import Derived.Test.YtfkoghmbkgbgbaaDoorJsa
import Derived.Test.YtfkoghmbkgbgbaaDoorParse
namespace Go.Proofs.YtfkoghmbkgbgbaaDoor
open Go.RowKit
set_option linter.unusedVariables false

/-- A token, or a fault, as an answer. -/
def tokV (R : Tk × Nat × Nat) : Value := .tuple #[.agg #[.int .i64 (R.1.kind : Nat), .int .i64 (R.1.frm : Nat), .int .i64 (R.1.to : Nat), .string (strOfNums R.1.txt)], .agg #[.int .i64 (R.2.1 : Nat), .int .i64 (R.2.2 : Nat)]]
/-- The two results in memory, still zero. -/
structure TB (w wx : World) : Prop where
  tok : Blk wx w.heap.size #[.int .i64 0, .int .i64 0, .int .i64 0, .string ⟨#[]⟩] 41
  flt : Blk wx (w.heap.size + 1) #[.int .i64 0, .int .i64 0] 26
  bel : Below w.heap.size w wx
theorem tb_new (w : World) : TB w ((w.alloc (.cells #[.int .i64 0, .int .i64 0, .int .i64 0, .string ⟨#[]⟩] 41)).alloc (.cells #[.int .i64 0, .int .i64 0] 26)) := by
  have a1 := alloc_below w (.cells #[.int .i64 0, .int .i64 0, .int .i64 0, .string ⟨#[]⟩] 41)
  have h1 := blk_new w #[.int .i64 0, .int .i64 0, .int .i64 0, .string ⟨#[]⟩] 41
  generalize hw1 : w.alloc (.cells #[.int .i64 0, .int .i64 0, .int .i64 0, .string ⟨#[]⟩] 41) = w1 at *
  have s1 : w1.heap.size = w.heap.size + 1 := by rw [← hw1]; simp
  have a2 := alloc_below w1 (.cells #[.int .i64 0, .int .i64 0] 26)
  have h2 := blk_new w1 #[.int .i64 0, .int .i64 0] 26
  exact ⟨h1.kept a2 (by omega), by rw [← s1]; exact h2, a1.trans (a2.mono (by omega))⟩
theorem TB.on {w wx wy : World} (h : TB w wx) (hb : Below wx.heap.size wx wy) : TB w wy := ⟨h.tok.kept hb h.tok.lt, h.flt.kept hb h.flt.lt, h.bel.trans (hb.mono h.bel.size)⟩
theorem TB.cells {w wx : World} (h : TB w wx) : wx.cell? ⟨w.heap.size, 0, none⟩ = some (.int .i64 0) ∧ wx.cell? ⟨w.heap.size, 1, none⟩ = some (.int .i64 0) ∧ wx.cell? ⟨w.heap.size, 2, none⟩ = some (.int .i64 0) ∧ wx.cell? ⟨w.heap.size, 3, none⟩ = some (.string ⟨#[]⟩) ∧ wx.cell? ⟨w.heap.size + 1, 0, none⟩ = some (.int .i64 0) ∧ wx.cell? ⟨w.heap.size + 1, 1, none⟩ = some (.int .i64 0) :=
  ⟨h.tok.cell 0, h.tok.cell 1, h.tok.cell 2, h.tok.cell 3, h.flt.cell 0, h.flt.cell 1⟩
theorem TB.fz {w wx : World} (h : TB w wx) : wx.frozen? ⟨w.heap.size, 0, none⟩ = false ∧ wx.frozen? ⟨w.heap.size, 1, none⟩ = false ∧ wx.frozen? ⟨w.heap.size, 2, none⟩ = false ∧ wx.frozen? ⟨w.heap.size, 3, none⟩ = false ∧ wx.frozen? ⟨w.heap.size + 1, 0, none⟩ = false ∧ wx.frozen? ⟨w.heap.size + 1, 1, none⟩ = false :=
  ⟨h.tok.fz 0, h.tok.fz 1, h.tok.fz 2, h.tok.fz 3, h.flt.fz 0, h.flt.fz 1⟩
/-- What Parse answers of a number's bytes. -/
theorem parse_of (t : ByteArray) (ht : t.size ≤ 4096) : ((nuF (bs t) 0 0).1 < (bs t).length → (parseA t).2 = (5, (((nuF (bs t) 0 0).1 : Nat) : Int))) ∧ ((nuF (bs t) 0 0).1 = (bs t).length → (endS (nuF (bs t) 0 0).2 = true → (parseA t).2.1 ≠ 5 ∧ (parseA t).2.1 ≠ 3) ∧ (endS (nuF (bs t) 0 0).2 = false → (parseA t).2 = (3, ((t.size : Nat) : Int)))) := by
  have hR : parseA t = doneA t.size (runS (bs t) 0 0 p0) := by unfold parseA; rw [if_neg (by omega)]
  refine ⟨fun h => ?_, fun h => ⟨fun he => ?_, fun he => ?_⟩⟩
  · obtain ⟨p', e⟩ := nu_wrong (bs t) 0 0 p0 (by omega)
    rw [hR, e, done_wrong]
  · obtain ⟨p', e⟩ := nu_whole (bs t) 0 0 p0 (by omega)
    rw [hR, e, done_made _ _ _ he]
    rcases make_errs p'.1 (strOfNums p'.2.1) (expS p') with h1 | h1 | h1
    · rw [h1]; simp
    · rw [h1]; simp
    · rw [h1]; simp
  · obtain ⟨p', e⟩ := nu_whole (bs t) 0 0 p0 (by omega)
    rw [hR, e, done_early _ _ _ he]
end Go.Proofs.YtfkoghmbkgbgbaaDoor
