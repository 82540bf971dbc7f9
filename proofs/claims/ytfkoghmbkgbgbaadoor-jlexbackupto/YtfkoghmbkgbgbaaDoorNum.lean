/-
  Which numbers are in their form: dec.Right.
-/
import Derived.Test.YtfkoghmbkgbgbaaDoorLib
import Derived.Deep.RegionHeld3
namespace Go.Proofs.YtfkoghmbkgbgbaaDoor
open Go.RowKit

/-- A number's three cells in memory. -/
def NmAt (w : World) (g : Nat) (n : Bool) (s : ByteArray) (x : Int) : Prop := w.cell? ⟨g, 0, none⟩ = some (.bool n) ∧ w.cell? ⟨g, 1, none⟩ = some (.string s) ∧ w.cell? ⟨g, 2, none⟩ = some (.int .i64 x)
theorem box_at (w : World) (n : Bool) (s : ByteArray) (x : Int) (t : TypeId) : NmAt (w.alloc (.cells #[.bool n, .string s, .int .i64 x] t)) w.heap.size n s x := by
  refine ⟨?_, ?_, ?_⟩ <;> (rw [World.cell?_alloc_mark]; rfl)
theorem NmAt.kept {w w' : World} {B g : Nat} {n : Bool} {s : ByteArray} {x : Int} (h : NmAt w g n s x) (hb : Below B w w') (hg : g < B) : NmAt w' g n s x := by
  obtain ⟨h0, h1, h2⟩ := h
  exact ⟨by rw [hb.cell (p := ⟨g, 0, none⟩) hg]; exact h0, by rw [hb.cell (p := ⟨g, 1, none⟩) hg]; exact h1, by rw [hb.cell (p := ⟨g, 2, none⟩) hg]; exact h2⟩
theorem alloc_lt (w : World) (o : Obj) : w.heap.size < (w.alloc o).heap.size := by simp
theorem alloc_below (w : World) (o : Obj) : Below w.heap.size w (w.alloc o) := (Below.refl _ _).alloc (Nat.le_refl _) o
theorem box_below {w w' : World} {o : Obj} (h : Below (w.alloc o).heap.size (w.alloc o) w') : Below w.heap.size w w' := (alloc_below w o).trans (h.mono (Nat.le_of_lt (alloc_lt w o)))
theorem box_drew {w w' : World} {o : Obj} (h : Below (w.alloc o).drew.heap.size (w.alloc o).drew w') : Below w.heap.size w w' := (alloc_below w o).drew.trans (h.mono (Nat.le_of_lt (alloc_lt w o)))
/-- A number as a block's whole. -/
def NRow (w : World) (g : Nat) (n : Bool) (s : ByteArray) (x : Int) : Prop := w.heap[g]? = some (.cells #[.bool n, .string s, .int .i64 x] 87 (0, 0))
theorem NRow.lt {w : World} {g : Nat} {n : Bool} {s : ByteArray} {x : Int} (h : NRow w g n s x) : g < w.heap.size := (Array.getElem?_eq_some_iff.1 h).1
theorem NRow.at {w : World} {g : Nat} {n : Bool} {s : ByteArray} {x : Int} (h : NRow w g n s x) : NmAt w g n s x := by
  refine ⟨?_, ?_, ?_⟩ <;> (rw [cell_row h]; rfl)
theorem NRow.fz {w : World} {g : Nat} {n : Bool} {s : ByteArray} {x : Int} (h : NRow w g n s x) (j : Nat) : w.frozen? ⟨g, j, none⟩ = false := by
  unfold NRow at h
  simp [World.frozen?, h]
theorem NRow.kept {w w' : World} {g : Nat} {n : Bool} {s : ByteArray} {x : Int} (h : NRow w g n s x) (hb : Below w.heap.size w w') : NRow w' g n s x := by
  unfold NRow
  rw [hb.block g h.lt]
  exact h
theorem row_new (w : World) (n : Bool) (s : ByteArray) (x : Int) : NRow (w.alloc (.cells #[.bool n, .string s, .int .i64 x] 87)) w.heap.size n s x := heap_alloc_new w _
theorem eq_size (s : ByteArray) : (s.toList == [48]) = decide (s = zS) := by
  rw [Bool.eq_iff_iff, beq_iff_eq, decide_eq_true_iff, ByteArray.toList_eq]
  constructor
  · intro h
    apply bs_inj
    unfold bs
    rw [h]
    rfl
  · intro h
    rw [h]
    rfl
theorem zero_any (w : World) : Calls Tryd.prog 90 #[] w fun e w' => e = .returned (.agg #[.bool false, .string ⟨#[48]⟩, .int .i64 0]) ∧ Below w.heap.size w w' := by
  go_enter Tryd.func90, Tryd.ntmps90
  go_wp2
  refine bodyPost_ret (v := .agg #[.bool false, .string ⟨#[48]⟩, .int .i64 0]) (by simp [results, Tryd.results90, go_sem]) rfl ⟨rfl, ?_⟩
  exact alloc_below _ _
theorem rtN_rest {n : Bool} {s : ByteArray} {x : Int} (hz : ¬ (n = false ∧ s = zS ∧ x = 0)) : rtN n s x = (rt s && (!((bs s).getD (s.size - 1) 0 == 48) && (decide (-2000 ≤ x) && decide (x ≤ 2000)))) := by
  unfold rtN
  by_cases h : bs s = [48]
  · have e := (z_iff s).1 h
    rw [if_pos h, h, e]
    have e1 : ((List.getD [48] (zS.size - 1) 0 : Int) == 48) = true := rfl
    rw [e1]
    have e2 : (!n && x == 0) = false := by
      cases n with
      | true => rfl
      | false =>
        have : x ≠ 0 := fun hx => hz ⟨rfl, e, hx⟩
        simpa using this
    rw [e2]
    simp
  · rw [if_neg h]
    rfl
end Go.Proofs.YtfkoghmbkgbgbaaDoor
