/-
  Whether bytes are a text, and a text's characters, in the program.
-/
import Derived.Test.YtfkoghmbkgbgbaaDoorUints
import Derived.RegionTactic
import Derived.ChangeAlike
namespace Go.Proofs.YtfkoghmbkgbgbaaDoor
open Go.RowKit

/-- The fault of bytes: its number, its place. -/
def whyL (zs : List Int) : Nat := match (runesL zs).2 with | none => 0 | some _ => 6
def atL (zs : List Int) : Nat := match (runesL zs).2 with | none => 0 | some p => p
/-- The characters of a text; none of what is no text. -/
def txtL (zs : List Int) : List Int := match (runesL zs).2 with | none => ints (runesL zs).1 | some _ => []
theorem why_none {zs : List Int} (h : (runesL zs).2 = none) : whyL zs = 0 ∧ atL zs = 0 ∧ txtL zs = ints (runesL zs).1 := by
  unfold whyL atL txtL
  rw [h]
  exact ⟨rfl, rfl, rfl⟩
theorem why_some {zs : List Int} {p : Nat} (h : (runesL zs).2 = some p) : whyL zs = 6 ∧ atL zs = p ∧ txtL zs = [] := by
  unfold whyL atL txtL
  rw [h]
  exact ⟨rfl, rfl, rfl⟩

/-- A fault in block g. -/
def FAt (w : World) (g y f : Nat) : Prop := w.heap[g]? = some (.cells #[.int .i64 y, .int .i64 f] 26 (0, 0))
theorem FAt.lt {w : World} {g y f : Nat} (h : FAt w g y f) : g < w.heap.size := (Array.getElem?_eq_some_iff.1 h).1
theorem FAt.c0 {w : World} {g y f : Nat} (h : FAt w g y f) : w.cell? ⟨g, 0, none⟩ = some (.int .i64 y) := by rw [cell_row h]; rfl
theorem FAt.c1 {w : World} {g y f : Nat} (h : FAt w g y f) : w.cell? ⟨g, 1, none⟩ = some (.int .i64 f) := by rw [cell_row h]; rfl
theorem FAt.fz {w : World} {g y f : Nat} (h : FAt w g y f) (j : Nat) : w.frozen? ⟨g, j, none⟩ = false := by
  unfold FAt at h
  simp [World.frozen?, h]
theorem FAt.kept {w w' : World} {g y f : Nat} (h : FAt w g y f) (hb : Below w.heap.size w w') : FAt w' g y f := by
  unfold FAt
  rw [hb.block g h.lt]
  exact h

set_option maxHeartbeats 1000000 in
theorem check_any (a : Option Addr) (n cap : Nat) (zs : List Int) (w : World) (hl : zs.length = n) (hb : Bytes w a zs) (hc : n ≤ cap) (hn : n ≤ 4611686018427387904) :
    Calls Tryd.prog 27 #[.slice a n cap] w fun e w' => e = .returned (.agg #[.int .i64 (whyL zs : Nat), .int .i64 (atL zs : Nat)]) ∧ Below w.heap.size w w' := by
  have hL : Hid (zs.length = n) := hl
  have hB0 : Hid (Bytes w a zs) := hb
  have k := uwhole_any a n cap zs (w.alloc (.cells #[.int .i64 0, .int .i64 0] 26)) hl (hb.kept ((Below.refl _ _).alloc (Nat.le_refl _) _)) hn
  have hle := end_le zs
  rw [hl] at hle
  by_cases he : endL zs = n
  · obtain ⟨h1, h2, -⟩ := why_none (end_text (he.trans hl.symm))
    rw [h1, h2]
    rw [he] at k
    clear hb hl he h1 h2 hle
    go_enter Tryd.func27, Tryd.ntmps27
    go_wp2_with fail
    refine k.mono ?_
    rintro e w1 ⟨rfl, hb1⟩
    have hF : FAt w1 w.heap.size 0 0 := FAt.kept (w := w.alloc _) (heap_alloc_new w _) hb1
    have c0 := hF.c0
    have c1 := hF.c1
    have f0 := hF.fz 0
    have f1 := hF.fz 1
    have hbw : Below w.heap.size w w1 := ((Below.refl w.heap.size w).alloc (Nat.le_refl _) _).trans (hb1.mono (by simp))
    clear k
    go_wp2
    refine bodyPost_ret (v := .agg #[.int .i64 0, .int .i64 0]) (by simp [results, Tryd.results27, go_sem, *]) rfl ⟨rfl, ?_⟩
    first | exact hbw | exact (hbw.setCell (Nat.le_refl _) _).setCell (Nat.le_refl _) _
  · have hf := end_fault (b := zs) (by rw [hl]; exact he)
    have hstop := end_stop zs (by rw [hl]; omega)
    obtain ⟨h1, h2, -⟩ := why_some hf
    rw [h1, h2]
    obtain ⟨b, off, rfl⟩ := bytes_some hb (by omega)
    have hE : endL zs < n := by omega
    have k2 := fun w1 (h : Bytes w1 (some ⟨b, off, none⟩) zs) => begun_any b (off + endL zs) (n - endL zs) (cap - endL zs) (zs.drop (endL zs)) w1 (by rw [List.length_drop, hl]) (by omega) (h.drop _) hstop (by omega)
    have i1 : (cap = endL zs) = False := by simp; omega
    have i2 : ((endL zs : Nat) : Int) ≤ (n : Int) := by omega
    have i4 : ((endL zs : Nat) : Int) ≤ (cap : Int) := by omega
    have i3 : (((endL zs : Nat) : Int) == (n : Int)) = false := by simp; omega
    have hbl : endL zs + badB (zs.drop (endL zs)) ≤ n := by
      have := fault_le zs _ hf
      omega
    clear hb hl he h1 h2 hle hf hstop
    generalize endL zs = E at *
    generalize badB (zs.drop E) = B at *
    have k3 : Hid _ := k2
    clear k2
    go_enter Tryd.func27, Tryd.ntmps27
    go_wp2_with fail
    refine k.mono ?_
    rintro e w1 ⟨rfl, hb1⟩
    have hbw : Below w.heap.size w w1 := ((Below.refl w.heap.size w).alloc (Nat.le_refl _) _).trans (hb1.mono (by simp))
    have kk := k3.out w1 (hB0.out.kept hbw)
    have hF : FAt w1 w.heap.size 0 0 := FAt.kept (w := w.alloc _) (heap_alloc_new w _) hb1
    have c0 := hF.c0
    have c1 := hF.c1
    have f0 := hF.fz 0
    have f1 := hF.fz 1
    clear k
    go_wp2_with (go_at_call 44; refine kk.mono ?_; rintro e w' ⟨rfl, hw⟩; obtain rfl : w1 = w' := hw.symm)
    have hv : IntKind.i64.wrap ((E : Int) + (B : Int)) = ((E + B : Nat) : Int) := by rw [IntKind.wrap_i64] <;> omega
    refine bodyPost_ret (v := .agg #[.int .i64 6, .int .i64 ((E + B : Nat) : Int)]) (by simp [results, Tryd.results27, go_sem, *]) rfl ⟨rfl, ?_⟩
    first | exact hbw | exact (hbw.setCell (Nat.le_refl _) _).setCell (Nat.le_refl _) _
end Go.Proofs.YtfkoghmbkgbgbaaDoor
