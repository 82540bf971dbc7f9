/-
  What is wrong with a tree: the walk of the statement.
-/
import Derived.Test.YtkealjaealeojaaQEck
import Derived.Test.YtkealjaealeojaaQGh
import Derived.Deep.RegionHeld3
namespace Go.Proofs.Ytkealjaealeojaa
open Go.RowKit
set_option linter.unusedVariables false
theorem Bo1.fields {w wx : World} {b : Nb} (h : Bo1 w wx b) : (wx.cell? ⟨w.heap.size, 0, none⟩ = some (.int .i64 b.kind) ∧ wx.cell? ⟨w.heap.size, 1, none⟩ = some (.int .u64 b.num) ∧ wx.cell? ⟨w.heap.size, 2, none⟩ = some (.bool b.neg) ∧ wx.cell? ⟨w.heap.size, 3, none⟩ = some (.string b.dig) ∧ wx.cell? ⟨w.heap.size, 4, none⟩ = some (.int .i64 b.exp) ∧ wx.cell? ⟨w.heap.size, 5, none⟩ = some (.string b.txt) ∧ wx.cell? ⟨w.heap.size, 6, none⟩ = some (.slice b.ab b.lb b.cb) ∧ wx.cell? ⟨w.heap.size, 7, none⟩ = some (.slice b.ak b.lk b.ck) ∧ wx.cell? ⟨w.heap.size, 8, none⟩ = some (.slice b.ai b.li b.ci)) := h.1.fields
set_option maxHeartbeats 8000000 in
set_option maxRecDepth 100000 in
theorem wchecks {D : Nat} {b : Nb} {t : Tr} {w : World} (hN : Nd D w b t) :
    Calls Try.prog 3 #[.agg b.arr] w fun e w' => e = .returned (.bool true) ∧ Below w.heap.size w w' := by
  have T0 : Hid (Bo1 w (w.alloc (.cells b.arr 26)) b) := bo1_new w b
  obtain ⟨a0, a1, a2, a3, a4, a5, a6, a7, a8⟩ := T0.out.fields
  obtain ⟨E, hE⟩ : ∃ E, ∀ er, Tr.ChkIs alF t er → er = E := by
    by_cases h : ∃ er, Tr.ChkIs alF t er
    · obtain ⟨er, h⟩ := h
      exact ⟨er, fun e' h' => Tr.chk_one h' h⟩
    · exact ⟨0, fun er h' => absurd ⟨er, h'⟩ h⟩
  have y1 : ∀ w', Below w.heap.size w w' → Calls Try.prog 9 #[.agg b.arr] w' fun e w'' => e = .returned (.int .i64 E) ∧ Below w'.heap.size w' w'' := fun w' hb => (gcheck_any (hN.kept hb)).mono fun e w'' ⟨⟨er, h1, h2⟩, h3⟩ => ⟨by rw [h1, hE er h2], h3⟩
  have y2 : ∀ w', Below w.heap.size w w' → Calls Try.prog 10 #[.agg b.arr] w' fun e w'' => e = .returned (.int .i64 E) ∧ Below w'.heap.size w' w'' := fun w' hb => (echeck_any (hN.kept hb)).mono fun e w'' ⟨⟨er, h1, h2⟩, h3⟩ => ⟨by rw [h1, hE er h2], h3⟩
  have y3 : ∀ w', Below w.heap.size w w' → Calls Try.prog 11 #[] w' fun e w'' => e = .returned (.bool true) ∧ Below w'.heap.size w' w'' := fun w' hb => alive_any w'
  clear hN hE
  go_enter Try.func3, Try.ntmps3
  go_wp2
  go_region_held3 (fun wx => (wx.cell? ⟨w.heap.size, 0, none⟩ = some (.int .i64 b.kind) ∧ wx.cell? ⟨w.heap.size, 1, none⟩ = some (.int .u64 b.num) ∧ wx.cell? ⟨w.heap.size, 2, none⟩ = some (.bool b.neg) ∧ wx.cell? ⟨w.heap.size, 3, none⟩ = some (.string b.dig) ∧ wx.cell? ⟨w.heap.size, 4, none⟩ = some (.int .i64 b.exp) ∧ wx.cell? ⟨w.heap.size, 5, none⟩ = some (.string b.txt) ∧ wx.cell? ⟨w.heap.size, 6, none⟩ = some (.slice b.ab b.lb b.cb) ∧ wx.cell? ⟨w.heap.size, 7, none⟩ = some (.slice b.ak b.lk b.ck) ∧ wx.cell? ⟨w.heap.size, 8, none⟩ = some (.slice b.ai b.li b.ci))) (first | exact T0.out.drew.fields | exact T1.out.fields | exact T2.out.fields | exact T3.out.fields) (first
    | (go_at_call 9; refine (y1 _ T0.out.drew.2).mono ?_; rintro e z1 ⟨rfl, q1⟩; have T1 : Hid (Bo1 w z1 b) := T0.out.drew.on q1; clear q1 y1)
    | (go_at_call 10; refine (y2 _ T1.out.2).mono ?_; rintro e z2 ⟨rfl, q2⟩; have T2 : Hid (Bo1 w z2 b) := T1.out.on q2; clear q2 y2)
    | (go_at_call 11; refine (y3 _ T2.out.2).mono ?_; rintro e z3 ⟨rfl, q3⟩; have T3 : Hid (Bo1 w z3 b) := T2.out.on q3; clear q3 y3))
  go_wp2
  go_ret
  exact ⟨rfl, T3.out.2⟩
end Go.Proofs.Ytkealjaealeojaa
