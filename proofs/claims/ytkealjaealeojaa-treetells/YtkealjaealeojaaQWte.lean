/-
  Which trees are few, the same, how many nodes they have, how deep they are: the walk of the statement.
-/
import Derived.Test.YtkealjaealeojaaQEpb
import Derived.Test.YtkealjaealeojaaQGh
import Derived.Deep.RegionHeld3
namespace Go.Proofs.Ytkealjaealeojaa
open Go.RowKit
set_option linter.unusedVariables false
theorem Bo2.fields {w wx : World} {b0 b1 : Nb} (h : Bo2 w wx b0 b1) : (wx.cell? ⟨w.heap.size, 0, none⟩ = some (.int .i64 b0.kind) ∧ wx.cell? ⟨w.heap.size, 1, none⟩ = some (.int .u64 b0.num) ∧ wx.cell? ⟨w.heap.size, 2, none⟩ = some (.bool b0.neg) ∧ wx.cell? ⟨w.heap.size, 3, none⟩ = some (.string b0.dig) ∧ wx.cell? ⟨w.heap.size, 4, none⟩ = some (.int .i64 b0.exp) ∧ wx.cell? ⟨w.heap.size, 5, none⟩ = some (.string b0.txt) ∧ wx.cell? ⟨w.heap.size, 6, none⟩ = some (.slice b0.ab b0.lb b0.cb) ∧ wx.cell? ⟨w.heap.size, 7, none⟩ = some (.slice b0.ak b0.lk b0.ck) ∧ wx.cell? ⟨w.heap.size, 8, none⟩ = some (.slice b0.ai b0.li b0.ci)) ∧ (wx.cell? ⟨w.heap.size + 1, 0, none⟩ = some (.int .i64 b1.kind) ∧ wx.cell? ⟨w.heap.size + 1, 1, none⟩ = some (.int .u64 b1.num) ∧ wx.cell? ⟨w.heap.size + 1, 2, none⟩ = some (.bool b1.neg) ∧ wx.cell? ⟨w.heap.size + 1, 3, none⟩ = some (.string b1.dig) ∧ wx.cell? ⟨w.heap.size + 1, 4, none⟩ = some (.int .i64 b1.exp) ∧ wx.cell? ⟨w.heap.size + 1, 5, none⟩ = some (.string b1.txt) ∧ wx.cell? ⟨w.heap.size + 1, 6, none⟩ = some (.slice b1.ab b1.lb b1.cb) ∧ wx.cell? ⟨w.heap.size + 1, 7, none⟩ = some (.slice b1.ak b1.lk b1.ck) ∧ wx.cell? ⟨w.heap.size + 1, 8, none⟩ = some (.slice b1.ai b1.li b1.ci)) := ⟨h.one.fields, h.two.fields⟩
set_option maxHeartbeats 8000000 in
set_option maxRecDepth 100000 in
theorem wtells {D0 D1 : Nat} {b0 b1 : Nb} {t0 t1 : Tr} {w : World} (h0 : Nd D0 w b0 t0) (h1 : Nd D1 w b1 t1) :
    Calls Try.prog 4 #[.agg b0.arr, .agg b1.arr] w fun e w' => e = .returned (.bool true) ∧ Below w.heap.size w w' := by
  have T0 : Hid (Bo2 w ((w.alloc (.cells b0.arr 26)).alloc (.cells b1.arr 26)) b0 b1) := bo2_new w b0 b1
  obtain ⟨⟨a0, a1, a2, a3, a4, a5, a6, a7, a8⟩, ⟨c0, c1, c2, c3, c4, c5, c6, c7, c8⟩⟩ := T0.out.fields
  obtain ⟨V, hV⟩ : ∃ V : Bool, V = true ↔ t0.size ≤ 1024 ∧ t1.size ≤ 1024 ∧ t0 = t1 := ⟨@decide (t0.size ≤ 1024 ∧ t1.size ≤ 1024 ∧ t0 = t1) (Classical.propDecidable _), by simp⟩
  have y1 : ∀ w', Below w.heap.size w w' → Calls Try.prog 12 #[.agg b0.arr] w' fun e w'' => e = .returned (.bool (decide (t0.size ≤ 1024))) ∧ Below w'.heap.size w' w'' := fun w' hb => few_any (h0.kept hb)
  have y2 : ∀ w', Below w.heap.size w w' → Calls Try.prog 13 #[.agg b0.arr] w' fun e w'' => e = .returned (.bool (decide (t0.size ≤ 1024))) ∧ Below w'.heap.size w' w'' := fun w' hb => efew_any (h0.kept hb)
  have y3 : ∀ w', Below w.heap.size w w' → Calls Try.prog 14 #[.agg b0.arr, .agg b1.arr] w' fun e w'' => e = .returned (.bool (V)) ∧ Below w'.heap.size w' w'' := fun w' hb => gsame_any (h0.kept hb) (h1.kept hb) hV
  have y4 : ∀ w', Below w.heap.size w w' → Calls Try.prog 15 #[.agg b0.arr, .agg b1.arr] w' fun e w'' => e = .returned (.bool (V)) ∧ Below w'.heap.size w' w'' := fun w' hb => esame_any (h0.kept hb) (h1.kept hb) hV
  have y5 : ∀ w', Below w.heap.size w w' → Calls Try.prog 14 #[.agg b0.arr, .agg b0.arr] w' fun e w'' => e = .returned (.bool (decide (t0.size ≤ 1024))) ∧ Below w'.heap.size w' w'' := fun w' hb => gsame_any (h0.kept hb) (h0.kept hb) (by simp)
  have y6 : ∀ w', Below w.heap.size w w' → Calls Try.prog 13 #[.agg b0.arr] w' fun e w'' => e = .returned (.bool (decide (t0.size ≤ 1024))) ∧ Below w'.heap.size w' w'' := fun w' hb => efew_any (h0.kept hb)
  have y7 : ∀ w', Below w.heap.size w w' → Calls Try.prog 16 #[.agg b0.arr] w' fun e w'' => e = .returned (.int .i64 (t0.mes.1 : Nat)) ∧ Below w'.heap.size w' w'' := fun w' hb => size_any (h0.kept hb)
  have y8 : ∀ w', Below w.heap.size w w' → Calls Try.prog 17 #[.agg b0.arr] w' fun e w'' => e = .returned (.int .i64 (t0.mes.1 : Nat)) ∧ Below w'.heap.size w' w'' := fun w' hb => esize_any (h0.kept hb)
  have y9 : ∀ w', Below w.heap.size w w' → Calls Try.prog 18 #[.agg b0.arr] w' fun e w'' => e = .returned (.int .i64 (t0.mes.2 : Nat)) ∧ Below w'.heap.size w' w'' := fun w' hb => gdeep_any (h0.kept hb)
  have y10 : ∀ w', Below w.heap.size w w' → Calls Try.prog 19 #[.agg b0.arr] w' fun e w'' => e = .returned (.int .i64 (t0.mes.2 : Nat)) ∧ Below w'.heap.size w' w'' := fun w' hb => edeep_any (h0.kept hb)
  have y11 : ∀ w', Below w.heap.size w w' → Calls Try.prog 11 #[] w' fun e w'' => e = .returned (.bool (true)) ∧ Below w'.heap.size w' w'' := fun w' hb => alive_any w'
  generalize decide (t0.size ≤ 1024) = F at *
  generalize t0.mes.1 = S at *
  generalize t0.mes.2 = E at *
  clear h0 h1 hV
  go_enter Try.func4, Try.ntmps4
  go_wp2
  go_region_held3 (fun wx => (wx.cell? ⟨w.heap.size, 0, none⟩ = some (.int .i64 b0.kind) ∧ wx.cell? ⟨w.heap.size, 1, none⟩ = some (.int .u64 b0.num) ∧ wx.cell? ⟨w.heap.size, 2, none⟩ = some (.bool b0.neg) ∧ wx.cell? ⟨w.heap.size, 3, none⟩ = some (.string b0.dig) ∧ wx.cell? ⟨w.heap.size, 4, none⟩ = some (.int .i64 b0.exp) ∧ wx.cell? ⟨w.heap.size, 5, none⟩ = some (.string b0.txt) ∧ wx.cell? ⟨w.heap.size, 6, none⟩ = some (.slice b0.ab b0.lb b0.cb) ∧ wx.cell? ⟨w.heap.size, 7, none⟩ = some (.slice b0.ak b0.lk b0.ck) ∧ wx.cell? ⟨w.heap.size, 8, none⟩ = some (.slice b0.ai b0.li b0.ci)) ∧ (wx.cell? ⟨w.heap.size + 1, 0, none⟩ = some (.int .i64 b1.kind) ∧ wx.cell? ⟨w.heap.size + 1, 1, none⟩ = some (.int .u64 b1.num) ∧ wx.cell? ⟨w.heap.size + 1, 2, none⟩ = some (.bool b1.neg) ∧ wx.cell? ⟨w.heap.size + 1, 3, none⟩ = some (.string b1.dig) ∧ wx.cell? ⟨w.heap.size + 1, 4, none⟩ = some (.int .i64 b1.exp) ∧ wx.cell? ⟨w.heap.size + 1, 5, none⟩ = some (.string b1.txt) ∧ wx.cell? ⟨w.heap.size + 1, 6, none⟩ = some (.slice b1.ab b1.lb b1.cb) ∧ wx.cell? ⟨w.heap.size + 1, 7, none⟩ = some (.slice b1.ak b1.lk b1.ck) ∧ wx.cell? ⟨w.heap.size + 1, 8, none⟩ = some (.slice b1.ai b1.li b1.ci))) (first | exact T0.out.drew.fields | exact T1.out.fields | exact T2.out.fields | exact T3.out.fields | exact T4.out.fields | exact T5.out.fields | exact T6.out.fields | exact T7.out.fields | exact T8.out.fields | exact T9.out.fields | exact T10.out.fields | exact T11.out.fields) (first
    | (go_at_call 12; refine (y1 _ T0.out.drew.bel).mono ?_; rintro e z1 ⟨rfl, q1⟩; have T1 : Hid (Bo2 w z1 b0 b1) := T0.out.drew.on q1; clear q1 y1)
    | (go_at_call 13; refine (y2 _ T1.out.bel).mono ?_; rintro e z2 ⟨rfl, q2⟩; have T2 : Hid (Bo2 w z2 b0 b1) := T1.out.on q2; clear q2 y2)
    | (go_at_call 14; refine (y3 _ T2.out.bel).mono ?_; rintro e z3 ⟨rfl, q3⟩; have T3 : Hid (Bo2 w z3 b0 b1) := T2.out.on q3; clear q3 y3)
    | (go_at_call 15; refine (y4 _ T3.out.bel).mono ?_; rintro e z4 ⟨rfl, q4⟩; have T4 : Hid (Bo2 w z4 b0 b1) := T3.out.on q4; clear q4 y4)
    | (go_at_call 14; refine (y5 _ T4.out.bel).mono ?_; rintro e z5 ⟨rfl, q5⟩; have T5 : Hid (Bo2 w z5 b0 b1) := T4.out.on q5; clear q5 y5)
    | (go_at_call 13; refine (y6 _ T5.out.bel).mono ?_; rintro e z6 ⟨rfl, q6⟩; have T6 : Hid (Bo2 w z6 b0 b1) := T5.out.on q6; clear q6 y6)
    | (go_at_call 16; refine (y7 _ T6.out.bel).mono ?_; rintro e z7 ⟨rfl, q7⟩; have T7 : Hid (Bo2 w z7 b0 b1) := T6.out.on q7; clear q7 y7)
    | (go_at_call 17; refine (y8 _ T7.out.bel).mono ?_; rintro e z8 ⟨rfl, q8⟩; have T8 : Hid (Bo2 w z8 b0 b1) := T7.out.on q8; clear q8 y8)
    | (go_at_call 18; refine (y9 _ T8.out.bel).mono ?_; rintro e z9 ⟨rfl, q9⟩; have T9 : Hid (Bo2 w z9 b0 b1) := T8.out.on q9; clear q9 y9)
    | (go_at_call 19; refine (y10 _ T9.out.bel).mono ?_; rintro e z10 ⟨rfl, q10⟩; have T10 : Hid (Bo2 w z10 b0 b1) := T9.out.on q10; clear q10 y10)
    | (go_at_call 11; refine (y11 _ T10.out.bel).mono ?_; rintro e z11 ⟨rfl, q11⟩; have T11 : Hid (Bo2 w z11 b0 b1) := T10.out.on q11; clear q11 y11))
  go_wp2
  go_ret
  exact ⟨rfl, T11.out.bel⟩
end Go.Proofs.Ytkealjaealeojaa
