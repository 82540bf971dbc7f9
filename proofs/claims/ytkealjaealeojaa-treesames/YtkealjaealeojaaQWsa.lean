/-
  Sameness turns round and goes on: the walk of the statement.
-/
import Derived.Test.YtkealjaealeojaaQGh
import Derived.Deep.RegionHeld3
namespace Go.Proofs.Ytkealjaealeojaa
open Go.RowKit
set_option linter.unusedVariables false

/-- Three boxes. -/
structure Bo3 (w wx : World) (b0 b1 b2 : Nb) : Prop where
  one : NBox wx w.heap.size b0
  two : NBox wx (w.heap.size + 1) b1
  three : NBox wx (w.heap.size + 1 + 1) b2
  bel : Below w.heap.size w wx
theorem Bo3.fields {w wx : World} {b0 b1 b2 : Nb} (h : Bo3 w wx b0 b1 b2) : (wx.cell? ⟨w.heap.size, 0, none⟩ = some (.int .i64 b0.kind) ∧ wx.cell? ⟨w.heap.size, 1, none⟩ = some (.int .u64 b0.num) ∧ wx.cell? ⟨w.heap.size, 2, none⟩ = some (.bool b0.neg) ∧ wx.cell? ⟨w.heap.size, 3, none⟩ = some (.string b0.dig) ∧ wx.cell? ⟨w.heap.size, 4, none⟩ = some (.int .i64 b0.exp) ∧ wx.cell? ⟨w.heap.size, 5, none⟩ = some (.string b0.txt) ∧ wx.cell? ⟨w.heap.size, 6, none⟩ = some (.slice b0.ab b0.lb b0.cb) ∧ wx.cell? ⟨w.heap.size, 7, none⟩ = some (.slice b0.ak b0.lk b0.ck) ∧ wx.cell? ⟨w.heap.size, 8, none⟩ = some (.slice b0.ai b0.li b0.ci)) ∧ (wx.cell? ⟨w.heap.size + 1, 0, none⟩ = some (.int .i64 b1.kind) ∧ wx.cell? ⟨w.heap.size + 1, 1, none⟩ = some (.int .u64 b1.num) ∧ wx.cell? ⟨w.heap.size + 1, 2, none⟩ = some (.bool b1.neg) ∧ wx.cell? ⟨w.heap.size + 1, 3, none⟩ = some (.string b1.dig) ∧ wx.cell? ⟨w.heap.size + 1, 4, none⟩ = some (.int .i64 b1.exp) ∧ wx.cell? ⟨w.heap.size + 1, 5, none⟩ = some (.string b1.txt) ∧ wx.cell? ⟨w.heap.size + 1, 6, none⟩ = some (.slice b1.ab b1.lb b1.cb) ∧ wx.cell? ⟨w.heap.size + 1, 7, none⟩ = some (.slice b1.ak b1.lk b1.ck) ∧ wx.cell? ⟨w.heap.size + 1, 8, none⟩ = some (.slice b1.ai b1.li b1.ci)) ∧ (wx.cell? ⟨w.heap.size + 1 + 1, 0, none⟩ = some (.int .i64 b2.kind) ∧ wx.cell? ⟨w.heap.size + 1 + 1, 1, none⟩ = some (.int .u64 b2.num) ∧ wx.cell? ⟨w.heap.size + 1 + 1, 2, none⟩ = some (.bool b2.neg) ∧ wx.cell? ⟨w.heap.size + 1 + 1, 3, none⟩ = some (.string b2.dig) ∧ wx.cell? ⟨w.heap.size + 1 + 1, 4, none⟩ = some (.int .i64 b2.exp) ∧ wx.cell? ⟨w.heap.size + 1 + 1, 5, none⟩ = some (.string b2.txt) ∧ wx.cell? ⟨w.heap.size + 1 + 1, 6, none⟩ = some (.slice b2.ab b2.lb b2.cb) ∧ wx.cell? ⟨w.heap.size + 1 + 1, 7, none⟩ = some (.slice b2.ak b2.lk b2.ck) ∧ wx.cell? ⟨w.heap.size + 1 + 1, 8, none⟩ = some (.slice b2.ai b2.li b2.ci)) := ⟨h.one.fields, h.two.fields, h.three.fields⟩
theorem Bo3.on {w wx wy : World} {b0 b1 b2 : Nb} (h : Bo3 w wx b0 b1 b2) (hb : Below wx.heap.size wx wy) : Bo3 w wy b0 b1 b2 := ⟨h.one.kept hb h.one.lt, h.two.kept hb h.two.lt, h.three.kept hb h.three.lt, h.bel.trans (hb.mono h.bel.size)⟩
theorem Bo3.drew {w wx : World} {b0 b1 b2 : Nb} (h : Bo3 w wx b0 b1 b2) : Bo3 w wx.drew b0 b1 b2 := ⟨h.one, h.two, h.three, h.bel.drew⟩
theorem bo3_new (w : World) (b0 b1 b2 : Nb) : Bo3 w (((w.alloc (.cells b0.arr 26)).alloc (.cells b1.arr 26)).alloc (.cells b2.arr 26)) b0 b1 b2 := by
  have a1 := alloc_below w (.cells b0.arr 26)
  have a2 := alloc_below (w.alloc (.cells b0.arr 26)) (.cells b1.arr 26)
  have a3 := alloc_below ((w.alloc (.cells b0.arr 26)).alloc (.cells b1.arr 26)) (.cells b2.arr 26)
  have s1 : (w.alloc (.cells b0.arr 26)).heap.size = w.heap.size + 1 := by simp
  have s2 : ((w.alloc (.cells b0.arr 26)).alloc (.cells b1.arr 26)).heap.size = w.heap.size + 1 + 1 := by simp
  have n1 := nbox_new w b0
  have n2 := nbox_new (w.alloc (.cells b0.arr 26)) b1
  have n3 := nbox_new ((w.alloc (.cells b0.arr 26)).alloc (.cells b1.arr 26)) b2
  rw [s1] at n2
  rw [s2] at n3
  exact ⟨(n1.kept a2 (by omega)).kept a3 (by omega), n2.kept a3 (by omega), n3, (a1.trans (a2.mono (by omega))).trans (a3.mono (by omega))⟩

set_option maxHeartbeats 1000000 in
set_option maxRecDepth 100000 in
theorem wsames {D0 D1 D2 : Nat} {b0 b1 b2 : Nb} {t0 t1 t2 : Tr} {w : World} (h0 : Nd D0 w b0 t0) (h1 : Nd D1 w b1 t1) (h2 : Nd D2 w b2 t2) :
    Calls Try.prog 8 #[.agg b0.arr, .agg b1.arr, .agg b2.arr] w fun e w' => e = .returned (.bool true) ∧ Below w.heap.size w w' := by
  have T0 : Hid (Bo3 w (((w.alloc (.cells b0.arr 26)).alloc (.cells b1.arr 26)).alloc (.cells b2.arr 26)) b0 b1 b2) := bo3_new w b0 b1 b2
  obtain ⟨⟨a0, a1, a2, a3, a4, a5, a6, a7, a8⟩, ⟨c0, c1, c2, c3, c4, c5, c6, c7, c8⟩, ⟨d0, d1, d2, d3, d4, d5, d6, d7, d8⟩⟩ := T0.out.fields
  have kA : ∀ w', Below w.heap.size w w' → Calls Try.prog 11 #[] w' fun e w'' => e = .returned (.bool true) ∧ Below w'.heap.size w' w'' := fun w' _ => alive_any w'
  have k01 : ∀ (v : Bool), (v = true ↔ t0.size ≤ 1024 ∧ t1.size ≤ 1024 ∧ t0 = t1) → ∀ w', Below w.heap.size w w' → Calls Try.prog 14 #[.agg b0.arr, .agg b1.arr] w' fun e w'' => e = .returned (.bool v) ∧ Below w'.heap.size w' w'' := fun v hv w' hb => gsame_any (h0.kept hb) (h1.kept hb) hv
  have k10 : ∀ (v : Bool), (v = true ↔ t1.size ≤ 1024 ∧ t0.size ≤ 1024 ∧ t1 = t0) → ∀ w', Below w.heap.size w w' → Calls Try.prog 14 #[.agg b1.arr, .agg b0.arr] w' fun e w'' => e = .returned (.bool v) ∧ Below w'.heap.size w' w'' := fun v hv w' hb => gsame_any (h1.kept hb) (h0.kept hb) hv
  have k12 : ∀ (v : Bool), (v = true ↔ t1.size ≤ 1024 ∧ t2.size ≤ 1024 ∧ t1 = t2) → ∀ w', Below w.heap.size w w' → Calls Try.prog 14 #[.agg b1.arr, .agg b2.arr] w' fun e w'' => e = .returned (.bool v) ∧ Below w'.heap.size w' w'' := fun v hv w' hb => gsame_any (h1.kept hb) (h2.kept hb) hv
  have k02 : ∀ (v : Bool), (v = true ↔ t0.size ≤ 1024 ∧ t2.size ≤ 1024 ∧ t0 = t2) → ∀ w', Below w.heap.size w w' → Calls Try.prog 14 #[.agg b0.arr, .agg b2.arr] w' fun e w'' => e = .returned (.bool v) ∧ Below w'.heap.size w' w'' := fun v hv w' hb => gsame_any (h0.kept hb) (h2.kept hb) hv
  clear h0 h1 h2
  by_cases hv : t0.size ≤ 1024 ∧ t1.size ≤ 1024 ∧ t0 = t1
  · have x01 := k01 true (by simp [hv])
    have x10 := k10 true (by simp only [true_iff]; exact ⟨hv.2.1, hv.1, hv.2.2.symm⟩)
    by_cases hu : t1.size ≤ 1024 ∧ t2.size ≤ 1024 ∧ t1 = t2
    · have x12 := k12 true (by simp [hu])
      have x02 := k02 true (by simp only [true_iff]; exact ⟨hv.1, hu.2.1, hv.2.2.trans hu.2.2⟩)
      clear k01 k10 k12 k02 hv hu
      have y1 := x01
      have y2 := x10
      have y3 := x01
      have y4 := x12
      have y5 := x02
      have y6 := kA
      clear kA x01 x02 x10 x12
      go_enter Try.func8, Try.ntmps8
      go_wp2
      go_region_held3 (fun wx => (wx.cell? ⟨w.heap.size, 0, none⟩ = some (.int .i64 b0.kind) ∧ wx.cell? ⟨w.heap.size, 1, none⟩ = some (.int .u64 b0.num) ∧ wx.cell? ⟨w.heap.size, 2, none⟩ = some (.bool b0.neg) ∧ wx.cell? ⟨w.heap.size, 3, none⟩ = some (.string b0.dig) ∧ wx.cell? ⟨w.heap.size, 4, none⟩ = some (.int .i64 b0.exp) ∧ wx.cell? ⟨w.heap.size, 5, none⟩ = some (.string b0.txt) ∧ wx.cell? ⟨w.heap.size, 6, none⟩ = some (.slice b0.ab b0.lb b0.cb) ∧ wx.cell? ⟨w.heap.size, 7, none⟩ = some (.slice b0.ak b0.lk b0.ck) ∧ wx.cell? ⟨w.heap.size, 8, none⟩ = some (.slice b0.ai b0.li b0.ci)) ∧ (wx.cell? ⟨w.heap.size + 1, 0, none⟩ = some (.int .i64 b1.kind) ∧ wx.cell? ⟨w.heap.size + 1, 1, none⟩ = some (.int .u64 b1.num) ∧ wx.cell? ⟨w.heap.size + 1, 2, none⟩ = some (.bool b1.neg) ∧ wx.cell? ⟨w.heap.size + 1, 3, none⟩ = some (.string b1.dig) ∧ wx.cell? ⟨w.heap.size + 1, 4, none⟩ = some (.int .i64 b1.exp) ∧ wx.cell? ⟨w.heap.size + 1, 5, none⟩ = some (.string b1.txt) ∧ wx.cell? ⟨w.heap.size + 1, 6, none⟩ = some (.slice b1.ab b1.lb b1.cb) ∧ wx.cell? ⟨w.heap.size + 1, 7, none⟩ = some (.slice b1.ak b1.lk b1.ck) ∧ wx.cell? ⟨w.heap.size + 1, 8, none⟩ = some (.slice b1.ai b1.li b1.ci)) ∧ (wx.cell? ⟨w.heap.size + 1 + 1, 0, none⟩ = some (.int .i64 b2.kind) ∧ wx.cell? ⟨w.heap.size + 1 + 1, 1, none⟩ = some (.int .u64 b2.num) ∧ wx.cell? ⟨w.heap.size + 1 + 1, 2, none⟩ = some (.bool b2.neg) ∧ wx.cell? ⟨w.heap.size + 1 + 1, 3, none⟩ = some (.string b2.dig) ∧ wx.cell? ⟨w.heap.size + 1 + 1, 4, none⟩ = some (.int .i64 b2.exp) ∧ wx.cell? ⟨w.heap.size + 1 + 1, 5, none⟩ = some (.string b2.txt) ∧ wx.cell? ⟨w.heap.size + 1 + 1, 6, none⟩ = some (.slice b2.ab b2.lb b2.cb) ∧ wx.cell? ⟨w.heap.size + 1 + 1, 7, none⟩ = some (.slice b2.ak b2.lk b2.ck) ∧ wx.cell? ⟨w.heap.size + 1 + 1, 8, none⟩ = some (.slice b2.ai b2.li b2.ci))) (first | exact T0.out.fields | exact T1.out.fields | exact T2.out.fields | exact T3.out.fields | exact T4.out.fields | exact T5.out.fields | exact T6.out.fields) (first
        | (go_at_call 14; refine (y1 _ T0.out.drew.bel).mono ?_; rintro e z1 ⟨rfl, q1⟩; have T1 : Hid (Bo3 w z1 b0 b1 b2) := T0.out.drew.on q1; clear q1 y1)
        | (go_at_call 14; refine (y2 _ T1.out.bel).mono ?_; rintro e z2 ⟨rfl, q2⟩; have T2 : Hid (Bo3 w z2 b0 b1 b2) := T1.out.on q2; clear q2 y2)
        | (go_at_call 14; refine (y3 _ T2.out.bel).mono ?_; rintro e z3 ⟨rfl, q3⟩; have T3 : Hid (Bo3 w z3 b0 b1 b2) := T2.out.on q3; clear q3 y3)
        | (go_at_call 14; refine (y4 _ T3.out.bel).mono ?_; rintro e z4 ⟨rfl, q4⟩; have T4 : Hid (Bo3 w z4 b0 b1 b2) := T3.out.on q4; clear q4 y4)
        | (go_at_call 14; refine (y5 _ T4.out.bel).mono ?_; rintro e z5 ⟨rfl, q5⟩; have T5 : Hid (Bo3 w z5 b0 b1 b2) := T4.out.on q5; clear q5 y5)
        | (go_at_call 11; refine (y6 _ T5.out.bel).mono ?_; rintro e z6 ⟨rfl, q6⟩; have T6 : Hid (Bo3 w z6 b0 b1 b2) := T5.out.on q6; clear q6 y6))
      go_wp2
      go_ret
      exact ⟨rfl, T6.out.bel⟩
    · have x12 := k12 false (by simp only [Bool.false_eq_true, false_iff]; exact hu)
      clear k01 k10 k12 k02 hv hu
      have y1 := x01
      have y2 := x10
      have y3 := x01
      have y4 := x12
      have y5 := kA
      clear kA x01 x10 x12
      go_enter Try.func8, Try.ntmps8
      go_wp2
      refine wp_region_held_drew (S := (fun wx => (wx.cell? ⟨w.heap.size, 0, none⟩ = some (.int .i64 b0.kind) ∧ wx.cell? ⟨w.heap.size, 1, none⟩ = some (.int .u64 b0.num) ∧ wx.cell? ⟨w.heap.size, 2, none⟩ = some (.bool b0.neg) ∧ wx.cell? ⟨w.heap.size, 3, none⟩ = some (.string b0.dig) ∧ wx.cell? ⟨w.heap.size, 4, none⟩ = some (.int .i64 b0.exp) ∧ wx.cell? ⟨w.heap.size, 5, none⟩ = some (.string b0.txt) ∧ wx.cell? ⟨w.heap.size, 6, none⟩ = some (.slice b0.ab b0.lb b0.cb) ∧ wx.cell? ⟨w.heap.size, 7, none⟩ = some (.slice b0.ak b0.lk b0.ck) ∧ wx.cell? ⟨w.heap.size, 8, none⟩ = some (.slice b0.ai b0.li b0.ci)) ∧ (wx.cell? ⟨w.heap.size + 1, 0, none⟩ = some (.int .i64 b1.kind) ∧ wx.cell? ⟨w.heap.size + 1, 1, none⟩ = some (.int .u64 b1.num) ∧ wx.cell? ⟨w.heap.size + 1, 2, none⟩ = some (.bool b1.neg) ∧ wx.cell? ⟨w.heap.size + 1, 3, none⟩ = some (.string b1.dig) ∧ wx.cell? ⟨w.heap.size + 1, 4, none⟩ = some (.int .i64 b1.exp) ∧ wx.cell? ⟨w.heap.size + 1, 5, none⟩ = some (.string b1.txt) ∧ wx.cell? ⟨w.heap.size + 1, 6, none⟩ = some (.slice b1.ab b1.lb b1.cb) ∧ wx.cell? ⟨w.heap.size + 1, 7, none⟩ = some (.slice b1.ak b1.lk b1.ck) ∧ wx.cell? ⟨w.heap.size + 1, 8, none⟩ = some (.slice b1.ai b1.li b1.ci)) ∧ (wx.cell? ⟨w.heap.size + 1 + 1, 0, none⟩ = some (.int .i64 b2.kind) ∧ wx.cell? ⟨w.heap.size + 1 + 1, 1, none⟩ = some (.int .u64 b2.num) ∧ wx.cell? ⟨w.heap.size + 1 + 1, 2, none⟩ = some (.bool b2.neg) ∧ wx.cell? ⟨w.heap.size + 1 + 1, 3, none⟩ = some (.string b2.dig) ∧ wx.cell? ⟨w.heap.size + 1 + 1, 4, none⟩ = some (.int .i64 b2.exp) ∧ wx.cell? ⟨w.heap.size + 1 + 1, 5, none⟩ = some (.string b2.txt) ∧ wx.cell? ⟨w.heap.size + 1 + 1, 6, none⟩ = some (.slice b2.ab b2.lb b2.cb) ∧ wx.cell? ⟨w.heap.size + 1 + 1, 7, none⟩ = some (.slice b2.ak b2.lk b2.ck) ∧ wx.cell? ⟨w.heap.size + 1 + 1, 8, none⟩ = some (.slice b2.ai b2.li b2.ci)))) (by kernel_rfl) (T0.out.drew.fields) (fun hHeld => ?_)
      refine wpAnyH_take (i := 0) (v := ?_) rfl (by kernel_rfl) (by kernel_rfl) (by kernel_rfl) (fun _ _ _ h => h) (Or.inl ⟨by rfl, ?hy⟩) (by assumption) ?_
      case hy => intro w hSw; (try dsimp only at hSw); go_simp; try with_reducible rfl
      try simp only [Act.put, List.setIfInBounds_toArray, List.set_cons_zero, List.set_cons_succ, List.getElem_toArray, List.getElem_cons_zero]
      refine wpAnyH_take (i := 1) (v := ?_) rfl (by kernel_rfl) (by kernel_rfl) (by kernel_rfl) (fun _ _ _ h => h) (Or.inl ⟨by rfl, ?hy⟩) (by assumption) ?_
      case hy => intro w hSw; (try dsimp only at hSw); go_simp; try with_reducible rfl
      try simp only [Act.put, List.setIfInBounds_toArray, List.set_cons_zero, List.set_cons_succ, List.getElem_toArray, List.getElem_cons_zero, List.getElem_cons_succ]
      refine wpAnyH_take (i := 3) (v := ?_) rfl (by kernel_rfl) (by kernel_rfl) (by kernel_rfl) (fun _ _ _ h => h) (Or.inl ⟨by rfl, ?hy⟩) (by assumption) ?_
      case hy => intro w hSw; (try dsimp only at hSw); go_simp; try with_reducible rfl
      try simp only [Act.put, List.setIfInBounds_toArray, List.set_cons_zero, List.set_cons_succ, List.getElem_toArray, List.getElem_cons_zero, List.getElem_cons_succ]
      refine wpAnyH_take (i := 4) (v := ?_) rfl (by kernel_rfl) (by kernel_rfl) (by kernel_rfl) (fun _ _ _ h => h) (Or.inl ⟨by rfl, ?hy⟩) (by assumption) ?_
      case hy => intro w hSw; (try dsimp only at hSw); go_simp; try with_reducible rfl
      try simp only [Act.put, List.setIfInBounds_toArray, List.set_cons_zero, List.set_cons_succ, List.getElem_toArray, List.getElem_cons_zero, List.getElem_cons_succ]
      refine wpAnyH_ready (rs := [2]) (by kernel_rfl) (by simp) ?_
      refine AllReadyH.cons rfl (fun K hK => ?_) AllReadyH.nil
      go_simp
      refine (y1 _ T0.out.drew.bel).mono ?_; rintro e z1 ⟨rfl, q1⟩; have T1 : Hid (Bo3 w z1 b0 b1 b2) := T0.out.drew.on q1; clear q1 y1
      go_wp2_with fail
      refine hK.out _ _ (T1.out.fields) (fun hHeld => ?_)
      clear hK K
      try simp only [Act.put, List.setIfInBounds_toArray, List.set_cons_zero, List.set_cons_succ, List.getElem_toArray, List.getElem_cons_zero, List.getElem_cons_succ]
      refine wpAnyH_ready (rs := [5]) (by kernel_rfl) (by simp) ?_
      refine AllReadyH.cons rfl (fun K hK => ?_) AllReadyH.nil
      go_simp
      refine (y2 _ T1.out.bel).mono ?_; rintro e z2 ⟨rfl, q2⟩; have T2 : Hid (Bo3 w z2 b0 b1 b2) := T1.out.on q2; clear q2 y2
      go_wp2_with fail
      refine hK.out _ _ (T2.out.fields) (fun hHeld => ?_)
      clear hK K
      try simp only [Act.put, List.setIfInBounds_toArray, List.set_cons_zero, List.set_cons_succ, List.getElem_toArray, List.getElem_cons_zero, List.getElem_cons_succ]
      refine wpAnyH_take (i := 6) (v := ?_) rfl (by kernel_rfl) (by kernel_rfl) (by kernel_rfl) (fun _ _ _ h => h) (Or.inl ⟨by rfl, ?hy⟩) (by assumption) ?_
      case hy => intro w hSw; (try dsimp only at hSw); go_simp; try with_reducible rfl
      try simp only [Act.put, List.setIfInBounds_toArray, List.set_cons_zero, List.set_cons_succ, List.getElem_toArray, List.getElem_cons_zero, List.getElem_cons_succ]
      refine wpAnyH_take (i := 7) (v := ?_) rfl (by kernel_rfl) (by kernel_rfl) (by kernel_rfl) (fun _ _ _ h => h) (Or.inl ⟨by rfl, ?hy⟩) (by assumption) ?_
      case hy => intro w hSw; (try dsimp only at hSw); go_simp; try with_reducible rfl
      try simp only [Act.put, List.setIfInBounds_toArray, List.set_cons_zero, List.set_cons_succ, List.getElem_toArray, List.getElem_cons_zero, List.getElem_cons_succ]
      refine wpAnyH_take (i := 8) (v := ?_) rfl (by kernel_rfl) (by kernel_rfl) (by kernel_rfl) (fun _ _ _ h => h) (Or.inl ⟨by rfl, ?hy⟩) (by assumption) ?_
      case hy => intro w hSw; (try dsimp only at hSw); go_simp; try with_reducible rfl
      try simp only [Act.put, List.setIfInBounds_toArray, List.set_cons_zero, List.set_cons_succ, List.getElem_toArray, List.getElem_cons_zero, List.getElem_cons_succ]
      refine wpAnyH_take (i := 9) (v := ?_) rfl (by kernel_rfl) (by kernel_rfl) (by kernel_rfl) (fun _ _ _ h => h) (Or.inl ⟨by rfl, ?hy⟩) (by assumption) ?_
      case hy => intro w hSw; (try dsimp only at hSw); go_simp; try with_reducible rfl
      try simp only [Act.put, List.setIfInBounds_toArray, List.set_cons_zero, List.set_cons_succ, List.getElem_toArray, List.getElem_cons_zero, List.getElem_cons_succ]
      refine wpAnyH_ready (rs := [10]) (by kernel_rfl) (by simp) ?_
      refine AllReadyH.cons rfl (fun K hK => ?_) AllReadyH.nil
      go_simp
      refine (y3 _ T2.out.bel).mono ?_; rintro e z3 ⟨rfl, q3⟩; have T3 : Hid (Bo3 w z3 b0 b1 b2) := T2.out.on q3; clear q3 y3
      go_wp2_with fail
      refine hK.out _ _ (T3.out.fields) (fun hHeld => ?_)
      clear hK K
      try simp only [Act.put, List.setIfInBounds_toArray, List.set_cons_zero, List.set_cons_succ, List.getElem_toArray, List.getElem_cons_zero, List.getElem_cons_succ]
      refine wpAnyH_take (i := 11) (v := ?_) rfl (by kernel_rfl) (by kernel_rfl) (by kernel_rfl) (fun _ _ _ h => h) (Or.inl ⟨by rfl, ?hy⟩) (by assumption) ?_
      case hy => intro w hSw; (try dsimp only at hSw); go_simp; try with_reducible rfl
      try simp only [Act.put, List.setIfInBounds_toArray, List.set_cons_zero, List.set_cons_succ, List.getElem_toArray, List.getElem_cons_zero, List.getElem_cons_succ]
      refine wpAnyH_take (i := 12) (v := ?_) rfl (by kernel_rfl) (by kernel_rfl) (by kernel_rfl) (fun _ _ _ h => h) (Or.inl ⟨by rfl, ?hy⟩) (by assumption) ?_
      case hy => intro w hSw; (try dsimp only at hSw); go_simp; try with_reducible rfl
      try simp only [Act.put, List.setIfInBounds_toArray, List.set_cons_zero, List.set_cons_succ, List.getElem_toArray, List.getElem_cons_zero, List.getElem_cons_succ]
      refine wpAnyH_take (i := 13) (v := ?_) rfl (by kernel_rfl) (by kernel_rfl) (by kernel_rfl) (fun _ _ _ h => h) (Or.inl ⟨by rfl, ?hy⟩) (by assumption) ?_
      case hy => intro w hSw; (try dsimp only at hSw); go_simp; try with_reducible rfl
      try simp only [Act.put, List.setIfInBounds_toArray, List.set_cons_zero, List.set_cons_succ, List.getElem_toArray, List.getElem_cons_zero, List.getElem_cons_succ]
      refine wpAnyH_take (i := 14) (v := ?_) rfl (by kernel_rfl) (by kernel_rfl) (by kernel_rfl) (fun _ _ _ h => h) (Or.inl ⟨by rfl, ?hy⟩) (by assumption) ?_
      case hy => intro w hSw; (try dsimp only at hSw); go_simp; try with_reducible rfl
      try simp only [Act.put, List.setIfInBounds_toArray, List.set_cons_zero, List.set_cons_succ, List.getElem_toArray, List.getElem_cons_zero, List.getElem_cons_succ]
      refine wpAnyH_ready (rs := [15]) (by kernel_rfl) (by simp) ?_
      refine AllReadyH.cons rfl (fun K hK => ?_) AllReadyH.nil
      go_simp
      refine (y4 _ T3.out.bel).mono ?_; rintro e z4 ⟨rfl, q4⟩; have T4 : Hid (Bo3 w z4 b0 b1 b2) := T3.out.on q4; clear q4 y4
      go_wp2_with fail
      refine hK.out _ _ (T4.out.fields) (fun hHeld => ?_)
      clear hK K
      try simp only [Act.put, List.setIfInBounds_toArray, List.set_cons_zero, List.set_cons_succ, List.getElem_toArray, List.getElem_cons_zero, List.getElem_cons_succ]
      refine wpAnyH_take (i := 16) (v := ?_) rfl (by kernel_rfl) (by kernel_rfl) (by kernel_rfl) (fun _ _ _ h => h) (Or.inl ⟨by rfl, ?hy⟩) (by assumption) ?_
      case hy => intro w hSw; (try dsimp only at hSw); go_simp; try with_reducible rfl
      try simp only [Act.put, List.setIfInBounds_toArray, List.set_cons_zero, List.set_cons_succ, List.getElem_toArray, List.getElem_cons_zero, List.getElem_cons_succ]
      refine wpAnyH_take (i := 17) (v := ?_) rfl (by kernel_rfl) (by kernel_rfl) (by kernel_rfl) (fun _ _ _ h => h) (Or.inl ⟨by rfl, ?hy⟩) (by assumption) ?_
      case hy => intro w hSw; (try dsimp only at hSw); go_simp; try with_reducible rfl
      try simp only [Act.put, List.setIfInBounds_toArray, List.set_cons_zero, List.set_cons_succ, List.getElem_toArray, List.getElem_cons_zero, List.getElem_cons_succ]
      refine wpAnyH_take (i := 18) (v := ?_) rfl (by kernel_rfl) (by kernel_rfl) (by kernel_rfl) (fun _ _ _ h => h) (Or.inl ⟨by rfl, ?hy⟩) (by assumption) ?_
      case hy => intro w hSw; (try dsimp only at hSw); go_simp; try with_reducible rfl
      try simp only [Act.put, List.setIfInBounds_toArray, List.set_cons_zero, List.set_cons_succ, List.getElem_toArray, List.getElem_cons_zero, List.getElem_cons_succ]
      refine wpAnyH_take (i := 19) (v := undef) rfl (by kernel_rfl) (by kernel_rfl) (by kernel_rfl) (fun _ _ _ h => h) (Or.inr ⟨by rfl, rfl⟩) (by assumption) ?_
      try simp only [Act.put, List.setIfInBounds_toArray, List.set_cons_zero, List.set_cons_succ, List.getElem_toArray, List.getElem_cons_zero, List.getElem_cons_succ]
      refine wpAnyH_take (i := 20) (v := undef) rfl (by kernel_rfl) (by kernel_rfl) (by kernel_rfl) (fun _ _ _ h => h) (Or.inr ⟨by rfl, rfl⟩) (by assumption) ?_
      try simp only [Act.put, List.setIfInBounds_toArray, List.set_cons_zero, List.set_cons_succ, List.getElem_toArray, List.getElem_cons_zero, List.getElem_cons_succ]
      refine wpAnyH_take (i := 21) (v := undef) rfl (by kernel_rfl) (by kernel_rfl) (by kernel_rfl) (fun _ _ _ h => h) (Or.inr ⟨by rfl, rfl⟩) (by assumption) ?_
      try simp only [Act.put, List.setIfInBounds_toArray, List.set_cons_zero, List.set_cons_succ, List.getElem_toArray, List.getElem_cons_zero, List.getElem_cons_succ]
      refine wpAnyH_take (i := 22) (v := ?_) rfl (by kernel_rfl) (by kernel_rfl) (by kernel_rfl) (fun _ _ _ h => h) (Or.inl ⟨by rfl, ?hy⟩) (by assumption) ?_
      case hy => intro w hSw; (try dsimp only at hSw); go_simp; try with_reducible rfl
      try simp only [Act.put, List.setIfInBounds_toArray, List.set_cons_zero, List.set_cons_succ, List.getElem_toArray, List.getElem_cons_zero, List.getElem_cons_succ]
      refine wpAnyH_take (i := 23) (v := ?_) rfl (by kernel_rfl) (by kernel_rfl) (by kernel_rfl) (fun _ _ _ h => h) (Or.inl ⟨by rfl, ?hy⟩) (by assumption) ?_
      case hy => intro w hSw; (try dsimp only at hSw); go_simp; try with_reducible rfl
      try simp only [Act.put, List.setIfInBounds_toArray, List.set_cons_zero, List.set_cons_succ, List.getElem_toArray, List.getElem_cons_zero, List.getElem_cons_succ]
      refine wpAnyH_take (i := 24) (v := ?_) rfl (by kernel_rfl) (by kernel_rfl) (by kernel_rfl) (fun _ _ _ h => h) (Or.inl ⟨by rfl, ?hy⟩) (by assumption) ?_
      case hy => intro w hSw; (try dsimp only at hSw); go_simp; try with_reducible rfl
      try simp only [Act.put, List.setIfInBounds_toArray, List.set_cons_zero, List.set_cons_succ, List.getElem_toArray, List.getElem_cons_zero, List.getElem_cons_succ]
      refine wpAnyH_ready (rs := [25]) (by kernel_rfl) (by simp) ?_
      refine AllReadyH.cons rfl (fun K hK => ?_) AllReadyH.nil
      go_simp
      refine (y5 _ T4.out.bel).mono ?_; rintro e z5 ⟨rfl, q5⟩; have T5 : Hid (Bo3 w z5 b0 b1 b2) := T4.out.on q5; clear q5 y5
      go_wp2_with fail
      refine hK.out _ _ (T5.out.fields) (fun hHeld => ?_)
      clear hK K
      try simp only [Act.put, List.setIfInBounds_toArray, List.set_cons_zero, List.set_cons_succ, List.getElem_toArray, List.getElem_cons_zero, List.getElem_cons_succ]
      refine wpAnyH_take (i := 26) (v := ?_) rfl (by kernel_rfl) (by kernel_rfl) (by kernel_rfl) (fun _ _ _ h => h) (Or.inl ⟨by rfl, ?hy⟩) (by assumption) ?_
      case hy => intro w hSw; (try dsimp only at hSw); go_simp; try with_reducible rfl
      try simp only [Act.put, List.setIfInBounds_toArray, List.set_cons_zero, List.set_cons_succ, List.getElem_toArray, List.getElem_cons_zero, List.getElem_cons_succ]
      refine wpAnyH_take (i := 27) (v := ?_) rfl (by kernel_rfl) (by kernel_rfl) (by kernel_rfl) (fun _ _ _ h => h) (Or.inl ⟨by rfl, ?hy⟩) (by assumption) ?_
      case hy => intro w hSw; (try dsimp only at hSw); go_simp; try with_reducible rfl
      try simp only [Act.put, List.setIfInBounds_toArray, List.set_cons_zero, List.set_cons_succ, List.getElem_toArray, List.getElem_cons_zero, List.getElem_cons_succ]
      refine wpAnyH_done (by kernel_rfl) ?_ _
      go_wp2
      go_ret
      exact ⟨rfl, T5.out.bel⟩
  · have x01 := k01 false (by simp only [Bool.false_eq_true, false_iff]; exact hv)
    have x10 := k10 false (by simp only [Bool.false_eq_true, false_iff]; exact fun h => hv ⟨h.2.1, h.1, h.2.2.symm⟩)
    clear k01 k10 k12 k02 hv
    have y1 := x01
    have y2 := x10
    have y3 := x01
    have y4 := kA
    clear kA x01 x10
    go_enter Try.func8, Try.ntmps8
    go_wp2
    refine wp_region_held_drew (S := (fun wx => (wx.cell? ⟨w.heap.size, 0, none⟩ = some (.int .i64 b0.kind) ∧ wx.cell? ⟨w.heap.size, 1, none⟩ = some (.int .u64 b0.num) ∧ wx.cell? ⟨w.heap.size, 2, none⟩ = some (.bool b0.neg) ∧ wx.cell? ⟨w.heap.size, 3, none⟩ = some (.string b0.dig) ∧ wx.cell? ⟨w.heap.size, 4, none⟩ = some (.int .i64 b0.exp) ∧ wx.cell? ⟨w.heap.size, 5, none⟩ = some (.string b0.txt) ∧ wx.cell? ⟨w.heap.size, 6, none⟩ = some (.slice b0.ab b0.lb b0.cb) ∧ wx.cell? ⟨w.heap.size, 7, none⟩ = some (.slice b0.ak b0.lk b0.ck) ∧ wx.cell? ⟨w.heap.size, 8, none⟩ = some (.slice b0.ai b0.li b0.ci)) ∧ (wx.cell? ⟨w.heap.size + 1, 0, none⟩ = some (.int .i64 b1.kind) ∧ wx.cell? ⟨w.heap.size + 1, 1, none⟩ = some (.int .u64 b1.num) ∧ wx.cell? ⟨w.heap.size + 1, 2, none⟩ = some (.bool b1.neg) ∧ wx.cell? ⟨w.heap.size + 1, 3, none⟩ = some (.string b1.dig) ∧ wx.cell? ⟨w.heap.size + 1, 4, none⟩ = some (.int .i64 b1.exp) ∧ wx.cell? ⟨w.heap.size + 1, 5, none⟩ = some (.string b1.txt) ∧ wx.cell? ⟨w.heap.size + 1, 6, none⟩ = some (.slice b1.ab b1.lb b1.cb) ∧ wx.cell? ⟨w.heap.size + 1, 7, none⟩ = some (.slice b1.ak b1.lk b1.ck) ∧ wx.cell? ⟨w.heap.size + 1, 8, none⟩ = some (.slice b1.ai b1.li b1.ci)) ∧ (wx.cell? ⟨w.heap.size + 1 + 1, 0, none⟩ = some (.int .i64 b2.kind) ∧ wx.cell? ⟨w.heap.size + 1 + 1, 1, none⟩ = some (.int .u64 b2.num) ∧ wx.cell? ⟨w.heap.size + 1 + 1, 2, none⟩ = some (.bool b2.neg) ∧ wx.cell? ⟨w.heap.size + 1 + 1, 3, none⟩ = some (.string b2.dig) ∧ wx.cell? ⟨w.heap.size + 1 + 1, 4, none⟩ = some (.int .i64 b2.exp) ∧ wx.cell? ⟨w.heap.size + 1 + 1, 5, none⟩ = some (.string b2.txt) ∧ wx.cell? ⟨w.heap.size + 1 + 1, 6, none⟩ = some (.slice b2.ab b2.lb b2.cb) ∧ wx.cell? ⟨w.heap.size + 1 + 1, 7, none⟩ = some (.slice b2.ak b2.lk b2.ck) ∧ wx.cell? ⟨w.heap.size + 1 + 1, 8, none⟩ = some (.slice b2.ai b2.li b2.ci)))) (by kernel_rfl) (T0.out.drew.fields) (fun hHeld => ?_)
    refine wpAnyH_take (i := 0) (v := ?_) rfl (by kernel_rfl) (by kernel_rfl) (by kernel_rfl) (fun _ _ _ h => h) (Or.inl ⟨by rfl, ?hy⟩) (by assumption) ?_
    case hy => intro w hSw; (try dsimp only at hSw); go_simp; try with_reducible rfl
    try simp only [Act.put, List.setIfInBounds_toArray, List.set_cons_zero, List.set_cons_succ, List.getElem_toArray, List.getElem_cons_zero]
    refine wpAnyH_take (i := 1) (v := ?_) rfl (by kernel_rfl) (by kernel_rfl) (by kernel_rfl) (fun _ _ _ h => h) (Or.inl ⟨by rfl, ?hy⟩) (by assumption) ?_
    case hy => intro w hSw; (try dsimp only at hSw); go_simp; try with_reducible rfl
    try simp only [Act.put, List.setIfInBounds_toArray, List.set_cons_zero, List.set_cons_succ, List.getElem_toArray, List.getElem_cons_zero, List.getElem_cons_succ]
    refine wpAnyH_take (i := 3) (v := ?_) rfl (by kernel_rfl) (by kernel_rfl) (by kernel_rfl) (fun _ _ _ h => h) (Or.inl ⟨by rfl, ?hy⟩) (by assumption) ?_
    case hy => intro w hSw; (try dsimp only at hSw); go_simp; try with_reducible rfl
    try simp only [Act.put, List.setIfInBounds_toArray, List.set_cons_zero, List.set_cons_succ, List.getElem_toArray, List.getElem_cons_zero, List.getElem_cons_succ]
    refine wpAnyH_take (i := 4) (v := ?_) rfl (by kernel_rfl) (by kernel_rfl) (by kernel_rfl) (fun _ _ _ h => h) (Or.inl ⟨by rfl, ?hy⟩) (by assumption) ?_
    case hy => intro w hSw; (try dsimp only at hSw); go_simp; try with_reducible rfl
    try simp only [Act.put, List.setIfInBounds_toArray, List.set_cons_zero, List.set_cons_succ, List.getElem_toArray, List.getElem_cons_zero, List.getElem_cons_succ]
    refine wpAnyH_ready (rs := [2]) (by kernel_rfl) (by simp) ?_
    refine AllReadyH.cons rfl (fun K hK => ?_) AllReadyH.nil
    go_simp
    refine (y1 _ T0.out.drew.bel).mono ?_; rintro e z1 ⟨rfl, q1⟩; have T1 : Hid (Bo3 w z1 b0 b1 b2) := T0.out.drew.on q1; clear q1 y1
    go_wp2_with fail
    refine hK.out _ _ (T1.out.fields) (fun hHeld => ?_)
    clear hK K
    try simp only [Act.put, List.setIfInBounds_toArray, List.set_cons_zero, List.set_cons_succ, List.getElem_toArray, List.getElem_cons_zero, List.getElem_cons_succ]
    refine wpAnyH_ready (rs := [5]) (by kernel_rfl) (by simp) ?_
    refine AllReadyH.cons rfl (fun K hK => ?_) AllReadyH.nil
    go_simp
    refine (y2 _ T1.out.bel).mono ?_; rintro e z2 ⟨rfl, q2⟩; have T2 : Hid (Bo3 w z2 b0 b1 b2) := T1.out.on q2; clear q2 y2
    go_wp2_with fail
    refine hK.out _ _ (T2.out.fields) (fun hHeld => ?_)
    clear hK K
    try simp only [Act.put, List.setIfInBounds_toArray, List.set_cons_zero, List.set_cons_succ, List.getElem_toArray, List.getElem_cons_zero, List.getElem_cons_succ]
    refine wpAnyH_take (i := 6) (v := ?_) rfl (by kernel_rfl) (by kernel_rfl) (by kernel_rfl) (fun _ _ _ h => h) (Or.inl ⟨by rfl, ?hy⟩) (by assumption) ?_
    case hy => intro w hSw; (try dsimp only at hSw); go_simp; try with_reducible rfl
    try simp only [Act.put, List.setIfInBounds_toArray, List.set_cons_zero, List.set_cons_succ, List.getElem_toArray, List.getElem_cons_zero, List.getElem_cons_succ]
    refine wpAnyH_take (i := 7) (v := ?_) rfl (by kernel_rfl) (by kernel_rfl) (by kernel_rfl) (fun _ _ _ h => h) (Or.inl ⟨by rfl, ?hy⟩) (by assumption) ?_
    case hy => intro w hSw; (try dsimp only at hSw); go_simp; try with_reducible rfl
    try simp only [Act.put, List.setIfInBounds_toArray, List.set_cons_zero, List.set_cons_succ, List.getElem_toArray, List.getElem_cons_zero, List.getElem_cons_succ]
    refine wpAnyH_take (i := 8) (v := ?_) rfl (by kernel_rfl) (by kernel_rfl) (by kernel_rfl) (fun _ _ _ h => h) (Or.inl ⟨by rfl, ?hy⟩) (by assumption) ?_
    case hy => intro w hSw; (try dsimp only at hSw); go_simp; try with_reducible rfl
    try simp only [Act.put, List.setIfInBounds_toArray, List.set_cons_zero, List.set_cons_succ, List.getElem_toArray, List.getElem_cons_zero, List.getElem_cons_succ]
    refine wpAnyH_take (i := 9) (v := ?_) rfl (by kernel_rfl) (by kernel_rfl) (by kernel_rfl) (fun _ _ _ h => h) (Or.inl ⟨by rfl, ?hy⟩) (by assumption) ?_
    case hy => intro w hSw; (try dsimp only at hSw); go_simp; try with_reducible rfl
    try simp only [Act.put, List.setIfInBounds_toArray, List.set_cons_zero, List.set_cons_succ, List.getElem_toArray, List.getElem_cons_zero, List.getElem_cons_succ]
    refine wpAnyH_ready (rs := [10]) (by kernel_rfl) (by simp) ?_
    refine AllReadyH.cons rfl (fun K hK => ?_) AllReadyH.nil
    go_simp
    refine (y3 _ T2.out.bel).mono ?_; rintro e z3 ⟨rfl, q3⟩; have T3 : Hid (Bo3 w z3 b0 b1 b2) := T2.out.on q3; clear q3 y3
    go_wp2_with fail
    refine hK.out _ _ (T3.out.fields) (fun hHeld => ?_)
    clear hK K
    try simp only [Act.put, List.setIfInBounds_toArray, List.set_cons_zero, List.set_cons_succ, List.getElem_toArray, List.getElem_cons_zero, List.getElem_cons_succ]
    refine wpAnyH_take (i := 11) (v := ?_) rfl (by kernel_rfl) (by kernel_rfl) (by kernel_rfl) (fun _ _ _ h => h) (Or.inl ⟨by rfl, ?hy⟩) (by assumption) ?_
    case hy => intro w hSw; (try dsimp only at hSw); go_simp; try with_reducible rfl
    try simp only [Act.put, List.setIfInBounds_toArray, List.set_cons_zero, List.set_cons_succ, List.getElem_toArray, List.getElem_cons_zero, List.getElem_cons_succ]
    refine wpAnyH_take (i := 12) (v := ?_) rfl (by kernel_rfl) (by kernel_rfl) (by kernel_rfl) (fun _ _ _ h => h) (Or.inl ⟨by rfl, ?hy⟩) (by assumption) ?_
    case hy => intro w hSw; (try dsimp only at hSw); go_simp; try with_reducible rfl
    try simp only [Act.put, List.setIfInBounds_toArray, List.set_cons_zero, List.set_cons_succ, List.getElem_toArray, List.getElem_cons_zero, List.getElem_cons_succ]
    refine wpAnyH_take (i := 13) (v := undef) rfl (by kernel_rfl) (by kernel_rfl) (by kernel_rfl) (fun _ _ _ h => h) (Or.inr ⟨by rfl, rfl⟩) (by assumption) ?_
    try simp only [Act.put, List.setIfInBounds_toArray, List.set_cons_zero, List.set_cons_succ, List.getElem_toArray, List.getElem_cons_zero, List.getElem_cons_succ]
    refine wpAnyH_take (i := 14) (v := undef) rfl (by kernel_rfl) (by kernel_rfl) (by kernel_rfl) (fun _ _ _ h => h) (Or.inr ⟨by rfl, rfl⟩) (by assumption) ?_
    try simp only [Act.put, List.setIfInBounds_toArray, List.set_cons_zero, List.set_cons_succ, List.getElem_toArray, List.getElem_cons_zero, List.getElem_cons_succ]
    refine wpAnyH_take (i := 15) (v := undef) rfl (by kernel_rfl) (by kernel_rfl) (by kernel_rfl) (fun _ _ _ h => h) (Or.inr ⟨by rfl, rfl⟩) (by assumption) ?_
    try simp only [Act.put, List.setIfInBounds_toArray, List.set_cons_zero, List.set_cons_succ, List.getElem_toArray, List.getElem_cons_zero, List.getElem_cons_succ]
    refine wpAnyH_take (i := 16) (v := undef) rfl (by kernel_rfl) (by kernel_rfl) (by kernel_rfl) (fun _ _ _ h => h) (Or.inr ⟨by rfl, rfl⟩) (by assumption) ?_
    try simp only [Act.put, List.setIfInBounds_toArray, List.set_cons_zero, List.set_cons_succ, List.getElem_toArray, List.getElem_cons_zero, List.getElem_cons_succ]
    refine wpAnyH_take (i := 17) (v := ?_) rfl (by kernel_rfl) (by kernel_rfl) (by kernel_rfl) (fun _ _ _ h => h) (Or.inl ⟨by rfl, ?hy⟩) (by assumption) ?_
    case hy => intro w hSw; (try dsimp only at hSw); go_simp; try with_reducible rfl
    try simp only [Act.put, List.setIfInBounds_toArray, List.set_cons_zero, List.set_cons_succ, List.getElem_toArray, List.getElem_cons_zero, List.getElem_cons_succ]
    refine wpAnyH_take (i := 18) (v := ?_) rfl (by kernel_rfl) (by kernel_rfl) (by kernel_rfl) (fun _ _ _ h => h) (Or.inl ⟨by rfl, ?hy⟩) (by assumption) ?_
    case hy => intro w hSw; (try dsimp only at hSw); go_simp; try with_reducible rfl
    try simp only [Act.put, List.setIfInBounds_toArray, List.set_cons_zero, List.set_cons_succ, List.getElem_toArray, List.getElem_cons_zero, List.getElem_cons_succ]
    refine wpAnyH_take (i := 19) (v := undef) rfl (by kernel_rfl) (by kernel_rfl) (by kernel_rfl) (fun _ _ _ h => h) (Or.inr ⟨by rfl, rfl⟩) (by assumption) ?_
    try simp only [Act.put, List.setIfInBounds_toArray, List.set_cons_zero, List.set_cons_succ, List.getElem_toArray, List.getElem_cons_zero, List.getElem_cons_succ]
    refine wpAnyH_take (i := 20) (v := undef) rfl (by kernel_rfl) (by kernel_rfl) (by kernel_rfl) (fun _ _ _ h => h) (Or.inr ⟨by rfl, rfl⟩) (by assumption) ?_
    try simp only [Act.put, List.setIfInBounds_toArray, List.set_cons_zero, List.set_cons_succ, List.getElem_toArray, List.getElem_cons_zero, List.getElem_cons_succ]
    refine wpAnyH_take (i := 21) (v := undef) rfl (by kernel_rfl) (by kernel_rfl) (by kernel_rfl) (fun _ _ _ h => h) (Or.inr ⟨by rfl, rfl⟩) (by assumption) ?_
    try simp only [Act.put, List.setIfInBounds_toArray, List.set_cons_zero, List.set_cons_succ, List.getElem_toArray, List.getElem_cons_zero, List.getElem_cons_succ]
    refine wpAnyH_take (i := 22) (v := ?_) rfl (by kernel_rfl) (by kernel_rfl) (by kernel_rfl) (fun _ _ _ h => h) (Or.inl ⟨by rfl, ?hy⟩) (by assumption) ?_
    case hy => intro w hSw; (try dsimp only at hSw); go_simp; try with_reducible rfl
    try simp only [Act.put, List.setIfInBounds_toArray, List.set_cons_zero, List.set_cons_succ, List.getElem_toArray, List.getElem_cons_zero, List.getElem_cons_succ]
    refine wpAnyH_take (i := 23) (v := ?_) rfl (by kernel_rfl) (by kernel_rfl) (by kernel_rfl) (fun _ _ _ h => h) (Or.inl ⟨by rfl, ?hy⟩) (by assumption) ?_
    case hy => intro w hSw; (try dsimp only at hSw); go_simp; try with_reducible rfl
    try simp only [Act.put, List.setIfInBounds_toArray, List.set_cons_zero, List.set_cons_succ, List.getElem_toArray, List.getElem_cons_zero, List.getElem_cons_succ]
    refine wpAnyH_take (i := 24) (v := ?_) rfl (by kernel_rfl) (by kernel_rfl) (by kernel_rfl) (fun _ _ _ h => h) (Or.inl ⟨by rfl, ?hy⟩) (by assumption) ?_
    case hy => intro w hSw; (try dsimp only at hSw); go_simp; try with_reducible rfl
    try simp only [Act.put, List.setIfInBounds_toArray, List.set_cons_zero, List.set_cons_succ, List.getElem_toArray, List.getElem_cons_zero, List.getElem_cons_succ]
    refine wpAnyH_ready (rs := [25]) (by kernel_rfl) (by simp) ?_
    refine AllReadyH.cons rfl (fun K hK => ?_) AllReadyH.nil
    go_simp
    refine (y4 _ T3.out.bel).mono ?_; rintro e z4 ⟨rfl, q4⟩; have T4 : Hid (Bo3 w z4 b0 b1 b2) := T3.out.on q4; clear q4 y4
    go_wp2_with fail
    refine hK.out _ _ (T4.out.fields) (fun hHeld => ?_)
    clear hK K
    try simp only [Act.put, List.setIfInBounds_toArray, List.set_cons_zero, List.set_cons_succ, List.getElem_toArray, List.getElem_cons_zero, List.getElem_cons_succ]
    refine wpAnyH_take (i := 26) (v := ?_) rfl (by kernel_rfl) (by kernel_rfl) (by kernel_rfl) (fun _ _ _ h => h) (Or.inl ⟨by rfl, ?hy⟩) (by assumption) ?_
    case hy => intro w hSw; (try dsimp only at hSw); go_simp; try with_reducible rfl
    try simp only [Act.put, List.setIfInBounds_toArray, List.set_cons_zero, List.set_cons_succ, List.getElem_toArray, List.getElem_cons_zero, List.getElem_cons_succ]
    refine wpAnyH_take (i := 27) (v := ?_) rfl (by kernel_rfl) (by kernel_rfl) (by kernel_rfl) (fun _ _ _ h => h) (Or.inl ⟨by rfl, ?hy⟩) (by assumption) ?_
    case hy => intro w hSw; (try dsimp only at hSw); go_simp; try with_reducible rfl
    try simp only [Act.put, List.setIfInBounds_toArray, List.set_cons_zero, List.set_cons_succ, List.getElem_toArray, List.getElem_cons_zero, List.getElem_cons_succ]
    refine wpAnyH_done (by kernel_rfl) ?_ _
    go_wp2
    go_ret
    exact ⟨rfl, T4.out.bel⟩
end Go.Proofs.Ytkealjaealeojaa
