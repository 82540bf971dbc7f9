/-
  When the document says that trees are the same: they differ in a field.
-/
import Derived.Test.YtmlacmoembjeoaaGreatDoorG27
namespace Go.Proofs.YtmlacmoembjeoaaGreatDoor
open Go.RowKit
set_option linter.unusedVariables false

set_option maxHeartbeats 2000000 in
set_option maxRecDepth 100000 in
theorem es_no0 {D : Nat} (t u : Tr) (a b : Nb) (w : World) (v : Bool) (hA : Nd (D + 1) w a t) (hB : Nd (D + 1) w b u) (hv : v = true ↔ t = u) (h0 : ¬ a.kind = b.kind) : Calls Tryz.prog 21 #[.agg a.arr, .agg b.arr] w fun e w' => e = .returned (.bool v) ∧ Below w.heap.size w w' := by
  have T0 : Hid (Bo2 w ((w.alloc (.cells a.arr 26)).alloc (.cells b.arr 26)) a b) := bo2_new w a b
  obtain ⟨a0, a1, a2, a3, a4, a5, a6, a7, a8⟩ := T0.out.one.fields
  obtain ⟨b0, b1, b2, b3, b4, b5, b6, b7, b8⟩ := T0.out.two.fields
  obtain ⟨⟨x0, x1, x2, x3, x4, x5⟩, _, ⟨xl, xr, xb⟩, xk, xi⟩ := hA
  obtain ⟨⟨y0, y1, y2, y3, y4, y5⟩, _, ⟨yl, yr, yb⟩, yk, yi⟩ := hB
  have cx := conv_str (xb.kept ((alloc_below w (.cells a.arr 26)).trans ((alloc_below (w.alloc (.cells a.arr 26)) (.cells b.arr 26)).mono (Nat.le_of_lt (alloc_lt _ _))))) a.lb a.cb xl
  have cy := conv_str (yb.kept ((alloc_below w (.cells a.arr 26)).trans ((alloc_below (w.alloc (.cells a.arr 26)) (.cells b.arr 26)).mono (Nat.le_of_lt (alloc_lt _ _))))) b.lb b.cb yl
  have hst := str_eq xb.1 yb.1
  have hEq : Hid (t = u ↔ a.kind = b.kind ∧ a.num = b.num ∧ a.neg = b.neg ∧ a.dig = b.dig ∧ a.exp = b.exp ∧ a.txt = b.txt ∧ t.bytes = u.bytes ∧ t.keys = u.keys ∧ t.kids = u.kids) := by
    show _ ↔ _
    rw [x0, x1, x2, x3, x4, x5, y0, y1, y2, y3, y4, y5]
    exact ⟨fun h => by subst h; exact ⟨rfl, rfl, rfl, rfl, rfl, rfl, rfl, rfl, rfl⟩, fun ⟨h0, h1, h2, h3, h4, h5, h6, h7, h8⟩ => Tr.mk_eq h0 h1 h2 h3 h4 h5 h6 h7 h8⟩
  have hV : Hid (v = true ↔ t = u) := hv
  have hAk : Hid (RowN (Nd D w) w a.ak a.lk a.ck t.keys) := xk
  have hAi : Hid (RowN (Nd D w) w a.ai a.li a.ci t.kids) := xi
  have hBk : Hid (RowN (Nd D w) w b.ak b.lk b.ck u.keys) := yk
  have hBi : Hid (RowN (Nd D w) w b.ai b.li b.ci u.kids) := yi
  have hxk : Hid (t.keys.length = a.lk) := xk.1
  have hxi : Hid (t.kids.length = a.li) := xi.1
  have hyk : Hid (u.keys.length = b.lk) := yk.1
  have hyi : Hid (u.kids.length = b.li) := yi.1
  have m1 := xk.2.1.1
  have m2 := xk.2.1.2.1
  have m3 := xi.2.1.1
  have m4 := xi.2.1.2.1
  have m5 := yk.2.1.1
  have m6 := yk.2.1.2.1
  have m7 := yi.2.1.1
  have m8 := yi.2.1.2.1
  unfold maxLen at m2 m4 m6 m8
  generalize strOfNums t.bytes = SX at *
  generalize strOfNums u.bytes = SY at *
  clear x0 x1 x2 x3 x4 x5 y0 y1 y2 y3 y4 y5 xl yl xb yb xr yr xk xi yk yi hv
  have hvf : v = false := not_true hV.out (fun h => h0 (hEq.out.1 h).1)
  subst hvf
  have q0 : (a.kind == b.kind) = false := by simp [h0]
  have r0 : (a.kind != b.kind) = true := by simp [h0]
  clear h0 hAk hAi hBk hBi hxk hxi hyk hyi hEq hV
  clear cx cy hst
  go_enter Tryz.func21, Tryz.ntmps21
  go_wp2
  go_ret
  exact ⟨rfl, T0.out.bel⟩

set_option maxHeartbeats 2000000 in
set_option maxRecDepth 100000 in
theorem es_no1 {D : Nat} (t u : Tr) (a b : Nb) (w : World) (v : Bool) (hA : Nd (D + 1) w a t) (hB : Nd (D + 1) w b u) (hv : v = true ↔ t = u) (h0 : a.kind = b.kind) (h1 : ¬ a.num = b.num) : Calls Tryz.prog 21 #[.agg a.arr, .agg b.arr] w fun e w' => e = .returned (.bool v) ∧ Below w.heap.size w w' := by
  have T0 : Hid (Bo2 w ((w.alloc (.cells a.arr 26)).alloc (.cells b.arr 26)) a b) := bo2_new w a b
  obtain ⟨a0, a1, a2, a3, a4, a5, a6, a7, a8⟩ := T0.out.one.fields
  obtain ⟨b0, b1, b2, b3, b4, b5, b6, b7, b8⟩ := T0.out.two.fields
  obtain ⟨⟨x0, x1, x2, x3, x4, x5⟩, _, ⟨xl, xr, xb⟩, xk, xi⟩ := hA
  obtain ⟨⟨y0, y1, y2, y3, y4, y5⟩, _, ⟨yl, yr, yb⟩, yk, yi⟩ := hB
  have cx := conv_str (xb.kept ((alloc_below w (.cells a.arr 26)).trans ((alloc_below (w.alloc (.cells a.arr 26)) (.cells b.arr 26)).mono (Nat.le_of_lt (alloc_lt _ _))))) a.lb a.cb xl
  have cy := conv_str (yb.kept ((alloc_below w (.cells a.arr 26)).trans ((alloc_below (w.alloc (.cells a.arr 26)) (.cells b.arr 26)).mono (Nat.le_of_lt (alloc_lt _ _))))) b.lb b.cb yl
  have hst := str_eq xb.1 yb.1
  have hEq : Hid (t = u ↔ a.kind = b.kind ∧ a.num = b.num ∧ a.neg = b.neg ∧ a.dig = b.dig ∧ a.exp = b.exp ∧ a.txt = b.txt ∧ t.bytes = u.bytes ∧ t.keys = u.keys ∧ t.kids = u.kids) := by
    show _ ↔ _
    rw [x0, x1, x2, x3, x4, x5, y0, y1, y2, y3, y4, y5]
    exact ⟨fun h => by subst h; exact ⟨rfl, rfl, rfl, rfl, rfl, rfl, rfl, rfl, rfl⟩, fun ⟨h0, h1, h2, h3, h4, h5, h6, h7, h8⟩ => Tr.mk_eq h0 h1 h2 h3 h4 h5 h6 h7 h8⟩
  have hV : Hid (v = true ↔ t = u) := hv
  have hAk : Hid (RowN (Nd D w) w a.ak a.lk a.ck t.keys) := xk
  have hAi : Hid (RowN (Nd D w) w a.ai a.li a.ci t.kids) := xi
  have hBk : Hid (RowN (Nd D w) w b.ak b.lk b.ck u.keys) := yk
  have hBi : Hid (RowN (Nd D w) w b.ai b.li b.ci u.kids) := yi
  have hxk : Hid (t.keys.length = a.lk) := xk.1
  have hxi : Hid (t.kids.length = a.li) := xi.1
  have hyk : Hid (u.keys.length = b.lk) := yk.1
  have hyi : Hid (u.kids.length = b.li) := yi.1
  have m1 := xk.2.1.1
  have m2 := xk.2.1.2.1
  have m3 := xi.2.1.1
  have m4 := xi.2.1.2.1
  have m5 := yk.2.1.1
  have m6 := yk.2.1.2.1
  have m7 := yi.2.1.1
  have m8 := yi.2.1.2.1
  unfold maxLen at m2 m4 m6 m8
  generalize strOfNums t.bytes = SX at *
  generalize strOfNums u.bytes = SY at *
  clear x0 x1 x2 x3 x4 x5 y0 y1 y2 y3 y4 y5 xl yl xb yb xr yr xk xi yk yi hv
  have hvf : v = false := not_true hV.out (fun h => h1 (hEq.out.1 h).2.1)
  subst hvf
  have q0 : (a.kind == b.kind) = true := by rw [h0]; exact beq_self_eq_true _
  have r0 : (a.kind != b.kind) = false := by simp [h0]
  have q1 : (a.num == b.num) = false := by simp [h1]
  have r1 : (a.num != b.num) = true := by simp [h1]
  clear h0 h1 hAk hAi hBk hBi hxk hxi hyk hyi hEq hV
  clear cx cy hst
  go_enter Tryz.func21, Tryz.ntmps21
  go_wp2
  go_ret
  exact ⟨rfl, T0.out.bel⟩

set_option maxHeartbeats 2000000 in
set_option maxRecDepth 100000 in
theorem es_no2 {D : Nat} (t u : Tr) (a b : Nb) (w : World) (v : Bool) (hA : Nd (D + 1) w a t) (hB : Nd (D + 1) w b u) (hv : v = true ↔ t = u) (h0 : a.kind = b.kind) (h1 : a.num = b.num) (h2 : ¬ a.neg = b.neg) : Calls Tryz.prog 21 #[.agg a.arr, .agg b.arr] w fun e w' => e = .returned (.bool v) ∧ Below w.heap.size w w' := by
  have T0 : Hid (Bo2 w ((w.alloc (.cells a.arr 26)).alloc (.cells b.arr 26)) a b) := bo2_new w a b
  obtain ⟨a0, a1, a2, a3, a4, a5, a6, a7, a8⟩ := T0.out.one.fields
  obtain ⟨b0, b1, b2, b3, b4, b5, b6, b7, b8⟩ := T0.out.two.fields
  obtain ⟨⟨x0, x1, x2, x3, x4, x5⟩, _, ⟨xl, xr, xb⟩, xk, xi⟩ := hA
  obtain ⟨⟨y0, y1, y2, y3, y4, y5⟩, _, ⟨yl, yr, yb⟩, yk, yi⟩ := hB
  have cx := conv_str (xb.kept ((alloc_below w (.cells a.arr 26)).trans ((alloc_below (w.alloc (.cells a.arr 26)) (.cells b.arr 26)).mono (Nat.le_of_lt (alloc_lt _ _))))) a.lb a.cb xl
  have cy := conv_str (yb.kept ((alloc_below w (.cells a.arr 26)).trans ((alloc_below (w.alloc (.cells a.arr 26)) (.cells b.arr 26)).mono (Nat.le_of_lt (alloc_lt _ _))))) b.lb b.cb yl
  have hst := str_eq xb.1 yb.1
  have hEq : Hid (t = u ↔ a.kind = b.kind ∧ a.num = b.num ∧ a.neg = b.neg ∧ a.dig = b.dig ∧ a.exp = b.exp ∧ a.txt = b.txt ∧ t.bytes = u.bytes ∧ t.keys = u.keys ∧ t.kids = u.kids) := by
    show _ ↔ _
    rw [x0, x1, x2, x3, x4, x5, y0, y1, y2, y3, y4, y5]
    exact ⟨fun h => by subst h; exact ⟨rfl, rfl, rfl, rfl, rfl, rfl, rfl, rfl, rfl⟩, fun ⟨h0, h1, h2, h3, h4, h5, h6, h7, h8⟩ => Tr.mk_eq h0 h1 h2 h3 h4 h5 h6 h7 h8⟩
  have hV : Hid (v = true ↔ t = u) := hv
  have hAk : Hid (RowN (Nd D w) w a.ak a.lk a.ck t.keys) := xk
  have hAi : Hid (RowN (Nd D w) w a.ai a.li a.ci t.kids) := xi
  have hBk : Hid (RowN (Nd D w) w b.ak b.lk b.ck u.keys) := yk
  have hBi : Hid (RowN (Nd D w) w b.ai b.li b.ci u.kids) := yi
  have hxk : Hid (t.keys.length = a.lk) := xk.1
  have hxi : Hid (t.kids.length = a.li) := xi.1
  have hyk : Hid (u.keys.length = b.lk) := yk.1
  have hyi : Hid (u.kids.length = b.li) := yi.1
  have m1 := xk.2.1.1
  have m2 := xk.2.1.2.1
  have m3 := xi.2.1.1
  have m4 := xi.2.1.2.1
  have m5 := yk.2.1.1
  have m6 := yk.2.1.2.1
  have m7 := yi.2.1.1
  have m8 := yi.2.1.2.1
  unfold maxLen at m2 m4 m6 m8
  generalize strOfNums t.bytes = SX at *
  generalize strOfNums u.bytes = SY at *
  clear x0 x1 x2 x3 x4 x5 y0 y1 y2 y3 y4 y5 xl yl xb yb xr yr xk xi yk yi hv
  have hvf : v = false := not_true hV.out (fun h => h2 (hEq.out.1 h).2.2.1)
  subst hvf
  have q0 : (a.kind == b.kind) = true := by rw [h0]; exact beq_self_eq_true _
  have r0 : (a.kind != b.kind) = false := by simp [h0]
  have q1 : (a.num == b.num) = true := by rw [h1]; exact beq_self_eq_true _
  have r1 : (a.num != b.num) = false := by simp [h1]
  have q2 : (a.neg == b.neg) = false := by simp [h2]
  have r2 : (a.neg != b.neg) = true := by simp [h2]
  clear h0 h1 h2 hAk hAi hBk hBi hxk hxi hyk hyi hEq hV
  clear cx cy hst
  go_enter Tryz.func21, Tryz.ntmps21
  go_wp2
  go_ret
  exact ⟨rfl, T0.out.bel⟩

set_option maxHeartbeats 2000000 in
set_option maxRecDepth 100000 in
theorem es_no3 {D : Nat} (t u : Tr) (a b : Nb) (w : World) (v : Bool) (hA : Nd (D + 1) w a t) (hB : Nd (D + 1) w b u) (hv : v = true ↔ t = u) (h0 : a.kind = b.kind) (h1 : a.num = b.num) (h2 : a.neg = b.neg) (h3 : ¬ a.dig = b.dig) : Calls Tryz.prog 21 #[.agg a.arr, .agg b.arr] w fun e w' => e = .returned (.bool v) ∧ Below w.heap.size w w' := by
  have T0 : Hid (Bo2 w ((w.alloc (.cells a.arr 26)).alloc (.cells b.arr 26)) a b) := bo2_new w a b
  obtain ⟨a0, a1, a2, a3, a4, a5, a6, a7, a8⟩ := T0.out.one.fields
  obtain ⟨b0, b1, b2, b3, b4, b5, b6, b7, b8⟩ := T0.out.two.fields
  obtain ⟨⟨x0, x1, x2, x3, x4, x5⟩, _, ⟨xl, xr, xb⟩, xk, xi⟩ := hA
  obtain ⟨⟨y0, y1, y2, y3, y4, y5⟩, _, ⟨yl, yr, yb⟩, yk, yi⟩ := hB
  have cx := conv_str (xb.kept ((alloc_below w (.cells a.arr 26)).trans ((alloc_below (w.alloc (.cells a.arr 26)) (.cells b.arr 26)).mono (Nat.le_of_lt (alloc_lt _ _))))) a.lb a.cb xl
  have cy := conv_str (yb.kept ((alloc_below w (.cells a.arr 26)).trans ((alloc_below (w.alloc (.cells a.arr 26)) (.cells b.arr 26)).mono (Nat.le_of_lt (alloc_lt _ _))))) b.lb b.cb yl
  have hst := str_eq xb.1 yb.1
  have hEq : Hid (t = u ↔ a.kind = b.kind ∧ a.num = b.num ∧ a.neg = b.neg ∧ a.dig = b.dig ∧ a.exp = b.exp ∧ a.txt = b.txt ∧ t.bytes = u.bytes ∧ t.keys = u.keys ∧ t.kids = u.kids) := by
    show _ ↔ _
    rw [x0, x1, x2, x3, x4, x5, y0, y1, y2, y3, y4, y5]
    exact ⟨fun h => by subst h; exact ⟨rfl, rfl, rfl, rfl, rfl, rfl, rfl, rfl, rfl⟩, fun ⟨h0, h1, h2, h3, h4, h5, h6, h7, h8⟩ => Tr.mk_eq h0 h1 h2 h3 h4 h5 h6 h7 h8⟩
  have hV : Hid (v = true ↔ t = u) := hv
  have hAk : Hid (RowN (Nd D w) w a.ak a.lk a.ck t.keys) := xk
  have hAi : Hid (RowN (Nd D w) w a.ai a.li a.ci t.kids) := xi
  have hBk : Hid (RowN (Nd D w) w b.ak b.lk b.ck u.keys) := yk
  have hBi : Hid (RowN (Nd D w) w b.ai b.li b.ci u.kids) := yi
  have hxk : Hid (t.keys.length = a.lk) := xk.1
  have hxi : Hid (t.kids.length = a.li) := xi.1
  have hyk : Hid (u.keys.length = b.lk) := yk.1
  have hyi : Hid (u.kids.length = b.li) := yi.1
  have m1 := xk.2.1.1
  have m2 := xk.2.1.2.1
  have m3 := xi.2.1.1
  have m4 := xi.2.1.2.1
  have m5 := yk.2.1.1
  have m6 := yk.2.1.2.1
  have m7 := yi.2.1.1
  have m8 := yi.2.1.2.1
  unfold maxLen at m2 m4 m6 m8
  generalize strOfNums t.bytes = SX at *
  generalize strOfNums u.bytes = SY at *
  clear x0 x1 x2 x3 x4 x5 y0 y1 y2 y3 y4 y5 xl yl xb yb xr yr xk xi yk yi hv
  have hvf : v = false := not_true hV.out (fun h => h3 (hEq.out.1 h).2.2.2.1)
  subst hvf
  have q0 : (a.kind == b.kind) = true := by rw [h0]; exact beq_self_eq_true _
  have r0 : (a.kind != b.kind) = false := by simp [h0]
  have q1 : (a.num == b.num) = true := by rw [h1]; exact beq_self_eq_true _
  have r1 : (a.num != b.num) = false := by simp [h1]
  have q2 : (a.neg == b.neg) = true := by rw [h2]; exact beq_self_eq_true _
  have r2 : (a.neg != b.neg) = false := by simp [h2]
  have q3 := beq_of (s := a.dig) (t := b.dig) false (by simp [h3])
  have r3 : (a.dig.toList != b.dig.toList) = true := by simp [bne, q3]
  clear h0 h1 h2 h3 hAk hAi hBk hBi hxk hxi hyk hyi hEq hV
  clear cx cy hst
  go_enter Tryz.func21, Tryz.ntmps21
  go_wp2
  go_ret
  exact ⟨rfl, T0.out.bel⟩

set_option maxHeartbeats 2000000 in
set_option maxRecDepth 100000 in
theorem es_no4 {D : Nat} (t u : Tr) (a b : Nb) (w : World) (v : Bool) (hA : Nd (D + 1) w a t) (hB : Nd (D + 1) w b u) (hv : v = true ↔ t = u) (h0 : a.kind = b.kind) (h1 : a.num = b.num) (h2 : a.neg = b.neg) (h3 : a.dig = b.dig) (h4 : ¬ a.exp = b.exp) : Calls Tryz.prog 21 #[.agg a.arr, .agg b.arr] w fun e w' => e = .returned (.bool v) ∧ Below w.heap.size w w' := by
  have T0 : Hid (Bo2 w ((w.alloc (.cells a.arr 26)).alloc (.cells b.arr 26)) a b) := bo2_new w a b
  obtain ⟨a0, a1, a2, a3, a4, a5, a6, a7, a8⟩ := T0.out.one.fields
  obtain ⟨b0, b1, b2, b3, b4, b5, b6, b7, b8⟩ := T0.out.two.fields
  obtain ⟨⟨x0, x1, x2, x3, x4, x5⟩, _, ⟨xl, xr, xb⟩, xk, xi⟩ := hA
  obtain ⟨⟨y0, y1, y2, y3, y4, y5⟩, _, ⟨yl, yr, yb⟩, yk, yi⟩ := hB
  have cx := conv_str (xb.kept ((alloc_below w (.cells a.arr 26)).trans ((alloc_below (w.alloc (.cells a.arr 26)) (.cells b.arr 26)).mono (Nat.le_of_lt (alloc_lt _ _))))) a.lb a.cb xl
  have cy := conv_str (yb.kept ((alloc_below w (.cells a.arr 26)).trans ((alloc_below (w.alloc (.cells a.arr 26)) (.cells b.arr 26)).mono (Nat.le_of_lt (alloc_lt _ _))))) b.lb b.cb yl
  have hst := str_eq xb.1 yb.1
  have hEq : Hid (t = u ↔ a.kind = b.kind ∧ a.num = b.num ∧ a.neg = b.neg ∧ a.dig = b.dig ∧ a.exp = b.exp ∧ a.txt = b.txt ∧ t.bytes = u.bytes ∧ t.keys = u.keys ∧ t.kids = u.kids) := by
    show _ ↔ _
    rw [x0, x1, x2, x3, x4, x5, y0, y1, y2, y3, y4, y5]
    exact ⟨fun h => by subst h; exact ⟨rfl, rfl, rfl, rfl, rfl, rfl, rfl, rfl, rfl⟩, fun ⟨h0, h1, h2, h3, h4, h5, h6, h7, h8⟩ => Tr.mk_eq h0 h1 h2 h3 h4 h5 h6 h7 h8⟩
  have hV : Hid (v = true ↔ t = u) := hv
  have hAk : Hid (RowN (Nd D w) w a.ak a.lk a.ck t.keys) := xk
  have hAi : Hid (RowN (Nd D w) w a.ai a.li a.ci t.kids) := xi
  have hBk : Hid (RowN (Nd D w) w b.ak b.lk b.ck u.keys) := yk
  have hBi : Hid (RowN (Nd D w) w b.ai b.li b.ci u.kids) := yi
  have hxk : Hid (t.keys.length = a.lk) := xk.1
  have hxi : Hid (t.kids.length = a.li) := xi.1
  have hyk : Hid (u.keys.length = b.lk) := yk.1
  have hyi : Hid (u.kids.length = b.li) := yi.1
  have m1 := xk.2.1.1
  have m2 := xk.2.1.2.1
  have m3 := xi.2.1.1
  have m4 := xi.2.1.2.1
  have m5 := yk.2.1.1
  have m6 := yk.2.1.2.1
  have m7 := yi.2.1.1
  have m8 := yi.2.1.2.1
  unfold maxLen at m2 m4 m6 m8
  generalize strOfNums t.bytes = SX at *
  generalize strOfNums u.bytes = SY at *
  clear x0 x1 x2 x3 x4 x5 y0 y1 y2 y3 y4 y5 xl yl xb yb xr yr xk xi yk yi hv
  have hvf : v = false := not_true hV.out (fun h => h4 (hEq.out.1 h).2.2.2.2.1)
  subst hvf
  have q0 : (a.kind == b.kind) = true := by rw [h0]; exact beq_self_eq_true _
  have r0 : (a.kind != b.kind) = false := by simp [h0]
  have q1 : (a.num == b.num) = true := by rw [h1]; exact beq_self_eq_true _
  have r1 : (a.num != b.num) = false := by simp [h1]
  have q2 : (a.neg == b.neg) = true := by rw [h2]; exact beq_self_eq_true _
  have r2 : (a.neg != b.neg) = false := by simp [h2]
  have q3 := beq_of (s := a.dig) (t := b.dig) true (by simp [h3])
  have r3 : (a.dig.toList != b.dig.toList) = false := by simp [bne, q3]
  have q4 : (a.exp == b.exp) = false := by simp [h4]
  have r4 : (a.exp != b.exp) = true := by simp [h4]
  clear h0 h1 h2 h3 h4 hAk hAi hBk hBi hxk hxi hyk hyi hEq hV
  clear cx cy hst
  go_enter Tryz.func21, Tryz.ntmps21
  go_wp2
  go_ret
  exact ⟨rfl, T0.out.bel⟩
end Go.Proofs.YtmlacmoembjeoaaGreatDoor
