/-
  When the document says that trees are the same: they differ in a field, or in how many nodes are in them.
  When the document says that trees are the same: their fields are the same.
  When the document says that trees are the same: put together.
  The document's Few, Size, Deep, Same, and both.
  CBOR as trees: behind an item anything may stand: the walk.
  CBOR as trees: items one behind the other are an Array of them: the walk.
  CBOR as trees: items one behind the other are an Array of them, where all is read: the walk.
  CBOR as trees: items one behind the other are an Array of them, where all is read: the walk to its end.
-/
import Derived.Test.YtnjbppfanmmifaaGreatDoorQ18
import Derived.Test.YtnjbppfanmmifaaGreatDoorQ2
namespace Go.Proofs.YtnjbppfanmmifaaGreatDoor
open Go.RowKit
set_option linter.unusedVariables false

set_option maxHeartbeats 2000000 in
set_option maxRecDepth 100000 in
theorem es_no5 {D : Nat} (t u : Tr) (a b : Nb) (w : World) (v : Bool) (hA : Nd (D + 1) w a t) (hB : Nd (D + 1) w b u) (hv : v = true ↔ t = u) (h0 : a.kind = b.kind) (h1 : a.num = b.num) (h2 : a.neg = b.neg) (h3 : a.dig = b.dig) (h4 : a.exp = b.exp) (h5 : ¬ a.txt = b.txt) : Calls Tryz.prog 33 #[.agg a.arr, .agg b.arr] w fun e w' => e = .returned (.bool v) ∧ Below w.heap.size w w' := by
  have T0 : Hid (Bo2 w ((w.alloc (.cells a.arr 26)).alloc (.cells b.arr 26)) a b) := bo2_new w a b
  obtain ⟨a0, a1, a2, a3, a4, a5, a6, a7, a8⟩ := T0.out.one.fields
  obtain ⟨b0, b1, b2, b3, b4, b5, b6, b7, b8⟩ := T0.out.two.fields
  obtain ⟨⟨x0, x1, x2, x3, x4, x5⟩, _, ⟨xl, xr, xb⟩, xk, xi⟩ := hA
  obtain ⟨⟨y0, y1, y2, y3, y4, y5⟩, _, ⟨yl, yr, yb⟩, yk, yi⟩ := hB
  have cx := conv_str (xb.kept ((alloc_below w (.cells a.arr 26)).trans ((alloc_below (w.alloc (.cells a.arr 26)) (.cells b.arr 26)).mono (Nat.le_of_lt (alloc_lt _ _))))) a.lb a.cb xl
  have cy := conv_str (yb.kept ((alloc_below w (.cells a.arr 26)).trans ((alloc_below (w.alloc (.cells a.arr 26)) (.cells b.arr 26)).mono (Nat.le_of_lt (alloc_lt _ _))))) b.lb b.cb yl
  have hst := str_eq xb.1 yb.1
  have hEq : Hid (t = u ↔ a.kind = b.kind ∧ a.num = b.num ∧ a.neg = b.neg ∧ a.dig = b.dig ∧ a.exp = b.exp ∧ a.txt = b.txt ∧ t.bytes = u.bytes ∧ t.keys = u.keys ∧ t.kids = u.kids) := by
    show _ ↔ _
    rw [x0, x1, x2, x3, x4, x5, y0, y1, y2, y3, y4, y5]
    exact ⟨fun h => by subst h; exact ⟨rfl, rfl, rfl, rfl, rfl, rfl, rfl, rfl, rfl⟩, fun ⟨h0, h1, h2, h3, h4, h5, h6, h7, h8⟩ => Tr.mk_eq h0 h1 h2 h3 h4 h5 h6 h7 h8⟩
  have hV : Hid (v = true ↔ t = u) := hv
  have hAk : Hid (RowN (Nd D w) w a.ak a.lk a.ck t.keys) := xk
  have hAi : Hid (RowN (Nd D w) w a.ai a.li a.ci t.kids) := xi
  have hBk : Hid (RowN (Nd D w) w b.ak b.lk b.ck u.keys) := yk
  have hBi : Hid (RowN (Nd D w) w b.ai b.li b.ci u.kids) := yi
  have hxk : Hid (t.keys.length = a.lk) := xk.1
  have hxi : Hid (t.kids.length = a.li) := xi.1
  have hyk : Hid (u.keys.length = b.lk) := yk.1
  have hyi : Hid (u.kids.length = b.li) := yi.1
  have m1 := xk.2.1.1
  have m2 := xk.2.1.2.1
  have m3 := xi.2.1.1
  have m4 := xi.2.1.2.1
  have m5 := yk.2.1.1
  have m6 := yk.2.1.2.1
  have m7 := yi.2.1.1
  have m8 := yi.2.1.2.1
  unfold maxLen at m2 m4 m6 m8
  generalize strOfNums t.bytes = SX at *
  generalize strOfNums u.bytes = SY at *
  clear x0 x1 x2 x3 x4 x5 y0 y1 y2 y3 y4 y5 xl yl xb yb xr yr xk xi yk yi hv
  have hvf : v = false := not_true hV.out (fun h => h5 (hEq.out.1 h).2.2.2.2.2.1)
  subst hvf
  have q0 : (a.kind == b.kind) = true := by rw [h0]; exact beq_self_eq_true _
  have r0 : (a.kind != b.kind) = false := by simp [h0]
  have q1 : (a.num == b.num) = true := by rw [h1]; exact beq_self_eq_true _
  have r1 : (a.num != b.num) = false := by simp [h1]
  have q2 : (a.neg == b.neg) = true := by rw [h2]; exact beq_self_eq_true _
  have r2 : (a.neg != b.neg) = false := by simp [h2]
  have q3 := beq_of (s := a.dig) (t := b.dig) true (by simp [h3])
  have r3 : (a.dig.toList != b.dig.toList) = false := by simp [bne, q3]
  have q4 : (a.exp == b.exp) = true := by rw [h4]; exact beq_self_eq_true _
  have r4 : (a.exp != b.exp) = false := by simp [h4]
  have q5 := beq_of (s := a.txt) (t := b.txt) false (by simp [h5])
  have r5 : (a.txt.toList != b.txt.toList) = true := by simp [bne, q5]
  clear h0 h1 h2 h3 h4 h5 hAk hAi hBk hBi hxk hxi hyk hyi hEq hV
  clear cx cy hst
  go_enter Tryz.func33, Tryz.ntmps33
  go_wp2
  go_ret
  exact ⟨rfl, T0.out.bel⟩

set_option maxHeartbeats 2000000 in
set_option maxRecDepth 100000 in
theorem es_no6 {D : Nat} (t u : Tr) (a b : Nb) (w : World) (v : Bool) (hA : Nd (D + 1) w a t) (hB : Nd (D + 1) w b u) (hv : v = true ↔ t = u) (h0 : a.kind = b.kind) (h1 : a.num = b.num) (h2 : a.neg = b.neg) (h3 : a.dig = b.dig) (h4 : a.exp = b.exp) (h5 : a.txt = b.txt) (h6 : ¬ t.bytes = u.bytes) : Calls Tryz.prog 33 #[.agg a.arr, .agg b.arr] w fun e w' => e = .returned (.bool v) ∧ Below w.heap.size w w' := by
  have T0 : Hid (Bo2 w ((w.alloc (.cells a.arr 26)).alloc (.cells b.arr 26)) a b) := bo2_new w a b
  obtain ⟨a0, a1, a2, a3, a4, a5, a6, a7, a8⟩ := T0.out.one.fields
  obtain ⟨b0, b1, b2, b3, b4, b5, b6, b7, b8⟩ := T0.out.two.fields
  obtain ⟨⟨x0, x1, x2, x3, x4, x5⟩, _, ⟨xl, xr, xb⟩, xk, xi⟩ := hA
  obtain ⟨⟨y0, y1, y2, y3, y4, y5⟩, _, ⟨yl, yr, yb⟩, yk, yi⟩ := hB
  have cx := conv_str (xb.kept ((alloc_below w (.cells a.arr 26)).trans ((alloc_below (w.alloc (.cells a.arr 26)) (.cells b.arr 26)).mono (Nat.le_of_lt (alloc_lt _ _))))) a.lb a.cb xl
  have cy := conv_str (yb.kept ((alloc_below w (.cells a.arr 26)).trans ((alloc_below (w.alloc (.cells a.arr 26)) (.cells b.arr 26)).mono (Nat.le_of_lt (alloc_lt _ _))))) b.lb b.cb yl
  have hst := str_eq xb.1 yb.1
  have hEq : Hid (t = u ↔ a.kind = b.kind ∧ a.num = b.num ∧ a.neg = b.neg ∧ a.dig = b.dig ∧ a.exp = b.exp ∧ a.txt = b.txt ∧ t.bytes = u.bytes ∧ t.keys = u.keys ∧ t.kids = u.kids) := by
    show _ ↔ _
    rw [x0, x1, x2, x3, x4, x5, y0, y1, y2, y3, y4, y5]
    exact ⟨fun h => by subst h; exact ⟨rfl, rfl, rfl, rfl, rfl, rfl, rfl, rfl, rfl⟩, fun ⟨h0, h1, h2, h3, h4, h5, h6, h7, h8⟩ => Tr.mk_eq h0 h1 h2 h3 h4 h5 h6 h7 h8⟩
  have hV : Hid (v = true ↔ t = u) := hv
  have hAk : Hid (RowN (Nd D w) w a.ak a.lk a.ck t.keys) := xk
  have hAi : Hid (RowN (Nd D w) w a.ai a.li a.ci t.kids) := xi
  have hBk : Hid (RowN (Nd D w) w b.ak b.lk b.ck u.keys) := yk
  have hBi : Hid (RowN (Nd D w) w b.ai b.li b.ci u.kids) := yi
  have hxk : Hid (t.keys.length = a.lk) := xk.1
  have hxi : Hid (t.kids.length = a.li) := xi.1
  have hyk : Hid (u.keys.length = b.lk) := yk.1
  have hyi : Hid (u.kids.length = b.li) := yi.1
  have m1 := xk.2.1.1
  have m2 := xk.2.1.2.1
  have m3 := xi.2.1.1
  have m4 := xi.2.1.2.1
  have m5 := yk.2.1.1
  have m6 := yk.2.1.2.1
  have m7 := yi.2.1.1
  have m8 := yi.2.1.2.1
  unfold maxLen at m2 m4 m6 m8
  generalize strOfNums t.bytes = SX at *
  generalize strOfNums u.bytes = SY at *
  clear x0 x1 x2 x3 x4 x5 y0 y1 y2 y3 y4 y5 xl yl xb yb xr yr xk xi yk yi hv
  have hvf : v = false := not_true hV.out (fun h => h6 (hEq.out.1 h).2.2.2.2.2.2.1)
  subst hvf
  have q0 : (a.kind == b.kind) = true := by rw [h0]; exact beq_self_eq_true _
  have r0 : (a.kind != b.kind) = false := by simp [h0]
  have q1 : (a.num == b.num) = true := by rw [h1]; exact beq_self_eq_true _
  have r1 : (a.num != b.num) = false := by simp [h1]
  have q2 : (a.neg == b.neg) = true := by rw [h2]; exact beq_self_eq_true _
  have r2 : (a.neg != b.neg) = false := by simp [h2]
  have q3 := beq_of (s := a.dig) (t := b.dig) true (by simp [h3])
  have r3 : (a.dig.toList != b.dig.toList) = false := by simp [bne, q3]
  have q4 : (a.exp == b.exp) = true := by rw [h4]; exact beq_self_eq_true _
  have r4 : (a.exp != b.exp) = false := by simp [h4]
  have q5 := beq_of (s := a.txt) (t := b.txt) true (by simp [h5])
  have r5 : (a.txt.toList != b.txt.toList) = false := by simp [bne, q5]
  rw [decide_eq_false h6] at hst
  have r6 : (SX.toList != SY.toList) = true := by simp [bne, hst]
  clear h0 h1 h2 h3 h4 h5 h6 hAk hAi hBk hBi hxk hxi hyk hyi hEq hV
  go_enter Tryz.func33, Tryz.ntmps33
  go_wp2
  go_ret
  exact ⟨rfl, T0.out.bel⟩

set_option maxHeartbeats 2000000 in
set_option maxRecDepth 100000 in
theorem es_no7 {D : Nat} (t u : Tr) (a b : Nb) (w : World) (v : Bool) (hA : Nd (D + 1) w a t) (hB : Nd (D + 1) w b u) (hv : v = true ↔ t = u) (h0 : a.kind = b.kind) (h1 : a.num = b.num) (h2 : a.neg = b.neg) (h3 : a.dig = b.dig) (h4 : a.exp = b.exp) (h5 : a.txt = b.txt) (h6 : t.bytes = u.bytes) (h7 : ¬ a.lk = b.lk) : Calls Tryz.prog 33 #[.agg a.arr, .agg b.arr] w fun e w' => e = .returned (.bool v) ∧ Below w.heap.size w w' := by
  have T0 : Hid (Bo2 w ((w.alloc (.cells a.arr 26)).alloc (.cells b.arr 26)) a b) := bo2_new w a b
  obtain ⟨a0, a1, a2, a3, a4, a5, a6, a7, a8⟩ := T0.out.one.fields
  obtain ⟨b0, b1, b2, b3, b4, b5, b6, b7, b8⟩ := T0.out.two.fields
  obtain ⟨⟨x0, x1, x2, x3, x4, x5⟩, _, ⟨xl, xr, xb⟩, xk, xi⟩ := hA
  obtain ⟨⟨y0, y1, y2, y3, y4, y5⟩, _, ⟨yl, yr, yb⟩, yk, yi⟩ := hB
  have cx := conv_str (xb.kept ((alloc_below w (.cells a.arr 26)).trans ((alloc_below (w.alloc (.cells a.arr 26)) (.cells b.arr 26)).mono (Nat.le_of_lt (alloc_lt _ _))))) a.lb a.cb xl
  have cy := conv_str (yb.kept ((alloc_below w (.cells a.arr 26)).trans ((alloc_below (w.alloc (.cells a.arr 26)) (.cells b.arr 26)).mono (Nat.le_of_lt (alloc_lt _ _))))) b.lb b.cb yl
  have hst := str_eq xb.1 yb.1
  have hEq : Hid (t = u ↔ a.kind = b.kind ∧ a.num = b.num ∧ a.neg = b.neg ∧ a.dig = b.dig ∧ a.exp = b.exp ∧ a.txt = b.txt ∧ t.bytes = u.bytes ∧ t.keys = u.keys ∧ t.kids = u.kids) := by
    show _ ↔ _
    rw [x0, x1, x2, x3, x4, x5, y0, y1, y2, y3, y4, y5]
    exact ⟨fun h => by subst h; exact ⟨rfl, rfl, rfl, rfl, rfl, rfl, rfl, rfl, rfl⟩, fun ⟨h0, h1, h2, h3, h4, h5, h6, h7, h8⟩ => Tr.mk_eq h0 h1 h2 h3 h4 h5 h6 h7 h8⟩
  have hV : Hid (v = true ↔ t = u) := hv
  have hAk : Hid (RowN (Nd D w) w a.ak a.lk a.ck t.keys) := xk
  have hAi : Hid (RowN (Nd D w) w a.ai a.li a.ci t.kids) := xi
  have hBk : Hid (RowN (Nd D w) w b.ak b.lk b.ck u.keys) := yk
  have hBi : Hid (RowN (Nd D w) w b.ai b.li b.ci u.kids) := yi
  have hxk : Hid (t.keys.length = a.lk) := xk.1
  have hxi : Hid (t.kids.length = a.li) := xi.1
  have hyk : Hid (u.keys.length = b.lk) := yk.1
  have hyi : Hid (u.kids.length = b.li) := yi.1
  have m1 := xk.2.1.1
  have m2 := xk.2.1.2.1
  have m3 := xi.2.1.1
  have m4 := xi.2.1.2.1
  have m5 := yk.2.1.1
  have m6 := yk.2.1.2.1
  have m7 := yi.2.1.1
  have m8 := yi.2.1.2.1
  unfold maxLen at m2 m4 m6 m8
  generalize strOfNums t.bytes = SX at *
  generalize strOfNums u.bytes = SY at *
  clear x0 x1 x2 x3 x4 x5 y0 y1 y2 y3 y4 y5 xl yl xb yb xr yr xk xi yk yi hv
  have hvf : v = false := not_true hV.out (fun h => h7 (by have h9 := congrArg List.length (hEq.out.1 h).2.2.2.2.2.2.2.1; rw [hxk.out, hyk.out] at h9; exact h9))
  subst hvf
  have q0 : (a.kind == b.kind) = true := by rw [h0]; exact beq_self_eq_true _
  have r0 : (a.kind != b.kind) = false := by simp [h0]
  have q1 : (a.num == b.num) = true := by rw [h1]; exact beq_self_eq_true _
  have r1 : (a.num != b.num) = false := by simp [h1]
  have q2 : (a.neg == b.neg) = true := by rw [h2]; exact beq_self_eq_true _
  have r2 : (a.neg != b.neg) = false := by simp [h2]
  have q3 := beq_of (s := a.dig) (t := b.dig) true (by simp [h3])
  have r3 : (a.dig.toList != b.dig.toList) = false := by simp [bne, q3]
  have q4 : (a.exp == b.exp) = true := by rw [h4]; exact beq_self_eq_true _
  have r4 : (a.exp != b.exp) = false := by simp [h4]
  have q5 := beq_of (s := a.txt) (t := b.txt) true (by simp [h5])
  have r5 : (a.txt.toList != b.txt.toList) = false := by simp [bne, q5]
  rw [decide_eq_true h6] at hst
  have r6 : (SX.toList != SY.toList) = false := by simp [bne, hst]
  have r7 : ((a.lk : Int) != (b.lk : Int)) = true := by simp; omega
  clear h0 h1 h2 h3 h4 h5 h6 h7 hAk hAi hBk hBi hxk hxi hyk hyi hEq hV
  go_enter Tryz.func33, Tryz.ntmps33
  go_wp2
  go_ret
  exact ⟨rfl, T0.out.bel⟩

set_option maxHeartbeats 2000000 in
set_option maxRecDepth 100000 in
theorem es_no8 {D : Nat} (t u : Tr) (a b : Nb) (w : World) (v : Bool) (hA : Nd (D + 1) w a t) (hB : Nd (D + 1) w b u) (hv : v = true ↔ t = u) (h0 : a.kind = b.kind) (h1 : a.num = b.num) (h2 : a.neg = b.neg) (h3 : a.dig = b.dig) (h4 : a.exp = b.exp) (h5 : a.txt = b.txt) (h6 : t.bytes = u.bytes) (h7 : a.lk = b.lk) (h8 : ¬ a.li = b.li) : Calls Tryz.prog 33 #[.agg a.arr, .agg b.arr] w fun e w' => e = .returned (.bool v) ∧ Below w.heap.size w w' := by
  have T0 : Hid (Bo2 w ((w.alloc (.cells a.arr 26)).alloc (.cells b.arr 26)) a b) := bo2_new w a b
  obtain ⟨a0, a1, a2, a3, a4, a5, a6, a7, a8⟩ := T0.out.one.fields
  obtain ⟨b0, b1, b2, b3, b4, b5, b6, b7, b8⟩ := T0.out.two.fields
  obtain ⟨⟨x0, x1, x2, x3, x4, x5⟩, _, ⟨xl, xr, xb⟩, xk, xi⟩ := hA
  obtain ⟨⟨y0, y1, y2, y3, y4, y5⟩, _, ⟨yl, yr, yb⟩, yk, yi⟩ := hB
  have cx := conv_str (xb.kept ((alloc_below w (.cells a.arr 26)).trans ((alloc_below (w.alloc (.cells a.arr 26)) (.cells b.arr 26)).mono (Nat.le_of_lt (alloc_lt _ _))))) a.lb a.cb xl
  have cy := conv_str (yb.kept ((alloc_below w (.cells a.arr 26)).trans ((alloc_below (w.alloc (.cells a.arr 26)) (.cells b.arr 26)).mono (Nat.le_of_lt (alloc_lt _ _))))) b.lb b.cb yl
  have hst := str_eq xb.1 yb.1
  have hEq : Hid (t = u ↔ a.kind = b.kind ∧ a.num = b.num ∧ a.neg = b.neg ∧ a.dig = b.dig ∧ a.exp = b.exp ∧ a.txt = b.txt ∧ t.bytes = u.bytes ∧ t.keys = u.keys ∧ t.kids = u.kids) := by
    show _ ↔ _
    rw [x0, x1, x2, x3, x4, x5, y0, y1, y2, y3, y4, y5]
    exact ⟨fun h => by subst h; exact ⟨rfl, rfl, rfl, rfl, rfl, rfl, rfl, rfl, rfl⟩, fun ⟨h0, h1, h2, h3, h4, h5, h6, h7, h8⟩ => Tr.mk_eq h0 h1 h2 h3 h4 h5 h6 h7 h8⟩
  have hV : Hid (v = true ↔ t = u) := hv
  have hAk : Hid (RowN (Nd D w) w a.ak a.lk a.ck t.keys) := xk
  have hAi : Hid (RowN (Nd D w) w a.ai a.li a.ci t.kids) := xi
  have hBk : Hid (RowN (Nd D w) w b.ak b.lk b.ck u.keys) := yk
  have hBi : Hid (RowN (Nd D w) w b.ai b.li b.ci u.kids) := yi
  have hxk : Hid (t.keys.length = a.lk) := xk.1
  have hxi : Hid (t.kids.length = a.li) := xi.1
  have hyk : Hid (u.keys.length = b.lk) := yk.1
  have hyi : Hid (u.kids.length = b.li) := yi.1
  have m1 := xk.2.1.1
  have m2 := xk.2.1.2.1
  have m3 := xi.2.1.1
  have m4 := xi.2.1.2.1
  have m5 := yk.2.1.1
  have m6 := yk.2.1.2.1
  have m7 := yi.2.1.1
  have m8 := yi.2.1.2.1
  unfold maxLen at m2 m4 m6 m8
  generalize strOfNums t.bytes = SX at *
  generalize strOfNums u.bytes = SY at *
  clear x0 x1 x2 x3 x4 x5 y0 y1 y2 y3 y4 y5 xl yl xb yb xr yr xk xi yk yi hv
  have hvf : v = false := not_true hV.out (fun h => h8 (by have h9 := congrArg List.length (hEq.out.1 h).2.2.2.2.2.2.2.2; rw [hxi.out, hyi.out] at h9; exact h9))
  subst hvf
  have q0 : (a.kind == b.kind) = true := by rw [h0]; exact beq_self_eq_true _
  have r0 : (a.kind != b.kind) = false := by simp [h0]
  have q1 : (a.num == b.num) = true := by rw [h1]; exact beq_self_eq_true _
  have r1 : (a.num != b.num) = false := by simp [h1]
  have q2 : (a.neg == b.neg) = true := by rw [h2]; exact beq_self_eq_true _
  have r2 : (a.neg != b.neg) = false := by simp [h2]
  have q3 := beq_of (s := a.dig) (t := b.dig) true (by simp [h3])
  have r3 : (a.dig.toList != b.dig.toList) = false := by simp [bne, q3]
  have q4 : (a.exp == b.exp) = true := by rw [h4]; exact beq_self_eq_true _
  have r4 : (a.exp != b.exp) = false := by simp [h4]
  have q5 := beq_of (s := a.txt) (t := b.txt) true (by simp [h5])
  have r5 : (a.txt.toList != b.txt.toList) = false := by simp [bne, q5]
  rw [decide_eq_true h6] at hst
  have r6 : (SX.toList != SY.toList) = false := by simp [bne, hst]
  have r7 : ((a.lk : Int) != (b.lk : Int)) = false := by simp; omega
  have r8 : ((a.li : Int) != (b.li : Int)) = true := by simp; omega
  clear h0 h1 h2 h3 h4 h5 h6 h7 h8 hAk hAi hBk hBi hxk hxi hyk hyi hEq hV
  go_enter Tryz.func33, Tryz.ntmps33
  go_wp2
  go_ret
  exact ⟨rfl, T0.out.bel⟩
end Go.Proofs.YtnjbppfanmmifaaGreatDoor
namespace Go.Proofs.YtnjbppfanmmifaaGreatDoor
open Go.RowKit
set_option linter.unusedVariables false

set_option maxHeartbeats 8000000 in
set_option maxRecDepth 100000 in
theorem es_eq {D : Nat} (ih : EsAt D) (t u : Tr) (a b : Nb) (w : World) (v : Bool) (hA : Nd (D + 1) w a t) (hB : Nd (D + 1) w b u) (hv : v = true ↔ t = u) (h0 : a.kind = b.kind) (h1 : a.num = b.num) (h2 : a.neg = b.neg) (h3 : a.dig = b.dig) (h4 : a.exp = b.exp) (h5 : a.txt = b.txt) (h6 : t.bytes = u.bytes) (h7 : a.lk = b.lk) (h8 : a.li = b.li) : Calls Tryz.prog 33 #[.agg a.arr, .agg b.arr] w fun e w' => e = .returned (.bool v) ∧ Below w.heap.size w w' := by
  have T0 : Hid (Bo2 w ((w.alloc (.cells a.arr 26)).alloc (.cells b.arr 26)) a b) := bo2_new w a b
  obtain ⟨a0, a1, a2, a3, a4, a5, a6, a7, a8⟩ := T0.out.one.fields
  obtain ⟨b0, b1, b2, b3, b4, b5, b6, b7, b8⟩ := T0.out.two.fields
  obtain ⟨⟨x0, x1, x2, x3, x4, x5⟩, _, ⟨xl, xr, xb⟩, xk, xi⟩ := hA
  obtain ⟨⟨y0, y1, y2, y3, y4, y5⟩, _, ⟨yl, yr, yb⟩, yk, yi⟩ := hB
  have cx := conv_str (xb.kept ((alloc_below w (.cells a.arr 26)).trans ((alloc_below (w.alloc (.cells a.arr 26)) (.cells b.arr 26)).mono (Nat.le_of_lt (alloc_lt _ _))))) a.lb a.cb xl
  have cy := conv_str (yb.kept ((alloc_below w (.cells a.arr 26)).trans ((alloc_below (w.alloc (.cells a.arr 26)) (.cells b.arr 26)).mono (Nat.le_of_lt (alloc_lt _ _))))) b.lb b.cb yl
  have hst := str_eq xb.1 yb.1
  have hEq : Hid (t = u ↔ a.kind = b.kind ∧ a.num = b.num ∧ a.neg = b.neg ∧ a.dig = b.dig ∧ a.exp = b.exp ∧ a.txt = b.txt ∧ t.bytes = u.bytes ∧ t.keys = u.keys ∧ t.kids = u.kids) := by
    show _ ↔ _
    rw [x0, x1, x2, x3, x4, x5, y0, y1, y2, y3, y4, y5]
    exact ⟨fun h => by subst h; exact ⟨rfl, rfl, rfl, rfl, rfl, rfl, rfl, rfl, rfl⟩, fun ⟨h0, h1, h2, h3, h4, h5, h6, h7, h8⟩ => Tr.mk_eq h0 h1 h2 h3 h4 h5 h6 h7 h8⟩
  have hV : Hid (v = true ↔ t = u) := hv
  have hAk : Hid (RowN (Nd D w) w a.ak a.lk a.ck t.keys) := xk
  have hAi : Hid (RowN (Nd D w) w a.ai a.li a.ci t.kids) := xi
  have hBk : Hid (RowN (Nd D w) w b.ak b.lk b.ck u.keys) := yk
  have hBi : Hid (RowN (Nd D w) w b.ai b.li b.ci u.kids) := yi
  have hxk : Hid (t.keys.length = a.lk) := xk.1
  have hxi : Hid (t.kids.length = a.li) := xi.1
  have hyk : Hid (u.keys.length = b.lk) := yk.1
  have hyi : Hid (u.kids.length = b.li) := yi.1
  have m1 := xk.2.1.1
  have m2 := xk.2.1.2.1
  have m3 := xi.2.1.1
  have m4 := xi.2.1.2.1
  have m5 := yk.2.1.1
  have m6 := yk.2.1.2.1
  have m7 := yi.2.1.1
  have m8 := yi.2.1.2.1
  unfold maxLen at m2 m4 m6 m8
  generalize strOfNums t.bytes = SX at *
  generalize strOfNums u.bytes = SY at *
  clear x0 x1 x2 x3 x4 x5 y0 y1 y2 y3 y4 y5 xl yl xb yb xr yr xk xi yk yi hv
  have q0 : (a.kind == b.kind) = true := by rw [h0]; exact beq_self_eq_true _
  have r0 : (a.kind != b.kind) = false := by simp [h0]
  have q1 : (a.num == b.num) = true := by rw [h1]; exact beq_self_eq_true _
  have r1 : (a.num != b.num) = false := by simp [h1]
  have q2 : (a.neg == b.neg) = true := by rw [h2]; exact beq_self_eq_true _
  have r2 : (a.neg != b.neg) = false := by simp [h2]
  have q3 := beq_of (s := a.dig) (t := b.dig) true (by simp [h3])
  have r3 : (a.dig.toList != b.dig.toList) = false := by simp [bne, q3]
  have q4 : (a.exp == b.exp) = true := by rw [h4]; exact beq_self_eq_true _
  have r4 : (a.exp != b.exp) = false := by simp [h4]
  have q5 := beq_of (s := a.txt) (t := b.txt) true (by simp [h5])
  have r5 : (a.txt.toList != b.txt.toList) = false := by simp [bne, q5]
  rw [decide_eq_true h6] at hst
  have r6 : (SX.toList != SY.toList) = false := by simp [bne, hst]
  have r7 : ((a.lk : Int) != (b.lk : Int)) = false := by simp; omega
  have r8 : ((a.li : Int) != (b.li : Int)) = false := by simp; omega
  have e0 : Hid (a.kind = b.kind) := h0
  have e1 : Hid (a.num = b.num) := h1
  have e2 : Hid (a.neg = b.neg) := h2
  have e3 : Hid (a.dig = b.dig) := h3
  have e4 : Hid (a.exp = b.exp) := h4
  have e5 : Hid (a.txt = b.txt) := h5
  have e6 : Hid (t.bytes = u.bytes) := h6
  have hLk : Hid (a.lk = b.lk) := h7
  have hLi : Hid (a.li = b.li) := h8
  clear h0 h1 h2 h3 h4 h5 h6 h7 h8
  go_enter Tryz.func33, Tryz.ntmps33
  go_wp2
  go_loopw [5] (fun s5 wr => ∃ (i : Nat), i ≤ a.lk ∧ s5 = .int .i64 i ∧ Hid (Bo2 w wr a b) ∧ Hid (t.keys.take i = u.keys.take i)) (fun i _ => a.lk - (intOf i).toNat)
  case atStart => exact ⟨0, Nat.zero_le _, rfl, T0, rfl⟩
  case round =>
    obtain ⟨i, him, rfl, hT, hE⟩ := hrel
    clear a0 a1 a2 a3 a4 a5 a6 a7 a8 b0 b1 b2 b3 b4 b5 b6 b7 b8
    obtain ⟨c0, c1, c2, c3, c4, c5, c6, c7, c8⟩ := hT.out.one.fields
    obtain ⟨d0, d1, d2, d3, d4, d5, d6, d7, d8⟩ := hT.out.two.fields
    by_cases hlt : i < a.lk
    · have hz : (i : Int) < (a.lk : Int) := by omega
      have hz2 : (i : Int) < (b.lk : Int) := by have := hLk.out; omega
      have hix : i < t.keys.length := by rw [hxk.out]; exact hlt
      have hiy : i < u.keys.length := by rw [hyk.out, ← hLk.out]; exact hlt
      obtain ⟨bk, ok, nk, hak, hck, hNk⟩ := row_sp hAk.out hT.out.bel hix
      obtain ⟨bi, oi, ni, hai, hci, hNi⟩ := row_sp hBk.out hT.out.bel hiy
      have hS : Hid (∀ wx, Bo2 w wx a b → wx.cell? ⟨w.heap.size, 7, none⟩ = some (.slice (some ⟨bk, ok, none⟩) a.lk a.ck) ∧ wx.cell? ⟨w.heap.size + 1, 7, none⟩ = some (.slice (some ⟨bi, oi, none⟩) b.lk b.ck) ∧ (wx.cell? ⟨bk, ok + i * 9, none⟩ = some (.int .i64 nk.kind) ∧ wx.cell? ⟨bk, ok + i * 9 + 1, none⟩ = some (.int .u64 nk.num) ∧ wx.cell? ⟨bk, ok + i * 9 + 2, none⟩ = some (.bool nk.neg) ∧ wx.cell? ⟨bk, ok + i * 9 + 3, none⟩ = some (.string nk.dig) ∧ wx.cell? ⟨bk, ok + i * 9 + 4, none⟩ = some (.int .i64 nk.exp) ∧ wx.cell? ⟨bk, ok + i * 9 + 5, none⟩ = some (.string nk.txt) ∧ wx.cell? ⟨bk, ok + i * 9 + 6, none⟩ = some (.slice nk.ab nk.lb nk.cb) ∧ wx.cell? ⟨bk, ok + i * 9 + 7, none⟩ = some (.slice nk.ak nk.lk nk.ck) ∧ wx.cell? ⟨bk, ok + i * 9 + 8, none⟩ = some (.slice nk.ai nk.li nk.ci)) ∧ (wx.cell? ⟨bi, oi + i * 9, none⟩ = some (.int .i64 ni.kind) ∧ wx.cell? ⟨bi, oi + i * 9 + 1, none⟩ = some (.int .u64 ni.num) ∧ wx.cell? ⟨bi, oi + i * 9 + 2, none⟩ = some (.bool ni.neg) ∧ wx.cell? ⟨bi, oi + i * 9 + 3, none⟩ = some (.string ni.dig) ∧ wx.cell? ⟨bi, oi + i * 9 + 4, none⟩ = some (.int .i64 ni.exp) ∧ wx.cell? ⟨bi, oi + i * 9 + 5, none⟩ = some (.string ni.txt) ∧ wx.cell? ⟨bi, oi + i * 9 + 6, none⟩ = some (.slice ni.ab ni.lb ni.cb) ∧ wx.cell? ⟨bi, oi + i * 9 + 7, none⟩ = some (.slice ni.ak ni.lk ni.ck) ∧ wx.cell? ⟨bi, oi + i * 9 + 8, none⟩ = some (.slice ni.ai ni.li ni.ci))) := fun wx h => ⟨by rw [← hak]; exact h.one.cell 7, by rw [← hai]; exact h.two.cell 7, elem_fields (hck wx h.bel), elem_fields (hci wx h.bel)⟩
      have hS0 := hS.out _ hT.out
      obtain ⟨e0, e1, ⟨f0, f1, f2, f3, f4, f5, f6, f7, f8⟩, ⟨p0, p1, p2, p3, p4, p5, p6, p7, p8⟩⟩ := hS0
      have kk : ∀ (v' : Bool), (v' = true ↔ t.keys[i] = u.keys[i]) → ∀ w', Below w.heap.size w w' → Calls Tryz.prog 33 #[.agg nk.arr, .agg ni.arr] w' fun e w'' => e = .returned (.bool v') ∧ Below w'.heap.size w' w'' := fun v' h w' hb => ih _ _ nk ni w' v' (hNk.kept hb) (hNi.kept hb) h
      have wi : IntKind.i64.wrap ((i : Int) + 1) = (i : Int) + 1 := by rw [IntKind.wrap_i64]; omega
      by_cases hq : t.keys[i] = u.keys[i]
      · have k1 := kk true (by simp [hq])
        have hE' : Hid (t.keys.take (i + 1) = u.keys.take (i + 1)) := by
          show _ = _
          rw [List.take_succ_eq_append_getElem hix, List.take_succ_eq_append_getElem hiy, hE.out, hq]
        clear hck hci hNk hNi kk hq ih
        go_wp2
        go_region_held3 (fun wx => wx.cell? ⟨w.heap.size, 7, none⟩ = some (.slice (some ⟨bk, ok, none⟩) a.lk a.ck) ∧ wx.cell? ⟨w.heap.size + 1, 7, none⟩ = some (.slice (some ⟨bi, oi, none⟩) b.lk b.ck) ∧ (wx.cell? ⟨bk, ok + i * 9, none⟩ = some (.int .i64 nk.kind) ∧ wx.cell? ⟨bk, ok + i * 9 + 1, none⟩ = some (.int .u64 nk.num) ∧ wx.cell? ⟨bk, ok + i * 9 + 2, none⟩ = some (.bool nk.neg) ∧ wx.cell? ⟨bk, ok + i * 9 + 3, none⟩ = some (.string nk.dig) ∧ wx.cell? ⟨bk, ok + i * 9 + 4, none⟩ = some (.int .i64 nk.exp) ∧ wx.cell? ⟨bk, ok + i * 9 + 5, none⟩ = some (.string nk.txt) ∧ wx.cell? ⟨bk, ok + i * 9 + 6, none⟩ = some (.slice nk.ab nk.lb nk.cb) ∧ wx.cell? ⟨bk, ok + i * 9 + 7, none⟩ = some (.slice nk.ak nk.lk nk.ck) ∧ wx.cell? ⟨bk, ok + i * 9 + 8, none⟩ = some (.slice nk.ai nk.li nk.ci)) ∧ (wx.cell? ⟨bi, oi + i * 9, none⟩ = some (.int .i64 ni.kind) ∧ wx.cell? ⟨bi, oi + i * 9 + 1, none⟩ = some (.int .u64 ni.num) ∧ wx.cell? ⟨bi, oi + i * 9 + 2, none⟩ = some (.bool ni.neg) ∧ wx.cell? ⟨bi, oi + i * 9 + 3, none⟩ = some (.string ni.dig) ∧ wx.cell? ⟨bi, oi + i * 9 + 4, none⟩ = some (.int .i64 ni.exp) ∧ wx.cell? ⟨bi, oi + i * 9 + 5, none⟩ = some (.string ni.txt) ∧ wx.cell? ⟨bi, oi + i * 9 + 6, none⟩ = some (.slice ni.ab ni.lb ni.cb) ∧ wx.cell? ⟨bi, oi + i * 9 + 7, none⟩ = some (.slice ni.ak ni.lk ni.ck) ∧ wx.cell? ⟨bi, oi + i * 9 + 8, none⟩ = some (.slice ni.ai ni.li ni.ci))) (first | exact hS.out _ hT.out.drew | exact hS.out _ T1.out) (first
          | (go_at_call 33; refine (k1 _ hT.out.drew.bel).mono ?_; rintro e w1 ⟨rfl, q1⟩; have T1 : Hid (Bo2 w w1 a b) := hT.out.drew.on q1; clear q1))
        go_wp2
        try simp only [hak, hai]
        go_roundw
        case rel => exact ⟨i + 1, by omega, by go_num, T1, hE'⟩
        case measure => simp [intOf]; omega
      · have k1 := kk false (by simp [hq])
        have hvf : v = false := not_true hV.out (fun h => hq (by have := (hEq.out.1 h).2.2.2.2.2.2.2.1; simp only [this]))
        subst hvf
        clear hck hci hNk hNi kk hq ih
        go_wp2
        go_region_held3 (fun wx => wx.cell? ⟨w.heap.size, 7, none⟩ = some (.slice (some ⟨bk, ok, none⟩) a.lk a.ck) ∧ wx.cell? ⟨w.heap.size + 1, 7, none⟩ = some (.slice (some ⟨bi, oi, none⟩) b.lk b.ck) ∧ (wx.cell? ⟨bk, ok + i * 9, none⟩ = some (.int .i64 nk.kind) ∧ wx.cell? ⟨bk, ok + i * 9 + 1, none⟩ = some (.int .u64 nk.num) ∧ wx.cell? ⟨bk, ok + i * 9 + 2, none⟩ = some (.bool nk.neg) ∧ wx.cell? ⟨bk, ok + i * 9 + 3, none⟩ = some (.string nk.dig) ∧ wx.cell? ⟨bk, ok + i * 9 + 4, none⟩ = some (.int .i64 nk.exp) ∧ wx.cell? ⟨bk, ok + i * 9 + 5, none⟩ = some (.string nk.txt) ∧ wx.cell? ⟨bk, ok + i * 9 + 6, none⟩ = some (.slice nk.ab nk.lb nk.cb) ∧ wx.cell? ⟨bk, ok + i * 9 + 7, none⟩ = some (.slice nk.ak nk.lk nk.ck) ∧ wx.cell? ⟨bk, ok + i * 9 + 8, none⟩ = some (.slice nk.ai nk.li nk.ci)) ∧ (wx.cell? ⟨bi, oi + i * 9, none⟩ = some (.int .i64 ni.kind) ∧ wx.cell? ⟨bi, oi + i * 9 + 1, none⟩ = some (.int .u64 ni.num) ∧ wx.cell? ⟨bi, oi + i * 9 + 2, none⟩ = some (.bool ni.neg) ∧ wx.cell? ⟨bi, oi + i * 9 + 3, none⟩ = some (.string ni.dig) ∧ wx.cell? ⟨bi, oi + i * 9 + 4, none⟩ = some (.int .i64 ni.exp) ∧ wx.cell? ⟨bi, oi + i * 9 + 5, none⟩ = some (.string ni.txt) ∧ wx.cell? ⟨bi, oi + i * 9 + 6, none⟩ = some (.slice ni.ab ni.lb ni.cb) ∧ wx.cell? ⟨bi, oi + i * 9 + 7, none⟩ = some (.slice ni.ak ni.lk ni.ck) ∧ wx.cell? ⟨bi, oi + i * 9 + 8, none⟩ = some (.slice ni.ai ni.li ni.ci))) (first | exact hS.out _ hT.out.drew | exact hS.out _ T1.out) (first
          | (go_at_call 33; refine (k1 _ hT.out.drew.bel).mono ?_; rintro e w1 ⟨rfl, q1⟩; have T1 : Hid (Bo2 w w1 a b) := hT.out.drew.on q1; clear q1))
        go_wp2
        go_ret
        exact ⟨rfl, T1.out.bel⟩
    · have hz : ¬ (i : Int) < (a.lk : Int) := by omega
      have ekeys : Hid (t.keys = u.keys) := by
        show _ = _
        have h1 := hE.out
        rwa [List.take_of_length_le (by rw [hxk.out]; omega), List.take_of_length_le (by rw [hyk.out, ← hLk.out]; omega)] at h1
      clear hE
      go_wp2
      go_loopw [6] (fun s5 wr => ∃ (i : Nat), i ≤ a.li ∧ s5 = .int .i64 i ∧ Hid (Bo2 w wr a b) ∧ Hid (t.kids.take i = u.kids.take i)) (fun i _ => a.li - (intOf i).toNat)
      case atStart => exact ⟨0, Nat.zero_le _, rfl, hT, rfl⟩
      case round =>
        obtain ⟨i, him, rfl, hT, hE⟩ := hrel
        clear c0 c1 c2 c3 c4 c5 c6 c7 c8 d0 d1 d2 d3 d4 d5 d6 d7 d8
        obtain ⟨c0, c1, c2, c3, c4, c5, c6, c7, c8⟩ := hT.out.one.fields
        obtain ⟨d0, d1, d2, d3, d4, d5, d6, d7, d8⟩ := hT.out.two.fields
        by_cases hlt : i < a.li
        · have hz : (i : Int) < (a.li : Int) := by omega
          have hz2 : (i : Int) < (b.li : Int) := by have := hLi.out; omega
          have hix : i < t.kids.length := by rw [hxi.out]; exact hlt
          have hiy : i < u.kids.length := by rw [hyi.out, ← hLi.out]; exact hlt
          obtain ⟨bk, ok, nk, hak, hck, hNk⟩ := row_sp hAi.out hT.out.bel hix
          obtain ⟨bi, oi, ni, hai, hci, hNi⟩ := row_sp hBi.out hT.out.bel hiy
          have hS : Hid (∀ wx, Bo2 w wx a b → wx.cell? ⟨w.heap.size, 8, none⟩ = some (.slice (some ⟨bk, ok, none⟩) a.li a.ci) ∧ wx.cell? ⟨w.heap.size + 1, 8, none⟩ = some (.slice (some ⟨bi, oi, none⟩) b.li b.ci) ∧ (wx.cell? ⟨bk, ok + i * 9, none⟩ = some (.int .i64 nk.kind) ∧ wx.cell? ⟨bk, ok + i * 9 + 1, none⟩ = some (.int .u64 nk.num) ∧ wx.cell? ⟨bk, ok + i * 9 + 2, none⟩ = some (.bool nk.neg) ∧ wx.cell? ⟨bk, ok + i * 9 + 3, none⟩ = some (.string nk.dig) ∧ wx.cell? ⟨bk, ok + i * 9 + 4, none⟩ = some (.int .i64 nk.exp) ∧ wx.cell? ⟨bk, ok + i * 9 + 5, none⟩ = some (.string nk.txt) ∧ wx.cell? ⟨bk, ok + i * 9 + 6, none⟩ = some (.slice nk.ab nk.lb nk.cb) ∧ wx.cell? ⟨bk, ok + i * 9 + 7, none⟩ = some (.slice nk.ak nk.lk nk.ck) ∧ wx.cell? ⟨bk, ok + i * 9 + 8, none⟩ = some (.slice nk.ai nk.li nk.ci)) ∧ (wx.cell? ⟨bi, oi + i * 9, none⟩ = some (.int .i64 ni.kind) ∧ wx.cell? ⟨bi, oi + i * 9 + 1, none⟩ = some (.int .u64 ni.num) ∧ wx.cell? ⟨bi, oi + i * 9 + 2, none⟩ = some (.bool ni.neg) ∧ wx.cell? ⟨bi, oi + i * 9 + 3, none⟩ = some (.string ni.dig) ∧ wx.cell? ⟨bi, oi + i * 9 + 4, none⟩ = some (.int .i64 ni.exp) ∧ wx.cell? ⟨bi, oi + i * 9 + 5, none⟩ = some (.string ni.txt) ∧ wx.cell? ⟨bi, oi + i * 9 + 6, none⟩ = some (.slice ni.ab ni.lb ni.cb) ∧ wx.cell? ⟨bi, oi + i * 9 + 7, none⟩ = some (.slice ni.ak ni.lk ni.ck) ∧ wx.cell? ⟨bi, oi + i * 9 + 8, none⟩ = some (.slice ni.ai ni.li ni.ci))) := fun wx h => ⟨by rw [← hak]; exact h.one.cell 8, by rw [← hai]; exact h.two.cell 8, elem_fields (hck wx h.bel), elem_fields (hci wx h.bel)⟩
          have hS0 := hS.out _ hT.out
          obtain ⟨e0, e1, ⟨f0, f1, f2, f3, f4, f5, f6, f7, f8⟩, ⟨p0, p1, p2, p3, p4, p5, p6, p7, p8⟩⟩ := hS0
          have kk : ∀ (v' : Bool), (v' = true ↔ t.kids[i] = u.kids[i]) → ∀ w', Below w.heap.size w w' → Calls Tryz.prog 33 #[.agg nk.arr, .agg ni.arr] w' fun e w'' => e = .returned (.bool v') ∧ Below w'.heap.size w' w'' := fun v' h w' hb => ih _ _ nk ni w' v' (hNk.kept hb) (hNi.kept hb) h
          have wi : IntKind.i64.wrap ((i : Int) + 1) = (i : Int) + 1 := by rw [IntKind.wrap_i64]; omega
          by_cases hq : t.kids[i] = u.kids[i]
          · have k1 := kk true (by simp [hq])
            have hE' : Hid (t.kids.take (i + 1) = u.kids.take (i + 1)) := by
              show _ = _
              rw [List.take_succ_eq_append_getElem hix, List.take_succ_eq_append_getElem hiy, hE.out, hq]
            clear hck hci hNk hNi kk hq ih
            go_wp2
            go_region_held3 (fun wx => wx.cell? ⟨w.heap.size, 8, none⟩ = some (.slice (some ⟨bk, ok, none⟩) a.li a.ci) ∧ wx.cell? ⟨w.heap.size + 1, 8, none⟩ = some (.slice (some ⟨bi, oi, none⟩) b.li b.ci) ∧ (wx.cell? ⟨bk, ok + i * 9, none⟩ = some (.int .i64 nk.kind) ∧ wx.cell? ⟨bk, ok + i * 9 + 1, none⟩ = some (.int .u64 nk.num) ∧ wx.cell? ⟨bk, ok + i * 9 + 2, none⟩ = some (.bool nk.neg) ∧ wx.cell? ⟨bk, ok + i * 9 + 3, none⟩ = some (.string nk.dig) ∧ wx.cell? ⟨bk, ok + i * 9 + 4, none⟩ = some (.int .i64 nk.exp) ∧ wx.cell? ⟨bk, ok + i * 9 + 5, none⟩ = some (.string nk.txt) ∧ wx.cell? ⟨bk, ok + i * 9 + 6, none⟩ = some (.slice nk.ab nk.lb nk.cb) ∧ wx.cell? ⟨bk, ok + i * 9 + 7, none⟩ = some (.slice nk.ak nk.lk nk.ck) ∧ wx.cell? ⟨bk, ok + i * 9 + 8, none⟩ = some (.slice nk.ai nk.li nk.ci)) ∧ (wx.cell? ⟨bi, oi + i * 9, none⟩ = some (.int .i64 ni.kind) ∧ wx.cell? ⟨bi, oi + i * 9 + 1, none⟩ = some (.int .u64 ni.num) ∧ wx.cell? ⟨bi, oi + i * 9 + 2, none⟩ = some (.bool ni.neg) ∧ wx.cell? ⟨bi, oi + i * 9 + 3, none⟩ = some (.string ni.dig) ∧ wx.cell? ⟨bi, oi + i * 9 + 4, none⟩ = some (.int .i64 ni.exp) ∧ wx.cell? ⟨bi, oi + i * 9 + 5, none⟩ = some (.string ni.txt) ∧ wx.cell? ⟨bi, oi + i * 9 + 6, none⟩ = some (.slice ni.ab ni.lb ni.cb) ∧ wx.cell? ⟨bi, oi + i * 9 + 7, none⟩ = some (.slice ni.ak ni.lk ni.ck) ∧ wx.cell? ⟨bi, oi + i * 9 + 8, none⟩ = some (.slice ni.ai ni.li ni.ci))) (first | exact hS.out _ hT.out.drew | exact hS.out _ T1.out) (first
              | (go_at_call 33; refine (k1 _ hT.out.drew.bel).mono ?_; rintro e w1 ⟨rfl, q1⟩; have T1 : Hid (Bo2 w w1 a b) := hT.out.drew.on q1; clear q1))
            go_wp2
            try simp only [hak, hai]
            go_roundw
            case rel => exact ⟨i + 1, by omega, by go_num, T1, hE'⟩
            case measure => simp [intOf]; omega
          · have k1 := kk false (by simp [hq])
            have hvf : v = false := not_true hV.out (fun h => hq (by have := (hEq.out.1 h).2.2.2.2.2.2.2.2; simp only [this]))
            subst hvf
            clear hck hci hNk hNi kk hq ih
            go_wp2
            go_region_held3 (fun wx => wx.cell? ⟨w.heap.size, 8, none⟩ = some (.slice (some ⟨bk, ok, none⟩) a.li a.ci) ∧ wx.cell? ⟨w.heap.size + 1, 8, none⟩ = some (.slice (some ⟨bi, oi, none⟩) b.li b.ci) ∧ (wx.cell? ⟨bk, ok + i * 9, none⟩ = some (.int .i64 nk.kind) ∧ wx.cell? ⟨bk, ok + i * 9 + 1, none⟩ = some (.int .u64 nk.num) ∧ wx.cell? ⟨bk, ok + i * 9 + 2, none⟩ = some (.bool nk.neg) ∧ wx.cell? ⟨bk, ok + i * 9 + 3, none⟩ = some (.string nk.dig) ∧ wx.cell? ⟨bk, ok + i * 9 + 4, none⟩ = some (.int .i64 nk.exp) ∧ wx.cell? ⟨bk, ok + i * 9 + 5, none⟩ = some (.string nk.txt) ∧ wx.cell? ⟨bk, ok + i * 9 + 6, none⟩ = some (.slice nk.ab nk.lb nk.cb) ∧ wx.cell? ⟨bk, ok + i * 9 + 7, none⟩ = some (.slice nk.ak nk.lk nk.ck) ∧ wx.cell? ⟨bk, ok + i * 9 + 8, none⟩ = some (.slice nk.ai nk.li nk.ci)) ∧ (wx.cell? ⟨bi, oi + i * 9, none⟩ = some (.int .i64 ni.kind) ∧ wx.cell? ⟨bi, oi + i * 9 + 1, none⟩ = some (.int .u64 ni.num) ∧ wx.cell? ⟨bi, oi + i * 9 + 2, none⟩ = some (.bool ni.neg) ∧ wx.cell? ⟨bi, oi + i * 9 + 3, none⟩ = some (.string ni.dig) ∧ wx.cell? ⟨bi, oi + i * 9 + 4, none⟩ = some (.int .i64 ni.exp) ∧ wx.cell? ⟨bi, oi + i * 9 + 5, none⟩ = some (.string ni.txt) ∧ wx.cell? ⟨bi, oi + i * 9 + 6, none⟩ = some (.slice ni.ab ni.lb ni.cb) ∧ wx.cell? ⟨bi, oi + i * 9 + 7, none⟩ = some (.slice ni.ak ni.lk ni.ck) ∧ wx.cell? ⟨bi, oi + i * 9 + 8, none⟩ = some (.slice ni.ai ni.li ni.ci))) (first | exact hS.out _ hT.out.drew | exact hS.out _ T1.out) (first
              | (go_at_call 33; refine (k1 _ hT.out.drew.bel).mono ?_; rintro e w1 ⟨rfl, q1⟩; have T1 : Hid (Bo2 w w1 a b) := hT.out.drew.on q1; clear q1))
            go_wp2
            go_ret
            exact ⟨rfl, T1.out.bel⟩
        · have hz : ¬ (i : Int) < (a.li : Int) := by omega
          have ekids : Hid (t.kids = u.kids) := by
            show _ = _
            have h1 := hE.out
            rwa [List.take_of_length_le (by rw [hxi.out]; omega), List.take_of_length_le (by rw [hyi.out, ← hLi.out]; omega)] at h1
          have hvt : v = true := hV.out.2 (hEq.out.2 ⟨e0.out, e1.out, e2.out, e3.out, e4.out, e5.out, e6.out, ekeys.out, ekids.out⟩)
          subst hvt
          clear hE ih
          go_wp2
          go_ret
          exact ⟨rfl, hT.out.bel⟩
end Go.Proofs.YtnjbppfanmmifaaGreatDoor
namespace Go.Proofs.YtnjbppfanmmifaaGreatDoor
open Go.RowKit
set_option linter.unusedVariables false

theorem es_step {D : Nat} (ih : EsAt D) : EsAt (D + 1) := by
  intro t u a b w v hA hB hv
  by_cases h0 : a.kind = b.kind
  case neg => exact es_no0 t u a b w v hA hB hv h0
  by_cases h1 : a.num = b.num
  case neg => exact es_no1 t u a b w v hA hB hv h0 h1
  by_cases h2 : a.neg = b.neg
  case neg => exact es_no2 t u a b w v hA hB hv h0 h1 h2
  by_cases h3 : a.dig = b.dig
  case neg => exact es_no3 t u a b w v hA hB hv h0 h1 h2 h3
  by_cases h4 : a.exp = b.exp
  case neg => exact es_no4 t u a b w v hA hB hv h0 h1 h2 h3 h4
  by_cases h5 : a.txt = b.txt
  case neg => exact es_no5 t u a b w v hA hB hv h0 h1 h2 h3 h4 h5
  by_cases h6 : t.bytes = u.bytes
  case neg => exact es_no6 t u a b w v hA hB hv h0 h1 h2 h3 h4 h5 h6
  by_cases h7 : a.lk = b.lk
  case neg => exact es_no7 t u a b w v hA hB hv h0 h1 h2 h3 h4 h5 h6 h7
  by_cases h8 : a.li = b.li
  case neg => exact es_no8 t u a b w v hA hB hv h0 h1 h2 h3 h4 h5 h6 h7 h8
  exact es_eq ih t u a b w v hA hB hv h0 h1 h2 h3 h4 h5 h6 h7 h8

theorem es_all : ∀ D, EsAt D := by
  intro D
  induction D with
  | zero => intro t u a b w v h; exact absurd h id
  | succ D ih => exact es_step ih
/-- The document's same. -/
theorem esam_any {D E : Nat} {t u : Tr} {a b : Nb} {w : World} {v : Bool} (hA : Nd D w a t) (hB : Nd E w b u) (hv : v = true ↔ t = u) : Calls Tryz.prog 33 #[.agg a.arr, .agg b.arr] w fun e w' => e = .returned (.bool v) ∧ Below w.heap.size w w' :=
  es_all (max D E) t u a b w v (hA.le (Nat.le_max_left _ _)) (hB.le (Nat.le_max_right _ _)) hv
end Go.Proofs.YtnjbppfanmmifaaGreatDoor
namespace Go.Proofs.YtnjbppfanmmifaaGreatDoor
open Go.RowKit
set_option linter.unusedVariables false
set_option maxHeartbeats 1000000 in
theorem efew_any {D : Nat} {t : Tr} {b : Nb} {w : World} (hN : Nd D w b t) : Calls Tryz.prog 32 #[.agg b.arr] w fun e w' => e = .returned (.bool (decide (t.size ≤ 1024))) ∧ Below w.heap.size w w' := by
  have hal := alloc_below w (.cells b.arr 26)
  have km := left_all D t b _ 1024 (hN.kept hal) (by omega) (by omega)
  have hB : Hid (Below w.heap.size w (w.alloc (.cells b.arr 26))) := hal
  obtain ⟨c0, c1, c2, c3, c4, c5, c6, c7, c8⟩ := (nbox_new w b).fields
  rw [← Tr.lft_few]
  generalize Tr.lft 1024 t.size = S at *
  clear hal hN
  go_enter Tryz.func32, Tryz.ntmps32
  go_wp2_with (go_at_call 46; refine km.mono ?_; rintro e w1 ⟨rfl, hb⟩)
  go_ret
  exact ⟨rfl, hB.out.trans (hb.mono hB.out.size)⟩
set_option maxHeartbeats 2000000 in
theorem esame_any {D E : Nat} {t u : Tr} {a b : Nb} {w : World} {v : Bool} (hA : Nd D w a t) (hB : Nd E w b u) (hv : v = true ↔ t.size ≤ 1024 ∧ u.size ≤ 1024 ∧ t = u) : Calls Tryz.prog 19 #[.agg a.arr, .agg b.arr] w fun e w' => e = .returned (.bool v) ∧ Below w.heap.size w w' := by
  have hal := alloc_below w (.cells a.arr 26)
  have hal2 := alloc_below (w.alloc (.cells a.arr 26)) (.cells b.arr 26)
  have hb2 : Hid (Below w.heap.size w ((w.alloc (.cells a.arr 26)).alloc (.cells b.arr 26))) := hal.trans (hal2.mono hal.size)
  have hs2 : Hid (w.heap.size ≤ ((w.alloc (.cells a.arr 26)).alloc (.cells b.arr 26)).heap.size) := Nat.le_trans hal.size hal2.size
  have boxA := (nbox_new w a).kept hal2 (by simp)
  have boxB := nbox_new (w.alloc (.cells a.arr 26)) b
  have s1 : (w.alloc (.cells a.arr 26)).heap.size = w.heap.size + 1 := by simp
  rw [s1] at boxB
  obtain ⟨a0, a1, a2, a3, a4, a5, a6, a7, a8⟩ := boxA.fields
  obtain ⟨b0, b1, b2, b3, b4, b5, b6, b7, b8⟩ := boxB.fields
  have hKa : Hid (NBox ((w.alloc (.cells a.arr 26)).alloc (.cells b.arr 26)) w.heap.size a) := boxA
  have hKb : Hid (NBox ((w.alloc (.cells a.arr 26)).alloc (.cells b.arr 26)) (w.heap.size + 1) b) := boxB
  have hsz : Hid (w.heap.size + 1 < ((w.alloc (.cells a.arr 26)).alloc (.cells b.arr 26)).heap.size) := by show _ < _; simp
  have kA : Hid (∀ w', Below w.heap.size w w' → Calls Tryz.prog 32 #[.agg a.arr] w' _) := fun w' h => efew_any (hA.kept h)
  have kB : Hid (∀ w', Below w.heap.size w w' → Calls Tryz.prog 32 #[.agg b.arr] w' _) := fun w' h => efew_any (hB.kept h)
  have k1 := kA.out _ hb2.out
  have kS : Hid (∀ (v' : Bool), (v' = true ↔ t = u) → ∀ w', Below w.heap.size w w' → Calls Tryz.prog 33 #[.agg a.arr, .agg b.arr] w' _) := fun v' h w' hb => esam_any (hA.kept hb) (hB.kept hb) h
  have hV : Hid (v = true ↔ t.size ≤ 1024 ∧ u.size ≤ 1024 ∧ t = u) := hv
  clear hal hal2 boxA boxB s1 hv hA hB
  by_cases hf : t.size ≤ 1024
  · rw [decide_eq_true hf] at k1
    by_cases hg : u.size ≤ 1024
    · rw [show decide (u.size ≤ 1024) = true from decide_eq_true hg] at kB
      have hv : v = true ↔ t = u := ⟨fun h => (hV.out.1 h).2.2, fun h => hV.out.2 ⟨hf, hg, h⟩⟩
      have kS' := kS.out v hv
      clear hf hg hv kS
      go_enter Tryz.func19, Tryz.ntmps19
      go_wp2_with (first
        | (go_at_call 32; refine k1.mono ?_; rintro e w1 ⟨rfl, hb1⟩; clear k1; have hbw := hb2.out.trans (hb1.mono hs2.out); have q2 := hKb.out.kept hb1 hsz.out; have q1 := hKa.out.kept hb1 (Nat.lt_of_le_of_lt (Nat.le_succ _) hsz.out); obtain ⟨c0, c1, c2, c3, c4, c5, c6, c7, c8⟩ := q1.fields; obtain ⟨d0, d1, d2, d3, d4, d5, d6, d7, d8⟩ := q2.fields; have k2 := kB.out w1 hbw)
        | (go_at_call 32; refine k2.mono ?_; rintro e w2 ⟨rfl, hb3⟩; clear k2; have hbw2 := hbw.trans (hb3.mono hbw.size); obtain ⟨g0, g1, g2, g3, g4, g5, g6, g7, g8⟩ := (q1.kept hb3 q1.lt).fields; obtain ⟨h0, h1, h2, h3, h4, h5, h6, h7, h8⟩ := (q2.kept hb3 q2.lt).fields; have k3 := kS' w2 hbw2)
        | (go_at_call 33; refine k3.mono ?_; rintro e w3 ⟨rfl, hb4⟩))
      go_ret
      exact ⟨rfl, hbw2.trans (hb4.mono hbw2.size)⟩
    · rw [show decide (u.size ≤ 1024) = false from decide_eq_false hg] at kB
      have hv : v = false := not_true hV.out fun h => hg h.2.1
      subst hv
      clear hf hg kS
      go_enter Tryz.func19, Tryz.ntmps19
      go_wp2_with (first
        | (go_at_call 32; refine k1.mono ?_; rintro e w1 ⟨rfl, hb1⟩; clear k1; have hbw := hb2.out.trans (hb1.mono hs2.out); have q2 := hKb.out.kept hb1 hsz.out; obtain ⟨d0, d1, d2, d3, d4, d5, d6, d7, d8⟩ := q2.fields; have k2 := kB.out w1 hbw)
        | (go_at_call 32; refine k2.mono ?_; rintro e w2 ⟨rfl, hb3⟩))
      go_ret
      exact ⟨rfl, hbw.trans (hb3.mono hbw.size)⟩
  · rw [decide_eq_false hf] at k1
    have hv : v = false := not_true hV.out fun h => hf h.1
    subst hv
    clear hf kS kB
    go_enter Tryz.func19, Tryz.ntmps19
    go_wp2_with (go_at_call 32; refine k1.mono ?_; rintro e w1 ⟨rfl, hb1⟩)
    go_ret
    exact ⟨rfl, hb2.out.trans (hb1.mono hs2.out)⟩

end Go.Proofs.YtnjbppfanmmifaaGreatDoor
namespace Go.Proofs.YtnjbppfanmmifaaGreatDoor
open Go.RowKit
set_option linter.unusedVariables false
set_option maxHeartbeats 4000000 in
set_option maxRecDepth 100000 in
theorem wcbehind (a a' : Option Addr) (n c n' c' : Nat) (zs ys : List Int) (w : World) {L : Nat} (hl : zs.length = n) (hb : Bytes w a zs) (hc : n ≤ c ∧ c ≤ maxLen ∧ (a = none → c = 0)) (hl' : ys.length = n') (hb' : Bytes w a' ys) (hc' : n' ≤ c' ∧ c' ≤ maxLen ∧ (a' = none → c' = 0)) (hs : n ≤ 140737488351232 ∧ n' ≤ 140737488351232) (hLw : Lw L w) (hL : L ≤ w.heap.size) : Calls Tryz.prog 6 #[.slice a n c, .slice a' n' c'] w fun e w' => e = .returned (.bool true) ∧ Below w.heap.size w w' := by
  have k1 := citem_any a n c zs 0 w hl hb hc hLw hL
  have kA : Hid (∀ wx, Below w.heap.size w wx → Calls Tryz.prog 20 #[] wx fun e w' => e = .returned (.bool true) ∧ Below wx.heap.size wx w') := fun wx hx => calive_any wx (hLw.on (hx.mono hL)) (Nat.le_trans hL hx.size)
  have hE := fun f => @itm_err zs 0 f
  have hO := fun t r => @itm_ok zs 0 t r
  have hH := fun t r => @itm_behind zs ys t r
  have hMay := fun t r (e : itmA zs 0 = .inr (t, r)) => (itm_may hb.1 e).2.2
  have kI : Hid (∀ wx b m d us, us.length = m → Bytes wx b us → (m ≤ d ∧ d ≤ maxLen ∧ (b = none → d = 0)) → Below w.heap.size w wx → Calls Tryz.prog 21 #[.slice b m d, .int .i64 0] wx fun e w' => ItemIs wx w' e (itmA us 0)) := fun wx b m d us h1 h2 h3 hx => citem_any b m d us 0 wx h1 h2 h3 (hLw.on (hx.mono hL)) (Nat.le_trans hL hx.size)
  have wn : IntKind.i64.wrap ((n : Int) + (n' : Int)) = (n : Int) + (n' : Int) := by rw [IntKind.wrap_i64]; omega
  unfold ItemIs at k1
  generalize hRR : itmA zs 0 = R at *
  cases R with
  | inl f =>
    have hf := (hE f rfl).1
    have gf : (f.1 == 0) = false := by simpa using hf
    simp only at k1
    unfold zN Nb.arr at k1
    simp only at k1
    clear hE hO hH kI hf hl hb hc hl' hb' hc' hLw hL hMay hs hRR
    go_enter Tryz.func6, Tryz.ntmps6
    go_wp2_with (first
      | (go_at_call 21; refine k1.mono ?_; rintro e x1 ⟨rfl, hb1⟩; have b1 : Hid (Below w.heap.size w ((x1.alloc (.cells #[.int .i64 0, .int .u64 0, .bool false, .string ⟨#[]⟩, .int .i64 0, .string ⟨#[]⟩, .slice none 0 0, .slice none 0 0, .slice none 0 0] 26)).alloc (.cells #[.int .i64 f.1, .int .i64 (f.2 : Nat)] 29))) := hb1.trans ((bal2 x1 _ _).mono hb1.size); clear k1)
      | (go_at_call 20; refine (kA.out _ b1.out).mono ?_; rintro e x2 ⟨rfl, hb2⟩))
    go_ret
    exact ⟨rfl, b1.out.trans (hb2.mono b1.out.size)⟩
  | inr tr =>
    obtain ⟨t, r⟩ := tr
    simp only at k1
    obtain ⟨h4, _, _, hr0, hrn, _⟩ := hO t r rfl
    by_cases hbig : 4096 < n + n'
    · have g0 : decide ((4096 : Int) < (n : Int) + (n' : Int)) = true := by simp; omega
      unfold Nb.arr at k1
      clear hE hO hH kI hl hb hc hl' hb' hc' hLw hL hMay hs hRR h4 hr0 hrn hbig
      go_enter Tryz.func6, Tryz.ntmps6
      go_wp2_with (first
        | (go_at_call 21; refine k1.mono ?_; rintro e x1 ⟨⟨nb, he1, hn1⟩, hb1⟩; subst he1; have b1 : Hid (Below w.heap.size w ((x1.alloc (.cells #[.int .i64 nb.kind, .int .u64 nb.num, .bool nb.neg, .string nb.dig, .int .i64 nb.exp, .string nb.txt, .slice nb.ab nb.lb nb.cb, .slice nb.ak nb.lk nb.ck, .slice nb.ai nb.li nb.ci] 26)).alloc (.cells #[.int .i64 0, .int .i64 0] 29))) := hb1.trans ((bal2 x1 _ _).mono hb1.size); clear k1 hn1 hb1)
        | (go_at_call 20; refine (kA.out _ b1.out).mono ?_; rintro e x2 ⟨rfl, hb2⟩))
      go_ret
      exact ⟨rfl, b1.out.trans (hb2.mono b1.out.size)⟩
    · have g0 : decide ((4096 : Int) < (n : Int) + (n' : Int)) = false := by simp; omega
      have g1 : decide ((r : Int) < 1) = false := by simp; omega
      have g1' : decide (r < 1) = false := by simp; omega
      have g2 : decide ((n : Int) < (r : Int)) = false := by simp; omega
      have g2' : decide (n < r) = false := by simp; omega
      have hrc : r ≤ c := by omega
      have hBe : Hid (itmA (zs.take r ++ ys) 0 = .inr (t, r)) := hH t r rfl (by omega)
      have hsz : Hid (t.size ≤ 1024) := hMay t r rfl
      have hT : Hid ((zs.take r).length = r ∧ r ≤ 4096 ∧ n' ≤ 4096 ∧ ys.length = n') := ⟨by rw [List.length_take]; omega, by omega, by omega, hl'⟩
      have hBB : Hid (Bytes w a (zs.take r) ∧ (a = none → c = 0)) := ⟨hb.take r, hc.2.2⟩
      have hBC : Hid (Bytes w a' ys ∧ (a' = none → c' = 0)) := ⟨hb', hc'.2.2⟩
      unfold Nb.arr at k1
      clear hE hO hH hl hb hc hl' hb' hc' hLw hL hMay hs hRR h4 hr0 hrn hbig
      go_enter Tryz.func6, Tryz.ntmps6
      go_wp2_with (first
        | (go_at_call 21; refine k1.mono ?_; rintro e x1 ⟨⟨nb, he1, hn1⟩, hb1⟩; subst he1; have b1 : Hid (Below w.heap.size w ((x1.alloc (.cells #[.int .i64 nb.kind, .int .u64 nb.num, .bool nb.neg, .string nb.dig, .int .i64 nb.exp, .string nb.txt, .slice nb.ab nb.lb nb.cb, .slice nb.ak nb.lk nb.ck, .slice nb.ai nb.li nb.ci] 26)).alloc (.cells #[.int .i64 0, .int .i64 0] 29))) := hb1.trans ((bal2 x1 _ _).mono hb1.size); have N1 : Hid (Nd 26 ((x1.alloc (.cells #[.int .i64 nb.kind, .int .u64 nb.num, .bool nb.neg, .string nb.dig, .int .i64 nb.exp, .string nb.txt, .slice nb.ab nb.lb nb.cb, .slice nb.ak nb.lk nb.ck, .slice nb.ai nb.li nb.ci] 26)).alloc (.cells #[.int .i64 0, .int .i64 0] 29)) nb t) := hn1.nd.kept (bal2 x1 _ _); have NN : Hid (NBox ((x1.alloc (.cells #[.int .i64 nb.kind, .int .u64 nb.num, .bool nb.neg, .string nb.dig, .int .i64 nb.exp, .string nb.txt, .slice nb.ab nb.lb nb.cb, .slice nb.ak nb.lk nb.ck, .slice nb.ai nb.li nb.ci] 26)).alloc (.cells #[.int .i64 0, .int .i64 0] 29)) x1.heap.size nb) := (nbox_new x1 nb).kept (alloc_below _ _) (nbox_new x1 nb).lt; clear k1 hn1 hb1)
        | (at_builtin; guard_hyp hBB; refine wpList_append_bytes rfl _ _ rfl ((x1.alloc (.cells #[.int .i64 nb.kind, .int .u64 nb.num, .bool nb.neg, .string nb.dig, .int .i64 nb.exp, .string nb.txt, .slice nb.ab nb.lb nb.cb, .slice nb.ak nb.lk nb.ck, .slice nb.ai nb.li nb.ci] 26)).alloc (.cells #[.int .i64 0, .int .i64 0] 29)).heap.size (.slice none 0 0) [] (zs.take r) rfl (ownsB_nil _ _) a r c rfl hT.out.1 hBB.out.2 (hBB.out.1.kept b1.out) (by have := hT.out; simp; omega) (Nat.le_refl _) ?_; intro v3 x3 hO3 hg3; have b3 : Hid (Below ((x1.alloc (.cells #[.int .i64 nb.kind, .int .u64 nb.num, .bool nb.neg, .string nb.dig, .int .i64 nb.exp, .string nb.txt, .slice nb.ab nb.lb nb.cb, .slice nb.ak nb.lk nb.ck, .slice nb.ai nb.li nb.ci] 26)).alloc (.cells #[.int .i64 0, .int .i64 0] 29)).heap.size ((x1.alloc (.cells #[.int .i64 nb.kind, .int .u64 nb.num, .bool nb.neg, .string nb.dig, .int .i64 nb.exp, .string nb.txt, .slice nb.ab nb.lb nb.cb, .slice nb.ak nb.lk nb.ck, .slice nb.ai nb.li nb.ci] 26)).alloc (.cells #[.int .i64 0, .int .i64 0] 29)) x3) := grown_below (Below.refl _ _) (ownsB_nil ((x1.alloc (.cells #[.int .i64 nb.kind, .int .u64 nb.num, .bool nb.neg, .string nb.dig, .int .i64 nb.exp, .string nb.txt, .slice nb.ab nb.lb nb.cb, .slice nb.ak nb.lk nb.ck, .slice nb.ai nb.li nb.ci] 26)).alloc (.cells #[.int .i64 0, .int .i64 0] 29)) ((x1.alloc (.cells #[.int .i64 nb.kind, .int .u64 nb.num, .bool nb.neg, .string nb.dig, .int .i64 nb.exp, .string nb.txt, .slice nb.ab nb.lb nb.cb, .slice nb.ak nb.lk nb.ck, .slice nb.ai nb.li nb.ci] 26)).alloc (.cells #[.int .i64 0, .int .i64 0] 29)).heap.size) hg3 (Nat.le_refl _); have O3 : Hid (OwnsB x3 ((x1.alloc (.cells #[.int .i64 nb.kind, .int .u64 nb.num, .bool nb.neg, .string nb.dig, .int .i64 nb.exp, .string nb.txt, .slice nb.ab nb.lb nb.cb, .slice nb.ak nb.lk nb.ck, .slice nb.ai nb.li nb.ci] 26)).alloc (.cells #[.int .i64 0, .int .i64 0] 29)).heap.size v3 (zs.take r)) := hO3; clear hO3 hg3 hBB)
        | (at_builtin; guard_hyp O3; refine wpList_append_bytes rfl _ _ rfl ((x1.alloc (.cells #[.int .i64 nb.kind, .int .u64 nb.num, .bool nb.neg, .string nb.dig, .int .i64 nb.exp, .string nb.txt, .slice nb.ab nb.lb nb.cb, .slice nb.ak nb.lk nb.ck, .slice nb.ai nb.li nb.ci] 26)).alloc (.cells #[.int .i64 0, .int .i64 0] 29)).heap.size v3 (zs.take r) ys rfl O3.out a' n' c' rfl hT.out.2.2.2 hBC.out.2 (hBC.out.1.kept (b1.out.trans (b3.out.mono b1.out.size))) (by have := hT.out; omega) b3.out.size ?_; intro v4 x4 hO4 hg4; have b4 : Hid (Below ((x1.alloc (.cells #[.int .i64 nb.kind, .int .u64 nb.num, .bool nb.neg, .string nb.dig, .int .i64 nb.exp, .string nb.txt, .slice nb.ab nb.lb nb.cb, .slice nb.ak nb.lk nb.ck, .slice nb.ai nb.li nb.ci] 26)).alloc (.cells #[.int .i64 0, .int .i64 0] 29)).heap.size ((x1.alloc (.cells #[.int .i64 nb.kind, .int .u64 nb.num, .bool nb.neg, .string nb.dig, .int .i64 nb.exp, .string nb.txt, .slice nb.ab nb.lb nb.cb, .slice nb.ak nb.lk nb.ck, .slice nb.ai nb.li nb.ci] 26)).alloc (.cells #[.int .i64 0, .int .i64 0] 29)) x4) := grown_below b3.out O3.out hg4 b3.out.size; obtain ⟨a4, m4, c4, rfl, hl4, hn4, hc4, hm4, hB4⟩ := hO4.form; have k4 := kI.out x4 a4 m4 c4 (zs.take r ++ ys) hl4.out hB4.out ⟨hc4, hm4, hn4.out⟩ (b1.out.trans (b4.out.mono b1.out.size)); rw [hBe.out] at k4; unfold ItemIs at k4; simp only at k4; unfold Nb.arr at k4; clear hO4 hg4 O3 b3 hBC))
      refine k4.mono ?_
      rintro e x5 ⟨⟨mb, he5, hn5⟩, hb5⟩
      subst he5
      have c5 : Below ((x1.alloc (.cells #[.int .i64 nb.kind, .int .u64 nb.num, .bool nb.neg, .string nb.dig, .int .i64 nb.exp, .string nb.txt, .slice nb.ab nb.lb nb.cb, .slice nb.ak nb.lk nb.ck, .slice nb.ai nb.li nb.ci] 26)).alloc (.cells #[.int .i64 0, .int .i64 0] 29)).heap.size ((x1.alloc (.cells #[.int .i64 nb.kind, .int .u64 nb.num, .bool nb.neg, .string nb.dig, .int .i64 nb.exp, .string nb.txt, .slice nb.ab nb.lb nb.cb, .slice nb.ak nb.lk nb.ck, .slice nb.ai nb.li nb.ci] 26)).alloc (.cells #[.int .i64 0, .int .i64 0] 29)) x5 := b4.out.trans (hb5.mono b4.out.size)
      have c6 : Below ((x1.alloc (.cells #[.int .i64 nb.kind, .int .u64 nb.num, .bool nb.neg, .string nb.dig, .int .i64 nb.exp, .string nb.txt, .slice nb.ab nb.lb nb.cb, .slice nb.ak nb.lk nb.ck, .slice nb.ai nb.li nb.ci] 26)).alloc (.cells #[.int .i64 0, .int .i64 0] 29)).heap.size ((x1.alloc (.cells #[.int .i64 nb.kind, .int .u64 nb.num, .bool nb.neg, .string nb.dig, .int .i64 nb.exp, .string nb.txt, .slice nb.ab nb.lb nb.cb, .slice nb.ak nb.lk nb.ck, .slice nb.ai nb.li nb.ci] 26)).alloc (.cells #[.int .i64 0, .int .i64 0] 29)) ((x5.alloc (.cells #[.int .i64 mb.kind, .int .u64 mb.num, .bool mb.neg, .string mb.dig, .int .i64 mb.exp, .string mb.txt, .slice mb.ab mb.lb mb.cb, .slice mb.ak mb.lk mb.ck, .slice mb.ai mb.li mb.ci] 26)).alloc (.cells #[.int .i64 0, .int .i64 0] 29)) := c5.trans ((bal2 x5 _ _).mono c5.size)
      have kS := esame_any (a := nb) (b := mb) (v := true) (N1.out.kept c6) (hn5.nd.kept (bal2 x5 (.cells #[.int .i64 mb.kind, .int .u64 mb.num, .bool mb.neg, .string mb.dig, .int .i64 mb.exp, .string mb.txt, .slice mb.ab mb.lb mb.cb, .slice mb.ak mb.lk mb.ck, .slice mb.ai mb.li mb.ci] 26) (.cells #[.int .i64 0, .int .i64 0] 29))) (by have := hsz.out; simp [this])
      obtain ⟨n0, n1, n2, n3, n4, n5, n6, n7, n8⟩ := (NN.out.kept c6 NN.out.lt).fields
      have b6 : Hid (Below w.heap.size w ((x5.alloc (.cells #[.int .i64 mb.kind, .int .u64 mb.num, .bool mb.neg, .string mb.dig, .int .i64 mb.exp, .string mb.txt, .slice mb.ab mb.lb mb.cb, .slice mb.ak mb.lk mb.ck, .slice mb.ai mb.li mb.ci] 26)).alloc (.cells #[.int .i64 0, .int .i64 0] 29))) := b1.out.trans (c6.mono b1.out.size)
      unfold Nb.arr at kS
      clear k4 hn5 hb5 c5 c6 N1 NN b4 b1
      go_wp2_with (first
        | (go_at_call 19; refine kS.mono ?_; rintro e x7 ⟨rfl, hb7⟩; have b7 : Hid (Below w.heap.size w x7) := b6.out.trans (hb7.mono b6.out.size); clear hb7 kS)
        | (go_at_call 20; refine (kA.out _ b7.out).mono ?_; rintro e x8 ⟨rfl, hb8⟩))
      go_ret
      exact ⟨rfl, b7.out.trans (hb8.mono b7.out.size)⟩
end Go.Proofs.YtnjbppfanmmifaaGreatDoor
namespace Go.Proofs.YtnjbppfanmmifaaGreatDoor
open Go.RowKit
set_option linter.unusedVariables false
def twoN (g : Nat) : Nb := ⟨7, 0, false, ⟨#[]⟩, 0, ⟨#[]⟩, none, 0, 0, none, 0, 0, some ⟨g, 0, none⟩, 2, 2⟩
theorem nd_two {W7 : World} {D1 D2 : Nat} {b1 b2 : Nb} {t1 t2 : Tr} (h1 : Nd D1 W7 b1 t1) (h2 : Nd D2 W7 b2 t2) : Nd (max D1 D2 + 1) ((W7.alloc (.cells #[.int .i64 b1.kind, .int .u64 b1.num, .bool b1.neg, .string b1.dig, .int .i64 b1.exp, .string b1.txt, .slice b1.ab b1.lb b1.cb, .slice b1.ak b1.lk b1.ck, .slice b1.ai b1.li b1.ci, .int .i64 b2.kind, .int .u64 b2.num, .bool b2.neg, .string b2.dig, .int .i64 b2.exp, .string b2.txt, .slice b2.ab b2.lb b2.cb, .slice b2.ak b2.lk b2.ck, .slice b2.ai b2.li b2.ci] 26)).alloc (.cells #[.int .i64 7, .int .u64 0, .bool false, .string ⟨#[]⟩, .int .i64 0, .string ⟨#[]⟩, .slice none 0 0, .slice none 0 0, .slice (some ⟨W7.heap.size, 0, none⟩) 2 2] 26)) (twoN W7.heap.size) (arrT [t1, t2]) := by
  have A1 := alloc_below W7 (.cells #[.int .i64 b1.kind, .int .u64 b1.num, .bool b1.neg, .string b1.dig, .int .i64 b1.exp, .string b1.txt, .slice b1.ab b1.lb b1.cb, .slice b1.ak b1.lk b1.ck, .slice b1.ai b1.li b1.ci, .int .i64 b2.kind, .int .u64 b2.num, .bool b2.neg, .string b2.dig, .int .i64 b2.exp, .string b2.txt, .slice b2.ab b2.lb b2.cb, .slice b2.ak b2.lk b2.ck, .slice b2.ai b2.li b2.ci] 26)
  have A2 := alloc_below (W7.alloc (.cells #[.int .i64 b1.kind, .int .u64 b1.num, .bool b1.neg, .string b1.dig, .int .i64 b1.exp, .string b1.txt, .slice b1.ab b1.lb b1.cb, .slice b1.ak b1.lk b1.ck, .slice b1.ai b1.li b1.ci, .int .i64 b2.kind, .int .u64 b2.num, .bool b2.neg, .string b2.dig, .int .i64 b2.exp, .string b2.txt, .slice b2.ab b2.lb b2.cb, .slice b2.ak b2.lk b2.ck, .slice b2.ai b2.li b2.ci] 26)) (.cells #[.int .i64 7, .int .u64 0, .bool false, .string ⟨#[]⟩, .int .i64 0, .string ⟨#[]⟩, .slice none 0 0, .slice none 0 0, .slice (some ⟨W7.heap.size, 0, none⟩) 2 2] 26)
  have A3 := A1.trans (A2.mono (by simp))
  have hc : ∀ j, ((W7.alloc (.cells #[.int .i64 b1.kind, .int .u64 b1.num, .bool b1.neg, .string b1.dig, .int .i64 b1.exp, .string b1.txt, .slice b1.ab b1.lb b1.cb, .slice b1.ak b1.lk b1.ck, .slice b1.ai b1.li b1.ci, .int .i64 b2.kind, .int .u64 b2.num, .bool b2.neg, .string b2.dig, .int .i64 b2.exp, .string b2.txt, .slice b2.ab b2.lb b2.cb, .slice b2.ak b2.lk b2.ck, .slice b2.ai b2.li b2.ci] 26)).alloc (.cells #[.int .i64 7, .int .u64 0, .bool false, .string ⟨#[]⟩, .int .i64 0, .string ⟨#[]⟩, .slice none 0 0, .slice none 0 0, .slice (some ⟨W7.heap.size, 0, none⟩) 2 2] 26)).cell? ⟨W7.heap.size, j, none⟩ = (#[.int .i64 b1.kind, .int .u64 b1.num, .bool b1.neg, .string b1.dig, .int .i64 b1.exp, .string b1.txt, .slice b1.ab b1.lb b1.cb, .slice b1.ak b1.lk b1.ck, .slice b1.ai b1.li b1.ci, .int .i64 b2.kind, .int .u64 b2.num, .bool b2.neg, .string b2.dig, .int .i64 b2.exp, .string b2.txt, .slice b2.ab b2.lb b2.cb, .slice b2.ak b2.lk b2.ck, .slice b2.ai b2.li b2.ci] : Array Value)[j]? := fun j => by
    rw [A2.cell (p := ⟨W7.heap.size, j, none⟩) (by simp)]
    exact cell_row (heap_alloc_new W7 _) j
  refine ⟨⟨rfl, rfl, rfl, rfl, rfl, rfl⟩, ⟨by show (Lit.int .i64 7).wf = true; decide, by show (Lit.int .u64 0).wf = true; decide, by show (Lit.int .i64 0).wf = true; decide, by show (0 : Nat) ≤ _; omega, by show (0 : Nat) ≤ _; omega⟩, ⟨rfl, room_nil _, bytes_nil _⟩, rowN_nil _ _, rfl, ⟨Nat.le_refl _, by show (2 : Nat) ≤ maxLen; decide, fun h => by simp [twoN] at h, by show 2 * 136 ≤ _; omega⟩, .inr ⟨W7.heap.size, 0, rfl, fun i hi => ?_⟩⟩
  have hi2 : i < 2 := hi
  rcases i with _ | _ | i
  · refine ⟨b1, fun j hj => ?_, (h1.kept A3).le (by omega)⟩
    rw [hc]
    rcases j with _ | _ | _ | _ | _ | _ | _ | _ | _ | j
    all_goals first | rfl | omega
  · refine ⟨b2, fun j hj => ?_, (h2.kept A3).le (by omega)⟩
    rw [hc]
    rcases j with _ | _ | _ | _ | _ | _ | _ | _ | _ | j
    all_goals first | rfl | omega
  · omega
theorem ownsB_one (w : World) {c : Int} (h : 0 ≤ c ∧ c < 256) : OwnsB (w.alloc (.cells #[.int .u8 c] 5)) w.heap.size (.slice (some ⟨w.heap.size, 0, none⟩) 1 1) [c] :=
  ⟨⟨rfl, Or.inr ⟨w.heap.size, 1, #[.int .u8 c], rfl, Nat.le_refl _, heap_alloc_new w _, Nat.le_refl _, by decide, rfl, rfl⟩⟩, fun x hx => by rw [List.mem_singleton.1 hx]; exact h⟩
set_option maxHeartbeats 8000000 in
set_option maxRecDepth 100000 in
theorem wlist_a (a : Option Addr) (n c : Nat) (zs : List Int) (a' : Option Addr) (n' c' : Nat) (ys : List Int) (w : World) {L : Nat} (hl : zs.length = n) (hb : Bytes w a zs) (hc : n ≤ c ∧ c ≤ maxLen ∧ (a = none → c = 0)) (hl' : ys.length = n') (hb' : Bytes w a' ys) (hc' : n' ≤ c' ∧ c' ≤ maxLen ∧ (a' = none → c' = 0)) (hs : n ≤ 140737488351232 ∧ n' ≤ 140737488351232) (hLw : Lw L w) (hL : L ≤ w.heap.size) {f : Int × Nat} (e1 : dcdA zs = .inl f) : Calls Tryz.prog 8 #[.slice a n c, .slice a' n' c'] w fun e w' => e = .returned (.bool true) ∧ Below w.heap.size w w' := by
  have kD : Hid (∀ wx b m d us, us.length = m → Bytes wx b us → (m ≤ d ∧ d ≤ maxLen ∧ (b = none → d = 0)) → Below w.heap.size w wx → Calls Tryz.prog 17 #[.slice b m d] wx fun e w' => DcdIs wx w' e (dcdA us)) := fun wx b m d us h1 h2 h3 hx => decode_any b m d us wx h1 h2 h3 (hLw.on (hx.mono hL)) (Nat.le_trans hL hx.size)
  have kA : Hid (∀ wx, Below w.heap.size w wx → Calls Tryz.prog 20 #[] wx fun e w' => e = .returned (.bool true) ∧ Below wx.heap.size wx w') := fun wx hx => calive_any wx (hLw.on (hx.mono hL)) (Nat.le_trans hL hx.size)
  have k1 := kD.out w a n c zs hl hb hc (Below.refl _ _)
  have k2 : Hid (∀ wx, Below w.heap.size w wx → Calls Tryz.prog 17 #[.slice a' n' c'] wx fun e w' => DcdIs wx w' e (dcdA ys)) := fun wx hx => kD.out wx a' n' c' ys hl' (hb'.kept hx) hc' hx
  have wn : IntKind.i64.wrap ((n : Int) + (n' : Int)) = (n : Int) + (n' : Int) := by rw [IntKind.wrap_i64]; omega
  have gf : (f.1 == 0) = false := by simpa using (dcd_err e1).1
  rw [e1] at k1
  unfold DcdIs at k1
  simp only at k1
  have k2' : Hid (∀ wx, Below w.heap.size w wx → Calls Tryz.prog 17 #[.slice a' n' c'] wx fun e w' => (∃ (mb : Nb) (p q : Int), e = .returned (.tuple #[.agg mb.arr, .agg #[.int .i64 p, .int .i64 q]])) ∧ Below wx.heap.size wx w') := fun wx hx => (k2.out wx hx).mono fun e w' h => by
    unfold DcdIs at h
    cases hR : dcdA ys with
    | inl g => rw [hR] at h; exact ⟨⟨zN, _, _, h.1⟩, h.2⟩
    | inr t => rw [hR] at h; obtain ⟨⟨mb, he, _⟩, hb⟩ := h; exact ⟨⟨mb, _, _, he⟩, hb⟩
  unfold zN Nb.arr at k1
  simp only at k1
  unfold Nb.arr at k2'
  clear k2 kD hl hb hc hl' hb' hc' hs hLw hL e1
  go_enter Tryz.func8, Tryz.ntmps8
  go_wp2_with (go_at_call 17; refine k1.mono ?_; rintro e x1 ⟨rfl, hb1⟩; have b1 : Hid (Below w.heap.size w ((x1.alloc (.cells #[.int .i64 0, .int .u64 0, .bool false, .string ⟨#[]⟩, .int .i64 0, .string ⟨#[]⟩, .slice none 0 0, .slice none 0 0, .slice none 0 0] 26)).alloc (.cells #[.int .i64 f.1, .int .i64 (f.2 : Nat)] 29))) := hb1.trans ((bal2 x1 _ _).mono hb1.size); have FF : Hid (Blk ((x1.alloc (.cells #[.int .i64 0, .int .u64 0, .bool false, .string ⟨#[]⟩, .int .i64 0, .string ⟨#[]⟩, .slice none 0 0, .slice none 0 0, .slice none 0 0] 26)).alloc (.cells #[.int .i64 f.1, .int .i64 (f.2 : Nat)] 29)) (x1.heap.size + 1) #[.int .i64 f.1, .int .i64 (f.2 : Nat)] 29) := box_two x1 _ _; clear k1 hb1)
  refine (k2'.out _ b1.out).mono ?_
  rintro e x2 ⟨⟨mb, p, q, rfl⟩, hb2⟩
  have b2 : Hid (Below w.heap.size w ((x2.alloc (.cells #[.int .i64 mb.kind, .int .u64 mb.num, .bool mb.neg, .string mb.dig, .int .i64 mb.exp, .string mb.txt, .slice mb.ab mb.lb mb.cb, .slice mb.ak mb.lk mb.ck, .slice mb.ai mb.li mb.ci] 26)).alloc (.cells #[.int .i64 p, .int .i64 q] 29))) := (b1.out.trans (hb2.mono b1.out.size)).trans ((bal2 x2 _ _).mono (b1.out.trans (hb2.mono b1.out.size)).size)
  have F2 := Blk.kept FF.out (hb2.trans ((bal2 x2 (.cells #[.int .i64 mb.kind, .int .u64 mb.num, .bool mb.neg, .string mb.dig, .int .i64 mb.exp, .string mb.txt, .slice mb.ab mb.lb mb.cb, .slice mb.ak mb.lk mb.ck, .slice mb.ai mb.li mb.ci] 26) (.cells #[.int .i64 p, .int .i64 q] 29)).mono hb2.size)) FF.out.lt
  have m0 : ((x2.alloc (.cells #[.int .i64 mb.kind, .int .u64 mb.num, .bool mb.neg, .string mb.dig, .int .i64 mb.exp, .string mb.txt, .slice mb.ab mb.lb mb.cb, .slice mb.ak mb.lk mb.ck, .slice mb.ai mb.li mb.ci] 26)).alloc (.cells #[.int .i64 p, .int .i64 q] 29)).cell? ⟨x1.heap.size + 1, 0, none⟩ = some (.int .i64 f.1) := F2.cell 0
  have m1 : ((x2.alloc (.cells #[.int .i64 mb.kind, .int .u64 mb.num, .bool mb.neg, .string mb.dig, .int .i64 mb.exp, .string mb.txt, .slice mb.ab mb.lb mb.cb, .slice mb.ak mb.lk mb.ck, .slice mb.ai mb.li mb.ci] 26)).alloc (.cells #[.int .i64 p, .int .i64 q] 29)).cell? ⟨x1.heap.size + 1, 1, none⟩ = some (.int .i64 (f.2 : Nat)) := F2.cell 1
  clear F2 FF hb2 b1
  go_wp2_with (go_at_call 20; refine (kA.out _ b2.out).mono ?_; rintro e x3 ⟨rfl, hb3⟩)
  go_ret
  exact ⟨rfl, b2.out.trans (hb3.mono b2.out.size)⟩
set_option maxHeartbeats 8000000 in
set_option maxRecDepth 100000 in
theorem wlist_b (a : Option Addr) (n c : Nat) (zs : List Int) (a' : Option Addr) (n' c' : Nat) (ys : List Int) (w : World) {L : Nat} (hl : zs.length = n) (hb : Bytes w a zs) (hc : n ≤ c ∧ c ≤ maxLen ∧ (a = none → c = 0)) (hl' : ys.length = n') (hb' : Bytes w a' ys) (hc' : n' ≤ c' ∧ c' ≤ maxLen ∧ (a' = none → c' = 0)) (hs : n ≤ 140737488351232 ∧ n' ≤ 140737488351232) (hLw : Lw L w) (hL : L ≤ w.heap.size) {t : Tr} {f : Int × Nat} (e1 : dcdA zs = .inr t) (e2 : dcdA ys = .inl f) : Calls Tryz.prog 8 #[.slice a n c, .slice a' n' c'] w fun e w' => e = .returned (.bool true) ∧ Below w.heap.size w w' := by
  have kD : Hid (∀ wx b m d us, us.length = m → Bytes wx b us → (m ≤ d ∧ d ≤ maxLen ∧ (b = none → d = 0)) → Below w.heap.size w wx → Calls Tryz.prog 17 #[.slice b m d] wx fun e w' => DcdIs wx w' e (dcdA us)) := fun wx b m d us h1 h2 h3 hx => decode_any b m d us wx h1 h2 h3 (hLw.on (hx.mono hL)) (Nat.le_trans hL hx.size)
  have kA : Hid (∀ wx, Below w.heap.size w wx → Calls Tryz.prog 20 #[] wx fun e w' => e = .returned (.bool true) ∧ Below wx.heap.size wx w') := fun wx hx => calive_any wx (hLw.on (hx.mono hL)) (Nat.le_trans hL hx.size)
  have k1 := kD.out w a n c zs hl hb hc (Below.refl _ _)
  have k2 : Hid (∀ wx, Below w.heap.size w wx → Calls Tryz.prog 17 #[.slice a' n' c'] wx fun e w' => DcdIs wx w' e (dcdA ys)) := fun wx hx => kD.out wx a' n' c' ys hl' (hb'.kept hx) hc' hx
  have wn : IntKind.i64.wrap ((n : Int) + (n' : Int)) = (n : Int) + (n' : Int) := by rw [IntKind.wrap_i64]; omega
  have gf : (f.1 == 0) = false := by simpa using (dcd_err e2).1
  rw [e1] at k1
  unfold DcdIs at k1
  simp only at k1
  unfold Nb.arr at k1
  rw [e2] at k2
  unfold DcdIs at k2
  unfold zN Nb.arr at k2
  simp only at k2
  clear kD hl hb hc hl' hb' hc' hs hLw hL e1 e2
  go_enter Tryz.func8, Tryz.ntmps8
  go_wp2_with (go_at_call 17; refine k1.mono ?_; rintro e x1 ⟨⟨nb, he1, hn1⟩, hb1⟩; subst he1; have b1 : Hid (Below w.heap.size w ((x1.alloc (.cells #[.int .i64 nb.kind, .int .u64 nb.num, .bool nb.neg, .string nb.dig, .int .i64 nb.exp, .string nb.txt, .slice nb.ab nb.lb nb.cb, .slice nb.ak nb.lk nb.ck, .slice nb.ai nb.li nb.ci] 26)).alloc (.cells #[.int .i64 0, .int .i64 0] 29))) := hb1.trans ((bal2 x1 _ _).mono hb1.size); have N1 : Hid (Nd 26 ((x1.alloc (.cells #[.int .i64 nb.kind, .int .u64 nb.num, .bool nb.neg, .string nb.dig, .int .i64 nb.exp, .string nb.txt, .slice nb.ab nb.lb nb.cb, .slice nb.ak nb.lk nb.ck, .slice nb.ai nb.li nb.ci] 26)).alloc (.cells #[.int .i64 0, .int .i64 0] 29)) nb t) := hn1.nd.kept (bal2 x1 _ _); have NN : Hid (NBox ((x1.alloc (.cells #[.int .i64 nb.kind, .int .u64 nb.num, .bool nb.neg, .string nb.dig, .int .i64 nb.exp, .string nb.txt, .slice nb.ab nb.lb nb.cb, .slice nb.ak nb.lk nb.ck, .slice nb.ai nb.li nb.ci] 26)).alloc (.cells #[.int .i64 0, .int .i64 0] 29)) x1.heap.size nb) := (nbox_new x1 nb).kept (alloc_below _ _) (nbox_new x1 nb).lt; have FF : Hid (Blk ((x1.alloc (.cells #[.int .i64 nb.kind, .int .u64 nb.num, .bool nb.neg, .string nb.dig, .int .i64 nb.exp, .string nb.txt, .slice nb.ab nb.lb nb.cb, .slice nb.ak nb.lk nb.ck, .slice nb.ai nb.li nb.ci] 26)).alloc (.cells #[.int .i64 0, .int .i64 0] 29)) (x1.heap.size + 1) #[.int .i64 0, .int .i64 0] 29) := box_two x1 _ _; clear k1 hn1 hb1)
  refine (k2.out _ b1.out).mono ?_
  rintro e x2 ⟨rfl, hb2⟩
  have b2 : Hid (Below w.heap.size w ((x2.alloc (.cells #[.int .i64 0, .int .u64 0, .bool false, .string ⟨#[]⟩, .int .i64 0, .string ⟨#[]⟩, .slice none 0 0, .slice none 0 0, .slice none 0 0] 26)).alloc (.cells #[.int .i64 f.1, .int .i64 (f.2 : Nat)] 29))) := (b1.out.trans (hb2.mono b1.out.size)).trans ((bal2 x2 _ _).mono (b1.out.trans (hb2.mono b1.out.size)).size)
  have F2 := Blk.kept FF.out (hb2.trans ((bal2 x2 (.cells #[.int .i64 0, .int .u64 0, .bool false, .string ⟨#[]⟩, .int .i64 0, .string ⟨#[]⟩, .slice none 0 0, .slice none 0 0, .slice none 0 0] 26) (.cells #[.int .i64 f.1, .int .i64 (f.2 : Nat)] 29)).mono hb2.size)) FF.out.lt
  have m0 : ((x2.alloc (.cells #[.int .i64 0, .int .u64 0, .bool false, .string ⟨#[]⟩, .int .i64 0, .string ⟨#[]⟩, .slice none 0 0, .slice none 0 0, .slice none 0 0] 26)).alloc (.cells #[.int .i64 f.1, .int .i64 (f.2 : Nat)] 29)).cell? ⟨x1.heap.size + 1, 0, none⟩ = some (.int .i64 0) := F2.cell 0
  have m1 : ((x2.alloc (.cells #[.int .i64 0, .int .u64 0, .bool false, .string ⟨#[]⟩, .int .i64 0, .string ⟨#[]⟩, .slice none 0 0, .slice none 0 0, .slice none 0 0] 26)).alloc (.cells #[.int .i64 f.1, .int .i64 (f.2 : Nat)] 29)).cell? ⟨x1.heap.size + 1, 1, none⟩ = some (.int .i64 0) := F2.cell 1
  clear F2 FF hb2 b1 N1 NN
  go_wp2_with (go_at_call 20; refine (kA.out _ b2.out).mono ?_; rintro e x3 ⟨rfl, hb3⟩)
  go_ret
  exact ⟨rfl, b2.out.trans (hb3.mono b2.out.size)⟩
set_option maxHeartbeats 8000000 in
set_option maxRecDepth 100000 in
theorem wlist_c (a : Option Addr) (n c : Nat) (zs : List Int) (a' : Option Addr) (n' c' : Nat) (ys : List Int) (w : World) {L : Nat} (hl : zs.length = n) (hb : Bytes w a zs) (hc : n ≤ c ∧ c ≤ maxLen ∧ (a = none → c = 0)) (hl' : ys.length = n') (hb' : Bytes w a' ys) (hc' : n' ≤ c' ∧ c' ≤ maxLen ∧ (a' = none → c' = 0)) (hs : n ≤ 140737488351232 ∧ n' ≤ 140737488351232) (hLw : Lw L w) (hL : L ≤ w.heap.size) {t u : Tr} (e1 : dcdA zs = .inr t) (e2 : dcdA ys = .inr u) (hbig : 4096 ≤ n + n') : Calls Tryz.prog 8 #[.slice a n c, .slice a' n' c'] w fun e w' => e = .returned (.bool true) ∧ Below w.heap.size w w' := by
  have kD : Hid (∀ wx b m d us, us.length = m → Bytes wx b us → (m ≤ d ∧ d ≤ maxLen ∧ (b = none → d = 0)) → Below w.heap.size w wx → Calls Tryz.prog 17 #[.slice b m d] wx fun e w' => DcdIs wx w' e (dcdA us)) := fun wx b m d us h1 h2 h3 hx => decode_any b m d us wx h1 h2 h3 (hLw.on (hx.mono hL)) (Nat.le_trans hL hx.size)
  have kA : Hid (∀ wx, Below w.heap.size w wx → Calls Tryz.prog 20 #[] wx fun e w' => e = .returned (.bool true) ∧ Below wx.heap.size wx w') := fun wx hx => calive_any wx (hLw.on (hx.mono hL)) (Nat.le_trans hL hx.size)
  have k1 := kD.out w a n c zs hl hb hc (Below.refl _ _)
  have k2 : Hid (∀ wx, Below w.heap.size w wx → Calls Tryz.prog 17 #[.slice a' n' c'] wx fun e w' => DcdIs wx w' e (dcdA ys)) := fun wx hx => kD.out wx a' n' c' ys hl' (hb'.kept hx) hc' hx
  have wn : IntKind.i64.wrap ((n : Int) + (n' : Int)) = (n : Int) + (n' : Int) := by rw [IntKind.wrap_i64]; omega
  rw [e1] at k1
  unfold DcdIs at k1
  simp only at k1
  unfold Nb.arr at k1
  rw [e2] at k2
  unfold DcdIs at k2
  simp only at k2
  unfold Nb.arr at k2
  have g0 : decide ((4096 : Int) ≤ (n : Int) + (n' : Int)) = true := by simp; omega
  clear kD hl hb hc hl' hb' hc' hs hLw hL e1 e2 hbig
  go_enter Tryz.func8, Tryz.ntmps8
  go_wp2_with (go_at_call 17; refine k1.mono ?_; rintro e x1 ⟨⟨nb, he1, hn1⟩, hb1⟩; subst he1; have b1 : Hid (Below w.heap.size w ((x1.alloc (.cells #[.int .i64 nb.kind, .int .u64 nb.num, .bool nb.neg, .string nb.dig, .int .i64 nb.exp, .string nb.txt, .slice nb.ab nb.lb nb.cb, .slice nb.ak nb.lk nb.ck, .slice nb.ai nb.li nb.ci] 26)).alloc (.cells #[.int .i64 0, .int .i64 0] 29))) := hb1.trans ((bal2 x1 _ _).mono hb1.size); have N1 : Hid (Nd 26 ((x1.alloc (.cells #[.int .i64 nb.kind, .int .u64 nb.num, .bool nb.neg, .string nb.dig, .int .i64 nb.exp, .string nb.txt, .slice nb.ab nb.lb nb.cb, .slice nb.ak nb.lk nb.ck, .slice nb.ai nb.li nb.ci] 26)).alloc (.cells #[.int .i64 0, .int .i64 0] 29)) nb t) := hn1.nd.kept (bal2 x1 _ _); have NN : Hid (NBox ((x1.alloc (.cells #[.int .i64 nb.kind, .int .u64 nb.num, .bool nb.neg, .string nb.dig, .int .i64 nb.exp, .string nb.txt, .slice nb.ab nb.lb nb.cb, .slice nb.ak nb.lk nb.ck, .slice nb.ai nb.li nb.ci] 26)).alloc (.cells #[.int .i64 0, .int .i64 0] 29)) x1.heap.size nb) := (nbox_new x1 nb).kept (alloc_below _ _) (nbox_new x1 nb).lt; have FF : Hid (Blk ((x1.alloc (.cells #[.int .i64 nb.kind, .int .u64 nb.num, .bool nb.neg, .string nb.dig, .int .i64 nb.exp, .string nb.txt, .slice nb.ab nb.lb nb.cb, .slice nb.ak nb.lk nb.ck, .slice nb.ai nb.li nb.ci] 26)).alloc (.cells #[.int .i64 0, .int .i64 0] 29)) (x1.heap.size + 1) #[.int .i64 0, .int .i64 0] 29) := box_two x1 _ _; clear k1 hn1 hb1)
  refine (k2.out _ b1.out).mono ?_
  rintro e x2 ⟨⟨mb, he2, hn2⟩, hb2⟩
  subst he2
  have c2 : Below ((x1.alloc (.cells #[.int .i64 nb.kind, .int .u64 nb.num, .bool nb.neg, .string nb.dig, .int .i64 nb.exp, .string nb.txt, .slice nb.ab nb.lb nb.cb, .slice nb.ak nb.lk nb.ck, .slice nb.ai nb.li nb.ci] 26)).alloc (.cells #[.int .i64 0, .int .i64 0] 29)).heap.size ((x1.alloc (.cells #[.int .i64 nb.kind, .int .u64 nb.num, .bool nb.neg, .string nb.dig, .int .i64 nb.exp, .string nb.txt, .slice nb.ab nb.lb nb.cb, .slice nb.ak nb.lk nb.ck, .slice nb.ai nb.li nb.ci] 26)).alloc (.cells #[.int .i64 0, .int .i64 0] 29)) ((x2.alloc (.cells #[.int .i64 mb.kind, .int .u64 mb.num, .bool mb.neg, .string mb.dig, .int .i64 mb.exp, .string mb.txt, .slice mb.ab mb.lb mb.cb, .slice mb.ak mb.lk mb.ck, .slice mb.ai mb.li mb.ci] 26)).alloc (.cells #[.int .i64 0, .int .i64 0] 29)) := hb2.trans ((bal2 x2 _ _).mono hb2.size)
  have b2 : Hid (Below w.heap.size w ((x2.alloc (.cells #[.int .i64 mb.kind, .int .u64 mb.num, .bool mb.neg, .string mb.dig, .int .i64 mb.exp, .string mb.txt, .slice mb.ab mb.lb mb.cb, .slice mb.ak mb.lk mb.ck, .slice mb.ai mb.li mb.ci] 26)).alloc (.cells #[.int .i64 0, .int .i64 0] 29))) := b1.out.trans (c2.mono b1.out.size)
  have F2 := Blk.kept FF.out c2 FF.out.lt
  have m0 : ((x2.alloc (.cells #[.int .i64 mb.kind, .int .u64 mb.num, .bool mb.neg, .string mb.dig, .int .i64 mb.exp, .string mb.txt, .slice mb.ab mb.lb mb.cb, .slice mb.ak mb.lk mb.ck, .slice mb.ai mb.li mb.ci] 26)).alloc (.cells #[.int .i64 0, .int .i64 0] 29)).cell? ⟨x1.heap.size + 1, 0, none⟩ = some (.int .i64 0) := F2.cell 0
  have m1 : ((x2.alloc (.cells #[.int .i64 mb.kind, .int .u64 mb.num, .bool mb.neg, .string mb.dig, .int .i64 mb.exp, .string mb.txt, .slice mb.ab mb.lb mb.cb, .slice mb.ak mb.lk mb.ck, .slice mb.ai mb.li mb.ci] 26)).alloc (.cells #[.int .i64 0, .int .i64 0] 29)).cell? ⟨x1.heap.size + 1, 1, none⟩ = some (.int .i64 0) := F2.cell 1
  obtain ⟨n0, n1, n2, n3, n4, n5, n6, n7, n8⟩ := (NN.out.kept c2 NN.out.lt).fields
  have N2 : Hid (Nd 26 ((x2.alloc (.cells #[.int .i64 mb.kind, .int .u64 mb.num, .bool mb.neg, .string mb.dig, .int .i64 mb.exp, .string mb.txt, .slice mb.ab mb.lb mb.cb, .slice mb.ak mb.lk mb.ck, .slice mb.ai mb.li mb.ci] 26)).alloc (.cells #[.int .i64 0, .int .i64 0] 29)) nb t) := N1.out.kept c2
  have M2 : Hid (Nd 26 ((x2.alloc (.cells #[.int .i64 mb.kind, .int .u64 mb.num, .bool mb.neg, .string mb.dig, .int .i64 mb.exp, .string mb.txt, .slice mb.ab mb.lb mb.cb, .slice mb.ak mb.lk mb.ck, .slice mb.ai mb.li mb.ci] 26)).alloc (.cells #[.int .i64 0, .int .i64 0] 29)) mb u) := hn2.nd.kept (bal2 x2 _ _)
  clear F2 FF hb2 hn2 b1 N1 NN c2
  go_wp2_with (go_at_call 20; refine (kA.out _ b2.out).mono ?_; rintro e x3 ⟨rfl, hb3⟩)
  go_ret
  exact ⟨rfl, b2.out.trans (hb3.mono b2.out.size)⟩
end Go.Proofs.YtnjbppfanmmifaaGreatDoor
namespace Go.Proofs.YtnjbppfanmmifaaGreatDoor
open Go.RowKit
set_option linter.unusedVariables false
set_option maxHeartbeats 8000000 in
set_option maxRecDepth 100000 in
theorem wlist_d (a : Option Addr) (n c : Nat) (zs : List Int) (a' : Option Addr) (n' c' : Nat) (ys : List Int) (w : World) {L : Nat} (hl : zs.length = n) (hb : Bytes w a zs) (hc : n ≤ c ∧ c ≤ maxLen ∧ (a = none → c = 0)) (hl' : ys.length = n') (hb' : Bytes w a' ys) (hc' : n' ≤ c' ∧ c' ≤ maxLen ∧ (a' = none → c' = 0)) (hs : n ≤ 140737488351232 ∧ n' ≤ 140737488351232) (hLw : Lw L w) (hL : L ≤ w.heap.size) {t u : Tr} {ee : Int} {pl : Nat} (e1 : dcdA zs = .inr t) (e2 : dcdA ys = .inr u) (hsm : n + n' < 4096) (e3 : dcdA (130 :: (zs ++ ys)) = .inl (ee, pl)) (he : ee = 7 ∨ ee = 8) : Calls Tryz.prog 8 #[.slice a n c, .slice a' n' c'] w fun e w' => e = .returned (.bool true) ∧ Below w.heap.size w w' := by
  have kD : Hid (∀ wx b m d us, us.length = m → Bytes wx b us → (m ≤ d ∧ d ≤ maxLen ∧ (b = none → d = 0)) → Below w.heap.size w wx → Calls Tryz.prog 17 #[.slice b m d] wx fun e w' => DcdIs wx w' e (dcdA us)) := fun wx b m d us h1 h2 h3 hx => decode_any b m d us wx h1 h2 h3 (hLw.on (hx.mono hL)) (Nat.le_trans hL hx.size)
  have kA : Hid (∀ wx, Below w.heap.size w wx → Calls Tryz.prog 20 #[] wx fun e w' => e = .returned (.bool true) ∧ Below wx.heap.size wx w') := fun wx hx => calive_any wx (hLw.on (hx.mono hL)) (Nat.le_trans hL hx.size)
  have k1 := kD.out w a n c zs hl hb hc (Below.refl _ _)
  have k2 : Hid (∀ wx, Below w.heap.size w wx → Calls Tryz.prog 17 #[.slice a' n' c'] wx fun e w' => DcdIs wx w' e (dcdA ys)) := fun wx hx => kD.out wx a' n' c' ys hl' (hb'.kept hx) hc' hx
  have wn : IntKind.i64.wrap ((n : Int) + (n' : Int)) = (n : Int) + (n' : Int) := by rw [IntKind.wrap_i64]; omega
  rw [e1] at k1
  unfold DcdIs at k1
  simp only at k1
  unfold Nb.arr at k1
  rw [e2] at k2
  unfold DcdIs at k2
  simp only at k2
  unfold Nb.arr at k2
  have g0 : decide ((4096 : Int) ≤ (n : Int) + (n' : Int)) = false := by simp; omega
  have hT : Hid (n + n' < 4096 ∧ zs.length = n ∧ ys.length = n') := ⟨hsm, hl, hl'⟩
  have hBB : Hid (zs.length = n ∧ Bytes w a zs ∧ (a = none → c = 0)) := ⟨hl, hb, hc.2.2⟩
  have hBC : Hid (ys.length = n' ∧ Bytes w a' ys ∧ (a' = none → c' = 0)) := ⟨hl', hb', hc'.2.2⟩
  have hE3 : Hid (dcdA (([130] ++ zs) ++ ys) = .inl (ee, pl)) := e3
  have hee : Hid (ee = 7 ∨ ee = 8) := he
  clear hl hb hc hl' hb' hc' hs hLw hL e1 e2 hsm e3 he
  go_enter Tryz.func8, Tryz.ntmps8
  go_wp2_with (go_at_call 17; refine k1.mono ?_; rintro e x1 ⟨⟨nb, he1, hn1⟩, hb1⟩; subst he1; have b1 : Hid (Below w.heap.size w ((x1.alloc (.cells #[.int .i64 nb.kind, .int .u64 nb.num, .bool nb.neg, .string nb.dig, .int .i64 nb.exp, .string nb.txt, .slice nb.ab nb.lb nb.cb, .slice nb.ak nb.lk nb.ck, .slice nb.ai nb.li nb.ci] 26)).alloc (.cells #[.int .i64 0, .int .i64 0] 29))) := hb1.trans ((bal2 x1 _ _).mono hb1.size); have N1 : Hid (Nd 26 ((x1.alloc (.cells #[.int .i64 nb.kind, .int .u64 nb.num, .bool nb.neg, .string nb.dig, .int .i64 nb.exp, .string nb.txt, .slice nb.ab nb.lb nb.cb, .slice nb.ak nb.lk nb.ck, .slice nb.ai nb.li nb.ci] 26)).alloc (.cells #[.int .i64 0, .int .i64 0] 29)) nb t) := hn1.nd.kept (bal2 x1 _ _); have NN : Hid (NBox ((x1.alloc (.cells #[.int .i64 nb.kind, .int .u64 nb.num, .bool nb.neg, .string nb.dig, .int .i64 nb.exp, .string nb.txt, .slice nb.ab nb.lb nb.cb, .slice nb.ak nb.lk nb.ck, .slice nb.ai nb.li nb.ci] 26)).alloc (.cells #[.int .i64 0, .int .i64 0] 29)) x1.heap.size nb) := (nbox_new x1 nb).kept (alloc_below _ _) (nbox_new x1 nb).lt; have FF : Hid (Blk ((x1.alloc (.cells #[.int .i64 nb.kind, .int .u64 nb.num, .bool nb.neg, .string nb.dig, .int .i64 nb.exp, .string nb.txt, .slice nb.ab nb.lb nb.cb, .slice nb.ak nb.lk nb.ck, .slice nb.ai nb.li nb.ci] 26)).alloc (.cells #[.int .i64 0, .int .i64 0] 29)) (x1.heap.size + 1) #[.int .i64 0, .int .i64 0] 29) := box_two x1 _ _; clear k1 hn1 hb1)
  refine (k2.out _ b1.out).mono ?_
  rintro e x2 ⟨⟨mb, he2, hn2⟩, hb2⟩
  subst he2
  have c2 : Below ((x1.alloc (.cells #[.int .i64 nb.kind, .int .u64 nb.num, .bool nb.neg, .string nb.dig, .int .i64 nb.exp, .string nb.txt, .slice nb.ab nb.lb nb.cb, .slice nb.ak nb.lk nb.ck, .slice nb.ai nb.li nb.ci] 26)).alloc (.cells #[.int .i64 0, .int .i64 0] 29)).heap.size ((x1.alloc (.cells #[.int .i64 nb.kind, .int .u64 nb.num, .bool nb.neg, .string nb.dig, .int .i64 nb.exp, .string nb.txt, .slice nb.ab nb.lb nb.cb, .slice nb.ak nb.lk nb.ck, .slice nb.ai nb.li nb.ci] 26)).alloc (.cells #[.int .i64 0, .int .i64 0] 29)) ((x2.alloc (.cells #[.int .i64 mb.kind, .int .u64 mb.num, .bool mb.neg, .string mb.dig, .int .i64 mb.exp, .string mb.txt, .slice mb.ab mb.lb mb.cb, .slice mb.ak mb.lk mb.ck, .slice mb.ai mb.li mb.ci] 26)).alloc (.cells #[.int .i64 0, .int .i64 0] 29)) := hb2.trans ((bal2 x2 _ _).mono hb2.size)
  have b2 : Hid (Below w.heap.size w ((x2.alloc (.cells #[.int .i64 mb.kind, .int .u64 mb.num, .bool mb.neg, .string mb.dig, .int .i64 mb.exp, .string mb.txt, .slice mb.ab mb.lb mb.cb, .slice mb.ak mb.lk mb.ck, .slice mb.ai mb.li mb.ci] 26)).alloc (.cells #[.int .i64 0, .int .i64 0] 29))) := b1.out.trans (c2.mono b1.out.size)
  have F2 := Blk.kept FF.out c2 FF.out.lt
  have m0 : ((x2.alloc (.cells #[.int .i64 mb.kind, .int .u64 mb.num, .bool mb.neg, .string mb.dig, .int .i64 mb.exp, .string mb.txt, .slice mb.ab mb.lb mb.cb, .slice mb.ak mb.lk mb.ck, .slice mb.ai mb.li mb.ci] 26)).alloc (.cells #[.int .i64 0, .int .i64 0] 29)).cell? ⟨x1.heap.size + 1, 0, none⟩ = some (.int .i64 0) := F2.cell 0
  have m1 : ((x2.alloc (.cells #[.int .i64 mb.kind, .int .u64 mb.num, .bool mb.neg, .string mb.dig, .int .i64 mb.exp, .string mb.txt, .slice mb.ab mb.lb mb.cb, .slice mb.ak mb.lk mb.ck, .slice mb.ai mb.li mb.ci] 26)).alloc (.cells #[.int .i64 0, .int .i64 0] 29)).cell? ⟨x1.heap.size + 1, 1, none⟩ = some (.int .i64 0) := F2.cell 1
  obtain ⟨n0, n1, n2, n3, n4, n5, n6, n7, n8⟩ := (NN.out.kept c2 NN.out.lt).fields
  have N2 : Hid (Nd 26 ((x2.alloc (.cells #[.int .i64 mb.kind, .int .u64 mb.num, .bool mb.neg, .string mb.dig, .int .i64 mb.exp, .string mb.txt, .slice mb.ab mb.lb mb.cb, .slice mb.ak mb.lk mb.ck, .slice mb.ai mb.li mb.ci] 26)).alloc (.cells #[.int .i64 0, .int .i64 0] 29)) nb t) := N1.out.kept c2
  have M2 : Hid (Nd 26 ((x2.alloc (.cells #[.int .i64 mb.kind, .int .u64 mb.num, .bool mb.neg, .string mb.dig, .int .i64 mb.exp, .string mb.txt, .slice mb.ab mb.lb mb.cb, .slice mb.ak mb.lk mb.ck, .slice mb.ai mb.li mb.ci] 26)).alloc (.cells #[.int .i64 0, .int .i64 0] 29)) mb u) := hn2.nd.kept (bal2 x2 _ _)
  clear F2 FF hb2 hn2 b1 N1 NN c2
  have hs2 : Hid (((x2.alloc (.cells #[.int .i64 mb.kind, .int .u64 mb.num, .bool mb.neg, .string mb.dig, .int .i64 mb.exp, .string mb.txt, .slice mb.ab mb.lb mb.cb, .slice mb.ak mb.lk mb.ck, .slice mb.ai mb.li mb.ci] 26)).alloc (.cells #[.int .i64 0, .int .i64 0] 29)).heap.size = x2.heap.size + 1 + 1) := by show _ = _; simp
  have hY4 : Hid (((((x2.alloc (.cells #[.int .i64 mb.kind, .int .u64 mb.num, .bool mb.neg, .string mb.dig, .int .i64 mb.exp, .string mb.txt, .slice mb.ab mb.lb mb.cb, .slice mb.ak mb.lk mb.ck, .slice mb.ai mb.li mb.ci] 26)).alloc (.cells #[.int .i64 0, .int .i64 0] 29)).alloc (.cells #[.int .i64 nb.kind, .int .u64 nb.num, .bool nb.neg, .string nb.dig, .int .i64 nb.exp, .string nb.txt, .slice nb.ab nb.lb nb.cb, .slice nb.ak nb.lk nb.ck, .slice nb.ai nb.li nb.ci, .int .i64 mb.kind, .int .u64 mb.num, .bool mb.neg, .string mb.dig, .int .i64 mb.exp, .string mb.txt, .slice mb.ab mb.lb mb.cb, .slice mb.ak mb.lk mb.ck, .slice mb.ai mb.li mb.ci] 26)).alloc (.cells #[.int .i64 7, .int .u64 0, .bool false, .string ⟨#[]⟩, .int .i64 0, .string ⟨#[]⟩, .slice none 0 0, .slice none 0 0, .slice (some ⟨x2.heap.size + 1 + 1, 0, none⟩) 2 2] 26)).heap.size = x2.heap.size + 1 + 1 + 1 + 1) := by show _ = _; simp
  have b4 : Hid (Below w.heap.size w ((((x2.alloc (.cells #[.int .i64 mb.kind, .int .u64 mb.num, .bool mb.neg, .string mb.dig, .int .i64 mb.exp, .string mb.txt, .slice mb.ab mb.lb mb.cb, .slice mb.ak mb.lk mb.ck, .slice mb.ai mb.li mb.ci] 26)).alloc (.cells #[.int .i64 0, .int .i64 0] 29)).alloc (.cells #[.int .i64 nb.kind, .int .u64 nb.num, .bool nb.neg, .string nb.dig, .int .i64 nb.exp, .string nb.txt, .slice nb.ab nb.lb nb.cb, .slice nb.ak nb.lk nb.ck, .slice nb.ai nb.li nb.ci, .int .i64 mb.kind, .int .u64 mb.num, .bool mb.neg, .string mb.dig, .int .i64 mb.exp, .string mb.txt, .slice mb.ab mb.lb mb.cb, .slice mb.ak mb.lk mb.ck, .slice mb.ai mb.li mb.ci] 26)).alloc (.cells #[.int .i64 7, .int .u64 0, .bool false, .string ⟨#[]⟩, .int .i64 0, .string ⟨#[]⟩, .slice none 0 0, .slice none 0 0, .slice (some ⟨x2.heap.size + 1 + 1, 0, none⟩) 2 2] 26))) := b2.out.trans ((bal2 ((x2.alloc (.cells #[.int .i64 mb.kind, .int .u64 mb.num, .bool mb.neg, .string mb.dig, .int .i64 mb.exp, .string mb.txt, .slice mb.ab mb.lb mb.cb, .slice mb.ak mb.lk mb.ck, .slice mb.ai mb.li mb.ci] 26)).alloc (.cells #[.int .i64 0, .int .i64 0] 29)) _ _).mono b2.out.size)
  go_wp2_with (first
    | (at_builtin; guard_hyp hBB; refine wpList_append_bytes rfl _ _ rfl ((((x2.alloc (.cells #[.int .i64 mb.kind, .int .u64 mb.num, .bool mb.neg, .string mb.dig, .int .i64 mb.exp, .string mb.txt, .slice mb.ab mb.lb mb.cb, .slice mb.ak mb.lk mb.ck, .slice mb.ai mb.li mb.ci] 26)).alloc (.cells #[.int .i64 0, .int .i64 0] 29)).alloc (.cells #[.int .i64 nb.kind, .int .u64 nb.num, .bool nb.neg, .string nb.dig, .int .i64 nb.exp, .string nb.txt, .slice nb.ab nb.lb nb.cb, .slice nb.ak nb.lk nb.ck, .slice nb.ai nb.li nb.ci, .int .i64 mb.kind, .int .u64 mb.num, .bool mb.neg, .string mb.dig, .int .i64 mb.exp, .string mb.txt, .slice mb.ab mb.lb mb.cb, .slice mb.ak mb.lk mb.ck, .slice mb.ai mb.li mb.ci] 26)).alloc (.cells #[.int .i64 7, .int .u64 0, .bool false, .string ⟨#[]⟩, .int .i64 0, .string ⟨#[]⟩, .slice none 0 0, .slice none 0 0, .slice (some ⟨x2.heap.size + 1 + 1, 0, none⟩) 2 2] 26)).heap.size (.slice (some ⟨x2.heap.size + 1 + 1 + 1 + 1, 0, none⟩) 1 1) [130] zs rfl (by have := ownsB_one ((((x2.alloc (.cells #[.int .i64 mb.kind, .int .u64 mb.num, .bool mb.neg, .string mb.dig, .int .i64 mb.exp, .string mb.txt, .slice mb.ab mb.lb mb.cb, .slice mb.ak mb.lk mb.ck, .slice mb.ai mb.li mb.ci] 26)).alloc (.cells #[.int .i64 0, .int .i64 0] 29)).alloc (.cells #[.int .i64 nb.kind, .int .u64 nb.num, .bool nb.neg, .string nb.dig, .int .i64 nb.exp, .string nb.txt, .slice nb.ab nb.lb nb.cb, .slice nb.ak nb.lk nb.ck, .slice nb.ai nb.li nb.ci, .int .i64 mb.kind, .int .u64 mb.num, .bool mb.neg, .string mb.dig, .int .i64 mb.exp, .string mb.txt, .slice mb.ab mb.lb mb.cb, .slice mb.ak mb.lk mb.ck, .slice mb.ai mb.li mb.ci] 26)).alloc (.cells #[.int .i64 7, .int .u64 0, .bool false, .string ⟨#[]⟩, .int .i64 0, .string ⟨#[]⟩, .slice none 0 0, .slice none 0 0, .slice (some ⟨x2.heap.size + 1 + 1, 0, none⟩) 2 2] 26)) (c := 130) (by omega); rw [hY4.out] at this ⊢; exact this) a n c rfl hBB.out.1 hBB.out.2.2 ((hBB.out.2.1.kept b4.out).kept (alloc_below ((((x2.alloc (.cells #[.int .i64 mb.kind, .int .u64 mb.num, .bool mb.neg, .string mb.dig, .int .i64 mb.exp, .string mb.txt, .slice mb.ab mb.lb mb.cb, .slice mb.ak mb.lk mb.ck, .slice mb.ai mb.li mb.ci] 26)).alloc (.cells #[.int .i64 0, .int .i64 0] 29)).alloc (.cells #[.int .i64 nb.kind, .int .u64 nb.num, .bool nb.neg, .string nb.dig, .int .i64 nb.exp, .string nb.txt, .slice nb.ab nb.lb nb.cb, .slice nb.ak nb.lk nb.ck, .slice nb.ai nb.li nb.ci, .int .i64 mb.kind, .int .u64 mb.num, .bool mb.neg, .string mb.dig, .int .i64 mb.exp, .string mb.txt, .slice mb.ab mb.lb mb.cb, .slice mb.ak mb.lk mb.ck, .slice mb.ai mb.li mb.ci] 26)).alloc (.cells #[.int .i64 7, .int .u64 0, .bool false, .string ⟨#[]⟩, .int .i64 0, .string ⟨#[]⟩, .slice none 0 0, .slice none 0 0, .slice (some ⟨x2.heap.size + 1 + 1, 0, none⟩) 2 2] 26)) _)) (by have := hT.out; simp; omega) (by simp) ?_; intro v5 x5 hO5 hg5; have b5 : Hid (Below ((((x2.alloc (.cells #[.int .i64 mb.kind, .int .u64 mb.num, .bool mb.neg, .string mb.dig, .int .i64 mb.exp, .string mb.txt, .slice mb.ab mb.lb mb.cb, .slice mb.ak mb.lk mb.ck, .slice mb.ai mb.li mb.ci] 26)).alloc (.cells #[.int .i64 0, .int .i64 0] 29)).alloc (.cells #[.int .i64 nb.kind, .int .u64 nb.num, .bool nb.neg, .string nb.dig, .int .i64 nb.exp, .string nb.txt, .slice nb.ab nb.lb nb.cb, .slice nb.ak nb.lk nb.ck, .slice nb.ai nb.li nb.ci, .int .i64 mb.kind, .int .u64 mb.num, .bool mb.neg, .string mb.dig, .int .i64 mb.exp, .string mb.txt, .slice mb.ab mb.lb mb.cb, .slice mb.ak mb.lk mb.ck, .slice mb.ai mb.li mb.ci] 26)).alloc (.cells #[.int .i64 7, .int .u64 0, .bool false, .string ⟨#[]⟩, .int .i64 0, .string ⟨#[]⟩, .slice none 0 0, .slice none 0 0, .slice (some ⟨x2.heap.size + 1 + 1, 0, none⟩) 2 2] 26)).heap.size ((((x2.alloc (.cells #[.int .i64 mb.kind, .int .u64 mb.num, .bool mb.neg, .string mb.dig, .int .i64 mb.exp, .string mb.txt, .slice mb.ab mb.lb mb.cb, .slice mb.ak mb.lk mb.ck, .slice mb.ai mb.li mb.ci] 26)).alloc (.cells #[.int .i64 0, .int .i64 0] 29)).alloc (.cells #[.int .i64 nb.kind, .int .u64 nb.num, .bool nb.neg, .string nb.dig, .int .i64 nb.exp, .string nb.txt, .slice nb.ab nb.lb nb.cb, .slice nb.ak nb.lk nb.ck, .slice nb.ai nb.li nb.ci, .int .i64 mb.kind, .int .u64 mb.num, .bool mb.neg, .string mb.dig, .int .i64 mb.exp, .string mb.txt, .slice mb.ab mb.lb mb.cb, .slice mb.ak mb.lk mb.ck, .slice mb.ai mb.li mb.ci] 26)).alloc (.cells #[.int .i64 7, .int .u64 0, .bool false, .string ⟨#[]⟩, .int .i64 0, .string ⟨#[]⟩, .slice none 0 0, .slice none 0 0, .slice (some ⟨x2.heap.size + 1 + 1, 0, none⟩) 2 2] 26)) x5) := grown_below (alloc_below ((((x2.alloc (.cells #[.int .i64 mb.kind, .int .u64 mb.num, .bool mb.neg, .string mb.dig, .int .i64 mb.exp, .string mb.txt, .slice mb.ab mb.lb mb.cb, .slice mb.ak mb.lk mb.ck, .slice mb.ai mb.li mb.ci] 26)).alloc (.cells #[.int .i64 0, .int .i64 0] 29)).alloc (.cells #[.int .i64 nb.kind, .int .u64 nb.num, .bool nb.neg, .string nb.dig, .int .i64 nb.exp, .string nb.txt, .slice nb.ab nb.lb nb.cb, .slice nb.ak nb.lk nb.ck, .slice nb.ai nb.li nb.ci, .int .i64 mb.kind, .int .u64 mb.num, .bool mb.neg, .string mb.dig, .int .i64 mb.exp, .string mb.txt, .slice mb.ab mb.lb mb.cb, .slice mb.ak mb.lk mb.ck, .slice mb.ai mb.li mb.ci] 26)).alloc (.cells #[.int .i64 7, .int .u64 0, .bool false, .string ⟨#[]⟩, .int .i64 0, .string ⟨#[]⟩, .slice none 0 0, .slice none 0 0, .slice (some ⟨x2.heap.size + 1 + 1, 0, none⟩) 2 2] 26)) _) (by have := ownsB_one ((((x2.alloc (.cells #[.int .i64 mb.kind, .int .u64 mb.num, .bool mb.neg, .string mb.dig, .int .i64 mb.exp, .string mb.txt, .slice mb.ab mb.lb mb.cb, .slice mb.ak mb.lk mb.ck, .slice mb.ai mb.li mb.ci] 26)).alloc (.cells #[.int .i64 0, .int .i64 0] 29)).alloc (.cells #[.int .i64 nb.kind, .int .u64 nb.num, .bool nb.neg, .string nb.dig, .int .i64 nb.exp, .string nb.txt, .slice nb.ab nb.lb nb.cb, .slice nb.ak nb.lk nb.ck, .slice nb.ai nb.li nb.ci, .int .i64 mb.kind, .int .u64 mb.num, .bool mb.neg, .string mb.dig, .int .i64 mb.exp, .string mb.txt, .slice mb.ab mb.lb mb.cb, .slice mb.ak mb.lk mb.ck, .slice mb.ai mb.li mb.ci] 26)).alloc (.cells #[.int .i64 7, .int .u64 0, .bool false, .string ⟨#[]⟩, .int .i64 0, .string ⟨#[]⟩, .slice none 0 0, .slice none 0 0, .slice (some ⟨x2.heap.size + 1 + 1, 0, none⟩) 2 2] 26)) (c := 130) (by omega); rw [hY4.out] at this ⊢; exact this) hg5 (by simp); have O5 : Hid (OwnsB x5 ((((x2.alloc (.cells #[.int .i64 mb.kind, .int .u64 mb.num, .bool mb.neg, .string mb.dig, .int .i64 mb.exp, .string mb.txt, .slice mb.ab mb.lb mb.cb, .slice mb.ak mb.lk mb.ck, .slice mb.ai mb.li mb.ci] 26)).alloc (.cells #[.int .i64 0, .int .i64 0] 29)).alloc (.cells #[.int .i64 nb.kind, .int .u64 nb.num, .bool nb.neg, .string nb.dig, .int .i64 nb.exp, .string nb.txt, .slice nb.ab nb.lb nb.cb, .slice nb.ak nb.lk nb.ck, .slice nb.ai nb.li nb.ci, .int .i64 mb.kind, .int .u64 mb.num, .bool mb.neg, .string mb.dig, .int .i64 mb.exp, .string mb.txt, .slice mb.ab mb.lb mb.cb, .slice mb.ak mb.lk mb.ck, .slice mb.ai mb.li mb.ci] 26)).alloc (.cells #[.int .i64 7, .int .u64 0, .bool false, .string ⟨#[]⟩, .int .i64 0, .string ⟨#[]⟩, .slice none 0 0, .slice none 0 0, .slice (some ⟨x2.heap.size + 1 + 1, 0, none⟩) 2 2] 26)).heap.size v5 ([130] ++ zs)) := hO5; clear hO5 hg5 hBB)
    | (at_builtin; guard_hyp O5; refine wpList_append_bytes rfl _ _ rfl ((((x2.alloc (.cells #[.int .i64 mb.kind, .int .u64 mb.num, .bool mb.neg, .string mb.dig, .int .i64 mb.exp, .string mb.txt, .slice mb.ab mb.lb mb.cb, .slice mb.ak mb.lk mb.ck, .slice mb.ai mb.li mb.ci] 26)).alloc (.cells #[.int .i64 0, .int .i64 0] 29)).alloc (.cells #[.int .i64 nb.kind, .int .u64 nb.num, .bool nb.neg, .string nb.dig, .int .i64 nb.exp, .string nb.txt, .slice nb.ab nb.lb nb.cb, .slice nb.ak nb.lk nb.ck, .slice nb.ai nb.li nb.ci, .int .i64 mb.kind, .int .u64 mb.num, .bool mb.neg, .string mb.dig, .int .i64 mb.exp, .string mb.txt, .slice mb.ab mb.lb mb.cb, .slice mb.ak mb.lk mb.ck, .slice mb.ai mb.li mb.ci] 26)).alloc (.cells #[.int .i64 7, .int .u64 0, .bool false, .string ⟨#[]⟩, .int .i64 0, .string ⟨#[]⟩, .slice none 0 0, .slice none 0 0, .slice (some ⟨x2.heap.size + 1 + 1, 0, none⟩) 2 2] 26)).heap.size v5 ([130] ++ zs) ys rfl O5.out a' n' c' rfl hBC.out.1 hBC.out.2.2 (hBC.out.2.1.kept (b4.out.trans (b5.out.mono b4.out.size))) (by have := hT.out; simp; omega) b5.out.size ?_; intro v6 x6 hO6 hg6; have b6 : Hid (Below ((((x2.alloc (.cells #[.int .i64 mb.kind, .int .u64 mb.num, .bool mb.neg, .string mb.dig, .int .i64 mb.exp, .string mb.txt, .slice mb.ab mb.lb mb.cb, .slice mb.ak mb.lk mb.ck, .slice mb.ai mb.li mb.ci] 26)).alloc (.cells #[.int .i64 0, .int .i64 0] 29)).alloc (.cells #[.int .i64 nb.kind, .int .u64 nb.num, .bool nb.neg, .string nb.dig, .int .i64 nb.exp, .string nb.txt, .slice nb.ab nb.lb nb.cb, .slice nb.ak nb.lk nb.ck, .slice nb.ai nb.li nb.ci, .int .i64 mb.kind, .int .u64 mb.num, .bool mb.neg, .string mb.dig, .int .i64 mb.exp, .string mb.txt, .slice mb.ab mb.lb mb.cb, .slice mb.ak mb.lk mb.ck, .slice mb.ai mb.li mb.ci] 26)).alloc (.cells #[.int .i64 7, .int .u64 0, .bool false, .string ⟨#[]⟩, .int .i64 0, .string ⟨#[]⟩, .slice none 0 0, .slice none 0 0, .slice (some ⟨x2.heap.size + 1 + 1, 0, none⟩) 2 2] 26)).heap.size ((((x2.alloc (.cells #[.int .i64 mb.kind, .int .u64 mb.num, .bool mb.neg, .string mb.dig, .int .i64 mb.exp, .string mb.txt, .slice mb.ab mb.lb mb.cb, .slice mb.ak mb.lk mb.ck, .slice mb.ai mb.li mb.ci] 26)).alloc (.cells #[.int .i64 0, .int .i64 0] 29)).alloc (.cells #[.int .i64 nb.kind, .int .u64 nb.num, .bool nb.neg, .string nb.dig, .int .i64 nb.exp, .string nb.txt, .slice nb.ab nb.lb nb.cb, .slice nb.ak nb.lk nb.ck, .slice nb.ai nb.li nb.ci, .int .i64 mb.kind, .int .u64 mb.num, .bool mb.neg, .string mb.dig, .int .i64 mb.exp, .string mb.txt, .slice mb.ab mb.lb mb.cb, .slice mb.ak mb.lk mb.ck, .slice mb.ai mb.li mb.ci] 26)).alloc (.cells #[.int .i64 7, .int .u64 0, .bool false, .string ⟨#[]⟩, .int .i64 0, .string ⟨#[]⟩, .slice none 0 0, .slice none 0 0, .slice (some ⟨x2.heap.size + 1 + 1, 0, none⟩) 2 2] 26)) x6) := grown_below b5.out O5.out hg6 b5.out.size; obtain ⟨a6, m6, c6, rfl, hl6, hn6, hc6, hm6, hB6⟩ := hO6.form; have k6 := kD.out x6 a6 m6 c6 (([130] ++ zs) ++ ys) hl6.out hB6.out ⟨hc6, hm6, hn6.out⟩ (b4.out.trans (b6.out.mono b4.out.size)); clear hO6 hg6 O5 b5))
  rw [hE3.out] at k6
  unfold DcdIs at k6
  unfold zN Nb.arr at k6
  simp only at k6
  refine k6.mono ?_
  rintro e x7 ⟨rfl, hb7⟩
  have c7 : Below w.heap.size w x7 := (b4.out.trans (b6.out.mono b4.out.size)).trans (hb7.mono (b4.out.trans (b6.out.mono b4.out.size)).size)
  have b7 : Hid (Below w.heap.size w ((x7.alloc (.cells #[.int .i64 0, .int .u64 0, .bool false, .string ⟨#[]⟩, .int .i64 0, .string ⟨#[]⟩, .slice none 0 0, .slice none 0 0, .slice none 0 0] 26)).alloc (.cells #[.int .i64 ee, .int .i64 (pl : Nat)] 29))) := c7.trans ((bal2 x7 _ _).mono c7.size)
  clear k6 hb7 c7 b6
  rcases hee.out with h | h
  · subst h
    go_wp2_with (go_at_call 20; refine (kA.out _ b7.out).mono ?_; rintro e x8 ⟨rfl, hb8⟩)
    go_ret
    exact ⟨rfl, b7.out.trans (hb8.mono b7.out.size)⟩
  · subst h
    go_wp2_with (go_at_call 20; refine (kA.out _ b7.out).mono ?_; rintro e x8 ⟨rfl, hb8⟩)
    go_ret
    exact ⟨rfl, b7.out.trans (hb8.mono b7.out.size)⟩
end Go.Proofs.YtnjbppfanmmifaaGreatDoor
namespace Go.Proofs.YtnjbppfanmmifaaGreatDoor
open Go.RowKit
set_option linter.unusedVariables false
set_option maxHeartbeats 8000000 in
set_option maxRecDepth 100000 in
theorem wlist_e (a : Option Addr) (n c : Nat) (zs : List Int) (a' : Option Addr) (n' c' : Nat) (ys : List Int) (w : World) {L : Nat} (hl : zs.length = n) (hb : Bytes w a zs) (hc : n ≤ c ∧ c ≤ maxLen ∧ (a = none → c = 0)) (hl' : ys.length = n') (hb' : Bytes w a' ys) (hc' : n' ≤ c' ∧ c' ≤ maxLen ∧ (a' = none → c' = 0)) (hs : n ≤ 140737488351232 ∧ n' ≤ 140737488351232) (hLw : Lw L w) (hL : L ≤ w.heap.size) {t u : Tr} (e1 : dcdA zs = .inr t) (e2 : dcdA ys = .inr u) (hsm : n + n' < 4096) (e3 : dcdA (130 :: (zs ++ ys)) = .inr (arrT [t, u])) (hz : (arrT [t, u]).size ≤ 1024) (hlg : 4096 < n + n' + 2) : Calls Tryz.prog 8 #[.slice a n c, .slice a' n' c'] w fun e w' => e = .returned (.bool true) ∧ Below w.heap.size w w' := by
  have kD : Hid (∀ wx b m d us, us.length = m → Bytes wx b us → (m ≤ d ∧ d ≤ maxLen ∧ (b = none → d = 0)) → Below w.heap.size w wx → Calls Tryz.prog 17 #[.slice b m d] wx fun e w' => DcdIs wx w' e (dcdA us)) := fun wx b m d us h1 h2 h3 hx => decode_any b m d us wx h1 h2 h3 (hLw.on (hx.mono hL)) (Nat.le_trans hL hx.size)
  have kA : Hid (∀ wx, Below w.heap.size w wx → Calls Tryz.prog 20 #[] wx fun e w' => e = .returned (.bool true) ∧ Below wx.heap.size wx w') := fun wx hx => calive_any wx (hLw.on (hx.mono hL)) (Nat.le_trans hL hx.size)
  have k1 := kD.out w a n c zs hl hb hc (Below.refl _ _)
  have k2 : Hid (∀ wx, Below w.heap.size w wx → Calls Tryz.prog 17 #[.slice a' n' c'] wx fun e w' => DcdIs wx w' e (dcdA ys)) := fun wx hx => kD.out wx a' n' c' ys hl' (hb'.kept hx) hc' hx
  have wn : IntKind.i64.wrap ((n : Int) + (n' : Int)) = (n : Int) + (n' : Int) := by rw [IntKind.wrap_i64]; omega
  rw [e1] at k1
  unfold DcdIs at k1
  simp only at k1
  unfold Nb.arr at k1
  rw [e2] at k2
  unfold DcdIs at k2
  simp only at k2
  unfold Nb.arr at k2
  have g0 : decide ((4096 : Int) ≤ (n : Int) + (n' : Int)) = false := by simp; omega
  have hT : Hid (n + n' < 4096 ∧ zs.length = n ∧ ys.length = n') := ⟨hsm, hl, hl'⟩
  have hBB : Hid (zs.length = n ∧ Bytes w a zs ∧ (a = none → c = 0)) := ⟨hl, hb, hc.2.2⟩
  have hBC : Hid (ys.length = n' ∧ Bytes w a' ys ∧ (a' = none → c' = 0)) := ⟨hl', hb', hc'.2.2⟩
  have hE3 : Hid (dcdA (([130] ++ zs) ++ ys) = .inr (arrT [t, u])) := e3
  have wn2 : IntKind.i64.wrap ((n : Int) + (n' : Int) + 2) = (n : Int) + (n' : Int) + 2 := by rw [IntKind.wrap_i64]; omega
  have hsz : Hid ((arrT [t, u]).size ≤ 1024) := hz
  have g5 : decide ((4096 : Int) < (n : Int) + (n' : Int) + 2) = true := by simp; omega
  clear hl hb hc hl' hb' hc' hs hLw hL e1 e2 hsm e3 hz hlg
  go_enter Tryz.func8, Tryz.ntmps8
  go_wp2_with (go_at_call 17; refine k1.mono ?_; rintro e x1 ⟨⟨nb, he1, hn1⟩, hb1⟩; subst he1; have b1 : Hid (Below w.heap.size w ((x1.alloc (.cells #[.int .i64 nb.kind, .int .u64 nb.num, .bool nb.neg, .string nb.dig, .int .i64 nb.exp, .string nb.txt, .slice nb.ab nb.lb nb.cb, .slice nb.ak nb.lk nb.ck, .slice nb.ai nb.li nb.ci] 26)).alloc (.cells #[.int .i64 0, .int .i64 0] 29))) := hb1.trans ((bal2 x1 _ _).mono hb1.size); have N1 : Hid (Nd 26 ((x1.alloc (.cells #[.int .i64 nb.kind, .int .u64 nb.num, .bool nb.neg, .string nb.dig, .int .i64 nb.exp, .string nb.txt, .slice nb.ab nb.lb nb.cb, .slice nb.ak nb.lk nb.ck, .slice nb.ai nb.li nb.ci] 26)).alloc (.cells #[.int .i64 0, .int .i64 0] 29)) nb t) := hn1.nd.kept (bal2 x1 _ _); have NN : Hid (NBox ((x1.alloc (.cells #[.int .i64 nb.kind, .int .u64 nb.num, .bool nb.neg, .string nb.dig, .int .i64 nb.exp, .string nb.txt, .slice nb.ab nb.lb nb.cb, .slice nb.ak nb.lk nb.ck, .slice nb.ai nb.li nb.ci] 26)).alloc (.cells #[.int .i64 0, .int .i64 0] 29)) x1.heap.size nb) := (nbox_new x1 nb).kept (alloc_below _ _) (nbox_new x1 nb).lt; have FF : Hid (Blk ((x1.alloc (.cells #[.int .i64 nb.kind, .int .u64 nb.num, .bool nb.neg, .string nb.dig, .int .i64 nb.exp, .string nb.txt, .slice nb.ab nb.lb nb.cb, .slice nb.ak nb.lk nb.ck, .slice nb.ai nb.li nb.ci] 26)).alloc (.cells #[.int .i64 0, .int .i64 0] 29)) (x1.heap.size + 1) #[.int .i64 0, .int .i64 0] 29) := box_two x1 _ _; clear k1 hn1 hb1)
  refine (k2.out _ b1.out).mono ?_
  rintro e x2 ⟨⟨mb, he2, hn2⟩, hb2⟩
  subst he2
  have c2 : Below ((x1.alloc (.cells #[.int .i64 nb.kind, .int .u64 nb.num, .bool nb.neg, .string nb.dig, .int .i64 nb.exp, .string nb.txt, .slice nb.ab nb.lb nb.cb, .slice nb.ak nb.lk nb.ck, .slice nb.ai nb.li nb.ci] 26)).alloc (.cells #[.int .i64 0, .int .i64 0] 29)).heap.size ((x1.alloc (.cells #[.int .i64 nb.kind, .int .u64 nb.num, .bool nb.neg, .string nb.dig, .int .i64 nb.exp, .string nb.txt, .slice nb.ab nb.lb nb.cb, .slice nb.ak nb.lk nb.ck, .slice nb.ai nb.li nb.ci] 26)).alloc (.cells #[.int .i64 0, .int .i64 0] 29)) ((x2.alloc (.cells #[.int .i64 mb.kind, .int .u64 mb.num, .bool mb.neg, .string mb.dig, .int .i64 mb.exp, .string mb.txt, .slice mb.ab mb.lb mb.cb, .slice mb.ak mb.lk mb.ck, .slice mb.ai mb.li mb.ci] 26)).alloc (.cells #[.int .i64 0, .int .i64 0] 29)) := hb2.trans ((bal2 x2 _ _).mono hb2.size)
  have b2 : Hid (Below w.heap.size w ((x2.alloc (.cells #[.int .i64 mb.kind, .int .u64 mb.num, .bool mb.neg, .string mb.dig, .int .i64 mb.exp, .string mb.txt, .slice mb.ab mb.lb mb.cb, .slice mb.ak mb.lk mb.ck, .slice mb.ai mb.li mb.ci] 26)).alloc (.cells #[.int .i64 0, .int .i64 0] 29))) := b1.out.trans (c2.mono b1.out.size)
  have F2 := Blk.kept FF.out c2 FF.out.lt
  have m0 : ((x2.alloc (.cells #[.int .i64 mb.kind, .int .u64 mb.num, .bool mb.neg, .string mb.dig, .int .i64 mb.exp, .string mb.txt, .slice mb.ab mb.lb mb.cb, .slice mb.ak mb.lk mb.ck, .slice mb.ai mb.li mb.ci] 26)).alloc (.cells #[.int .i64 0, .int .i64 0] 29)).cell? ⟨x1.heap.size + 1, 0, none⟩ = some (.int .i64 0) := F2.cell 0
  have m1 : ((x2.alloc (.cells #[.int .i64 mb.kind, .int .u64 mb.num, .bool mb.neg, .string mb.dig, .int .i64 mb.exp, .string mb.txt, .slice mb.ab mb.lb mb.cb, .slice mb.ak mb.lk mb.ck, .slice mb.ai mb.li mb.ci] 26)).alloc (.cells #[.int .i64 0, .int .i64 0] 29)).cell? ⟨x1.heap.size + 1, 1, none⟩ = some (.int .i64 0) := F2.cell 1
  obtain ⟨n0, n1, n2, n3, n4, n5, n6, n7, n8⟩ := (NN.out.kept c2 NN.out.lt).fields
  have N2 : Hid (Nd 26 ((x2.alloc (.cells #[.int .i64 mb.kind, .int .u64 mb.num, .bool mb.neg, .string mb.dig, .int .i64 mb.exp, .string mb.txt, .slice mb.ab mb.lb mb.cb, .slice mb.ak mb.lk mb.ck, .slice mb.ai mb.li mb.ci] 26)).alloc (.cells #[.int .i64 0, .int .i64 0] 29)) nb t) := N1.out.kept c2
  have M2 : Hid (Nd 26 ((x2.alloc (.cells #[.int .i64 mb.kind, .int .u64 mb.num, .bool mb.neg, .string mb.dig, .int .i64 mb.exp, .string mb.txt, .slice mb.ab mb.lb mb.cb, .slice mb.ak mb.lk mb.ck, .slice mb.ai mb.li mb.ci] 26)).alloc (.cells #[.int .i64 0, .int .i64 0] 29)) mb u) := hn2.nd.kept (bal2 x2 _ _)
  clear F2 FF hb2 hn2 b1 N1 NN c2
  have hs2 : Hid (((x2.alloc (.cells #[.int .i64 mb.kind, .int .u64 mb.num, .bool mb.neg, .string mb.dig, .int .i64 mb.exp, .string mb.txt, .slice mb.ab mb.lb mb.cb, .slice mb.ak mb.lk mb.ck, .slice mb.ai mb.li mb.ci] 26)).alloc (.cells #[.int .i64 0, .int .i64 0] 29)).heap.size = x2.heap.size + 1 + 1) := by show _ = _; simp
  have hY4 : Hid (((((x2.alloc (.cells #[.int .i64 mb.kind, .int .u64 mb.num, .bool mb.neg, .string mb.dig, .int .i64 mb.exp, .string mb.txt, .slice mb.ab mb.lb mb.cb, .slice mb.ak mb.lk mb.ck, .slice mb.ai mb.li mb.ci] 26)).alloc (.cells #[.int .i64 0, .int .i64 0] 29)).alloc (.cells #[.int .i64 nb.kind, .int .u64 nb.num, .bool nb.neg, .string nb.dig, .int .i64 nb.exp, .string nb.txt, .slice nb.ab nb.lb nb.cb, .slice nb.ak nb.lk nb.ck, .slice nb.ai nb.li nb.ci, .int .i64 mb.kind, .int .u64 mb.num, .bool mb.neg, .string mb.dig, .int .i64 mb.exp, .string mb.txt, .slice mb.ab mb.lb mb.cb, .slice mb.ak mb.lk mb.ck, .slice mb.ai mb.li mb.ci] 26)).alloc (.cells #[.int .i64 7, .int .u64 0, .bool false, .string ⟨#[]⟩, .int .i64 0, .string ⟨#[]⟩, .slice none 0 0, .slice none 0 0, .slice (some ⟨x2.heap.size + 1 + 1, 0, none⟩) 2 2] 26)).heap.size = x2.heap.size + 1 + 1 + 1 + 1) := by show _ = _; simp
  have b4 : Hid (Below w.heap.size w ((((x2.alloc (.cells #[.int .i64 mb.kind, .int .u64 mb.num, .bool mb.neg, .string mb.dig, .int .i64 mb.exp, .string mb.txt, .slice mb.ab mb.lb mb.cb, .slice mb.ak mb.lk mb.ck, .slice mb.ai mb.li mb.ci] 26)).alloc (.cells #[.int .i64 0, .int .i64 0] 29)).alloc (.cells #[.int .i64 nb.kind, .int .u64 nb.num, .bool nb.neg, .string nb.dig, .int .i64 nb.exp, .string nb.txt, .slice nb.ab nb.lb nb.cb, .slice nb.ak nb.lk nb.ck, .slice nb.ai nb.li nb.ci, .int .i64 mb.kind, .int .u64 mb.num, .bool mb.neg, .string mb.dig, .int .i64 mb.exp, .string mb.txt, .slice mb.ab mb.lb mb.cb, .slice mb.ak mb.lk mb.ck, .slice mb.ai mb.li mb.ci] 26)).alloc (.cells #[.int .i64 7, .int .u64 0, .bool false, .string ⟨#[]⟩, .int .i64 0, .string ⟨#[]⟩, .slice none 0 0, .slice none 0 0, .slice (some ⟨x2.heap.size + 1 + 1, 0, none⟩) 2 2] 26))) := b2.out.trans ((bal2 ((x2.alloc (.cells #[.int .i64 mb.kind, .int .u64 mb.num, .bool mb.neg, .string mb.dig, .int .i64 mb.exp, .string mb.txt, .slice mb.ab mb.lb mb.cb, .slice mb.ak mb.lk mb.ck, .slice mb.ai mb.li mb.ci] 26)).alloc (.cells #[.int .i64 0, .int .i64 0] 29)) _ _).mono b2.out.size)
  have hND : Hid (Nd 27 ((((x2.alloc (.cells #[.int .i64 mb.kind, .int .u64 mb.num, .bool mb.neg, .string mb.dig, .int .i64 mb.exp, .string mb.txt, .slice mb.ab mb.lb mb.cb, .slice mb.ak mb.lk mb.ck, .slice mb.ai mb.li mb.ci] 26)).alloc (.cells #[.int .i64 0, .int .i64 0] 29)).alloc (.cells #[.int .i64 nb.kind, .int .u64 nb.num, .bool nb.neg, .string nb.dig, .int .i64 nb.exp, .string nb.txt, .slice nb.ab nb.lb nb.cb, .slice nb.ak nb.lk nb.ck, .slice nb.ai nb.li nb.ci, .int .i64 mb.kind, .int .u64 mb.num, .bool mb.neg, .string mb.dig, .int .i64 mb.exp, .string mb.txt, .slice mb.ab mb.lb mb.cb, .slice mb.ak mb.lk mb.ck, .slice mb.ai mb.li mb.ci] 26)).alloc (.cells #[.int .i64 7, .int .u64 0, .bool false, .string ⟨#[]⟩, .int .i64 0, .string ⟨#[]⟩, .slice none 0 0, .slice none 0 0, .slice (some ⟨x2.heap.size + 1 + 1, 0, none⟩) 2 2] 26)) (twoN (x2.heap.size + 1 + 1)) (arrT [t, u])) := by have := nd_two N2.out M2.out; rw [hs2.out] at this; exact this
  have hNW : Hid (NBox ((((x2.alloc (.cells #[.int .i64 mb.kind, .int .u64 mb.num, .bool mb.neg, .string mb.dig, .int .i64 mb.exp, .string mb.txt, .slice mb.ab mb.lb mb.cb, .slice mb.ak mb.lk mb.ck, .slice mb.ai mb.li mb.ci] 26)).alloc (.cells #[.int .i64 0, .int .i64 0] 29)).alloc (.cells #[.int .i64 nb.kind, .int .u64 nb.num, .bool nb.neg, .string nb.dig, .int .i64 nb.exp, .string nb.txt, .slice nb.ab nb.lb nb.cb, .slice nb.ak nb.lk nb.ck, .slice nb.ai nb.li nb.ci, .int .i64 mb.kind, .int .u64 mb.num, .bool mb.neg, .string mb.dig, .int .i64 mb.exp, .string mb.txt, .slice mb.ab mb.lb mb.cb, .slice mb.ak mb.lk mb.ck, .slice mb.ai mb.li mb.ci] 26)).alloc (.cells #[.int .i64 7, .int .u64 0, .bool false, .string ⟨#[]⟩, .int .i64 0, .string ⟨#[]⟩, .slice none 0 0, .slice none 0 0, .slice (some ⟨x2.heap.size + 1 + 1, 0, none⟩) 2 2] 26)) (x2.heap.size + 1 + 1 + 1) (twoN (x2.heap.size + 1 + 1))) := by have := nbox_new (((x2.alloc (.cells #[.int .i64 mb.kind, .int .u64 mb.num, .bool mb.neg, .string mb.dig, .int .i64 mb.exp, .string mb.txt, .slice mb.ab mb.lb mb.cb, .slice mb.ak mb.lk mb.ck, .slice mb.ai mb.li mb.ci] 26)).alloc (.cells #[.int .i64 0, .int .i64 0] 29)).alloc (.cells #[.int .i64 nb.kind, .int .u64 nb.num, .bool nb.neg, .string nb.dig, .int .i64 nb.exp, .string nb.txt, .slice nb.ab nb.lb nb.cb, .slice nb.ak nb.lk nb.ck, .slice nb.ai nb.li nb.ci, .int .i64 mb.kind, .int .u64 mb.num, .bool mb.neg, .string mb.dig, .int .i64 mb.exp, .string mb.txt, .slice mb.ab mb.lb mb.cb, .slice mb.ak mb.lk mb.ck, .slice mb.ai mb.li mb.ci] 26)) (twoN (x2.heap.size + 1 + 1)); rw [show (((x2.alloc (.cells #[.int .i64 mb.kind, .int .u64 mb.num, .bool mb.neg, .string mb.dig, .int .i64 mb.exp, .string mb.txt, .slice mb.ab mb.lb mb.cb, .slice mb.ak mb.lk mb.ck, .slice mb.ai mb.li mb.ci] 26)).alloc (.cells #[.int .i64 0, .int .i64 0] 29)).alloc (.cells #[.int .i64 nb.kind, .int .u64 nb.num, .bool nb.neg, .string nb.dig, .int .i64 nb.exp, .string nb.txt, .slice nb.ab nb.lb nb.cb, .slice nb.ak nb.lk nb.ck, .slice nb.ai nb.li nb.ci, .int .i64 mb.kind, .int .u64 mb.num, .bool mb.neg, .string mb.dig, .int .i64 mb.exp, .string mb.txt, .slice mb.ab mb.lb mb.cb, .slice mb.ak mb.lk mb.ck, .slice mb.ai mb.li mb.ci] 26)).heap.size = x2.heap.size + 1 + 1 + 1 by simp] at this; exact this
  go_wp2_with (first
    | (at_builtin; guard_hyp hBB; refine wpList_append_bytes rfl _ _ rfl ((((x2.alloc (.cells #[.int .i64 mb.kind, .int .u64 mb.num, .bool mb.neg, .string mb.dig, .int .i64 mb.exp, .string mb.txt, .slice mb.ab mb.lb mb.cb, .slice mb.ak mb.lk mb.ck, .slice mb.ai mb.li mb.ci] 26)).alloc (.cells #[.int .i64 0, .int .i64 0] 29)).alloc (.cells #[.int .i64 nb.kind, .int .u64 nb.num, .bool nb.neg, .string nb.dig, .int .i64 nb.exp, .string nb.txt, .slice nb.ab nb.lb nb.cb, .slice nb.ak nb.lk nb.ck, .slice nb.ai nb.li nb.ci, .int .i64 mb.kind, .int .u64 mb.num, .bool mb.neg, .string mb.dig, .int .i64 mb.exp, .string mb.txt, .slice mb.ab mb.lb mb.cb, .slice mb.ak mb.lk mb.ck, .slice mb.ai mb.li mb.ci] 26)).alloc (.cells #[.int .i64 7, .int .u64 0, .bool false, .string ⟨#[]⟩, .int .i64 0, .string ⟨#[]⟩, .slice none 0 0, .slice none 0 0, .slice (some ⟨x2.heap.size + 1 + 1, 0, none⟩) 2 2] 26)).heap.size (.slice (some ⟨x2.heap.size + 1 + 1 + 1 + 1, 0, none⟩) 1 1) [130] zs rfl (by have := ownsB_one ((((x2.alloc (.cells #[.int .i64 mb.kind, .int .u64 mb.num, .bool mb.neg, .string mb.dig, .int .i64 mb.exp, .string mb.txt, .slice mb.ab mb.lb mb.cb, .slice mb.ak mb.lk mb.ck, .slice mb.ai mb.li mb.ci] 26)).alloc (.cells #[.int .i64 0, .int .i64 0] 29)).alloc (.cells #[.int .i64 nb.kind, .int .u64 nb.num, .bool nb.neg, .string nb.dig, .int .i64 nb.exp, .string nb.txt, .slice nb.ab nb.lb nb.cb, .slice nb.ak nb.lk nb.ck, .slice nb.ai nb.li nb.ci, .int .i64 mb.kind, .int .u64 mb.num, .bool mb.neg, .string mb.dig, .int .i64 mb.exp, .string mb.txt, .slice mb.ab mb.lb mb.cb, .slice mb.ak mb.lk mb.ck, .slice mb.ai mb.li mb.ci] 26)).alloc (.cells #[.int .i64 7, .int .u64 0, .bool false, .string ⟨#[]⟩, .int .i64 0, .string ⟨#[]⟩, .slice none 0 0, .slice none 0 0, .slice (some ⟨x2.heap.size + 1 + 1, 0, none⟩) 2 2] 26)) (c := 130) (by omega); rw [hY4.out] at this ⊢; exact this) a n c rfl hBB.out.1 hBB.out.2.2 ((hBB.out.2.1.kept b4.out).kept (alloc_below ((((x2.alloc (.cells #[.int .i64 mb.kind, .int .u64 mb.num, .bool mb.neg, .string mb.dig, .int .i64 mb.exp, .string mb.txt, .slice mb.ab mb.lb mb.cb, .slice mb.ak mb.lk mb.ck, .slice mb.ai mb.li mb.ci] 26)).alloc (.cells #[.int .i64 0, .int .i64 0] 29)).alloc (.cells #[.int .i64 nb.kind, .int .u64 nb.num, .bool nb.neg, .string nb.dig, .int .i64 nb.exp, .string nb.txt, .slice nb.ab nb.lb nb.cb, .slice nb.ak nb.lk nb.ck, .slice nb.ai nb.li nb.ci, .int .i64 mb.kind, .int .u64 mb.num, .bool mb.neg, .string mb.dig, .int .i64 mb.exp, .string mb.txt, .slice mb.ab mb.lb mb.cb, .slice mb.ak mb.lk mb.ck, .slice mb.ai mb.li mb.ci] 26)).alloc (.cells #[.int .i64 7, .int .u64 0, .bool false, .string ⟨#[]⟩, .int .i64 0, .string ⟨#[]⟩, .slice none 0 0, .slice none 0 0, .slice (some ⟨x2.heap.size + 1 + 1, 0, none⟩) 2 2] 26)) _)) (by have := hT.out; simp; omega) (by simp) ?_; intro v5 x5 hO5 hg5; have b5 : Hid (Below ((((x2.alloc (.cells #[.int .i64 mb.kind, .int .u64 mb.num, .bool mb.neg, .string mb.dig, .int .i64 mb.exp, .string mb.txt, .slice mb.ab mb.lb mb.cb, .slice mb.ak mb.lk mb.ck, .slice mb.ai mb.li mb.ci] 26)).alloc (.cells #[.int .i64 0, .int .i64 0] 29)).alloc (.cells #[.int .i64 nb.kind, .int .u64 nb.num, .bool nb.neg, .string nb.dig, .int .i64 nb.exp, .string nb.txt, .slice nb.ab nb.lb nb.cb, .slice nb.ak nb.lk nb.ck, .slice nb.ai nb.li nb.ci, .int .i64 mb.kind, .int .u64 mb.num, .bool mb.neg, .string mb.dig, .int .i64 mb.exp, .string mb.txt, .slice mb.ab mb.lb mb.cb, .slice mb.ak mb.lk mb.ck, .slice mb.ai mb.li mb.ci] 26)).alloc (.cells #[.int .i64 7, .int .u64 0, .bool false, .string ⟨#[]⟩, .int .i64 0, .string ⟨#[]⟩, .slice none 0 0, .slice none 0 0, .slice (some ⟨x2.heap.size + 1 + 1, 0, none⟩) 2 2] 26)).heap.size ((((x2.alloc (.cells #[.int .i64 mb.kind, .int .u64 mb.num, .bool mb.neg, .string mb.dig, .int .i64 mb.exp, .string mb.txt, .slice mb.ab mb.lb mb.cb, .slice mb.ak mb.lk mb.ck, .slice mb.ai mb.li mb.ci] 26)).alloc (.cells #[.int .i64 0, .int .i64 0] 29)).alloc (.cells #[.int .i64 nb.kind, .int .u64 nb.num, .bool nb.neg, .string nb.dig, .int .i64 nb.exp, .string nb.txt, .slice nb.ab nb.lb nb.cb, .slice nb.ak nb.lk nb.ck, .slice nb.ai nb.li nb.ci, .int .i64 mb.kind, .int .u64 mb.num, .bool mb.neg, .string mb.dig, .int .i64 mb.exp, .string mb.txt, .slice mb.ab mb.lb mb.cb, .slice mb.ak mb.lk mb.ck, .slice mb.ai mb.li mb.ci] 26)).alloc (.cells #[.int .i64 7, .int .u64 0, .bool false, .string ⟨#[]⟩, .int .i64 0, .string ⟨#[]⟩, .slice none 0 0, .slice none 0 0, .slice (some ⟨x2.heap.size + 1 + 1, 0, none⟩) 2 2] 26)) x5) := grown_below (alloc_below ((((x2.alloc (.cells #[.int .i64 mb.kind, .int .u64 mb.num, .bool mb.neg, .string mb.dig, .int .i64 mb.exp, .string mb.txt, .slice mb.ab mb.lb mb.cb, .slice mb.ak mb.lk mb.ck, .slice mb.ai mb.li mb.ci] 26)).alloc (.cells #[.int .i64 0, .int .i64 0] 29)).alloc (.cells #[.int .i64 nb.kind, .int .u64 nb.num, .bool nb.neg, .string nb.dig, .int .i64 nb.exp, .string nb.txt, .slice nb.ab nb.lb nb.cb, .slice nb.ak nb.lk nb.ck, .slice nb.ai nb.li nb.ci, .int .i64 mb.kind, .int .u64 mb.num, .bool mb.neg, .string mb.dig, .int .i64 mb.exp, .string mb.txt, .slice mb.ab mb.lb mb.cb, .slice mb.ak mb.lk mb.ck, .slice mb.ai mb.li mb.ci] 26)).alloc (.cells #[.int .i64 7, .int .u64 0, .bool false, .string ⟨#[]⟩, .int .i64 0, .string ⟨#[]⟩, .slice none 0 0, .slice none 0 0, .slice (some ⟨x2.heap.size + 1 + 1, 0, none⟩) 2 2] 26)) _) (by have := ownsB_one ((((x2.alloc (.cells #[.int .i64 mb.kind, .int .u64 mb.num, .bool mb.neg, .string mb.dig, .int .i64 mb.exp, .string mb.txt, .slice mb.ab mb.lb mb.cb, .slice mb.ak mb.lk mb.ck, .slice mb.ai mb.li mb.ci] 26)).alloc (.cells #[.int .i64 0, .int .i64 0] 29)).alloc (.cells #[.int .i64 nb.kind, .int .u64 nb.num, .bool nb.neg, .string nb.dig, .int .i64 nb.exp, .string nb.txt, .slice nb.ab nb.lb nb.cb, .slice nb.ak nb.lk nb.ck, .slice nb.ai nb.li nb.ci, .int .i64 mb.kind, .int .u64 mb.num, .bool mb.neg, .string mb.dig, .int .i64 mb.exp, .string mb.txt, .slice mb.ab mb.lb mb.cb, .slice mb.ak mb.lk mb.ck, .slice mb.ai mb.li mb.ci] 26)).alloc (.cells #[.int .i64 7, .int .u64 0, .bool false, .string ⟨#[]⟩, .int .i64 0, .string ⟨#[]⟩, .slice none 0 0, .slice none 0 0, .slice (some ⟨x2.heap.size + 1 + 1, 0, none⟩) 2 2] 26)) (c := 130) (by omega); rw [hY4.out] at this ⊢; exact this) hg5 (by simp); have O5 : Hid (OwnsB x5 ((((x2.alloc (.cells #[.int .i64 mb.kind, .int .u64 mb.num, .bool mb.neg, .string mb.dig, .int .i64 mb.exp, .string mb.txt, .slice mb.ab mb.lb mb.cb, .slice mb.ak mb.lk mb.ck, .slice mb.ai mb.li mb.ci] 26)).alloc (.cells #[.int .i64 0, .int .i64 0] 29)).alloc (.cells #[.int .i64 nb.kind, .int .u64 nb.num, .bool nb.neg, .string nb.dig, .int .i64 nb.exp, .string nb.txt, .slice nb.ab nb.lb nb.cb, .slice nb.ak nb.lk nb.ck, .slice nb.ai nb.li nb.ci, .int .i64 mb.kind, .int .u64 mb.num, .bool mb.neg, .string mb.dig, .int .i64 mb.exp, .string mb.txt, .slice mb.ab mb.lb mb.cb, .slice mb.ak mb.lk mb.ck, .slice mb.ai mb.li mb.ci] 26)).alloc (.cells #[.int .i64 7, .int .u64 0, .bool false, .string ⟨#[]⟩, .int .i64 0, .string ⟨#[]⟩, .slice none 0 0, .slice none 0 0, .slice (some ⟨x2.heap.size + 1 + 1, 0, none⟩) 2 2] 26)).heap.size v5 ([130] ++ zs)) := hO5; have hBB2 : Hid (zs.length = n ∧ Bytes w a zs ∧ (a = none → c = 0)) := hBB.out; clear hO5 hg5 hBB)
    | (at_builtin; guard_hyp O5; refine wpList_append_bytes rfl _ _ rfl ((((x2.alloc (.cells #[.int .i64 mb.kind, .int .u64 mb.num, .bool mb.neg, .string mb.dig, .int .i64 mb.exp, .string mb.txt, .slice mb.ab mb.lb mb.cb, .slice mb.ak mb.lk mb.ck, .slice mb.ai mb.li mb.ci] 26)).alloc (.cells #[.int .i64 0, .int .i64 0] 29)).alloc (.cells #[.int .i64 nb.kind, .int .u64 nb.num, .bool nb.neg, .string nb.dig, .int .i64 nb.exp, .string nb.txt, .slice nb.ab nb.lb nb.cb, .slice nb.ak nb.lk nb.ck, .slice nb.ai nb.li nb.ci, .int .i64 mb.kind, .int .u64 mb.num, .bool mb.neg, .string mb.dig, .int .i64 mb.exp, .string mb.txt, .slice mb.ab mb.lb mb.cb, .slice mb.ak mb.lk mb.ck, .slice mb.ai mb.li mb.ci] 26)).alloc (.cells #[.int .i64 7, .int .u64 0, .bool false, .string ⟨#[]⟩, .int .i64 0, .string ⟨#[]⟩, .slice none 0 0, .slice none 0 0, .slice (some ⟨x2.heap.size + 1 + 1, 0, none⟩) 2 2] 26)).heap.size v5 ([130] ++ zs) ys rfl O5.out a' n' c' rfl hBC.out.1 hBC.out.2.2 (hBC.out.2.1.kept (b4.out.trans (b5.out.mono b4.out.size))) (by have := hT.out; simp; omega) b5.out.size ?_; intro v6 x6 hO6 hg6; have b6 : Hid (Below ((((x2.alloc (.cells #[.int .i64 mb.kind, .int .u64 mb.num, .bool mb.neg, .string mb.dig, .int .i64 mb.exp, .string mb.txt, .slice mb.ab mb.lb mb.cb, .slice mb.ak mb.lk mb.ck, .slice mb.ai mb.li mb.ci] 26)).alloc (.cells #[.int .i64 0, .int .i64 0] 29)).alloc (.cells #[.int .i64 nb.kind, .int .u64 nb.num, .bool nb.neg, .string nb.dig, .int .i64 nb.exp, .string nb.txt, .slice nb.ab nb.lb nb.cb, .slice nb.ak nb.lk nb.ck, .slice nb.ai nb.li nb.ci, .int .i64 mb.kind, .int .u64 mb.num, .bool mb.neg, .string mb.dig, .int .i64 mb.exp, .string mb.txt, .slice mb.ab mb.lb mb.cb, .slice mb.ak mb.lk mb.ck, .slice mb.ai mb.li mb.ci] 26)).alloc (.cells #[.int .i64 7, .int .u64 0, .bool false, .string ⟨#[]⟩, .int .i64 0, .string ⟨#[]⟩, .slice none 0 0, .slice none 0 0, .slice (some ⟨x2.heap.size + 1 + 1, 0, none⟩) 2 2] 26)).heap.size ((((x2.alloc (.cells #[.int .i64 mb.kind, .int .u64 mb.num, .bool mb.neg, .string mb.dig, .int .i64 mb.exp, .string mb.txt, .slice mb.ab mb.lb mb.cb, .slice mb.ak mb.lk mb.ck, .slice mb.ai mb.li mb.ci] 26)).alloc (.cells #[.int .i64 0, .int .i64 0] 29)).alloc (.cells #[.int .i64 nb.kind, .int .u64 nb.num, .bool nb.neg, .string nb.dig, .int .i64 nb.exp, .string nb.txt, .slice nb.ab nb.lb nb.cb, .slice nb.ak nb.lk nb.ck, .slice nb.ai nb.li nb.ci, .int .i64 mb.kind, .int .u64 mb.num, .bool mb.neg, .string mb.dig, .int .i64 mb.exp, .string mb.txt, .slice mb.ab mb.lb mb.cb, .slice mb.ak mb.lk mb.ck, .slice mb.ai mb.li mb.ci] 26)).alloc (.cells #[.int .i64 7, .int .u64 0, .bool false, .string ⟨#[]⟩, .int .i64 0, .string ⟨#[]⟩, .slice none 0 0, .slice none 0 0, .slice (some ⟨x2.heap.size + 1 + 1, 0, none⟩) 2 2] 26)) x6) := grown_below b5.out O5.out hg6 b5.out.size; obtain ⟨a6, m6, c6, rfl, hl6, hn6, hc6, hm6, hB6⟩ := hO6.form; have k6 := kD.out x6 a6 m6 c6 (([130] ++ zs) ++ ys) hl6.out hB6.out ⟨hc6, hm6, hn6.out⟩ (b4.out.trans (b6.out.mono b4.out.size)); have hBC2 : Hid (ys.length = n' ∧ Bytes w a' ys ∧ (a' = none → c' = 0)) := hBC.out; clear hO6 hg6 O5 b5 hBC))
  rw [hE3.out] at k6
  unfold DcdIs at k6
  unfold Nb.arr at k6
  simp only at k6
  refine k6.mono ?_
  rintro e x7 ⟨⟨qb, he7, hn7⟩, hb7⟩
  subst he7
  have c7 : Below ((((x2.alloc (.cells #[.int .i64 mb.kind, .int .u64 mb.num, .bool mb.neg, .string mb.dig, .int .i64 mb.exp, .string mb.txt, .slice mb.ab mb.lb mb.cb, .slice mb.ak mb.lk mb.ck, .slice mb.ai mb.li mb.ci] 26)).alloc (.cells #[.int .i64 0, .int .i64 0] 29)).alloc (.cells #[.int .i64 nb.kind, .int .u64 nb.num, .bool nb.neg, .string nb.dig, .int .i64 nb.exp, .string nb.txt, .slice nb.ab nb.lb nb.cb, .slice nb.ak nb.lk nb.ck, .slice nb.ai nb.li nb.ci, .int .i64 mb.kind, .int .u64 mb.num, .bool mb.neg, .string mb.dig, .int .i64 mb.exp, .string mb.txt, .slice mb.ab mb.lb mb.cb, .slice mb.ak mb.lk mb.ck, .slice mb.ai mb.li mb.ci] 26)).alloc (.cells #[.int .i64 7, .int .u64 0, .bool false, .string ⟨#[]⟩, .int .i64 0, .string ⟨#[]⟩, .slice none 0 0, .slice none 0 0, .slice (some ⟨x2.heap.size + 1 + 1, 0, none⟩) 2 2] 26)).heap.size ((((x2.alloc (.cells #[.int .i64 mb.kind, .int .u64 mb.num, .bool mb.neg, .string mb.dig, .int .i64 mb.exp, .string mb.txt, .slice mb.ab mb.lb mb.cb, .slice mb.ak mb.lk mb.ck, .slice mb.ai mb.li mb.ci] 26)).alloc (.cells #[.int .i64 0, .int .i64 0] 29)).alloc (.cells #[.int .i64 nb.kind, .int .u64 nb.num, .bool nb.neg, .string nb.dig, .int .i64 nb.exp, .string nb.txt, .slice nb.ab nb.lb nb.cb, .slice nb.ak nb.lk nb.ck, .slice nb.ai nb.li nb.ci, .int .i64 mb.kind, .int .u64 mb.num, .bool mb.neg, .string mb.dig, .int .i64 mb.exp, .string mb.txt, .slice mb.ab mb.lb mb.cb, .slice mb.ak mb.lk mb.ck, .slice mb.ai mb.li mb.ci] 26)).alloc (.cells #[.int .i64 7, .int .u64 0, .bool false, .string ⟨#[]⟩, .int .i64 0, .string ⟨#[]⟩, .slice none 0 0, .slice none 0 0, .slice (some ⟨x2.heap.size + 1 + 1, 0, none⟩) 2 2] 26)) x7 := b6.out.trans (hb7.mono b6.out.size)
  have d7 : Below ((((x2.alloc (.cells #[.int .i64 mb.kind, .int .u64 mb.num, .bool mb.neg, .string mb.dig, .int .i64 mb.exp, .string mb.txt, .slice mb.ab mb.lb mb.cb, .slice mb.ak mb.lk mb.ck, .slice mb.ai mb.li mb.ci] 26)).alloc (.cells #[.int .i64 0, .int .i64 0] 29)).alloc (.cells #[.int .i64 nb.kind, .int .u64 nb.num, .bool nb.neg, .string nb.dig, .int .i64 nb.exp, .string nb.txt, .slice nb.ab nb.lb nb.cb, .slice nb.ak nb.lk nb.ck, .slice nb.ai nb.li nb.ci, .int .i64 mb.kind, .int .u64 mb.num, .bool mb.neg, .string mb.dig, .int .i64 mb.exp, .string mb.txt, .slice mb.ab mb.lb mb.cb, .slice mb.ak mb.lk mb.ck, .slice mb.ai mb.li mb.ci] 26)).alloc (.cells #[.int .i64 7, .int .u64 0, .bool false, .string ⟨#[]⟩, .int .i64 0, .string ⟨#[]⟩, .slice none 0 0, .slice none 0 0, .slice (some ⟨x2.heap.size + 1 + 1, 0, none⟩) 2 2] 26)).heap.size ((((x2.alloc (.cells #[.int .i64 mb.kind, .int .u64 mb.num, .bool mb.neg, .string mb.dig, .int .i64 mb.exp, .string mb.txt, .slice mb.ab mb.lb mb.cb, .slice mb.ak mb.lk mb.ck, .slice mb.ai mb.li mb.ci] 26)).alloc (.cells #[.int .i64 0, .int .i64 0] 29)).alloc (.cells #[.int .i64 nb.kind, .int .u64 nb.num, .bool nb.neg, .string nb.dig, .int .i64 nb.exp, .string nb.txt, .slice nb.ab nb.lb nb.cb, .slice nb.ak nb.lk nb.ck, .slice nb.ai nb.li nb.ci, .int .i64 mb.kind, .int .u64 mb.num, .bool mb.neg, .string mb.dig, .int .i64 mb.exp, .string mb.txt, .slice mb.ab mb.lb mb.cb, .slice mb.ak mb.lk mb.ck, .slice mb.ai mb.li mb.ci] 26)).alloc (.cells #[.int .i64 7, .int .u64 0, .bool false, .string ⟨#[]⟩, .int .i64 0, .string ⟨#[]⟩, .slice none 0 0, .slice none 0 0, .slice (some ⟨x2.heap.size + 1 + 1, 0, none⟩) 2 2] 26)) ((x7.alloc (.cells #[.int .i64 qb.kind, .int .u64 qb.num, .bool qb.neg, .string qb.dig, .int .i64 qb.exp, .string qb.txt, .slice qb.ab qb.lb qb.cb, .slice qb.ak qb.lk qb.ck, .slice qb.ai qb.li qb.ci] 26)).alloc (.cells #[.int .i64 0, .int .i64 0] 29)) := c7.trans ((bal2 x7 _ _).mono c7.size)
  have b7 : Hid (Below w.heap.size w ((x7.alloc (.cells #[.int .i64 qb.kind, .int .u64 qb.num, .bool qb.neg, .string qb.dig, .int .i64 qb.exp, .string qb.txt, .slice qb.ab qb.lb qb.cb, .slice qb.ak qb.lk qb.ck, .slice qb.ai qb.li qb.ci] 26)).alloc (.cells #[.int .i64 0, .int .i64 0] 29))) := b4.out.trans (d7.mono b4.out.size)
  have ND7 : Hid (Nd 27 ((x7.alloc (.cells #[.int .i64 qb.kind, .int .u64 qb.num, .bool qb.neg, .string qb.dig, .int .i64 qb.exp, .string qb.txt, .slice qb.ab qb.lb qb.cb, .slice qb.ak qb.lk qb.ck, .slice qb.ai qb.li qb.ci] 26)).alloc (.cells #[.int .i64 0, .int .i64 0] 29)) (twoN (x2.heap.size + 1 + 1)) (arrT [t, u])) := hND.out.kept d7
  have NW7 : Hid (NBox ((x7.alloc (.cells #[.int .i64 qb.kind, .int .u64 qb.num, .bool qb.neg, .string qb.dig, .int .i64 qb.exp, .string qb.txt, .slice qb.ab qb.lb qb.cb, .slice qb.ak qb.lk qb.ck, .slice qb.ai qb.li qb.ci] 26)).alloc (.cells #[.int .i64 0, .int .i64 0] 29)) (x2.heap.size + 1 + 1 + 1) (twoN (x2.heap.size + 1 + 1))) := hNW.out.kept d7 hNW.out.lt
  have NQ7 : Hid (Nd 26 ((x7.alloc (.cells #[.int .i64 qb.kind, .int .u64 qb.num, .bool qb.neg, .string qb.dig, .int .i64 qb.exp, .string qb.txt, .slice qb.ab qb.lb qb.cb, .slice qb.ak qb.lk qb.ck, .slice qb.ai qb.li qb.ci] 26)).alloc (.cells #[.int .i64 0, .int .i64 0] 29)) qb (arrT [t, u])) := hn7.nd.kept (bal2 x7 _ _)
  have NX7 : Hid (NBox ((x7.alloc (.cells #[.int .i64 qb.kind, .int .u64 qb.num, .bool qb.neg, .string qb.dig, .int .i64 qb.exp, .string qb.txt, .slice qb.ab qb.lb qb.cb, .slice qb.ak qb.lk qb.ck, .slice qb.ai qb.li qb.ci] 26)).alloc (.cells #[.int .i64 0, .int .i64 0] 29)) x7.heap.size qb) := (nbox_new x7 qb).kept (alloc_below _ _) (nbox_new x7 qb).lt
  have FX7 : Hid (Blk ((x7.alloc (.cells #[.int .i64 qb.kind, .int .u64 qb.num, .bool qb.neg, .string qb.dig, .int .i64 qb.exp, .string qb.txt, .slice qb.ab qb.lb qb.cb, .slice qb.ak qb.lk qb.ck, .slice qb.ai qb.li qb.ci] 26)).alloc (.cells #[.int .i64 0, .int .i64 0] 29)) (x7.heap.size + 1) #[.int .i64 0, .int .i64 0] 29) := box_two x7 _ _
  have hY7 : Hid (((x7.alloc (.cells #[.int .i64 qb.kind, .int .u64 qb.num, .bool qb.neg, .string qb.dig, .int .i64 qb.exp, .string qb.txt, .slice qb.ab qb.lb qb.cb, .slice qb.ak qb.lk qb.ck, .slice qb.ai qb.li qb.ci] 26)).alloc (.cells #[.int .i64 0, .int .i64 0] 29)).heap.size = x7.heap.size + 1 + 1) := by show _ = _; simp
  clear k6 hn7 hb7 c7 d7 hND hNW b6 b4 b2 N2 M2 m0 m1 n0 n1 n2 n3 n4 n5 n6 n7 n8
  go_wp2_with (first
    | (at_builtin; guard_hyp hBB2; refine wpList_append_bytes rfl _ _ rfl ((x7.alloc (.cells #[.int .i64 qb.kind, .int .u64 qb.num, .bool qb.neg, .string qb.dig, .int .i64 qb.exp, .string qb.txt, .slice qb.ab qb.lb qb.cb, .slice qb.ak qb.lk qb.ck, .slice qb.ai qb.li qb.ci] 26)).alloc (.cells #[.int .i64 0, .int .i64 0] 29)).heap.size (.slice (some ⟨x7.heap.size + 1 + 1, 0, none⟩) 1 1) [159] zs rfl (by have := ownsB_one ((x7.alloc (.cells #[.int .i64 qb.kind, .int .u64 qb.num, .bool qb.neg, .string qb.dig, .int .i64 qb.exp, .string qb.txt, .slice qb.ab qb.lb qb.cb, .slice qb.ak qb.lk qb.ck, .slice qb.ai qb.li qb.ci] 26)).alloc (.cells #[.int .i64 0, .int .i64 0] 29)) (c := 159) (by omega); rw [hY7.out] at this ⊢; exact this) a n c rfl hBB2.out.1 hBB2.out.2.2 ((hBB2.out.2.1.kept b7.out).kept (alloc_below ((x7.alloc (.cells #[.int .i64 qb.kind, .int .u64 qb.num, .bool qb.neg, .string qb.dig, .int .i64 qb.exp, .string qb.txt, .slice qb.ab qb.lb qb.cb, .slice qb.ak qb.lk qb.ck, .slice qb.ai qb.li qb.ci] 26)).alloc (.cells #[.int .i64 0, .int .i64 0] 29)) _)) (by have := hT.out; simp; omega) (by simp) ?_; intro v8 x8 hO8 hg8; have b8 : Hid (Below ((x7.alloc (.cells #[.int .i64 qb.kind, .int .u64 qb.num, .bool qb.neg, .string qb.dig, .int .i64 qb.exp, .string qb.txt, .slice qb.ab qb.lb qb.cb, .slice qb.ak qb.lk qb.ck, .slice qb.ai qb.li qb.ci] 26)).alloc (.cells #[.int .i64 0, .int .i64 0] 29)).heap.size ((x7.alloc (.cells #[.int .i64 qb.kind, .int .u64 qb.num, .bool qb.neg, .string qb.dig, .int .i64 qb.exp, .string qb.txt, .slice qb.ab qb.lb qb.cb, .slice qb.ak qb.lk qb.ck, .slice qb.ai qb.li qb.ci] 26)).alloc (.cells #[.int .i64 0, .int .i64 0] 29)) x8) := grown_below (alloc_below ((x7.alloc (.cells #[.int .i64 qb.kind, .int .u64 qb.num, .bool qb.neg, .string qb.dig, .int .i64 qb.exp, .string qb.txt, .slice qb.ab qb.lb qb.cb, .slice qb.ak qb.lk qb.ck, .slice qb.ai qb.li qb.ci] 26)).alloc (.cells #[.int .i64 0, .int .i64 0] 29)) _) (by have := ownsB_one ((x7.alloc (.cells #[.int .i64 qb.kind, .int .u64 qb.num, .bool qb.neg, .string qb.dig, .int .i64 qb.exp, .string qb.txt, .slice qb.ab qb.lb qb.cb, .slice qb.ak qb.lk qb.ck, .slice qb.ai qb.li qb.ci] 26)).alloc (.cells #[.int .i64 0, .int .i64 0] 29)) (c := 159) (by omega); rw [hY7.out] at this ⊢; exact this) hg8 (by simp); have O8 : Hid (OwnsB x8 ((x7.alloc (.cells #[.int .i64 qb.kind, .int .u64 qb.num, .bool qb.neg, .string qb.dig, .int .i64 qb.exp, .string qb.txt, .slice qb.ab qb.lb qb.cb, .slice qb.ak qb.lk qb.ck, .slice qb.ai qb.li qb.ci] 26)).alloc (.cells #[.int .i64 0, .int .i64 0] 29)).heap.size v8 ([159] ++ zs)) := hO8; clear hO8 hg8 hBB2)
    | (at_builtin; guard_hyp O8; refine wpList_append_bytes rfl _ _ rfl ((x7.alloc (.cells #[.int .i64 qb.kind, .int .u64 qb.num, .bool qb.neg, .string qb.dig, .int .i64 qb.exp, .string qb.txt, .slice qb.ab qb.lb qb.cb, .slice qb.ak qb.lk qb.ck, .slice qb.ai qb.li qb.ci] 26)).alloc (.cells #[.int .i64 0, .int .i64 0] 29)).heap.size v8 ([159] ++ zs) ys rfl O8.out a' n' c' rfl hBC2.out.1 hBC2.out.2.2 (hBC2.out.2.1.kept (b7.out.trans (b8.out.mono b7.out.size))) (by have := hT.out; simp; omega) b8.out.size ?_; intro v9 x9 hO9 hg9; have b9 : Hid (Below ((x7.alloc (.cells #[.int .i64 qb.kind, .int .u64 qb.num, .bool qb.neg, .string qb.dig, .int .i64 qb.exp, .string qb.txt, .slice qb.ab qb.lb qb.cb, .slice qb.ak qb.lk qb.ck, .slice qb.ai qb.li qb.ci] 26)).alloc (.cells #[.int .i64 0, .int .i64 0] 29)).heap.size ((x7.alloc (.cells #[.int .i64 qb.kind, .int .u64 qb.num, .bool qb.neg, .string qb.dig, .int .i64 qb.exp, .string qb.txt, .slice qb.ab qb.lb qb.cb, .slice qb.ak qb.lk qb.ck, .slice qb.ai qb.li qb.ci] 26)).alloc (.cells #[.int .i64 0, .int .i64 0] 29)) x9) := grown_below b8.out O8.out hg9 b8.out.size; have O9 : Hid (OwnsB x9 ((x7.alloc (.cells #[.int .i64 qb.kind, .int .u64 qb.num, .bool qb.neg, .string qb.dig, .int .i64 qb.exp, .string qb.txt, .slice qb.ab qb.lb qb.cb, .slice qb.ak qb.lk qb.ck, .slice qb.ai qb.li qb.ci] 26)).alloc (.cells #[.int .i64 0, .int .i64 0] 29)).heap.size v9 (([159] ++ zs) ++ ys)) := hO9; clear hO9 hg9 O8 b8 hBC2)
    | (at_builtin; guard_hyp O9; refine wpList_append_bytes rfl _ _ rfl ((x7.alloc (.cells #[.int .i64 qb.kind, .int .u64 qb.num, .bool qb.neg, .string qb.dig, .int .i64 qb.exp, .string qb.txt, .slice qb.ab qb.lb qb.cb, .slice qb.ak qb.lk qb.ck, .slice qb.ai qb.li qb.ci] 26)).alloc (.cells #[.int .i64 0, .int .i64 0] 29)).heap.size v9 (([159] ++ zs) ++ ys) [255] rfl (O9.out.alloc _) (some ⟨x9.heap.size, 0, none⟩) 1 1 rfl rfl (by simp) (bytes_lit x9 [255] (by decide) (by decide)) (by have := hT.out; simp; omega) (Nat.le_trans b9.out.size (alloc_below x9 _).size) ?_; intro v10 x10 hO10 hg10; have b10 : Hid (Below ((x7.alloc (.cells #[.int .i64 qb.kind, .int .u64 qb.num, .bool qb.neg, .string qb.dig, .int .i64 qb.exp, .string qb.txt, .slice qb.ab qb.lb qb.cb, .slice qb.ak qb.lk qb.ck, .slice qb.ai qb.li qb.ci] 26)).alloc (.cells #[.int .i64 0, .int .i64 0] 29)).heap.size ((x7.alloc (.cells #[.int .i64 qb.kind, .int .u64 qb.num, .bool qb.neg, .string qb.dig, .int .i64 qb.exp, .string qb.txt, .slice qb.ab qb.lb qb.cb, .slice qb.ak qb.lk qb.ck, .slice qb.ai qb.li qb.ci] 26)).alloc (.cells #[.int .i64 0, .int .i64 0] 29)) x10) := grown_below (b9.out.trans ((alloc_below x9 _).mono b9.out.size)) (O9.out.alloc _) hg10 (Nat.le_trans b9.out.size (alloc_below x9 _).size); obtain ⟨a10, m10, c10, rfl, hl10, hn10, hc10, hm10, hB10⟩ := hO10.form; have k10 := kD.out x10 a10 m10 c10 ((([159] ++ zs) ++ ys) ++ [255]) hl10.out hB10.out ⟨hc10, hm10, hn10.out⟩ (b7.out.trans (b10.out.mono b7.out.size)); clear hO10 hg10 O9 b9))
  have k11 : Calls Tryz.prog 17 #[.slice a10 m10 c10] x10 fun e w' => (∃ (rb : Nb) (p q : Int), e = .returned (.tuple #[.agg rb.arr, .agg #[.int .i64 p, .int .i64 q]])) ∧ Below x10.heap.size x10 w' := k10.mono fun e w' h => by
    unfold DcdIs at h
    cases hR : dcdA ((([159] ++ zs) ++ ys) ++ [255]) with
    | inl g => rw [hR] at h; exact ⟨⟨zN, _, _, h.1⟩, h.2⟩
    | inr t => rw [hR] at h; obtain ⟨⟨mb, he, _⟩, hb⟩ := h; exact ⟨⟨mb, _, _, he⟩, hb⟩
  unfold Nb.arr at k11
  refine k11.mono ?_
  rintro e x11 ⟨⟨rb, p, q, rfl⟩, hb11⟩
  have c11 : Below ((x7.alloc (.cells #[.int .i64 qb.kind, .int .u64 qb.num, .bool qb.neg, .string qb.dig, .int .i64 qb.exp, .string qb.txt, .slice qb.ab qb.lb qb.cb, .slice qb.ak qb.lk qb.ck, .slice qb.ai qb.li qb.ci] 26)).alloc (.cells #[.int .i64 0, .int .i64 0] 29)).heap.size ((x7.alloc (.cells #[.int .i64 qb.kind, .int .u64 qb.num, .bool qb.neg, .string qb.dig, .int .i64 qb.exp, .string qb.txt, .slice qb.ab qb.lb qb.cb, .slice qb.ak qb.lk qb.ck, .slice qb.ai qb.li qb.ci] 26)).alloc (.cells #[.int .i64 0, .int .i64 0] 29)) x11 := b10.out.trans (hb11.mono b10.out.size)
  have d11 : Below ((x7.alloc (.cells #[.int .i64 qb.kind, .int .u64 qb.num, .bool qb.neg, .string qb.dig, .int .i64 qb.exp, .string qb.txt, .slice qb.ab qb.lb qb.cb, .slice qb.ak qb.lk qb.ck, .slice qb.ai qb.li qb.ci] 26)).alloc (.cells #[.int .i64 0, .int .i64 0] 29)).heap.size ((x7.alloc (.cells #[.int .i64 qb.kind, .int .u64 qb.num, .bool qb.neg, .string qb.dig, .int .i64 qb.exp, .string qb.txt, .slice qb.ab qb.lb qb.cb, .slice qb.ak qb.lk qb.ck, .slice qb.ai qb.li qb.ci] 26)).alloc (.cells #[.int .i64 0, .int .i64 0] 29)) ((x11.alloc (.cells #[.int .i64 rb.kind, .int .u64 rb.num, .bool rb.neg, .string rb.dig, .int .i64 rb.exp, .string rb.txt, .slice rb.ab rb.lb rb.cb, .slice rb.ak rb.lk rb.ck, .slice rb.ai rb.li rb.ci] 26)).alloc (.cells #[.int .i64 p, .int .i64 q] 29)) := c11.trans ((bal2 x11 _ _).mono c11.size)
  have b11 : Hid (Below w.heap.size w ((x11.alloc (.cells #[.int .i64 rb.kind, .int .u64 rb.num, .bool rb.neg, .string rb.dig, .int .i64 rb.exp, .string rb.txt, .slice rb.ab rb.lb rb.cb, .slice rb.ak rb.lk rb.ck, .slice rb.ai rb.li rb.ci] 26)).alloc (.cells #[.int .i64 p, .int .i64 q] 29))) := b7.out.trans (d11.mono b7.out.size)
  have F11 := Blk.kept FX7.out d11 FX7.out.lt
  have p0 : ((x11.alloc (.cells #[.int .i64 rb.kind, .int .u64 rb.num, .bool rb.neg, .string rb.dig, .int .i64 rb.exp, .string rb.txt, .slice rb.ab rb.lb rb.cb, .slice rb.ak rb.lk rb.ck, .slice rb.ai rb.li rb.ci] 26)).alloc (.cells #[.int .i64 p, .int .i64 q] 29)).cell? ⟨x7.heap.size + 1, 0, none⟩ = some (.int .i64 0) := F11.cell 0
  have p1 : ((x11.alloc (.cells #[.int .i64 rb.kind, .int .u64 rb.num, .bool rb.neg, .string rb.dig, .int .i64 rb.exp, .string rb.txt, .slice rb.ab rb.lb rb.cb, .slice rb.ak rb.lk rb.ck, .slice rb.ai rb.li rb.ci] 26)).alloc (.cells #[.int .i64 p, .int .i64 q] 29)).cell? ⟨x7.heap.size + 1, 1, none⟩ = some (.int .i64 0) := F11.cell 1
  obtain ⟨n0, n1, n2, n3, n4, n5, n6, n7, n8⟩ := (NX7.out.kept d11 NX7.out.lt).fields
  obtain ⟨m0, m1, m2, m3, m4, m5, m6, m7, m8⟩ := (NW7.out.kept d11 NW7.out.lt).fields
  have kS : Hid (∀ wx, Below ((x11.alloc (.cells #[.int .i64 rb.kind, .int .u64 rb.num, .bool rb.neg, .string rb.dig, .int .i64 rb.exp, .string rb.txt, .slice rb.ab rb.lb rb.cb, .slice rb.ak rb.lk rb.ck, .slice rb.ai rb.li rb.ci] 26)).alloc (.cells #[.int .i64 p, .int .i64 q] 29)).heap.size ((x11.alloc (.cells #[.int .i64 rb.kind, .int .u64 rb.num, .bool rb.neg, .string rb.dig, .int .i64 rb.exp, .string rb.txt, .slice rb.ab rb.lb rb.cb, .slice rb.ak rb.lk rb.ck, .slice rb.ai rb.li rb.ci] 26)).alloc (.cells #[.int .i64 p, .int .i64 q] 29)) wx → Calls Tryz.prog 19 #[.agg qb.arr, .agg (twoN (x2.heap.size + 1 + 1)).arr] wx fun e w' => e = .returned (.bool true) ∧ Below wx.heap.size wx w') := fun wx hx => esame_any (a := qb) (b := twoN (x2.heap.size + 1 + 1)) (v := true) ((NQ7.out.kept d11).kept hx) ((ND7.out.kept d11).kept hx) (by have := hsz.out; simp [this])
  unfold twoN Nb.arr at kS
  unfold twoN at m0 m1 m2 m3 m4 m5 m6 m7 m8
  simp only at kS m0 m1 m2 m3 m4 m5 m6 m7 m8
  clear k10 k11 hb11 c11 d11 F11 NX7 NW7 NQ7 ND7 FX7 b10 b7
  go_wp2_with (first
    | (go_at_call 19; refine (kS.out _ (Below.refl _ _)).mono ?_; rintro e x12 ⟨rfl, hb12⟩; have b12 : Hid (Below w.heap.size w x12) := b11.out.trans (hb12.mono b11.out.size); clear hb12 kS)
    | (go_at_call 20; refine (kA.out _ b12.out).mono ?_; rintro e x13 ⟨rfl, hb13⟩))
  go_ret
  exact ⟨rfl, b12.out.trans (hb13.mono b12.out.size)⟩
set_option maxHeartbeats 8000000 in
set_option maxRecDepth 100000 in
theorem wlist_f (a : Option Addr) (n c : Nat) (zs : List Int) (a' : Option Addr) (n' c' : Nat) (ys : List Int) (w : World) {L : Nat} (hl : zs.length = n) (hb : Bytes w a zs) (hc : n ≤ c ∧ c ≤ maxLen ∧ (a = none → c = 0)) (hl' : ys.length = n') (hb' : Bytes w a' ys) (hc' : n' ≤ c' ∧ c' ≤ maxLen ∧ (a' = none → c' = 0)) (hs : n ≤ 140737488351232 ∧ n' ≤ 140737488351232) (hLw : Lw L w) (hL : L ≤ w.heap.size) {t u : Tr} (e1 : dcdA zs = .inr t) (e2 : dcdA ys = .inr u) (hsm : n + n' < 4096) (e3 : dcdA (130 :: (zs ++ ys)) = .inr (arrT [t, u])) (hz : (arrT [t, u]).size ≤ 1024) (hlg : n + n' + 2 ≤ 4096) (e4 : dcdA (159 :: (zs ++ ys) ++ [255]) = .inr (arrT [t, u])) : Calls Tryz.prog 8 #[.slice a n c, .slice a' n' c'] w fun e w' => e = .returned (.bool true) ∧ Below w.heap.size w w' := by
  have kD : Hid (∀ wx b m d us, us.length = m → Bytes wx b us → (m ≤ d ∧ d ≤ maxLen ∧ (b = none → d = 0)) → Below w.heap.size w wx → Calls Tryz.prog 17 #[.slice b m d] wx fun e w' => DcdIs wx w' e (dcdA us)) := fun wx b m d us h1 h2 h3 hx => decode_any b m d us wx h1 h2 h3 (hLw.on (hx.mono hL)) (Nat.le_trans hL hx.size)
  have kA : Hid (∀ wx, Below w.heap.size w wx → Calls Tryz.prog 20 #[] wx fun e w' => e = .returned (.bool true) ∧ Below wx.heap.size wx w') := fun wx hx => calive_any wx (hLw.on (hx.mono hL)) (Nat.le_trans hL hx.size)
  have k1 := kD.out w a n c zs hl hb hc (Below.refl _ _)
  have k2 : Hid (∀ wx, Below w.heap.size w wx → Calls Tryz.prog 17 #[.slice a' n' c'] wx fun e w' => DcdIs wx w' e (dcdA ys)) := fun wx hx => kD.out wx a' n' c' ys hl' (hb'.kept hx) hc' hx
  have wn : IntKind.i64.wrap ((n : Int) + (n' : Int)) = (n : Int) + (n' : Int) := by rw [IntKind.wrap_i64]; omega
  rw [e1] at k1
  unfold DcdIs at k1
  simp only at k1
  unfold Nb.arr at k1
  rw [e2] at k2
  unfold DcdIs at k2
  simp only at k2
  unfold Nb.arr at k2
  have g0 : decide ((4096 : Int) ≤ (n : Int) + (n' : Int)) = false := by simp; omega
  have hT : Hid (n + n' < 4096 ∧ zs.length = n ∧ ys.length = n') := ⟨hsm, hl, hl'⟩
  have hBB : Hid (zs.length = n ∧ Bytes w a zs ∧ (a = none → c = 0)) := ⟨hl, hb, hc.2.2⟩
  have hBC : Hid (ys.length = n' ∧ Bytes w a' ys ∧ (a' = none → c' = 0)) := ⟨hl', hb', hc'.2.2⟩
  have hE3 : Hid (dcdA (([130] ++ zs) ++ ys) = .inr (arrT [t, u])) := e3
  have wn2 : IntKind.i64.wrap ((n : Int) + (n' : Int) + 2) = (n : Int) + (n' : Int) + 2 := by rw [IntKind.wrap_i64]; omega
  have hsz : Hid ((arrT [t, u]).size ≤ 1024) := hz
  have hE4 : Hid (dcdA ((([159] ++ zs) ++ ys) ++ [255]) = .inr (arrT [t, u])) := e4
  have g5 : decide ((4096 : Int) < (n : Int) + (n' : Int) + 2) = false := by simp; omega
  clear hl hb hc hl' hb' hc' hs hLw hL e1 e2 hsm e3 hz hlg e4
  go_enter Tryz.func8, Tryz.ntmps8
  go_wp2_with (go_at_call 17; refine k1.mono ?_; rintro e x1 ⟨⟨nb, he1, hn1⟩, hb1⟩; subst he1; have b1 : Hid (Below w.heap.size w ((x1.alloc (.cells #[.int .i64 nb.kind, .int .u64 nb.num, .bool nb.neg, .string nb.dig, .int .i64 nb.exp, .string nb.txt, .slice nb.ab nb.lb nb.cb, .slice nb.ak nb.lk nb.ck, .slice nb.ai nb.li nb.ci] 26)).alloc (.cells #[.int .i64 0, .int .i64 0] 29))) := hb1.trans ((bal2 x1 _ _).mono hb1.size); have N1 : Hid (Nd 26 ((x1.alloc (.cells #[.int .i64 nb.kind, .int .u64 nb.num, .bool nb.neg, .string nb.dig, .int .i64 nb.exp, .string nb.txt, .slice nb.ab nb.lb nb.cb, .slice nb.ak nb.lk nb.ck, .slice nb.ai nb.li nb.ci] 26)).alloc (.cells #[.int .i64 0, .int .i64 0] 29)) nb t) := hn1.nd.kept (bal2 x1 _ _); have NN : Hid (NBox ((x1.alloc (.cells #[.int .i64 nb.kind, .int .u64 nb.num, .bool nb.neg, .string nb.dig, .int .i64 nb.exp, .string nb.txt, .slice nb.ab nb.lb nb.cb, .slice nb.ak nb.lk nb.ck, .slice nb.ai nb.li nb.ci] 26)).alloc (.cells #[.int .i64 0, .int .i64 0] 29)) x1.heap.size nb) := (nbox_new x1 nb).kept (alloc_below _ _) (nbox_new x1 nb).lt; have FF : Hid (Blk ((x1.alloc (.cells #[.int .i64 nb.kind, .int .u64 nb.num, .bool nb.neg, .string nb.dig, .int .i64 nb.exp, .string nb.txt, .slice nb.ab nb.lb nb.cb, .slice nb.ak nb.lk nb.ck, .slice nb.ai nb.li nb.ci] 26)).alloc (.cells #[.int .i64 0, .int .i64 0] 29)) (x1.heap.size + 1) #[.int .i64 0, .int .i64 0] 29) := box_two x1 _ _; clear k1 hn1 hb1)
  refine (k2.out _ b1.out).mono ?_
  rintro e x2 ⟨⟨mb, he2, hn2⟩, hb2⟩
  subst he2
  have c2 : Below ((x1.alloc (.cells #[.int .i64 nb.kind, .int .u64 nb.num, .bool nb.neg, .string nb.dig, .int .i64 nb.exp, .string nb.txt, .slice nb.ab nb.lb nb.cb, .slice nb.ak nb.lk nb.ck, .slice nb.ai nb.li nb.ci] 26)).alloc (.cells #[.int .i64 0, .int .i64 0] 29)).heap.size ((x1.alloc (.cells #[.int .i64 nb.kind, .int .u64 nb.num, .bool nb.neg, .string nb.dig, .int .i64 nb.exp, .string nb.txt, .slice nb.ab nb.lb nb.cb, .slice nb.ak nb.lk nb.ck, .slice nb.ai nb.li nb.ci] 26)).alloc (.cells #[.int .i64 0, .int .i64 0] 29)) ((x2.alloc (.cells #[.int .i64 mb.kind, .int .u64 mb.num, .bool mb.neg, .string mb.dig, .int .i64 mb.exp, .string mb.txt, .slice mb.ab mb.lb mb.cb, .slice mb.ak mb.lk mb.ck, .slice mb.ai mb.li mb.ci] 26)).alloc (.cells #[.int .i64 0, .int .i64 0] 29)) := hb2.trans ((bal2 x2 _ _).mono hb2.size)
  have b2 : Hid (Below w.heap.size w ((x2.alloc (.cells #[.int .i64 mb.kind, .int .u64 mb.num, .bool mb.neg, .string mb.dig, .int .i64 mb.exp, .string mb.txt, .slice mb.ab mb.lb mb.cb, .slice mb.ak mb.lk mb.ck, .slice mb.ai mb.li mb.ci] 26)).alloc (.cells #[.int .i64 0, .int .i64 0] 29))) := b1.out.trans (c2.mono b1.out.size)
  have F2 := Blk.kept FF.out c2 FF.out.lt
  have m0 : ((x2.alloc (.cells #[.int .i64 mb.kind, .int .u64 mb.num, .bool mb.neg, .string mb.dig, .int .i64 mb.exp, .string mb.txt, .slice mb.ab mb.lb mb.cb, .slice mb.ak mb.lk mb.ck, .slice mb.ai mb.li mb.ci] 26)).alloc (.cells #[.int .i64 0, .int .i64 0] 29)).cell? ⟨x1.heap.size + 1, 0, none⟩ = some (.int .i64 0) := F2.cell 0
  have m1 : ((x2.alloc (.cells #[.int .i64 mb.kind, .int .u64 mb.num, .bool mb.neg, .string mb.dig, .int .i64 mb.exp, .string mb.txt, .slice mb.ab mb.lb mb.cb, .slice mb.ak mb.lk mb.ck, .slice mb.ai mb.li mb.ci] 26)).alloc (.cells #[.int .i64 0, .int .i64 0] 29)).cell? ⟨x1.heap.size + 1, 1, none⟩ = some (.int .i64 0) := F2.cell 1
  obtain ⟨n0, n1, n2, n3, n4, n5, n6, n7, n8⟩ := (NN.out.kept c2 NN.out.lt).fields
  have N2 : Hid (Nd 26 ((x2.alloc (.cells #[.int .i64 mb.kind, .int .u64 mb.num, .bool mb.neg, .string mb.dig, .int .i64 mb.exp, .string mb.txt, .slice mb.ab mb.lb mb.cb, .slice mb.ak mb.lk mb.ck, .slice mb.ai mb.li mb.ci] 26)).alloc (.cells #[.int .i64 0, .int .i64 0] 29)) nb t) := N1.out.kept c2
  have M2 : Hid (Nd 26 ((x2.alloc (.cells #[.int .i64 mb.kind, .int .u64 mb.num, .bool mb.neg, .string mb.dig, .int .i64 mb.exp, .string mb.txt, .slice mb.ab mb.lb mb.cb, .slice mb.ak mb.lk mb.ck, .slice mb.ai mb.li mb.ci] 26)).alloc (.cells #[.int .i64 0, .int .i64 0] 29)) mb u) := hn2.nd.kept (bal2 x2 _ _)
  clear F2 FF hb2 hn2 b1 N1 NN c2
  have hs2 : Hid (((x2.alloc (.cells #[.int .i64 mb.kind, .int .u64 mb.num, .bool mb.neg, .string mb.dig, .int .i64 mb.exp, .string mb.txt, .slice mb.ab mb.lb mb.cb, .slice mb.ak mb.lk mb.ck, .slice mb.ai mb.li mb.ci] 26)).alloc (.cells #[.int .i64 0, .int .i64 0] 29)).heap.size = x2.heap.size + 1 + 1) := by show _ = _; simp
  have hY4 : Hid (((((x2.alloc (.cells #[.int .i64 mb.kind, .int .u64 mb.num, .bool mb.neg, .string mb.dig, .int .i64 mb.exp, .string mb.txt, .slice mb.ab mb.lb mb.cb, .slice mb.ak mb.lk mb.ck, .slice mb.ai mb.li mb.ci] 26)).alloc (.cells #[.int .i64 0, .int .i64 0] 29)).alloc (.cells #[.int .i64 nb.kind, .int .u64 nb.num, .bool nb.neg, .string nb.dig, .int .i64 nb.exp, .string nb.txt, .slice nb.ab nb.lb nb.cb, .slice nb.ak nb.lk nb.ck, .slice nb.ai nb.li nb.ci, .int .i64 mb.kind, .int .u64 mb.num, .bool mb.neg, .string mb.dig, .int .i64 mb.exp, .string mb.txt, .slice mb.ab mb.lb mb.cb, .slice mb.ak mb.lk mb.ck, .slice mb.ai mb.li mb.ci] 26)).alloc (.cells #[.int .i64 7, .int .u64 0, .bool false, .string ⟨#[]⟩, .int .i64 0, .string ⟨#[]⟩, .slice none 0 0, .slice none 0 0, .slice (some ⟨x2.heap.size + 1 + 1, 0, none⟩) 2 2] 26)).heap.size = x2.heap.size + 1 + 1 + 1 + 1) := by show _ = _; simp
  have b4 : Hid (Below w.heap.size w ((((x2.alloc (.cells #[.int .i64 mb.kind, .int .u64 mb.num, .bool mb.neg, .string mb.dig, .int .i64 mb.exp, .string mb.txt, .slice mb.ab mb.lb mb.cb, .slice mb.ak mb.lk mb.ck, .slice mb.ai mb.li mb.ci] 26)).alloc (.cells #[.int .i64 0, .int .i64 0] 29)).alloc (.cells #[.int .i64 nb.kind, .int .u64 nb.num, .bool nb.neg, .string nb.dig, .int .i64 nb.exp, .string nb.txt, .slice nb.ab nb.lb nb.cb, .slice nb.ak nb.lk nb.ck, .slice nb.ai nb.li nb.ci, .int .i64 mb.kind, .int .u64 mb.num, .bool mb.neg, .string mb.dig, .int .i64 mb.exp, .string mb.txt, .slice mb.ab mb.lb mb.cb, .slice mb.ak mb.lk mb.ck, .slice mb.ai mb.li mb.ci] 26)).alloc (.cells #[.int .i64 7, .int .u64 0, .bool false, .string ⟨#[]⟩, .int .i64 0, .string ⟨#[]⟩, .slice none 0 0, .slice none 0 0, .slice (some ⟨x2.heap.size + 1 + 1, 0, none⟩) 2 2] 26))) := b2.out.trans ((bal2 ((x2.alloc (.cells #[.int .i64 mb.kind, .int .u64 mb.num, .bool mb.neg, .string mb.dig, .int .i64 mb.exp, .string mb.txt, .slice mb.ab mb.lb mb.cb, .slice mb.ak mb.lk mb.ck, .slice mb.ai mb.li mb.ci] 26)).alloc (.cells #[.int .i64 0, .int .i64 0] 29)) _ _).mono b2.out.size)
  have hND : Hid (Nd 27 ((((x2.alloc (.cells #[.int .i64 mb.kind, .int .u64 mb.num, .bool mb.neg, .string mb.dig, .int .i64 mb.exp, .string mb.txt, .slice mb.ab mb.lb mb.cb, .slice mb.ak mb.lk mb.ck, .slice mb.ai mb.li mb.ci] 26)).alloc (.cells #[.int .i64 0, .int .i64 0] 29)).alloc (.cells #[.int .i64 nb.kind, .int .u64 nb.num, .bool nb.neg, .string nb.dig, .int .i64 nb.exp, .string nb.txt, .slice nb.ab nb.lb nb.cb, .slice nb.ak nb.lk nb.ck, .slice nb.ai nb.li nb.ci, .int .i64 mb.kind, .int .u64 mb.num, .bool mb.neg, .string mb.dig, .int .i64 mb.exp, .string mb.txt, .slice mb.ab mb.lb mb.cb, .slice mb.ak mb.lk mb.ck, .slice mb.ai mb.li mb.ci] 26)).alloc (.cells #[.int .i64 7, .int .u64 0, .bool false, .string ⟨#[]⟩, .int .i64 0, .string ⟨#[]⟩, .slice none 0 0, .slice none 0 0, .slice (some ⟨x2.heap.size + 1 + 1, 0, none⟩) 2 2] 26)) (twoN (x2.heap.size + 1 + 1)) (arrT [t, u])) := by have := nd_two N2.out M2.out; rw [hs2.out] at this; exact this
  have hNW : Hid (NBox ((((x2.alloc (.cells #[.int .i64 mb.kind, .int .u64 mb.num, .bool mb.neg, .string mb.dig, .int .i64 mb.exp, .string mb.txt, .slice mb.ab mb.lb mb.cb, .slice mb.ak mb.lk mb.ck, .slice mb.ai mb.li mb.ci] 26)).alloc (.cells #[.int .i64 0, .int .i64 0] 29)).alloc (.cells #[.int .i64 nb.kind, .int .u64 nb.num, .bool nb.neg, .string nb.dig, .int .i64 nb.exp, .string nb.txt, .slice nb.ab nb.lb nb.cb, .slice nb.ak nb.lk nb.ck, .slice nb.ai nb.li nb.ci, .int .i64 mb.kind, .int .u64 mb.num, .bool mb.neg, .string mb.dig, .int .i64 mb.exp, .string mb.txt, .slice mb.ab mb.lb mb.cb, .slice mb.ak mb.lk mb.ck, .slice mb.ai mb.li mb.ci] 26)).alloc (.cells #[.int .i64 7, .int .u64 0, .bool false, .string ⟨#[]⟩, .int .i64 0, .string ⟨#[]⟩, .slice none 0 0, .slice none 0 0, .slice (some ⟨x2.heap.size + 1 + 1, 0, none⟩) 2 2] 26)) (x2.heap.size + 1 + 1 + 1) (twoN (x2.heap.size + 1 + 1))) := by have := nbox_new (((x2.alloc (.cells #[.int .i64 mb.kind, .int .u64 mb.num, .bool mb.neg, .string mb.dig, .int .i64 mb.exp, .string mb.txt, .slice mb.ab mb.lb mb.cb, .slice mb.ak mb.lk mb.ck, .slice mb.ai mb.li mb.ci] 26)).alloc (.cells #[.int .i64 0, .int .i64 0] 29)).alloc (.cells #[.int .i64 nb.kind, .int .u64 nb.num, .bool nb.neg, .string nb.dig, .int .i64 nb.exp, .string nb.txt, .slice nb.ab nb.lb nb.cb, .slice nb.ak nb.lk nb.ck, .slice nb.ai nb.li nb.ci, .int .i64 mb.kind, .int .u64 mb.num, .bool mb.neg, .string mb.dig, .int .i64 mb.exp, .string mb.txt, .slice mb.ab mb.lb mb.cb, .slice mb.ak mb.lk mb.ck, .slice mb.ai mb.li mb.ci] 26)) (twoN (x2.heap.size + 1 + 1)); rw [show (((x2.alloc (.cells #[.int .i64 mb.kind, .int .u64 mb.num, .bool mb.neg, .string mb.dig, .int .i64 mb.exp, .string mb.txt, .slice mb.ab mb.lb mb.cb, .slice mb.ak mb.lk mb.ck, .slice mb.ai mb.li mb.ci] 26)).alloc (.cells #[.int .i64 0, .int .i64 0] 29)).alloc (.cells #[.int .i64 nb.kind, .int .u64 nb.num, .bool nb.neg, .string nb.dig, .int .i64 nb.exp, .string nb.txt, .slice nb.ab nb.lb nb.cb, .slice nb.ak nb.lk nb.ck, .slice nb.ai nb.li nb.ci, .int .i64 mb.kind, .int .u64 mb.num, .bool mb.neg, .string mb.dig, .int .i64 mb.exp, .string mb.txt, .slice mb.ab mb.lb mb.cb, .slice mb.ak mb.lk mb.ck, .slice mb.ai mb.li mb.ci] 26)).heap.size = x2.heap.size + 1 + 1 + 1 by simp] at this; exact this
  go_wp2_with (first
    | (at_builtin; guard_hyp hBB; refine wpList_append_bytes rfl _ _ rfl ((((x2.alloc (.cells #[.int .i64 mb.kind, .int .u64 mb.num, .bool mb.neg, .string mb.dig, .int .i64 mb.exp, .string mb.txt, .slice mb.ab mb.lb mb.cb, .slice mb.ak mb.lk mb.ck, .slice mb.ai mb.li mb.ci] 26)).alloc (.cells #[.int .i64 0, .int .i64 0] 29)).alloc (.cells #[.int .i64 nb.kind, .int .u64 nb.num, .bool nb.neg, .string nb.dig, .int .i64 nb.exp, .string nb.txt, .slice nb.ab nb.lb nb.cb, .slice nb.ak nb.lk nb.ck, .slice nb.ai nb.li nb.ci, .int .i64 mb.kind, .int .u64 mb.num, .bool mb.neg, .string mb.dig, .int .i64 mb.exp, .string mb.txt, .slice mb.ab mb.lb mb.cb, .slice mb.ak mb.lk mb.ck, .slice mb.ai mb.li mb.ci] 26)).alloc (.cells #[.int .i64 7, .int .u64 0, .bool false, .string ⟨#[]⟩, .int .i64 0, .string ⟨#[]⟩, .slice none 0 0, .slice none 0 0, .slice (some ⟨x2.heap.size + 1 + 1, 0, none⟩) 2 2] 26)).heap.size (.slice (some ⟨x2.heap.size + 1 + 1 + 1 + 1, 0, none⟩) 1 1) [130] zs rfl (by have := ownsB_one ((((x2.alloc (.cells #[.int .i64 mb.kind, .int .u64 mb.num, .bool mb.neg, .string mb.dig, .int .i64 mb.exp, .string mb.txt, .slice mb.ab mb.lb mb.cb, .slice mb.ak mb.lk mb.ck, .slice mb.ai mb.li mb.ci] 26)).alloc (.cells #[.int .i64 0, .int .i64 0] 29)).alloc (.cells #[.int .i64 nb.kind, .int .u64 nb.num, .bool nb.neg, .string nb.dig, .int .i64 nb.exp, .string nb.txt, .slice nb.ab nb.lb nb.cb, .slice nb.ak nb.lk nb.ck, .slice nb.ai nb.li nb.ci, .int .i64 mb.kind, .int .u64 mb.num, .bool mb.neg, .string mb.dig, .int .i64 mb.exp, .string mb.txt, .slice mb.ab mb.lb mb.cb, .slice mb.ak mb.lk mb.ck, .slice mb.ai mb.li mb.ci] 26)).alloc (.cells #[.int .i64 7, .int .u64 0, .bool false, .string ⟨#[]⟩, .int .i64 0, .string ⟨#[]⟩, .slice none 0 0, .slice none 0 0, .slice (some ⟨x2.heap.size + 1 + 1, 0, none⟩) 2 2] 26)) (c := 130) (by omega); rw [hY4.out] at this ⊢; exact this) a n c rfl hBB.out.1 hBB.out.2.2 ((hBB.out.2.1.kept b4.out).kept (alloc_below ((((x2.alloc (.cells #[.int .i64 mb.kind, .int .u64 mb.num, .bool mb.neg, .string mb.dig, .int .i64 mb.exp, .string mb.txt, .slice mb.ab mb.lb mb.cb, .slice mb.ak mb.lk mb.ck, .slice mb.ai mb.li mb.ci] 26)).alloc (.cells #[.int .i64 0, .int .i64 0] 29)).alloc (.cells #[.int .i64 nb.kind, .int .u64 nb.num, .bool nb.neg, .string nb.dig, .int .i64 nb.exp, .string nb.txt, .slice nb.ab nb.lb nb.cb, .slice nb.ak nb.lk nb.ck, .slice nb.ai nb.li nb.ci, .int .i64 mb.kind, .int .u64 mb.num, .bool mb.neg, .string mb.dig, .int .i64 mb.exp, .string mb.txt, .slice mb.ab mb.lb mb.cb, .slice mb.ak mb.lk mb.ck, .slice mb.ai mb.li mb.ci] 26)).alloc (.cells #[.int .i64 7, .int .u64 0, .bool false, .string ⟨#[]⟩, .int .i64 0, .string ⟨#[]⟩, .slice none 0 0, .slice none 0 0, .slice (some ⟨x2.heap.size + 1 + 1, 0, none⟩) 2 2] 26)) _)) (by have := hT.out; simp; omega) (by simp) ?_; intro v5 x5 hO5 hg5; have b5 : Hid (Below ((((x2.alloc (.cells #[.int .i64 mb.kind, .int .u64 mb.num, .bool mb.neg, .string mb.dig, .int .i64 mb.exp, .string mb.txt, .slice mb.ab mb.lb mb.cb, .slice mb.ak mb.lk mb.ck, .slice mb.ai mb.li mb.ci] 26)).alloc (.cells #[.int .i64 0, .int .i64 0] 29)).alloc (.cells #[.int .i64 nb.kind, .int .u64 nb.num, .bool nb.neg, .string nb.dig, .int .i64 nb.exp, .string nb.txt, .slice nb.ab nb.lb nb.cb, .slice nb.ak nb.lk nb.ck, .slice nb.ai nb.li nb.ci, .int .i64 mb.kind, .int .u64 mb.num, .bool mb.neg, .string mb.dig, .int .i64 mb.exp, .string mb.txt, .slice mb.ab mb.lb mb.cb, .slice mb.ak mb.lk mb.ck, .slice mb.ai mb.li mb.ci] 26)).alloc (.cells #[.int .i64 7, .int .u64 0, .bool false, .string ⟨#[]⟩, .int .i64 0, .string ⟨#[]⟩, .slice none 0 0, .slice none 0 0, .slice (some ⟨x2.heap.size + 1 + 1, 0, none⟩) 2 2] 26)).heap.size ((((x2.alloc (.cells #[.int .i64 mb.kind, .int .u64 mb.num, .bool mb.neg, .string mb.dig, .int .i64 mb.exp, .string mb.txt, .slice mb.ab mb.lb mb.cb, .slice mb.ak mb.lk mb.ck, .slice mb.ai mb.li mb.ci] 26)).alloc (.cells #[.int .i64 0, .int .i64 0] 29)).alloc (.cells #[.int .i64 nb.kind, .int .u64 nb.num, .bool nb.neg, .string nb.dig, .int .i64 nb.exp, .string nb.txt, .slice nb.ab nb.lb nb.cb, .slice nb.ak nb.lk nb.ck, .slice nb.ai nb.li nb.ci, .int .i64 mb.kind, .int .u64 mb.num, .bool mb.neg, .string mb.dig, .int .i64 mb.exp, .string mb.txt, .slice mb.ab mb.lb mb.cb, .slice mb.ak mb.lk mb.ck, .slice mb.ai mb.li mb.ci] 26)).alloc (.cells #[.int .i64 7, .int .u64 0, .bool false, .string ⟨#[]⟩, .int .i64 0, .string ⟨#[]⟩, .slice none 0 0, .slice none 0 0, .slice (some ⟨x2.heap.size + 1 + 1, 0, none⟩) 2 2] 26)) x5) := grown_below (alloc_below ((((x2.alloc (.cells #[.int .i64 mb.kind, .int .u64 mb.num, .bool mb.neg, .string mb.dig, .int .i64 mb.exp, .string mb.txt, .slice mb.ab mb.lb mb.cb, .slice mb.ak mb.lk mb.ck, .slice mb.ai mb.li mb.ci] 26)).alloc (.cells #[.int .i64 0, .int .i64 0] 29)).alloc (.cells #[.int .i64 nb.kind, .int .u64 nb.num, .bool nb.neg, .string nb.dig, .int .i64 nb.exp, .string nb.txt, .slice nb.ab nb.lb nb.cb, .slice nb.ak nb.lk nb.ck, .slice nb.ai nb.li nb.ci, .int .i64 mb.kind, .int .u64 mb.num, .bool mb.neg, .string mb.dig, .int .i64 mb.exp, .string mb.txt, .slice mb.ab mb.lb mb.cb, .slice mb.ak mb.lk mb.ck, .slice mb.ai mb.li mb.ci] 26)).alloc (.cells #[.int .i64 7, .int .u64 0, .bool false, .string ⟨#[]⟩, .int .i64 0, .string ⟨#[]⟩, .slice none 0 0, .slice none 0 0, .slice (some ⟨x2.heap.size + 1 + 1, 0, none⟩) 2 2] 26)) _) (by have := ownsB_one ((((x2.alloc (.cells #[.int .i64 mb.kind, .int .u64 mb.num, .bool mb.neg, .string mb.dig, .int .i64 mb.exp, .string mb.txt, .slice mb.ab mb.lb mb.cb, .slice mb.ak mb.lk mb.ck, .slice mb.ai mb.li mb.ci] 26)).alloc (.cells #[.int .i64 0, .int .i64 0] 29)).alloc (.cells #[.int .i64 nb.kind, .int .u64 nb.num, .bool nb.neg, .string nb.dig, .int .i64 nb.exp, .string nb.txt, .slice nb.ab nb.lb nb.cb, .slice nb.ak nb.lk nb.ck, .slice nb.ai nb.li nb.ci, .int .i64 mb.kind, .int .u64 mb.num, .bool mb.neg, .string mb.dig, .int .i64 mb.exp, .string mb.txt, .slice mb.ab mb.lb mb.cb, .slice mb.ak mb.lk mb.ck, .slice mb.ai mb.li mb.ci] 26)).alloc (.cells #[.int .i64 7, .int .u64 0, .bool false, .string ⟨#[]⟩, .int .i64 0, .string ⟨#[]⟩, .slice none 0 0, .slice none 0 0, .slice (some ⟨x2.heap.size + 1 + 1, 0, none⟩) 2 2] 26)) (c := 130) (by omega); rw [hY4.out] at this ⊢; exact this) hg5 (by simp); have O5 : Hid (OwnsB x5 ((((x2.alloc (.cells #[.int .i64 mb.kind, .int .u64 mb.num, .bool mb.neg, .string mb.dig, .int .i64 mb.exp, .string mb.txt, .slice mb.ab mb.lb mb.cb, .slice mb.ak mb.lk mb.ck, .slice mb.ai mb.li mb.ci] 26)).alloc (.cells #[.int .i64 0, .int .i64 0] 29)).alloc (.cells #[.int .i64 nb.kind, .int .u64 nb.num, .bool nb.neg, .string nb.dig, .int .i64 nb.exp, .string nb.txt, .slice nb.ab nb.lb nb.cb, .slice nb.ak nb.lk nb.ck, .slice nb.ai nb.li nb.ci, .int .i64 mb.kind, .int .u64 mb.num, .bool mb.neg, .string mb.dig, .int .i64 mb.exp, .string mb.txt, .slice mb.ab mb.lb mb.cb, .slice mb.ak mb.lk mb.ck, .slice mb.ai mb.li mb.ci] 26)).alloc (.cells #[.int .i64 7, .int .u64 0, .bool false, .string ⟨#[]⟩, .int .i64 0, .string ⟨#[]⟩, .slice none 0 0, .slice none 0 0, .slice (some ⟨x2.heap.size + 1 + 1, 0, none⟩) 2 2] 26)).heap.size v5 ([130] ++ zs)) := hO5; have hBB2 : Hid (zs.length = n ∧ Bytes w a zs ∧ (a = none → c = 0)) := hBB.out; clear hO5 hg5 hBB)
    | (at_builtin; guard_hyp O5; refine wpList_append_bytes rfl _ _ rfl ((((x2.alloc (.cells #[.int .i64 mb.kind, .int .u64 mb.num, .bool mb.neg, .string mb.dig, .int .i64 mb.exp, .string mb.txt, .slice mb.ab mb.lb mb.cb, .slice mb.ak mb.lk mb.ck, .slice mb.ai mb.li mb.ci] 26)).alloc (.cells #[.int .i64 0, .int .i64 0] 29)).alloc (.cells #[.int .i64 nb.kind, .int .u64 nb.num, .bool nb.neg, .string nb.dig, .int .i64 nb.exp, .string nb.txt, .slice nb.ab nb.lb nb.cb, .slice nb.ak nb.lk nb.ck, .slice nb.ai nb.li nb.ci, .int .i64 mb.kind, .int .u64 mb.num, .bool mb.neg, .string mb.dig, .int .i64 mb.exp, .string mb.txt, .slice mb.ab mb.lb mb.cb, .slice mb.ak mb.lk mb.ck, .slice mb.ai mb.li mb.ci] 26)).alloc (.cells #[.int .i64 7, .int .u64 0, .bool false, .string ⟨#[]⟩, .int .i64 0, .string ⟨#[]⟩, .slice none 0 0, .slice none 0 0, .slice (some ⟨x2.heap.size + 1 + 1, 0, none⟩) 2 2] 26)).heap.size v5 ([130] ++ zs) ys rfl O5.out a' n' c' rfl hBC.out.1 hBC.out.2.2 (hBC.out.2.1.kept (b4.out.trans (b5.out.mono b4.out.size))) (by have := hT.out; simp; omega) b5.out.size ?_; intro v6 x6 hO6 hg6; have b6 : Hid (Below ((((x2.alloc (.cells #[.int .i64 mb.kind, .int .u64 mb.num, .bool mb.neg, .string mb.dig, .int .i64 mb.exp, .string mb.txt, .slice mb.ab mb.lb mb.cb, .slice mb.ak mb.lk mb.ck, .slice mb.ai mb.li mb.ci] 26)).alloc (.cells #[.int .i64 0, .int .i64 0] 29)).alloc (.cells #[.int .i64 nb.kind, .int .u64 nb.num, .bool nb.neg, .string nb.dig, .int .i64 nb.exp, .string nb.txt, .slice nb.ab nb.lb nb.cb, .slice nb.ak nb.lk nb.ck, .slice nb.ai nb.li nb.ci, .int .i64 mb.kind, .int .u64 mb.num, .bool mb.neg, .string mb.dig, .int .i64 mb.exp, .string mb.txt, .slice mb.ab mb.lb mb.cb, .slice mb.ak mb.lk mb.ck, .slice mb.ai mb.li mb.ci] 26)).alloc (.cells #[.int .i64 7, .int .u64 0, .bool false, .string ⟨#[]⟩, .int .i64 0, .string ⟨#[]⟩, .slice none 0 0, .slice none 0 0, .slice (some ⟨x2.heap.size + 1 + 1, 0, none⟩) 2 2] 26)).heap.size ((((x2.alloc (.cells #[.int .i64 mb.kind, .int .u64 mb.num, .bool mb.neg, .string mb.dig, .int .i64 mb.exp, .string mb.txt, .slice mb.ab mb.lb mb.cb, .slice mb.ak mb.lk mb.ck, .slice mb.ai mb.li mb.ci] 26)).alloc (.cells #[.int .i64 0, .int .i64 0] 29)).alloc (.cells #[.int .i64 nb.kind, .int .u64 nb.num, .bool nb.neg, .string nb.dig, .int .i64 nb.exp, .string nb.txt, .slice nb.ab nb.lb nb.cb, .slice nb.ak nb.lk nb.ck, .slice nb.ai nb.li nb.ci, .int .i64 mb.kind, .int .u64 mb.num, .bool mb.neg, .string mb.dig, .int .i64 mb.exp, .string mb.txt, .slice mb.ab mb.lb mb.cb, .slice mb.ak mb.lk mb.ck, .slice mb.ai mb.li mb.ci] 26)).alloc (.cells #[.int .i64 7, .int .u64 0, .bool false, .string ⟨#[]⟩, .int .i64 0, .string ⟨#[]⟩, .slice none 0 0, .slice none 0 0, .slice (some ⟨x2.heap.size + 1 + 1, 0, none⟩) 2 2] 26)) x6) := grown_below b5.out O5.out hg6 b5.out.size; obtain ⟨a6, m6, c6, rfl, hl6, hn6, hc6, hm6, hB6⟩ := hO6.form; have k6 := kD.out x6 a6 m6 c6 (([130] ++ zs) ++ ys) hl6.out hB6.out ⟨hc6, hm6, hn6.out⟩ (b4.out.trans (b6.out.mono b4.out.size)); have hBC2 : Hid (ys.length = n' ∧ Bytes w a' ys ∧ (a' = none → c' = 0)) := hBC.out; clear hO6 hg6 O5 b5 hBC))
  rw [hE3.out] at k6
  unfold DcdIs at k6
  unfold Nb.arr at k6
  simp only at k6
  refine k6.mono ?_
  rintro e x7 ⟨⟨qb, he7, hn7⟩, hb7⟩
  subst he7
  have c7 : Below ((((x2.alloc (.cells #[.int .i64 mb.kind, .int .u64 mb.num, .bool mb.neg, .string mb.dig, .int .i64 mb.exp, .string mb.txt, .slice mb.ab mb.lb mb.cb, .slice mb.ak mb.lk mb.ck, .slice mb.ai mb.li mb.ci] 26)).alloc (.cells #[.int .i64 0, .int .i64 0] 29)).alloc (.cells #[.int .i64 nb.kind, .int .u64 nb.num, .bool nb.neg, .string nb.dig, .int .i64 nb.exp, .string nb.txt, .slice nb.ab nb.lb nb.cb, .slice nb.ak nb.lk nb.ck, .slice nb.ai nb.li nb.ci, .int .i64 mb.kind, .int .u64 mb.num, .bool mb.neg, .string mb.dig, .int .i64 mb.exp, .string mb.txt, .slice mb.ab mb.lb mb.cb, .slice mb.ak mb.lk mb.ck, .slice mb.ai mb.li mb.ci] 26)).alloc (.cells #[.int .i64 7, .int .u64 0, .bool false, .string ⟨#[]⟩, .int .i64 0, .string ⟨#[]⟩, .slice none 0 0, .slice none 0 0, .slice (some ⟨x2.heap.size + 1 + 1, 0, none⟩) 2 2] 26)).heap.size ((((x2.alloc (.cells #[.int .i64 mb.kind, .int .u64 mb.num, .bool mb.neg, .string mb.dig, .int .i64 mb.exp, .string mb.txt, .slice mb.ab mb.lb mb.cb, .slice mb.ak mb.lk mb.ck, .slice mb.ai mb.li mb.ci] 26)).alloc (.cells #[.int .i64 0, .int .i64 0] 29)).alloc (.cells #[.int .i64 nb.kind, .int .u64 nb.num, .bool nb.neg, .string nb.dig, .int .i64 nb.exp, .string nb.txt, .slice nb.ab nb.lb nb.cb, .slice nb.ak nb.lk nb.ck, .slice nb.ai nb.li nb.ci, .int .i64 mb.kind, .int .u64 mb.num, .bool mb.neg, .string mb.dig, .int .i64 mb.exp, .string mb.txt, .slice mb.ab mb.lb mb.cb, .slice mb.ak mb.lk mb.ck, .slice mb.ai mb.li mb.ci] 26)).alloc (.cells #[.int .i64 7, .int .u64 0, .bool false, .string ⟨#[]⟩, .int .i64 0, .string ⟨#[]⟩, .slice none 0 0, .slice none 0 0, .slice (some ⟨x2.heap.size + 1 + 1, 0, none⟩) 2 2] 26)) x7 := b6.out.trans (hb7.mono b6.out.size)
  have d7 : Below ((((x2.alloc (.cells #[.int .i64 mb.kind, .int .u64 mb.num, .bool mb.neg, .string mb.dig, .int .i64 mb.exp, .string mb.txt, .slice mb.ab mb.lb mb.cb, .slice mb.ak mb.lk mb.ck, .slice mb.ai mb.li mb.ci] 26)).alloc (.cells #[.int .i64 0, .int .i64 0] 29)).alloc (.cells #[.int .i64 nb.kind, .int .u64 nb.num, .bool nb.neg, .string nb.dig, .int .i64 nb.exp, .string nb.txt, .slice nb.ab nb.lb nb.cb, .slice nb.ak nb.lk nb.ck, .slice nb.ai nb.li nb.ci, .int .i64 mb.kind, .int .u64 mb.num, .bool mb.neg, .string mb.dig, .int .i64 mb.exp, .string mb.txt, .slice mb.ab mb.lb mb.cb, .slice mb.ak mb.lk mb.ck, .slice mb.ai mb.li mb.ci] 26)).alloc (.cells #[.int .i64 7, .int .u64 0, .bool false, .string ⟨#[]⟩, .int .i64 0, .string ⟨#[]⟩, .slice none 0 0, .slice none 0 0, .slice (some ⟨x2.heap.size + 1 + 1, 0, none⟩) 2 2] 26)).heap.size ((((x2.alloc (.cells #[.int .i64 mb.kind, .int .u64 mb.num, .bool mb.neg, .string mb.dig, .int .i64 mb.exp, .string mb.txt, .slice mb.ab mb.lb mb.cb, .slice mb.ak mb.lk mb.ck, .slice mb.ai mb.li mb.ci] 26)).alloc (.cells #[.int .i64 0, .int .i64 0] 29)).alloc (.cells #[.int .i64 nb.kind, .int .u64 nb.num, .bool nb.neg, .string nb.dig, .int .i64 nb.exp, .string nb.txt, .slice nb.ab nb.lb nb.cb, .slice nb.ak nb.lk nb.ck, .slice nb.ai nb.li nb.ci, .int .i64 mb.kind, .int .u64 mb.num, .bool mb.neg, .string mb.dig, .int .i64 mb.exp, .string mb.txt, .slice mb.ab mb.lb mb.cb, .slice mb.ak mb.lk mb.ck, .slice mb.ai mb.li mb.ci] 26)).alloc (.cells #[.int .i64 7, .int .u64 0, .bool false, .string ⟨#[]⟩, .int .i64 0, .string ⟨#[]⟩, .slice none 0 0, .slice none 0 0, .slice (some ⟨x2.heap.size + 1 + 1, 0, none⟩) 2 2] 26)) ((x7.alloc (.cells #[.int .i64 qb.kind, .int .u64 qb.num, .bool qb.neg, .string qb.dig, .int .i64 qb.exp, .string qb.txt, .slice qb.ab qb.lb qb.cb, .slice qb.ak qb.lk qb.ck, .slice qb.ai qb.li qb.ci] 26)).alloc (.cells #[.int .i64 0, .int .i64 0] 29)) := c7.trans ((bal2 x7 _ _).mono c7.size)
  have b7 : Hid (Below w.heap.size w ((x7.alloc (.cells #[.int .i64 qb.kind, .int .u64 qb.num, .bool qb.neg, .string qb.dig, .int .i64 qb.exp, .string qb.txt, .slice qb.ab qb.lb qb.cb, .slice qb.ak qb.lk qb.ck, .slice qb.ai qb.li qb.ci] 26)).alloc (.cells #[.int .i64 0, .int .i64 0] 29))) := b4.out.trans (d7.mono b4.out.size)
  have ND7 : Hid (Nd 27 ((x7.alloc (.cells #[.int .i64 qb.kind, .int .u64 qb.num, .bool qb.neg, .string qb.dig, .int .i64 qb.exp, .string qb.txt, .slice qb.ab qb.lb qb.cb, .slice qb.ak qb.lk qb.ck, .slice qb.ai qb.li qb.ci] 26)).alloc (.cells #[.int .i64 0, .int .i64 0] 29)) (twoN (x2.heap.size + 1 + 1)) (arrT [t, u])) := hND.out.kept d7
  have NW7 : Hid (NBox ((x7.alloc (.cells #[.int .i64 qb.kind, .int .u64 qb.num, .bool qb.neg, .string qb.dig, .int .i64 qb.exp, .string qb.txt, .slice qb.ab qb.lb qb.cb, .slice qb.ak qb.lk qb.ck, .slice qb.ai qb.li qb.ci] 26)).alloc (.cells #[.int .i64 0, .int .i64 0] 29)) (x2.heap.size + 1 + 1 + 1) (twoN (x2.heap.size + 1 + 1))) := hNW.out.kept d7 hNW.out.lt
  have NQ7 : Hid (Nd 26 ((x7.alloc (.cells #[.int .i64 qb.kind, .int .u64 qb.num, .bool qb.neg, .string qb.dig, .int .i64 qb.exp, .string qb.txt, .slice qb.ab qb.lb qb.cb, .slice qb.ak qb.lk qb.ck, .slice qb.ai qb.li qb.ci] 26)).alloc (.cells #[.int .i64 0, .int .i64 0] 29)) qb (arrT [t, u])) := hn7.nd.kept (bal2 x7 _ _)
  have NX7 : Hid (NBox ((x7.alloc (.cells #[.int .i64 qb.kind, .int .u64 qb.num, .bool qb.neg, .string qb.dig, .int .i64 qb.exp, .string qb.txt, .slice qb.ab qb.lb qb.cb, .slice qb.ak qb.lk qb.ck, .slice qb.ai qb.li qb.ci] 26)).alloc (.cells #[.int .i64 0, .int .i64 0] 29)) x7.heap.size qb) := (nbox_new x7 qb).kept (alloc_below _ _) (nbox_new x7 qb).lt
  have FX7 : Hid (Blk ((x7.alloc (.cells #[.int .i64 qb.kind, .int .u64 qb.num, .bool qb.neg, .string qb.dig, .int .i64 qb.exp, .string qb.txt, .slice qb.ab qb.lb qb.cb, .slice qb.ak qb.lk qb.ck, .slice qb.ai qb.li qb.ci] 26)).alloc (.cells #[.int .i64 0, .int .i64 0] 29)) (x7.heap.size + 1) #[.int .i64 0, .int .i64 0] 29) := box_two x7 _ _
  have hY7 : Hid (((x7.alloc (.cells #[.int .i64 qb.kind, .int .u64 qb.num, .bool qb.neg, .string qb.dig, .int .i64 qb.exp, .string qb.txt, .slice qb.ab qb.lb qb.cb, .slice qb.ak qb.lk qb.ck, .slice qb.ai qb.li qb.ci] 26)).alloc (.cells #[.int .i64 0, .int .i64 0] 29)).heap.size = x7.heap.size + 1 + 1) := by show _ = _; simp
  clear k6 hn7 hb7 c7 d7 hND hNW b6 b4 b2 N2 M2 m0 m1 n0 n1 n2 n3 n4 n5 n6 n7 n8
  go_wp2_with (first
    | (at_builtin; guard_hyp hBB2; refine wpList_append_bytes rfl _ _ rfl ((x7.alloc (.cells #[.int .i64 qb.kind, .int .u64 qb.num, .bool qb.neg, .string qb.dig, .int .i64 qb.exp, .string qb.txt, .slice qb.ab qb.lb qb.cb, .slice qb.ak qb.lk qb.ck, .slice qb.ai qb.li qb.ci] 26)).alloc (.cells #[.int .i64 0, .int .i64 0] 29)).heap.size (.slice (some ⟨x7.heap.size + 1 + 1, 0, none⟩) 1 1) [159] zs rfl (by have := ownsB_one ((x7.alloc (.cells #[.int .i64 qb.kind, .int .u64 qb.num, .bool qb.neg, .string qb.dig, .int .i64 qb.exp, .string qb.txt, .slice qb.ab qb.lb qb.cb, .slice qb.ak qb.lk qb.ck, .slice qb.ai qb.li qb.ci] 26)).alloc (.cells #[.int .i64 0, .int .i64 0] 29)) (c := 159) (by omega); rw [hY7.out] at this ⊢; exact this) a n c rfl hBB2.out.1 hBB2.out.2.2 ((hBB2.out.2.1.kept b7.out).kept (alloc_below ((x7.alloc (.cells #[.int .i64 qb.kind, .int .u64 qb.num, .bool qb.neg, .string qb.dig, .int .i64 qb.exp, .string qb.txt, .slice qb.ab qb.lb qb.cb, .slice qb.ak qb.lk qb.ck, .slice qb.ai qb.li qb.ci] 26)).alloc (.cells #[.int .i64 0, .int .i64 0] 29)) _)) (by have := hT.out; simp; omega) (by simp) ?_; intro v8 x8 hO8 hg8; have b8 : Hid (Below ((x7.alloc (.cells #[.int .i64 qb.kind, .int .u64 qb.num, .bool qb.neg, .string qb.dig, .int .i64 qb.exp, .string qb.txt, .slice qb.ab qb.lb qb.cb, .slice qb.ak qb.lk qb.ck, .slice qb.ai qb.li qb.ci] 26)).alloc (.cells #[.int .i64 0, .int .i64 0] 29)).heap.size ((x7.alloc (.cells #[.int .i64 qb.kind, .int .u64 qb.num, .bool qb.neg, .string qb.dig, .int .i64 qb.exp, .string qb.txt, .slice qb.ab qb.lb qb.cb, .slice qb.ak qb.lk qb.ck, .slice qb.ai qb.li qb.ci] 26)).alloc (.cells #[.int .i64 0, .int .i64 0] 29)) x8) := grown_below (alloc_below ((x7.alloc (.cells #[.int .i64 qb.kind, .int .u64 qb.num, .bool qb.neg, .string qb.dig, .int .i64 qb.exp, .string qb.txt, .slice qb.ab qb.lb qb.cb, .slice qb.ak qb.lk qb.ck, .slice qb.ai qb.li qb.ci] 26)).alloc (.cells #[.int .i64 0, .int .i64 0] 29)) _) (by have := ownsB_one ((x7.alloc (.cells #[.int .i64 qb.kind, .int .u64 qb.num, .bool qb.neg, .string qb.dig, .int .i64 qb.exp, .string qb.txt, .slice qb.ab qb.lb qb.cb, .slice qb.ak qb.lk qb.ck, .slice qb.ai qb.li qb.ci] 26)).alloc (.cells #[.int .i64 0, .int .i64 0] 29)) (c := 159) (by omega); rw [hY7.out] at this ⊢; exact this) hg8 (by simp); have O8 : Hid (OwnsB x8 ((x7.alloc (.cells #[.int .i64 qb.kind, .int .u64 qb.num, .bool qb.neg, .string qb.dig, .int .i64 qb.exp, .string qb.txt, .slice qb.ab qb.lb qb.cb, .slice qb.ak qb.lk qb.ck, .slice qb.ai qb.li qb.ci] 26)).alloc (.cells #[.int .i64 0, .int .i64 0] 29)).heap.size v8 ([159] ++ zs)) := hO8; clear hO8 hg8 hBB2)
    | (at_builtin; guard_hyp O8; refine wpList_append_bytes rfl _ _ rfl ((x7.alloc (.cells #[.int .i64 qb.kind, .int .u64 qb.num, .bool qb.neg, .string qb.dig, .int .i64 qb.exp, .string qb.txt, .slice qb.ab qb.lb qb.cb, .slice qb.ak qb.lk qb.ck, .slice qb.ai qb.li qb.ci] 26)).alloc (.cells #[.int .i64 0, .int .i64 0] 29)).heap.size v8 ([159] ++ zs) ys rfl O8.out a' n' c' rfl hBC2.out.1 hBC2.out.2.2 (hBC2.out.2.1.kept (b7.out.trans (b8.out.mono b7.out.size))) (by have := hT.out; simp; omega) b8.out.size ?_; intro v9 x9 hO9 hg9; have b9 : Hid (Below ((x7.alloc (.cells #[.int .i64 qb.kind, .int .u64 qb.num, .bool qb.neg, .string qb.dig, .int .i64 qb.exp, .string qb.txt, .slice qb.ab qb.lb qb.cb, .slice qb.ak qb.lk qb.ck, .slice qb.ai qb.li qb.ci] 26)).alloc (.cells #[.int .i64 0, .int .i64 0] 29)).heap.size ((x7.alloc (.cells #[.int .i64 qb.kind, .int .u64 qb.num, .bool qb.neg, .string qb.dig, .int .i64 qb.exp, .string qb.txt, .slice qb.ab qb.lb qb.cb, .slice qb.ak qb.lk qb.ck, .slice qb.ai qb.li qb.ci] 26)).alloc (.cells #[.int .i64 0, .int .i64 0] 29)) x9) := grown_below b8.out O8.out hg9 b8.out.size; have O9 : Hid (OwnsB x9 ((x7.alloc (.cells #[.int .i64 qb.kind, .int .u64 qb.num, .bool qb.neg, .string qb.dig, .int .i64 qb.exp, .string qb.txt, .slice qb.ab qb.lb qb.cb, .slice qb.ak qb.lk qb.ck, .slice qb.ai qb.li qb.ci] 26)).alloc (.cells #[.int .i64 0, .int .i64 0] 29)).heap.size v9 (([159] ++ zs) ++ ys)) := hO9; clear hO9 hg9 O8 b8 hBC2)
    | (at_builtin; guard_hyp O9; refine wpList_append_bytes rfl _ _ rfl ((x7.alloc (.cells #[.int .i64 qb.kind, .int .u64 qb.num, .bool qb.neg, .string qb.dig, .int .i64 qb.exp, .string qb.txt, .slice qb.ab qb.lb qb.cb, .slice qb.ak qb.lk qb.ck, .slice qb.ai qb.li qb.ci] 26)).alloc (.cells #[.int .i64 0, .int .i64 0] 29)).heap.size v9 (([159] ++ zs) ++ ys) [255] rfl (O9.out.alloc _) (some ⟨x9.heap.size, 0, none⟩) 1 1 rfl rfl (by simp) (bytes_lit x9 [255] (by decide) (by decide)) (by have := hT.out; simp; omega) (Nat.le_trans b9.out.size (alloc_below x9 _).size) ?_; intro v10 x10 hO10 hg10; have b10 : Hid (Below ((x7.alloc (.cells #[.int .i64 qb.kind, .int .u64 qb.num, .bool qb.neg, .string qb.dig, .int .i64 qb.exp, .string qb.txt, .slice qb.ab qb.lb qb.cb, .slice qb.ak qb.lk qb.ck, .slice qb.ai qb.li qb.ci] 26)).alloc (.cells #[.int .i64 0, .int .i64 0] 29)).heap.size ((x7.alloc (.cells #[.int .i64 qb.kind, .int .u64 qb.num, .bool qb.neg, .string qb.dig, .int .i64 qb.exp, .string qb.txt, .slice qb.ab qb.lb qb.cb, .slice qb.ak qb.lk qb.ck, .slice qb.ai qb.li qb.ci] 26)).alloc (.cells #[.int .i64 0, .int .i64 0] 29)) x10) := grown_below (b9.out.trans ((alloc_below x9 _).mono b9.out.size)) (O9.out.alloc _) hg10 (Nat.le_trans b9.out.size (alloc_below x9 _).size); obtain ⟨a10, m10, c10, rfl, hl10, hn10, hc10, hm10, hB10⟩ := hO10.form; have k10 := kD.out x10 a10 m10 c10 ((([159] ++ zs) ++ ys) ++ [255]) hl10.out hB10.out ⟨hc10, hm10, hn10.out⟩ (b7.out.trans (b10.out.mono b7.out.size)); clear hO10 hg10 O9 b9))
  rw [hE4.out] at k10
  unfold DcdIs at k10
  unfold Nb.arr at k10
  simp only at k10
  refine k10.mono ?_
  rintro e x11 ⟨⟨rb, he11, hn11⟩, hb11⟩
  subst he11
  have c11 : Below ((x7.alloc (.cells #[.int .i64 qb.kind, .int .u64 qb.num, .bool qb.neg, .string qb.dig, .int .i64 qb.exp, .string qb.txt, .slice qb.ab qb.lb qb.cb, .slice qb.ak qb.lk qb.ck, .slice qb.ai qb.li qb.ci] 26)).alloc (.cells #[.int .i64 0, .int .i64 0] 29)).heap.size ((x7.alloc (.cells #[.int .i64 qb.kind, .int .u64 qb.num, .bool qb.neg, .string qb.dig, .int .i64 qb.exp, .string qb.txt, .slice qb.ab qb.lb qb.cb, .slice qb.ak qb.lk qb.ck, .slice qb.ai qb.li qb.ci] 26)).alloc (.cells #[.int .i64 0, .int .i64 0] 29)) x11 := b10.out.trans (hb11.mono b10.out.size)
  have d11 : Below ((x7.alloc (.cells #[.int .i64 qb.kind, .int .u64 qb.num, .bool qb.neg, .string qb.dig, .int .i64 qb.exp, .string qb.txt, .slice qb.ab qb.lb qb.cb, .slice qb.ak qb.lk qb.ck, .slice qb.ai qb.li qb.ci] 26)).alloc (.cells #[.int .i64 0, .int .i64 0] 29)).heap.size ((x7.alloc (.cells #[.int .i64 qb.kind, .int .u64 qb.num, .bool qb.neg, .string qb.dig, .int .i64 qb.exp, .string qb.txt, .slice qb.ab qb.lb qb.cb, .slice qb.ak qb.lk qb.ck, .slice qb.ai qb.li qb.ci] 26)).alloc (.cells #[.int .i64 0, .int .i64 0] 29)) ((x11.alloc (.cells #[.int .i64 rb.kind, .int .u64 rb.num, .bool rb.neg, .string rb.dig, .int .i64 rb.exp, .string rb.txt, .slice rb.ab rb.lb rb.cb, .slice rb.ak rb.lk rb.ck, .slice rb.ai rb.li rb.ci] 26)).alloc (.cells #[.int .i64 0, .int .i64 0] 29)) := c11.trans ((bal2 x11 _ _).mono c11.size)
  have b11 : Hid (Below w.heap.size w ((x11.alloc (.cells #[.int .i64 rb.kind, .int .u64 rb.num, .bool rb.neg, .string rb.dig, .int .i64 rb.exp, .string rb.txt, .slice rb.ab rb.lb rb.cb, .slice rb.ak rb.lk rb.ck, .slice rb.ai rb.li rb.ci] 26)).alloc (.cells #[.int .i64 0, .int .i64 0] 29))) := b7.out.trans (d11.mono b7.out.size)
  have F11 := Blk.kept FX7.out d11 FX7.out.lt
  have p0 : ((x11.alloc (.cells #[.int .i64 rb.kind, .int .u64 rb.num, .bool rb.neg, .string rb.dig, .int .i64 rb.exp, .string rb.txt, .slice rb.ab rb.lb rb.cb, .slice rb.ak rb.lk rb.ck, .slice rb.ai rb.li rb.ci] 26)).alloc (.cells #[.int .i64 0, .int .i64 0] 29)).cell? ⟨x7.heap.size + 1, 0, none⟩ = some (.int .i64 0) := F11.cell 0
  have p1 : ((x11.alloc (.cells #[.int .i64 rb.kind, .int .u64 rb.num, .bool rb.neg, .string rb.dig, .int .i64 rb.exp, .string rb.txt, .slice rb.ab rb.lb rb.cb, .slice rb.ak rb.lk rb.ck, .slice rb.ai rb.li rb.ci] 26)).alloc (.cells #[.int .i64 0, .int .i64 0] 29)).cell? ⟨x7.heap.size + 1, 1, none⟩ = some (.int .i64 0) := F11.cell 1
  obtain ⟨n0, n1, n2, n3, n4, n5, n6, n7, n8⟩ := (NX7.out.kept d11 NX7.out.lt).fields
  obtain ⟨m0, m1, m2, m3, m4, m5, m6, m7, m8⟩ := (NW7.out.kept d11 NW7.out.lt).fields
  have kS : Hid (∀ wx, Below ((x11.alloc (.cells #[.int .i64 rb.kind, .int .u64 rb.num, .bool rb.neg, .string rb.dig, .int .i64 rb.exp, .string rb.txt, .slice rb.ab rb.lb rb.cb, .slice rb.ak rb.lk rb.ck, .slice rb.ai rb.li rb.ci] 26)).alloc (.cells #[.int .i64 0, .int .i64 0] 29)).heap.size ((x11.alloc (.cells #[.int .i64 rb.kind, .int .u64 rb.num, .bool rb.neg, .string rb.dig, .int .i64 rb.exp, .string rb.txt, .slice rb.ab rb.lb rb.cb, .slice rb.ak rb.lk rb.ck, .slice rb.ai rb.li rb.ci] 26)).alloc (.cells #[.int .i64 0, .int .i64 0] 29)) wx → Calls Tryz.prog 19 #[.agg qb.arr, .agg (twoN (x2.heap.size + 1 + 1)).arr] wx fun e w' => e = .returned (.bool true) ∧ Below wx.heap.size wx w') := fun wx hx => esame_any (a := qb) (b := twoN (x2.heap.size + 1 + 1)) (v := true) ((NQ7.out.kept d11).kept hx) ((ND7.out.kept d11).kept hx) (by have := hsz.out; simp [this])
  have NR : Hid (Nd 26 ((x11.alloc (.cells #[.int .i64 rb.kind, .int .u64 rb.num, .bool rb.neg, .string rb.dig, .int .i64 rb.exp, .string rb.txt, .slice rb.ab rb.lb rb.cb, .slice rb.ak rb.lk rb.ck, .slice rb.ai rb.li rb.ci] 26)).alloc (.cells #[.int .i64 0, .int .i64 0] 29)) rb (arrT [t, u])) := hn11.nd.kept (bal2 x11 _ _)
  have BR : Hid (NBox ((x11.alloc (.cells #[.int .i64 rb.kind, .int .u64 rb.num, .bool rb.neg, .string rb.dig, .int .i64 rb.exp, .string rb.txt, .slice rb.ab rb.lb rb.cb, .slice rb.ak rb.lk rb.ck, .slice rb.ai rb.li rb.ci] 26)).alloc (.cells #[.int .i64 0, .int .i64 0] 29)) x11.heap.size rb) := (nbox_new x11 rb).kept (alloc_below _ _) (nbox_new x11 rb).lt
  have GR' : Hid (Blk ((x11.alloc (.cells #[.int .i64 rb.kind, .int .u64 rb.num, .bool rb.neg, .string rb.dig, .int .i64 rb.exp, .string rb.txt, .slice rb.ab rb.lb rb.cb, .slice rb.ak rb.lk rb.ck, .slice rb.ai rb.li rb.ci] 26)).alloc (.cells #[.int .i64 0, .int .i64 0] 29)) (x11.heap.size + 1) #[.int .i64 0, .int .i64 0] 29) := box_two x11 _ _
  have NW11 : Hid (NBox ((x11.alloc (.cells #[.int .i64 rb.kind, .int .u64 rb.num, .bool rb.neg, .string rb.dig, .int .i64 rb.exp, .string rb.txt, .slice rb.ab rb.lb rb.cb, .slice rb.ak rb.lk rb.ck, .slice rb.ai rb.li rb.ci] 26)).alloc (.cells #[.int .i64 0, .int .i64 0] 29)) (x2.heap.size + 1 + 1 + 1) (twoN (x2.heap.size + 1 + 1))) := NW7.out.kept d11 NW7.out.lt
  have kT : Hid (∀ wx, Below ((x11.alloc (.cells #[.int .i64 rb.kind, .int .u64 rb.num, .bool rb.neg, .string rb.dig, .int .i64 rb.exp, .string rb.txt, .slice rb.ab rb.lb rb.cb, .slice rb.ak rb.lk rb.ck, .slice rb.ai rb.li rb.ci] 26)).alloc (.cells #[.int .i64 0, .int .i64 0] 29)).heap.size ((x11.alloc (.cells #[.int .i64 rb.kind, .int .u64 rb.num, .bool rb.neg, .string rb.dig, .int .i64 rb.exp, .string rb.txt, .slice rb.ab rb.lb rb.cb, .slice rb.ak rb.lk rb.ck, .slice rb.ai rb.li rb.ci] 26)).alloc (.cells #[.int .i64 0, .int .i64 0] 29)) wx → Calls Tryz.prog 19 #[.agg rb.arr, .agg (twoN (x2.heap.size + 1 + 1)).arr] wx fun e w' => e = .returned (.bool true) ∧ Below wx.heap.size wx w') := fun wx hx => esame_any (a := rb) (b := twoN (x2.heap.size + 1 + 1)) (v := true) (NR.out.kept hx) ((ND7.out.kept d11).kept hx) (by have := hsz.out; simp [this])
  unfold twoN Nb.arr at kS kT
  unfold twoN at m0 m1 m2 m3 m4 m5 m6 m7 m8
  simp only at kS kT m0 m1 m2 m3 m4 m5 m6 m7 m8
  clear k10 hb11 hn11 c11 d11 F11 NX7 NW7 NQ7 ND7 FX7 b10 b7
  go_wp2_with (first
    | (go_at_call 19; guard_hyp kS; refine (kS.out _ (Below.refl _ _)).mono ?_; rintro e x12 ⟨rfl, hb12⟩; have b12 : Hid (Below w.heap.size w x12) := b11.out.trans (hb12.mono b11.out.size); have q0 : x12.cell? ⟨x11.heap.size + 1, 0, none⟩ = some (.int .i64 0) := (Blk.kept GR'.out hb12 GR'.out.lt).cell 0; have q1 : x12.cell? ⟨x11.heap.size + 1, 1, none⟩ = some (.int .i64 0) := (Blk.kept GR'.out hb12 GR'.out.lt).cell 1; obtain ⟨r0, r1, r2, r3, r4, r5, r6, r7, r8⟩ := (BR.out.kept hb12 BR.out.lt).fields; obtain ⟨t0, t1, t2, t3, t4, t5, t6, t7, t8⟩ := (NW11.out.kept hb12 NW11.out.lt).fields; unfold twoN at t0 t1 t2 t3 t4 t5 t6 t7 t8; simp only at t0 t1 t2 t3 t4 t5 t6 t7 t8; have kT2 := kT.out x12 hb12; clear hb12 kS kT)
    | (go_at_call 19; guard_hyp kT2; refine kT2.mono ?_; rintro e x13 ⟨rfl, hb13⟩; have b13 : Hid (Below w.heap.size w x13) := b12.out.trans (hb13.mono b12.out.size); clear hb13 kT2)
    | (go_at_call 20; refine (kA.out _ b13.out).mono ?_; rintro e x14 ⟨rfl, hb14⟩))
  go_ret
  exact ⟨rfl, b13.out.trans (hb14.mono b13.out.size)⟩
theorem wclist (a : Option Addr) (n c : Nat) (zs : List Int) (a' : Option Addr) (n' c' : Nat) (ys : List Int) (w : World) {L : Nat} (hl : zs.length = n) (hb : Bytes w a zs) (hc : n ≤ c ∧ c ≤ maxLen ∧ (a = none → c = 0)) (hl' : ys.length = n') (hb' : Bytes w a' ys) (hc' : n' ≤ c' ∧ c' ≤ maxLen ∧ (a' = none → c' = 0)) (hs : n ≤ 140737488351232 ∧ n' ≤ 140737488351232) (hLw : Lw L w) (hL : L ≤ w.heap.size) : Calls Tryz.prog 8 #[.slice a n c, .slice a' n' c'] w fun e w' => e = .returned (.bool true) ∧ Below w.heap.size w w' := by
  cases h1 : dcdA zs with
  | inl f => exact wlist_a a n c zs a' n' c' ys w hl hb hc hl' hb' hc' hs hLw hL h1
  | inr t =>
    cases h2 : dcdA ys with
    | inl f => exact wlist_b a n c zs a' n' c' ys w hl hb hc hl' hb' hc' hs hLw hL h1 h2
    | inr u =>
      by_cases hbig : 4096 ≤ n + n'
      · exact wlist_c a n c zs a' n' c' ys w hl hb hc hl' hb' hc' hs hLw hL h1 h2 hbig
      · rcases dcd_list h1 h2 (by omega) with ⟨h3, h4⟩ | ⟨e, pl, h3, h4⟩
        · have hz : ∀ c ∈ 130 :: (zs ++ ys), 0 ≤ c ∧ c < 256 := fun c hc => by
            rcases List.mem_cons.1 hc with q | q
            · subst q; omega
            · rcases List.mem_append.1 q with q | q
              · exact hb.1 c q
              · exact hb'.1 c q
          have hsz := (itm_may hz (dcd_ok h3)).2.2
          by_cases hlg : 4096 < n + n' + 2
          · exact wlist_e a n c zs a' n' c' ys w hl hb hc hl' hb' hc' hs hLw hL h1 h2 (by omega) h3 hsz hlg
          · exact wlist_f a n c zs a' n' c' ys w hl hb hc hl' hb' hc' hs hLw hL h1 h2 (by omega) h3 hsz (by omega) (h4 (by omega))
        · exact wlist_d a n c zs a' n' c' ys w hl hb hc hl' hb' hc' hs hLw hL h1 h2 (by omega) h3 h4
end Go.Proofs.YtnjbppfanmmifaaGreatDoor
