/-
  When the document says that trees are the same: their fields are the same.
-/
import Derived.Test.YtmlacmoembjeoaaGreatDoorG27
namespace Go.Proofs.YtmlacmoembjeoaaGreatDoor
open Go.RowKit
set_option linter.unusedVariables false

set_option maxHeartbeats 8000000 in
set_option maxRecDepth 100000 in
theorem es_eq {D : Nat} (ih : EsAt D) (t u : Tr) (a b : Nb) (w : World) (v : Bool) (hA : Nd (D + 1) w a t) (hB : Nd (D + 1) w b u) (hv : v = true ↔ t = u) (h0 : a.kind = b.kind) (h1 : a.num = b.num) (h2 : a.neg = b.neg) (h3 : a.dig = b.dig) (h4 : a.exp = b.exp) (h5 : a.txt = b.txt) (h6 : t.bytes = u.bytes) (h7 : a.lk = b.lk) (h8 : a.li = b.li) : Calls Tryz.prog 21 #[.agg a.arr, .agg b.arr] w fun e w' => e = .returned (.bool v) ∧ Below w.heap.size w w' := by
  have T0 : Hid (Bo2 w ((w.alloc (.cells a.arr 26)).alloc (.cells b.arr 26)) a b) := bo2_new w a b
  obtain ⟨a0, a1, a2, a3, a4, a5, a6, a7, a8⟩ := T0.out.one.fields
  obtain ⟨b0, b1, b2, b3, b4, b5, b6, b7, b8⟩ := T0.out.two.fields
  obtain ⟨⟨x0, x1, x2, x3, x4, x5⟩, _, ⟨xl, xr, xb⟩, xk, xi⟩ := hA
  obtain ⟨⟨y0, y1, y2, y3, y4, y5⟩, _, ⟨yl, yr, yb⟩, yk, yi⟩ := hB
  have cx := conv_str (xb.kept ((alloc_below w (.cells a.arr 26)).trans ((alloc_below (w.alloc (.cells a.arr 26)) (.cells b.arr 26)).mono (Nat.le_of_lt (alloc_lt _ _))))) a.lb a.cb xl
  have cy := conv_str (yb.kept ((alloc_below w (.cells a.arr 26)).trans ((alloc_below (w.alloc (.cells a.arr 26)) (.cells b.arr 26)).mono (Nat.le_of_lt (alloc_lt _ _))))) b.lb b.cb yl
  have hst := str_eq xb.1 yb.1
  have hEq : Hid (t = u ↔ a.kind = b.kind ∧ a.num = b.num ∧ a.neg = b.neg ∧ a.dig = b.dig ∧ a.exp = b.exp ∧ a.txt = b.txt ∧ t.bytes = u.bytes ∧ t.keys = u.keys ∧ t.kids = u.kids) := by
    show _ ↔ _
    rw [x0, x1, x2, x3, x4, x5, y0, y1, y2, y3, y4, y5]
    exact ⟨fun h => by subst h; exact ⟨rfl, rfl, rfl, rfl, rfl, rfl, rfl, rfl, rfl⟩, fun ⟨h0, h1, h2, h3, h4, h5, h6, h7, h8⟩ => Tr.mk_eq h0 h1 h2 h3 h4 h5 h6 h7 h8⟩
  have hV : Hid (v = true ↔ t = u) := hv
  have hAk : Hid (RowN (Nd D w) w a.ak a.lk a.ck t.keys) := xk
  have hAi : Hid (RowN (Nd D w) w a.ai a.li a.ci t.kids) := xi
  have hBk : Hid (RowN (Nd D w) w b.ak b.lk b.ck u.keys) := yk
  have hBi : Hid (RowN (Nd D w) w b.ai b.li b.ci u.kids) := yi
  have hxk : Hid (t.keys.length = a.lk) := xk.1
  have hxi : Hid (t.kids.length = a.li) := xi.1
  have hyk : Hid (u.keys.length = b.lk) := yk.1
  have hyi : Hid (u.kids.length = b.li) := yi.1
  have m1 := xk.2.1.1
  have m2 := xk.2.1.2.1
  have m3 := xi.2.1.1
  have m4 := xi.2.1.2.1
  have m5 := yk.2.1.1
  have m6 := yk.2.1.2.1
  have m7 := yi.2.1.1
  have m8 := yi.2.1.2.1
  unfold maxLen at m2 m4 m6 m8
  generalize strOfNums t.bytes = SX at *
  generalize strOfNums u.bytes = SY at *
  clear x0 x1 x2 x3 x4 x5 y0 y1 y2 y3 y4 y5 xl yl xb yb xr yr xk xi yk yi hv
  have q0 : (a.kind == b.kind) = true := by rw [h0]; exact beq_self_eq_true _
  have r0 : (a.kind != b.kind) = false := by simp [h0]
  have q1 : (a.num == b.num) = true := by rw [h1]; exact beq_self_eq_true _
  have r1 : (a.num != b.num) = false := by simp [h1]
  have q2 : (a.neg == b.neg) = true := by rw [h2]; exact beq_self_eq_true _
  have r2 : (a.neg != b.neg) = false := by simp [h2]
  have q3 := beq_of (s := a.dig) (t := b.dig) true (by simp [h3])
  have r3 : (a.dig.toList != b.dig.toList) = false := by simp [bne, q3]
  have q4 : (a.exp == b.exp) = true := by rw [h4]; exact beq_self_eq_true _
  have r4 : (a.exp != b.exp) = false := by simp [h4]
  have q5 := beq_of (s := a.txt) (t := b.txt) true (by simp [h5])
  have r5 : (a.txt.toList != b.txt.toList) = false := by simp [bne, q5]
  rw [decide_eq_true h6] at hst
  have r6 : (SX.toList != SY.toList) = false := by simp [bne, hst]
  have r7 : ((a.lk : Int) != (b.lk : Int)) = false := by simp; omega
  have r8 : ((a.li : Int) != (b.li : Int)) = false := by simp; omega
  have e0 : Hid (a.kind = b.kind) := h0
  have e1 : Hid (a.num = b.num) := h1
  have e2 : Hid (a.neg = b.neg) := h2
  have e3 : Hid (a.dig = b.dig) := h3
  have e4 : Hid (a.exp = b.exp) := h4
  have e5 : Hid (a.txt = b.txt) := h5
  have e6 : Hid (t.bytes = u.bytes) := h6
  have hLk : Hid (a.lk = b.lk) := h7
  have hLi : Hid (a.li = b.li) := h8
  clear h0 h1 h2 h3 h4 h5 h6 h7 h8
  go_enter Tryz.func21, Tryz.ntmps21
  go_wp2
  go_loopw [5] (fun s5 wr => ∃ (i : Nat), i ≤ a.lk ∧ s5 = .int .i64 i ∧ Hid (Bo2 w wr a b) ∧ Hid (t.keys.take i = u.keys.take i)) (fun i _ => a.lk - (intOf i).toNat)
  case atStart => exact ⟨0, Nat.zero_le _, rfl, T0, rfl⟩
  case round =>
    obtain ⟨i, him, rfl, hT, hE⟩ := hrel
    clear a0 a1 a2 a3 a4 a5 a6 a7 a8 b0 b1 b2 b3 b4 b5 b6 b7 b8
    obtain ⟨c0, c1, c2, c3, c4, c5, c6, c7, c8⟩ := hT.out.one.fields
    obtain ⟨d0, d1, d2, d3, d4, d5, d6, d7, d8⟩ := hT.out.two.fields
    by_cases hlt : i < a.lk
    · have hz : (i : Int) < (a.lk : Int) := by omega
      have hz2 : (i : Int) < (b.lk : Int) := by have := hLk.out; omega
      have hix : i < t.keys.length := by rw [hxk.out]; exact hlt
      have hiy : i < u.keys.length := by rw [hyk.out, ← hLk.out]; exact hlt
      obtain ⟨bk, ok, nk, hak, hck, hNk⟩ := row_sp hAk.out hT.out.bel hix
      obtain ⟨bi, oi, ni, hai, hci, hNi⟩ := row_sp hBk.out hT.out.bel hiy
      have hS : Hid (∀ wx, Bo2 w wx a b → wx.cell? ⟨w.heap.size, 7, none⟩ = some (.slice (some ⟨bk, ok, none⟩) a.lk a.ck) ∧ wx.cell? ⟨w.heap.size + 1, 7, none⟩ = some (.slice (some ⟨bi, oi, none⟩) b.lk b.ck) ∧ (wx.cell? ⟨bk, ok + i * 9, none⟩ = some (.int .i64 nk.kind) ∧ wx.cell? ⟨bk, ok + i * 9 + 1, none⟩ = some (.int .u64 nk.num) ∧ wx.cell? ⟨bk, ok + i * 9 + 2, none⟩ = some (.bool nk.neg) ∧ wx.cell? ⟨bk, ok + i * 9 + 3, none⟩ = some (.string nk.dig) ∧ wx.cell? ⟨bk, ok + i * 9 + 4, none⟩ = some (.int .i64 nk.exp) ∧ wx.cell? ⟨bk, ok + i * 9 + 5, none⟩ = some (.string nk.txt) ∧ wx.cell? ⟨bk, ok + i * 9 + 6, none⟩ = some (.slice nk.ab nk.lb nk.cb) ∧ wx.cell? ⟨bk, ok + i * 9 + 7, none⟩ = some (.slice nk.ak nk.lk nk.ck) ∧ wx.cell? ⟨bk, ok + i * 9 + 8, none⟩ = some (.slice nk.ai nk.li nk.ci)) ∧ (wx.cell? ⟨bi, oi + i * 9, none⟩ = some (.int .i64 ni.kind) ∧ wx.cell? ⟨bi, oi + i * 9 + 1, none⟩ = some (.int .u64 ni.num) ∧ wx.cell? ⟨bi, oi + i * 9 + 2, none⟩ = some (.bool ni.neg) ∧ wx.cell? ⟨bi, oi + i * 9 + 3, none⟩ = some (.string ni.dig) ∧ wx.cell? ⟨bi, oi + i * 9 + 4, none⟩ = some (.int .i64 ni.exp) ∧ wx.cell? ⟨bi, oi + i * 9 + 5, none⟩ = some (.string ni.txt) ∧ wx.cell? ⟨bi, oi + i * 9 + 6, none⟩ = some (.slice ni.ab ni.lb ni.cb) ∧ wx.cell? ⟨bi, oi + i * 9 + 7, none⟩ = some (.slice ni.ak ni.lk ni.ck) ∧ wx.cell? ⟨bi, oi + i * 9 + 8, none⟩ = some (.slice ni.ai ni.li ni.ci))) := fun wx h => ⟨by rw [← hak]; exact h.one.cell 7, by rw [← hai]; exact h.two.cell 7, elem_fields (hck wx h.bel), elem_fields (hci wx h.bel)⟩
      have hS0 := hS.out _ hT.out
      obtain ⟨e0, e1, ⟨f0, f1, f2, f3, f4, f5, f6, f7, f8⟩, ⟨p0, p1, p2, p3, p4, p5, p6, p7, p8⟩⟩ := hS0
      have kk : ∀ (v' : Bool), (v' = true ↔ t.keys[i] = u.keys[i]) → ∀ w', Below w.heap.size w w' → Calls Tryz.prog 21 #[.agg nk.arr, .agg ni.arr] w' fun e w'' => e = .returned (.bool v') ∧ Below w'.heap.size w' w'' := fun v' h w' hb => ih _ _ nk ni w' v' (hNk.kept hb) (hNi.kept hb) h
      have wi : IntKind.i64.wrap ((i : Int) + 1) = (i : Int) + 1 := by rw [IntKind.wrap_i64]; omega
      by_cases hq : t.keys[i] = u.keys[i]
      · have k1 := kk true (by simp [hq])
        have hE' : Hid (t.keys.take (i + 1) = u.keys.take (i + 1)) := by
          show _ = _
          rw [List.take_succ_eq_append_getElem hix, List.take_succ_eq_append_getElem hiy, hE.out, hq]
        clear hck hci hNk hNi kk hq ih
        go_wp2
        go_region_held3 (fun wx => wx.cell? ⟨w.heap.size, 7, none⟩ = some (.slice (some ⟨bk, ok, none⟩) a.lk a.ck) ∧ wx.cell? ⟨w.heap.size + 1, 7, none⟩ = some (.slice (some ⟨bi, oi, none⟩) b.lk b.ck) ∧ (wx.cell? ⟨bk, ok + i * 9, none⟩ = some (.int .i64 nk.kind) ∧ wx.cell? ⟨bk, ok + i * 9 + 1, none⟩ = some (.int .u64 nk.num) ∧ wx.cell? ⟨bk, ok + i * 9 + 2, none⟩ = some (.bool nk.neg) ∧ wx.cell? ⟨bk, ok + i * 9 + 3, none⟩ = some (.string nk.dig) ∧ wx.cell? ⟨bk, ok + i * 9 + 4, none⟩ = some (.int .i64 nk.exp) ∧ wx.cell? ⟨bk, ok + i * 9 + 5, none⟩ = some (.string nk.txt) ∧ wx.cell? ⟨bk, ok + i * 9 + 6, none⟩ = some (.slice nk.ab nk.lb nk.cb) ∧ wx.cell? ⟨bk, ok + i * 9 + 7, none⟩ = some (.slice nk.ak nk.lk nk.ck) ∧ wx.cell? ⟨bk, ok + i * 9 + 8, none⟩ = some (.slice nk.ai nk.li nk.ci)) ∧ (wx.cell? ⟨bi, oi + i * 9, none⟩ = some (.int .i64 ni.kind) ∧ wx.cell? ⟨bi, oi + i * 9 + 1, none⟩ = some (.int .u64 ni.num) ∧ wx.cell? ⟨bi, oi + i * 9 + 2, none⟩ = some (.bool ni.neg) ∧ wx.cell? ⟨bi, oi + i * 9 + 3, none⟩ = some (.string ni.dig) ∧ wx.cell? ⟨bi, oi + i * 9 + 4, none⟩ = some (.int .i64 ni.exp) ∧ wx.cell? ⟨bi, oi + i * 9 + 5, none⟩ = some (.string ni.txt) ∧ wx.cell? ⟨bi, oi + i * 9 + 6, none⟩ = some (.slice ni.ab ni.lb ni.cb) ∧ wx.cell? ⟨bi, oi + i * 9 + 7, none⟩ = some (.slice ni.ak ni.lk ni.ck) ∧ wx.cell? ⟨bi, oi + i * 9 + 8, none⟩ = some (.slice ni.ai ni.li ni.ci))) (first | exact hS.out _ hT.out.drew | exact hS.out _ T1.out) (first
          | (go_at_call 21; refine (k1 _ hT.out.drew.bel).mono ?_; rintro e w1 ⟨rfl, q1⟩; have T1 : Hid (Bo2 w w1 a b) := hT.out.drew.on q1; clear q1))
        go_wp2
        try simp only [hak, hai]
        go_roundw
        case rel => exact ⟨i + 1, by omega, by go_num, T1, hE'⟩
        case measure => simp [intOf]; omega
      · have k1 := kk false (by simp [hq])
        have hvf : v = false := not_true hV.out (fun h => hq (by have := (hEq.out.1 h).2.2.2.2.2.2.2.1; simp only [this]))
        subst hvf
        clear hck hci hNk hNi kk hq ih
        go_wp2
        go_region_held3 (fun wx => wx.cell? ⟨w.heap.size, 7, none⟩ = some (.slice (some ⟨bk, ok, none⟩) a.lk a.ck) ∧ wx.cell? ⟨w.heap.size + 1, 7, none⟩ = some (.slice (some ⟨bi, oi, none⟩) b.lk b.ck) ∧ (wx.cell? ⟨bk, ok + i * 9, none⟩ = some (.int .i64 nk.kind) ∧ wx.cell? ⟨bk, ok + i * 9 + 1, none⟩ = some (.int .u64 nk.num) ∧ wx.cell? ⟨bk, ok + i * 9 + 2, none⟩ = some (.bool nk.neg) ∧ wx.cell? ⟨bk, ok + i * 9 + 3, none⟩ = some (.string nk.dig) ∧ wx.cell? ⟨bk, ok + i * 9 + 4, none⟩ = some (.int .i64 nk.exp) ∧ wx.cell? ⟨bk, ok + i * 9 + 5, none⟩ = some (.string nk.txt) ∧ wx.cell? ⟨bk, ok + i * 9 + 6, none⟩ = some (.slice nk.ab nk.lb nk.cb) ∧ wx.cell? ⟨bk, ok + i * 9 + 7, none⟩ = some (.slice nk.ak nk.lk nk.ck) ∧ wx.cell? ⟨bk, ok + i * 9 + 8, none⟩ = some (.slice nk.ai nk.li nk.ci)) ∧ (wx.cell? ⟨bi, oi + i * 9, none⟩ = some (.int .i64 ni.kind) ∧ wx.cell? ⟨bi, oi + i * 9 + 1, none⟩ = some (.int .u64 ni.num) ∧ wx.cell? ⟨bi, oi + i * 9 + 2, none⟩ = some (.bool ni.neg) ∧ wx.cell? ⟨bi, oi + i * 9 + 3, none⟩ = some (.string ni.dig) ∧ wx.cell? ⟨bi, oi + i * 9 + 4, none⟩ = some (.int .i64 ni.exp) ∧ wx.cell? ⟨bi, oi + i * 9 + 5, none⟩ = some (.string ni.txt) ∧ wx.cell? ⟨bi, oi + i * 9 + 6, none⟩ = some (.slice ni.ab ni.lb ni.cb) ∧ wx.cell? ⟨bi, oi + i * 9 + 7, none⟩ = some (.slice ni.ak ni.lk ni.ck) ∧ wx.cell? ⟨bi, oi + i * 9 + 8, none⟩ = some (.slice ni.ai ni.li ni.ci))) (first | exact hS.out _ hT.out.drew | exact hS.out _ T1.out) (first
          | (go_at_call 21; refine (k1 _ hT.out.drew.bel).mono ?_; rintro e w1 ⟨rfl, q1⟩; have T1 : Hid (Bo2 w w1 a b) := hT.out.drew.on q1; clear q1))
        go_wp2
        go_ret
        exact ⟨rfl, T1.out.bel⟩
    · have hz : ¬ (i : Int) < (a.lk : Int) := by omega
      have ekeys : Hid (t.keys = u.keys) := by
        show _ = _
        have h1 := hE.out
        rwa [List.take_of_length_le (by rw [hxk.out]; omega), List.take_of_length_le (by rw [hyk.out, ← hLk.out]; omega)] at h1
      clear hE
      go_wp2
      go_loopw [6] (fun s5 wr => ∃ (i : Nat), i ≤ a.li ∧ s5 = .int .i64 i ∧ Hid (Bo2 w wr a b) ∧ Hid (t.kids.take i = u.kids.take i)) (fun i _ => a.li - (intOf i).toNat)
      case atStart => exact ⟨0, Nat.zero_le _, rfl, hT, rfl⟩
      case round =>
        obtain ⟨i, him, rfl, hT, hE⟩ := hrel
        clear c0 c1 c2 c3 c4 c5 c6 c7 c8 d0 d1 d2 d3 d4 d5 d6 d7 d8
        obtain ⟨c0, c1, c2, c3, c4, c5, c6, c7, c8⟩ := hT.out.one.fields
        obtain ⟨d0, d1, d2, d3, d4, d5, d6, d7, d8⟩ := hT.out.two.fields
        by_cases hlt : i < a.li
        · have hz : (i : Int) < (a.li : Int) := by omega
          have hz2 : (i : Int) < (b.li : Int) := by have := hLi.out; omega
          have hix : i < t.kids.length := by rw [hxi.out]; exact hlt
          have hiy : i < u.kids.length := by rw [hyi.out, ← hLi.out]; exact hlt
          obtain ⟨bk, ok, nk, hak, hck, hNk⟩ := row_sp hAi.out hT.out.bel hix
          obtain ⟨bi, oi, ni, hai, hci, hNi⟩ := row_sp hBi.out hT.out.bel hiy
          have hS : Hid (∀ wx, Bo2 w wx a b → wx.cell? ⟨w.heap.size, 8, none⟩ = some (.slice (some ⟨bk, ok, none⟩) a.li a.ci) ∧ wx.cell? ⟨w.heap.size + 1, 8, none⟩ = some (.slice (some ⟨bi, oi, none⟩) b.li b.ci) ∧ (wx.cell? ⟨bk, ok + i * 9, none⟩ = some (.int .i64 nk.kind) ∧ wx.cell? ⟨bk, ok + i * 9 + 1, none⟩ = some (.int .u64 nk.num) ∧ wx.cell? ⟨bk, ok + i * 9 + 2, none⟩ = some (.bool nk.neg) ∧ wx.cell? ⟨bk, ok + i * 9 + 3, none⟩ = some (.string nk.dig) ∧ wx.cell? ⟨bk, ok + i * 9 + 4, none⟩ = some (.int .i64 nk.exp) ∧ wx.cell? ⟨bk, ok + i * 9 + 5, none⟩ = some (.string nk.txt) ∧ wx.cell? ⟨bk, ok + i * 9 + 6, none⟩ = some (.slice nk.ab nk.lb nk.cb) ∧ wx.cell? ⟨bk, ok + i * 9 + 7, none⟩ = some (.slice nk.ak nk.lk nk.ck) ∧ wx.cell? ⟨bk, ok + i * 9 + 8, none⟩ = some (.slice nk.ai nk.li nk.ci)) ∧ (wx.cell? ⟨bi, oi + i * 9, none⟩ = some (.int .i64 ni.kind) ∧ wx.cell? ⟨bi, oi + i * 9 + 1, none⟩ = some (.int .u64 ni.num) ∧ wx.cell? ⟨bi, oi + i * 9 + 2, none⟩ = some (.bool ni.neg) ∧ wx.cell? ⟨bi, oi + i * 9 + 3, none⟩ = some (.string ni.dig) ∧ wx.cell? ⟨bi, oi + i * 9 + 4, none⟩ = some (.int .i64 ni.exp) ∧ wx.cell? ⟨bi, oi + i * 9 + 5, none⟩ = some (.string ni.txt) ∧ wx.cell? ⟨bi, oi + i * 9 + 6, none⟩ = some (.slice ni.ab ni.lb ni.cb) ∧ wx.cell? ⟨bi, oi + i * 9 + 7, none⟩ = some (.slice ni.ak ni.lk ni.ck) ∧ wx.cell? ⟨bi, oi + i * 9 + 8, none⟩ = some (.slice ni.ai ni.li ni.ci))) := fun wx h => ⟨by rw [← hak]; exact h.one.cell 8, by rw [← hai]; exact h.two.cell 8, elem_fields (hck wx h.bel), elem_fields (hci wx h.bel)⟩
          have hS0 := hS.out _ hT.out
          obtain ⟨e0, e1, ⟨f0, f1, f2, f3, f4, f5, f6, f7, f8⟩, ⟨p0, p1, p2, p3, p4, p5, p6, p7, p8⟩⟩ := hS0
          have kk : ∀ (v' : Bool), (v' = true ↔ t.kids[i] = u.kids[i]) → ∀ w', Below w.heap.size w w' → Calls Tryz.prog 21 #[.agg nk.arr, .agg ni.arr] w' fun e w'' => e = .returned (.bool v') ∧ Below w'.heap.size w' w'' := fun v' h w' hb => ih _ _ nk ni w' v' (hNk.kept hb) (hNi.kept hb) h
          have wi : IntKind.i64.wrap ((i : Int) + 1) = (i : Int) + 1 := by rw [IntKind.wrap_i64]; omega
          by_cases hq : t.kids[i] = u.kids[i]
          · have k1 := kk true (by simp [hq])
            have hE' : Hid (t.kids.take (i + 1) = u.kids.take (i + 1)) := by
              show _ = _
              rw [List.take_succ_eq_append_getElem hix, List.take_succ_eq_append_getElem hiy, hE.out, hq]
            clear hck hci hNk hNi kk hq ih
            go_wp2
            go_region_held3 (fun wx => wx.cell? ⟨w.heap.size, 8, none⟩ = some (.slice (some ⟨bk, ok, none⟩) a.li a.ci) ∧ wx.cell? ⟨w.heap.size + 1, 8, none⟩ = some (.slice (some ⟨bi, oi, none⟩) b.li b.ci) ∧ (wx.cell? ⟨bk, ok + i * 9, none⟩ = some (.int .i64 nk.kind) ∧ wx.cell? ⟨bk, ok + i * 9 + 1, none⟩ = some (.int .u64 nk.num) ∧ wx.cell? ⟨bk, ok + i * 9 + 2, none⟩ = some (.bool nk.neg) ∧ wx.cell? ⟨bk, ok + i * 9 + 3, none⟩ = some (.string nk.dig) ∧ wx.cell? ⟨bk, ok + i * 9 + 4, none⟩ = some (.int .i64 nk.exp) ∧ wx.cell? ⟨bk, ok + i * 9 + 5, none⟩ = some (.string nk.txt) ∧ wx.cell? ⟨bk, ok + i * 9 + 6, none⟩ = some (.slice nk.ab nk.lb nk.cb) ∧ wx.cell? ⟨bk, ok + i * 9 + 7, none⟩ = some (.slice nk.ak nk.lk nk.ck) ∧ wx.cell? ⟨bk, ok + i * 9 + 8, none⟩ = some (.slice nk.ai nk.li nk.ci)) ∧ (wx.cell? ⟨bi, oi + i * 9, none⟩ = some (.int .i64 ni.kind) ∧ wx.cell? ⟨bi, oi + i * 9 + 1, none⟩ = some (.int .u64 ni.num) ∧ wx.cell? ⟨bi, oi + i * 9 + 2, none⟩ = some (.bool ni.neg) ∧ wx.cell? ⟨bi, oi + i * 9 + 3, none⟩ = some (.string ni.dig) ∧ wx.cell? ⟨bi, oi + i * 9 + 4, none⟩ = some (.int .i64 ni.exp) ∧ wx.cell? ⟨bi, oi + i * 9 + 5, none⟩ = some (.string ni.txt) ∧ wx.cell? ⟨bi, oi + i * 9 + 6, none⟩ = some (.slice ni.ab ni.lb ni.cb) ∧ wx.cell? ⟨bi, oi + i * 9 + 7, none⟩ = some (.slice ni.ak ni.lk ni.ck) ∧ wx.cell? ⟨bi, oi + i * 9 + 8, none⟩ = some (.slice ni.ai ni.li ni.ci))) (first | exact hS.out _ hT.out.drew | exact hS.out _ T1.out) (first
              | (go_at_call 21; refine (k1 _ hT.out.drew.bel).mono ?_; rintro e w1 ⟨rfl, q1⟩; have T1 : Hid (Bo2 w w1 a b) := hT.out.drew.on q1; clear q1))
            go_wp2
            try simp only [hak, hai]
            go_roundw
            case rel => exact ⟨i + 1, by omega, by go_num, T1, hE'⟩
            case measure => simp [intOf]; omega
          · have k1 := kk false (by simp [hq])
            have hvf : v = false := not_true hV.out (fun h => hq (by have := (hEq.out.1 h).2.2.2.2.2.2.2.2; simp only [this]))
            subst hvf
            clear hck hci hNk hNi kk hq ih
            go_wp2
            go_region_held3 (fun wx => wx.cell? ⟨w.heap.size, 8, none⟩ = some (.slice (some ⟨bk, ok, none⟩) a.li a.ci) ∧ wx.cell? ⟨w.heap.size + 1, 8, none⟩ = some (.slice (some ⟨bi, oi, none⟩) b.li b.ci) ∧ (wx.cell? ⟨bk, ok + i * 9, none⟩ = some (.int .i64 nk.kind) ∧ wx.cell? ⟨bk, ok + i * 9 + 1, none⟩ = some (.int .u64 nk.num) ∧ wx.cell? ⟨bk, ok + i * 9 + 2, none⟩ = some (.bool nk.neg) ∧ wx.cell? ⟨bk, ok + i * 9 + 3, none⟩ = some (.string nk.dig) ∧ wx.cell? ⟨bk, ok + i * 9 + 4, none⟩ = some (.int .i64 nk.exp) ∧ wx.cell? ⟨bk, ok + i * 9 + 5, none⟩ = some (.string nk.txt) ∧ wx.cell? ⟨bk, ok + i * 9 + 6, none⟩ = some (.slice nk.ab nk.lb nk.cb) ∧ wx.cell? ⟨bk, ok + i * 9 + 7, none⟩ = some (.slice nk.ak nk.lk nk.ck) ∧ wx.cell? ⟨bk, ok + i * 9 + 8, none⟩ = some (.slice nk.ai nk.li nk.ci)) ∧ (wx.cell? ⟨bi, oi + i * 9, none⟩ = some (.int .i64 ni.kind) ∧ wx.cell? ⟨bi, oi + i * 9 + 1, none⟩ = some (.int .u64 ni.num) ∧ wx.cell? ⟨bi, oi + i * 9 + 2, none⟩ = some (.bool ni.neg) ∧ wx.cell? ⟨bi, oi + i * 9 + 3, none⟩ = some (.string ni.dig) ∧ wx.cell? ⟨bi, oi + i * 9 + 4, none⟩ = some (.int .i64 ni.exp) ∧ wx.cell? ⟨bi, oi + i * 9 + 5, none⟩ = some (.string ni.txt) ∧ wx.cell? ⟨bi, oi + i * 9 + 6, none⟩ = some (.slice ni.ab ni.lb ni.cb) ∧ wx.cell? ⟨bi, oi + i * 9 + 7, none⟩ = some (.slice ni.ak ni.lk ni.ck) ∧ wx.cell? ⟨bi, oi + i * 9 + 8, none⟩ = some (.slice ni.ai ni.li ni.ci))) (first | exact hS.out _ hT.out.drew | exact hS.out _ T1.out) (first
              | (go_at_call 21; refine (k1 _ hT.out.drew.bel).mono ?_; rintro e w1 ⟨rfl, q1⟩; have T1 : Hid (Bo2 w w1 a b) := hT.out.drew.on q1; clear q1))
            go_wp2
            go_ret
            exact ⟨rfl, T1.out.bel⟩
        · have hz : ¬ (i : Int) < (a.li : Int) := by omega
          have ekids : Hid (t.kids = u.kids) := by
            show _ = _
            have h1 := hE.out
            rwa [List.take_of_length_le (by rw [hxi.out]; omega), List.take_of_length_le (by rw [hyi.out, ← hLi.out]; omega)] at h1
          have hvt : v = true := hV.out.2 (hEq.out.2 ⟨e0.out, e1.out, e2.out, e3.out, e4.out, e5.out, e6.out, ekeys.out, ekids.out⟩)
          subst hvt
          clear hE ih
          go_wp2
          go_ret
          exact ⟨rfl, hT.out.bel⟩
end Go.Proofs.YtmlacmoembjeoaaGreatDoor
