/-
  When the document says that trees are the same: their fields are the same.
  When the document says that trees are the same: put together.
  The document's first character, by the plain lists.
-/
import Derived.Test.YtnjbppfanmmifaaGreatDoorS30
import Derived.Test.YtnjbppfanmmifaaGreatDoorS31
import Derived.Test.YtnjbppfanmmifaaGreatDoorS32
import Derived.Test.YtnjbppfanmmifaaGreatDoorS7
import Derived.Test.YtnjbppfanmmifaaGreatDoorS8
import Derived.Deep.QuietTactic
import Derived.BigQuiet
namespace Go.Proofs.YtnjbppfanmmifaaGreatDoor
open Go.RowKit
set_option linter.unusedVariables false

set_option maxHeartbeats 8000000 in
set_option maxRecDepth 100000 in
theorem es_eq {D : Nat} (ih : EsAt D) (t u : Tr) (a b : Nb) (w : World) (v : Bool) (hA : Nd (D + 1) w a t) (hB : Nd (D + 1) w b u) (hv : v = true ↔ t = u) (h0 : a.kind = b.kind) (h1 : a.num = b.num) (h2 : a.neg = b.neg) (h3 : a.dig = b.dig) (h4 : a.exp = b.exp) (h5 : a.txt = b.txt) (h6 : t.bytes = u.bytes) (h7 : a.lk = b.lk) (h8 : a.li = b.li) : Calls Tryz.prog 33 #[.agg a.arr, .agg b.arr] w fun e w' => e = .returned (.bool v) ∧ Below w.heap.size w w' := by
  have T0 : Hid (Bo2 w ((w.alloc (.cells a.arr 26)).alloc (.cells b.arr 26)) a b) := bo2_new w a b
  obtain ⟨a0, a1, a2, a3, a4, a5, a6, a7, a8⟩ := T0.out.one.fields
  obtain ⟨b0, b1, b2, b3, b4, b5, b6, b7, b8⟩ := T0.out.two.fields
  obtain ⟨⟨x0, x1, x2, x3, x4, x5⟩, _, ⟨xl, xr, xb⟩, xk, xi⟩ := hA
  obtain ⟨⟨y0, y1, y2, y3, y4, y5⟩, _, ⟨yl, yr, yb⟩, yk, yi⟩ := hB
  have cx := conv_str (xb.kept ((alloc_below w (.cells a.arr 26)).trans ((alloc_below (w.alloc (.cells a.arr 26)) (.cells b.arr 26)).mono (Nat.le_of_lt (alloc_lt _ _))))) a.lb a.cb xl
  have cy := conv_str (yb.kept ((alloc_below w (.cells a.arr 26)).trans ((alloc_below (w.alloc (.cells a.arr 26)) (.cells b.arr 26)).mono (Nat.le_of_lt (alloc_lt _ _))))) b.lb b.cb yl
  have hst := str_eq xb.1 yb.1
  have hEq : Hid (t = u ↔ a.kind = b.kind ∧ a.num = b.num ∧ a.neg = b.neg ∧ a.dig = b.dig ∧ a.exp = b.exp ∧ a.txt = b.txt ∧ t.bytes = u.bytes ∧ t.keys = u.keys ∧ t.kids = u.kids) := by
    show _ ↔ _
    rw [x0, x1, x2, x3, x4, x5, y0, y1, y2, y3, y4, y5]
    exact ⟨fun h => by subst h; exact ⟨rfl, rfl, rfl, rfl, rfl, rfl, rfl, rfl, rfl⟩, fun ⟨h0, h1, h2, h3, h4, h5, h6, h7, h8⟩ => Tr.mk_eq h0 h1 h2 h3 h4 h5 h6 h7 h8⟩
  have hV : Hid (v = true ↔ t = u) := hv
  have hAk : Hid (RowN (Nd D w) w a.ak a.lk a.ck t.keys) := xk
  have hAi : Hid (RowN (Nd D w) w a.ai a.li a.ci t.kids) := xi
  have hBk : Hid (RowN (Nd D w) w b.ak b.lk b.ck u.keys) := yk
  have hBi : Hid (RowN (Nd D w) w b.ai b.li b.ci u.kids) := yi
  have hxk : Hid (t.keys.length = a.lk) := xk.1
  have hxi : Hid (t.kids.length = a.li) := xi.1
  have hyk : Hid (u.keys.length = b.lk) := yk.1
  have hyi : Hid (u.kids.length = b.li) := yi.1
  have m1 := xk.2.1.1
  have m2 := xk.2.1.2.1
  have m3 := xi.2.1.1
  have m4 := xi.2.1.2.1
  have m5 := yk.2.1.1
  have m6 := yk.2.1.2.1
  have m7 := yi.2.1.1
  have m8 := yi.2.1.2.1
  unfold maxLen at m2 m4 m6 m8
  generalize strOfNums t.bytes = SX at *
  generalize strOfNums u.bytes = SY at *
  clear x0 x1 x2 x3 x4 x5 y0 y1 y2 y3 y4 y5 xl yl xb yb xr yr xk xi yk yi hv
  have q0 : (a.kind == b.kind) = true := by rw [h0]; exact beq_self_eq_true _
  have r0 : (a.kind != b.kind) = false := by simp [h0]
  have q1 : (a.num == b.num) = true := by rw [h1]; exact beq_self_eq_true _
  have r1 : (a.num != b.num) = false := by simp [h1]
  have q2 : (a.neg == b.neg) = true := by rw [h2]; exact beq_self_eq_true _
  have r2 : (a.neg != b.neg) = false := by simp [h2]
  have q3 := beq_of (s := a.dig) (t := b.dig) true (by simp [h3])
  have r3 : (a.dig.toList != b.dig.toList) = false := by simp [bne, q3]
  have q4 : (a.exp == b.exp) = true := by rw [h4]; exact beq_self_eq_true _
  have r4 : (a.exp != b.exp) = false := by simp [h4]
  have q5 := beq_of (s := a.txt) (t := b.txt) true (by simp [h5])
  have r5 : (a.txt.toList != b.txt.toList) = false := by simp [bne, q5]
  rw [decide_eq_true h6] at hst
  have r6 : (SX.toList != SY.toList) = false := by simp [bne, hst]
  have r7 : ((a.lk : Int) != (b.lk : Int)) = false := by simp; omega
  have r8 : ((a.li : Int) != (b.li : Int)) = false := by simp; omega
  have e0 : Hid (a.kind = b.kind) := h0
  have e1 : Hid (a.num = b.num) := h1
  have e2 : Hid (a.neg = b.neg) := h2
  have e3 : Hid (a.dig = b.dig) := h3
  have e4 : Hid (a.exp = b.exp) := h4
  have e5 : Hid (a.txt = b.txt) := h5
  have e6 : Hid (t.bytes = u.bytes) := h6
  have hLk : Hid (a.lk = b.lk) := h7
  have hLi : Hid (a.li = b.li) := h8
  clear h0 h1 h2 h3 h4 h5 h6 h7 h8
  go_enter Tryz.func33, Tryz.ntmps33
  go_wp2
  go_loopw [5] (fun s5 wr => ∃ (i : Nat), i ≤ a.lk ∧ s5 = .int .i64 i ∧ Hid (Bo2 w wr a b) ∧ Hid (t.keys.take i = u.keys.take i)) (fun i _ => a.lk - (intOf i).toNat)
  case atStart => exact ⟨0, Nat.zero_le _, rfl, T0, rfl⟩
  case round =>
    obtain ⟨i, him, rfl, hT, hE⟩ := hrel
    clear a0 a1 a2 a3 a4 a5 a6 a7 a8 b0 b1 b2 b3 b4 b5 b6 b7 b8
    obtain ⟨c0, c1, c2, c3, c4, c5, c6, c7, c8⟩ := hT.out.one.fields
    obtain ⟨d0, d1, d2, d3, d4, d5, d6, d7, d8⟩ := hT.out.two.fields
    by_cases hlt : i < a.lk
    · have hz : (i : Int) < (a.lk : Int) := by omega
      have hz2 : (i : Int) < (b.lk : Int) := by have := hLk.out; omega
      have hix : i < t.keys.length := by rw [hxk.out]; exact hlt
      have hiy : i < u.keys.length := by rw [hyk.out, ← hLk.out]; exact hlt
      obtain ⟨bk, ok, nk, hak, hck, hNk⟩ := row_sp hAk.out hT.out.bel hix
      obtain ⟨bi, oi, ni, hai, hci, hNi⟩ := row_sp hBk.out hT.out.bel hiy
      have hS : Hid (∀ wx, Bo2 w wx a b → wx.cell? ⟨w.heap.size, 7, none⟩ = some (.slice (some ⟨bk, ok, none⟩) a.lk a.ck) ∧ wx.cell? ⟨w.heap.size + 1, 7, none⟩ = some (.slice (some ⟨bi, oi, none⟩) b.lk b.ck) ∧ (wx.cell? ⟨bk, ok + i * 9, none⟩ = some (.int .i64 nk.kind) ∧ wx.cell? ⟨bk, ok + i * 9 + 1, none⟩ = some (.int .u64 nk.num) ∧ wx.cell? ⟨bk, ok + i * 9 + 2, none⟩ = some (.bool nk.neg) ∧ wx.cell? ⟨bk, ok + i * 9 + 3, none⟩ = some (.string nk.dig) ∧ wx.cell? ⟨bk, ok + i * 9 + 4, none⟩ = some (.int .i64 nk.exp) ∧ wx.cell? ⟨bk, ok + i * 9 + 5, none⟩ = some (.string nk.txt) ∧ wx.cell? ⟨bk, ok + i * 9 + 6, none⟩ = some (.slice nk.ab nk.lb nk.cb) ∧ wx.cell? ⟨bk, ok + i * 9 + 7, none⟩ = some (.slice nk.ak nk.lk nk.ck) ∧ wx.cell? ⟨bk, ok + i * 9 + 8, none⟩ = some (.slice nk.ai nk.li nk.ci)) ∧ (wx.cell? ⟨bi, oi + i * 9, none⟩ = some (.int .i64 ni.kind) ∧ wx.cell? ⟨bi, oi + i * 9 + 1, none⟩ = some (.int .u64 ni.num) ∧ wx.cell? ⟨bi, oi + i * 9 + 2, none⟩ = some (.bool ni.neg) ∧ wx.cell? ⟨bi, oi + i * 9 + 3, none⟩ = some (.string ni.dig) ∧ wx.cell? ⟨bi, oi + i * 9 + 4, none⟩ = some (.int .i64 ni.exp) ∧ wx.cell? ⟨bi, oi + i * 9 + 5, none⟩ = some (.string ni.txt) ∧ wx.cell? ⟨bi, oi + i * 9 + 6, none⟩ = some (.slice ni.ab ni.lb ni.cb) ∧ wx.cell? ⟨bi, oi + i * 9 + 7, none⟩ = some (.slice ni.ak ni.lk ni.ck) ∧ wx.cell? ⟨bi, oi + i * 9 + 8, none⟩ = some (.slice ni.ai ni.li ni.ci))) := fun wx h => ⟨by rw [← hak]; exact h.one.cell 7, by rw [← hai]; exact h.two.cell 7, elem_fields (hck wx h.bel), elem_fields (hci wx h.bel)⟩
      have hS0 := hS.out _ hT.out
      obtain ⟨e0, e1, ⟨f0, f1, f2, f3, f4, f5, f6, f7, f8⟩, ⟨p0, p1, p2, p3, p4, p5, p6, p7, p8⟩⟩ := hS0
      have kk : ∀ (v' : Bool), (v' = true ↔ t.keys[i] = u.keys[i]) → ∀ w', Below w.heap.size w w' → Calls Tryz.prog 33 #[.agg nk.arr, .agg ni.arr] w' fun e w'' => e = .returned (.bool v') ∧ Below w'.heap.size w' w'' := fun v' h w' hb => ih _ _ nk ni w' v' (hNk.kept hb) (hNi.kept hb) h
      have wi : IntKind.i64.wrap ((i : Int) + 1) = (i : Int) + 1 := by rw [IntKind.wrap_i64]; omega
      by_cases hq : t.keys[i] = u.keys[i]
      · have k1 := kk true (by simp [hq])
        have hE' : Hid (t.keys.take (i + 1) = u.keys.take (i + 1)) := by
          show _ = _
          rw [List.take_succ_eq_append_getElem hix, List.take_succ_eq_append_getElem hiy, hE.out, hq]
        clear hck hci hNk hNi kk hq ih
        go_wp2
        go_region_held3 (fun wx => wx.cell? ⟨w.heap.size, 7, none⟩ = some (.slice (some ⟨bk, ok, none⟩) a.lk a.ck) ∧ wx.cell? ⟨w.heap.size + 1, 7, none⟩ = some (.slice (some ⟨bi, oi, none⟩) b.lk b.ck) ∧ (wx.cell? ⟨bk, ok + i * 9, none⟩ = some (.int .i64 nk.kind) ∧ wx.cell? ⟨bk, ok + i * 9 + 1, none⟩ = some (.int .u64 nk.num) ∧ wx.cell? ⟨bk, ok + i * 9 + 2, none⟩ = some (.bool nk.neg) ∧ wx.cell? ⟨bk, ok + i * 9 + 3, none⟩ = some (.string nk.dig) ∧ wx.cell? ⟨bk, ok + i * 9 + 4, none⟩ = some (.int .i64 nk.exp) ∧ wx.cell? ⟨bk, ok + i * 9 + 5, none⟩ = some (.string nk.txt) ∧ wx.cell? ⟨bk, ok + i * 9 + 6, none⟩ = some (.slice nk.ab nk.lb nk.cb) ∧ wx.cell? ⟨bk, ok + i * 9 + 7, none⟩ = some (.slice nk.ak nk.lk nk.ck) ∧ wx.cell? ⟨bk, ok + i * 9 + 8, none⟩ = some (.slice nk.ai nk.li nk.ci)) ∧ (wx.cell? ⟨bi, oi + i * 9, none⟩ = some (.int .i64 ni.kind) ∧ wx.cell? ⟨bi, oi + i * 9 + 1, none⟩ = some (.int .u64 ni.num) ∧ wx.cell? ⟨bi, oi + i * 9 + 2, none⟩ = some (.bool ni.neg) ∧ wx.cell? ⟨bi, oi + i * 9 + 3, none⟩ = some (.string ni.dig) ∧ wx.cell? ⟨bi, oi + i * 9 + 4, none⟩ = some (.int .i64 ni.exp) ∧ wx.cell? ⟨bi, oi + i * 9 + 5, none⟩ = some (.string ni.txt) ∧ wx.cell? ⟨bi, oi + i * 9 + 6, none⟩ = some (.slice ni.ab ni.lb ni.cb) ∧ wx.cell? ⟨bi, oi + i * 9 + 7, none⟩ = some (.slice ni.ak ni.lk ni.ck) ∧ wx.cell? ⟨bi, oi + i * 9 + 8, none⟩ = some (.slice ni.ai ni.li ni.ci))) (first | exact hS.out _ hT.out.drew | exact hS.out _ T1.out) (first
          | (go_at_call 33; refine (k1 _ hT.out.drew.bel).mono ?_; rintro e w1 ⟨rfl, q1⟩; have T1 : Hid (Bo2 w w1 a b) := hT.out.drew.on q1; clear q1))
        go_wp2
        try simp only [hak, hai]
        go_roundw
        case rel => exact ⟨i + 1, by omega, by go_num, T1, hE'⟩
        case measure => simp [intOf]; omega
      · have k1 := kk false (by simp [hq])
        have hvf : v = false := not_true hV.out (fun h => hq (by have := (hEq.out.1 h).2.2.2.2.2.2.2.1; simp only [this]))
        subst hvf
        clear hck hci hNk hNi kk hq ih
        go_wp2
        go_region_held3 (fun wx => wx.cell? ⟨w.heap.size, 7, none⟩ = some (.slice (some ⟨bk, ok, none⟩) a.lk a.ck) ∧ wx.cell? ⟨w.heap.size + 1, 7, none⟩ = some (.slice (some ⟨bi, oi, none⟩) b.lk b.ck) ∧ (wx.cell? ⟨bk, ok + i * 9, none⟩ = some (.int .i64 nk.kind) ∧ wx.cell? ⟨bk, ok + i * 9 + 1, none⟩ = some (.int .u64 nk.num) ∧ wx.cell? ⟨bk, ok + i * 9 + 2, none⟩ = some (.bool nk.neg) ∧ wx.cell? ⟨bk, ok + i * 9 + 3, none⟩ = some (.string nk.dig) ∧ wx.cell? ⟨bk, ok + i * 9 + 4, none⟩ = some (.int .i64 nk.exp) ∧ wx.cell? ⟨bk, ok + i * 9 + 5, none⟩ = some (.string nk.txt) ∧ wx.cell? ⟨bk, ok + i * 9 + 6, none⟩ = some (.slice nk.ab nk.lb nk.cb) ∧ wx.cell? ⟨bk, ok + i * 9 + 7, none⟩ = some (.slice nk.ak nk.lk nk.ck) ∧ wx.cell? ⟨bk, ok + i * 9 + 8, none⟩ = some (.slice nk.ai nk.li nk.ci)) ∧ (wx.cell? ⟨bi, oi + i * 9, none⟩ = some (.int .i64 ni.kind) ∧ wx.cell? ⟨bi, oi + i * 9 + 1, none⟩ = some (.int .u64 ni.num) ∧ wx.cell? ⟨bi, oi + i * 9 + 2, none⟩ = some (.bool ni.neg) ∧ wx.cell? ⟨bi, oi + i * 9 + 3, none⟩ = some (.string ni.dig) ∧ wx.cell? ⟨bi, oi + i * 9 + 4, none⟩ = some (.int .i64 ni.exp) ∧ wx.cell? ⟨bi, oi + i * 9 + 5, none⟩ = some (.string ni.txt) ∧ wx.cell? ⟨bi, oi + i * 9 + 6, none⟩ = some (.slice ni.ab ni.lb ni.cb) ∧ wx.cell? ⟨bi, oi + i * 9 + 7, none⟩ = some (.slice ni.ak ni.lk ni.ck) ∧ wx.cell? ⟨bi, oi + i * 9 + 8, none⟩ = some (.slice ni.ai ni.li ni.ci))) (first | exact hS.out _ hT.out.drew | exact hS.out _ T1.out) (first
          | (go_at_call 33; refine (k1 _ hT.out.drew.bel).mono ?_; rintro e w1 ⟨rfl, q1⟩; have T1 : Hid (Bo2 w w1 a b) := hT.out.drew.on q1; clear q1))
        go_wp2
        go_ret
        exact ⟨rfl, T1.out.bel⟩
    · have hz : ¬ (i : Int) < (a.lk : Int) := by omega
      have ekeys : Hid (t.keys = u.keys) := by
        show _ = _
        have h1 := hE.out
        rwa [List.take_of_length_le (by rw [hxk.out]; omega), List.take_of_length_le (by rw [hyk.out, ← hLk.out]; omega)] at h1
      clear hE
      go_wp2
      go_loopw [6] (fun s5 wr => ∃ (i : Nat), i ≤ a.li ∧ s5 = .int .i64 i ∧ Hid (Bo2 w wr a b) ∧ Hid (t.kids.take i = u.kids.take i)) (fun i _ => a.li - (intOf i).toNat)
      case atStart => exact ⟨0, Nat.zero_le _, rfl, hT, rfl⟩
      case round =>
        obtain ⟨i, him, rfl, hT, hE⟩ := hrel
        clear c0 c1 c2 c3 c4 c5 c6 c7 c8 d0 d1 d2 d3 d4 d5 d6 d7 d8
        obtain ⟨c0, c1, c2, c3, c4, c5, c6, c7, c8⟩ := hT.out.one.fields
        obtain ⟨d0, d1, d2, d3, d4, d5, d6, d7, d8⟩ := hT.out.two.fields
        by_cases hlt : i < a.li
        · have hz : (i : Int) < (a.li : Int) := by omega
          have hz2 : (i : Int) < (b.li : Int) := by have := hLi.out; omega
          have hix : i < t.kids.length := by rw [hxi.out]; exact hlt
          have hiy : i < u.kids.length := by rw [hyi.out, ← hLi.out]; exact hlt
          obtain ⟨bk, ok, nk, hak, hck, hNk⟩ := row_sp hAi.out hT.out.bel hix
          obtain ⟨bi, oi, ni, hai, hci, hNi⟩ := row_sp hBi.out hT.out.bel hiy
          have hS : Hid (∀ wx, Bo2 w wx a b → wx.cell? ⟨w.heap.size, 8, none⟩ = some (.slice (some ⟨bk, ok, none⟩) a.li a.ci) ∧ wx.cell? ⟨w.heap.size + 1, 8, none⟩ = some (.slice (some ⟨bi, oi, none⟩) b.li b.ci) ∧ (wx.cell? ⟨bk, ok + i * 9, none⟩ = some (.int .i64 nk.kind) ∧ wx.cell? ⟨bk, ok + i * 9 + 1, none⟩ = some (.int .u64 nk.num) ∧ wx.cell? ⟨bk, ok + i * 9 + 2, none⟩ = some (.bool nk.neg) ∧ wx.cell? ⟨bk, ok + i * 9 + 3, none⟩ = some (.string nk.dig) ∧ wx.cell? ⟨bk, ok + i * 9 + 4, none⟩ = some (.int .i64 nk.exp) ∧ wx.cell? ⟨bk, ok + i * 9 + 5, none⟩ = some (.string nk.txt) ∧ wx.cell? ⟨bk, ok + i * 9 + 6, none⟩ = some (.slice nk.ab nk.lb nk.cb) ∧ wx.cell? ⟨bk, ok + i * 9 + 7, none⟩ = some (.slice nk.ak nk.lk nk.ck) ∧ wx.cell? ⟨bk, ok + i * 9 + 8, none⟩ = some (.slice nk.ai nk.li nk.ci)) ∧ (wx.cell? ⟨bi, oi + i * 9, none⟩ = some (.int .i64 ni.kind) ∧ wx.cell? ⟨bi, oi + i * 9 + 1, none⟩ = some (.int .u64 ni.num) ∧ wx.cell? ⟨bi, oi + i * 9 + 2, none⟩ = some (.bool ni.neg) ∧ wx.cell? ⟨bi, oi + i * 9 + 3, none⟩ = some (.string ni.dig) ∧ wx.cell? ⟨bi, oi + i * 9 + 4, none⟩ = some (.int .i64 ni.exp) ∧ wx.cell? ⟨bi, oi + i * 9 + 5, none⟩ = some (.string ni.txt) ∧ wx.cell? ⟨bi, oi + i * 9 + 6, none⟩ = some (.slice ni.ab ni.lb ni.cb) ∧ wx.cell? ⟨bi, oi + i * 9 + 7, none⟩ = some (.slice ni.ak ni.lk ni.ck) ∧ wx.cell? ⟨bi, oi + i * 9 + 8, none⟩ = some (.slice ni.ai ni.li ni.ci))) := fun wx h => ⟨by rw [← hak]; exact h.one.cell 8, by rw [← hai]; exact h.two.cell 8, elem_fields (hck wx h.bel), elem_fields (hci wx h.bel)⟩
          have hS0 := hS.out _ hT.out
          obtain ⟨e0, e1, ⟨f0, f1, f2, f3, f4, f5, f6, f7, f8⟩, ⟨p0, p1, p2, p3, p4, p5, p6, p7, p8⟩⟩ := hS0
          have kk : ∀ (v' : Bool), (v' = true ↔ t.kids[i] = u.kids[i]) → ∀ w', Below w.heap.size w w' → Calls Tryz.prog 33 #[.agg nk.arr, .agg ni.arr] w' fun e w'' => e = .returned (.bool v') ∧ Below w'.heap.size w' w'' := fun v' h w' hb => ih _ _ nk ni w' v' (hNk.kept hb) (hNi.kept hb) h
          have wi : IntKind.i64.wrap ((i : Int) + 1) = (i : Int) + 1 := by rw [IntKind.wrap_i64]; omega
          by_cases hq : t.kids[i] = u.kids[i]
          · have k1 := kk true (by simp [hq])
            have hE' : Hid (t.kids.take (i + 1) = u.kids.take (i + 1)) := by
              show _ = _
              rw [List.take_succ_eq_append_getElem hix, List.take_succ_eq_append_getElem hiy, hE.out, hq]
            clear hck hci hNk hNi kk hq ih
            go_wp2
            go_region_held3 (fun wx => wx.cell? ⟨w.heap.size, 8, none⟩ = some (.slice (some ⟨bk, ok, none⟩) a.li a.ci) ∧ wx.cell? ⟨w.heap.size + 1, 8, none⟩ = some (.slice (some ⟨bi, oi, none⟩) b.li b.ci) ∧ (wx.cell? ⟨bk, ok + i * 9, none⟩ = some (.int .i64 nk.kind) ∧ wx.cell? ⟨bk, ok + i * 9 + 1, none⟩ = some (.int .u64 nk.num) ∧ wx.cell? ⟨bk, ok + i * 9 + 2, none⟩ = some (.bool nk.neg) ∧ wx.cell? ⟨bk, ok + i * 9 + 3, none⟩ = some (.string nk.dig) ∧ wx.cell? ⟨bk, ok + i * 9 + 4, none⟩ = some (.int .i64 nk.exp) ∧ wx.cell? ⟨bk, ok + i * 9 + 5, none⟩ = some (.string nk.txt) ∧ wx.cell? ⟨bk, ok + i * 9 + 6, none⟩ = some (.slice nk.ab nk.lb nk.cb) ∧ wx.cell? ⟨bk, ok + i * 9 + 7, none⟩ = some (.slice nk.ak nk.lk nk.ck) ∧ wx.cell? ⟨bk, ok + i * 9 + 8, none⟩ = some (.slice nk.ai nk.li nk.ci)) ∧ (wx.cell? ⟨bi, oi + i * 9, none⟩ = some (.int .i64 ni.kind) ∧ wx.cell? ⟨bi, oi + i * 9 + 1, none⟩ = some (.int .u64 ni.num) ∧ wx.cell? ⟨bi, oi + i * 9 + 2, none⟩ = some (.bool ni.neg) ∧ wx.cell? ⟨bi, oi + i * 9 + 3, none⟩ = some (.string ni.dig) ∧ wx.cell? ⟨bi, oi + i * 9 + 4, none⟩ = some (.int .i64 ni.exp) ∧ wx.cell? ⟨bi, oi + i * 9 + 5, none⟩ = some (.string ni.txt) ∧ wx.cell? ⟨bi, oi + i * 9 + 6, none⟩ = some (.slice ni.ab ni.lb ni.cb) ∧ wx.cell? ⟨bi, oi + i * 9 + 7, none⟩ = some (.slice ni.ak ni.lk ni.ck) ∧ wx.cell? ⟨bi, oi + i * 9 + 8, none⟩ = some (.slice ni.ai ni.li ni.ci))) (first | exact hS.out _ hT.out.drew | exact hS.out _ T1.out) (first
              | (go_at_call 33; refine (k1 _ hT.out.drew.bel).mono ?_; rintro e w1 ⟨rfl, q1⟩; have T1 : Hid (Bo2 w w1 a b) := hT.out.drew.on q1; clear q1))
            go_wp2
            try simp only [hak, hai]
            go_roundw
            case rel => exact ⟨i + 1, by omega, by go_num, T1, hE'⟩
            case measure => simp [intOf]; omega
          · have k1 := kk false (by simp [hq])
            have hvf : v = false := not_true hV.out (fun h => hq (by have := (hEq.out.1 h).2.2.2.2.2.2.2.2; simp only [this]))
            subst hvf
            clear hck hci hNk hNi kk hq ih
            go_wp2
            go_region_held3 (fun wx => wx.cell? ⟨w.heap.size, 8, none⟩ = some (.slice (some ⟨bk, ok, none⟩) a.li a.ci) ∧ wx.cell? ⟨w.heap.size + 1, 8, none⟩ = some (.slice (some ⟨bi, oi, none⟩) b.li b.ci) ∧ (wx.cell? ⟨bk, ok + i * 9, none⟩ = some (.int .i64 nk.kind) ∧ wx.cell? ⟨bk, ok + i * 9 + 1, none⟩ = some (.int .u64 nk.num) ∧ wx.cell? ⟨bk, ok + i * 9 + 2, none⟩ = some (.bool nk.neg) ∧ wx.cell? ⟨bk, ok + i * 9 + 3, none⟩ = some (.string nk.dig) ∧ wx.cell? ⟨bk, ok + i * 9 + 4, none⟩ = some (.int .i64 nk.exp) ∧ wx.cell? ⟨bk, ok + i * 9 + 5, none⟩ = some (.string nk.txt) ∧ wx.cell? ⟨bk, ok + i * 9 + 6, none⟩ = some (.slice nk.ab nk.lb nk.cb) ∧ wx.cell? ⟨bk, ok + i * 9 + 7, none⟩ = some (.slice nk.ak nk.lk nk.ck) ∧ wx.cell? ⟨bk, ok + i * 9 + 8, none⟩ = some (.slice nk.ai nk.li nk.ci)) ∧ (wx.cell? ⟨bi, oi + i * 9, none⟩ = some (.int .i64 ni.kind) ∧ wx.cell? ⟨bi, oi + i * 9 + 1, none⟩ = some (.int .u64 ni.num) ∧ wx.cell? ⟨bi, oi + i * 9 + 2, none⟩ = some (.bool ni.neg) ∧ wx.cell? ⟨bi, oi + i * 9 + 3, none⟩ = some (.string ni.dig) ∧ wx.cell? ⟨bi, oi + i * 9 + 4, none⟩ = some (.int .i64 ni.exp) ∧ wx.cell? ⟨bi, oi + i * 9 + 5, none⟩ = some (.string ni.txt) ∧ wx.cell? ⟨bi, oi + i * 9 + 6, none⟩ = some (.slice ni.ab ni.lb ni.cb) ∧ wx.cell? ⟨bi, oi + i * 9 + 7, none⟩ = some (.slice ni.ak ni.lk ni.ck) ∧ wx.cell? ⟨bi, oi + i * 9 + 8, none⟩ = some (.slice ni.ai ni.li ni.ci))) (first | exact hS.out _ hT.out.drew | exact hS.out _ T1.out) (first
              | (go_at_call 33; refine (k1 _ hT.out.drew.bel).mono ?_; rintro e w1 ⟨rfl, q1⟩; have T1 : Hid (Bo2 w w1 a b) := hT.out.drew.on q1; clear q1))
            go_wp2
            go_ret
            exact ⟨rfl, T1.out.bel⟩
        · have hz : ¬ (i : Int) < (a.li : Int) := by omega
          have ekids : Hid (t.kids = u.kids) := by
            show _ = _
            have h1 := hE.out
            rwa [List.take_of_length_le (by rw [hxi.out]; omega), List.take_of_length_le (by rw [hyi.out, ← hLi.out]; omega)] at h1
          have hvt : v = true := hV.out.2 (hEq.out.2 ⟨e0.out, e1.out, e2.out, e3.out, e4.out, e5.out, e6.out, ekeys.out, ekids.out⟩)
          subst hvt
          clear hE ih
          go_wp2
          go_ret
          exact ⟨rfl, hT.out.bel⟩
end Go.Proofs.YtnjbppfanmmifaaGreatDoor
namespace Go.Proofs.YtnjbppfanmmifaaGreatDoor
open Go.RowKit
set_option linter.unusedVariables false

theorem es_step {D : Nat} (ih : EsAt D) : EsAt (D + 1) := by
  intro t u a b w v hA hB hv
  by_cases h0 : a.kind = b.kind
  case neg => exact es_no0 t u a b w v hA hB hv h0
  by_cases h1 : a.num = b.num
  case neg => exact es_no1 t u a b w v hA hB hv h0 h1
  by_cases h2 : a.neg = b.neg
  case neg => exact es_no2 t u a b w v hA hB hv h0 h1 h2
  by_cases h3 : a.dig = b.dig
  case neg => exact es_no3 t u a b w v hA hB hv h0 h1 h2 h3
  by_cases h4 : a.exp = b.exp
  case neg => exact es_no4 t u a b w v hA hB hv h0 h1 h2 h3 h4
  by_cases h5 : a.txt = b.txt
  case neg => exact es_no5 t u a b w v hA hB hv h0 h1 h2 h3 h4 h5
  by_cases h6 : t.bytes = u.bytes
  case neg => exact es_no6 t u a b w v hA hB hv h0 h1 h2 h3 h4 h5 h6
  by_cases h7 : a.lk = b.lk
  case neg => exact es_no7 t u a b w v hA hB hv h0 h1 h2 h3 h4 h5 h6 h7
  by_cases h8 : a.li = b.li
  case neg => exact es_no8 t u a b w v hA hB hv h0 h1 h2 h3 h4 h5 h6 h7 h8
  exact es_eq ih t u a b w v hA hB hv h0 h1 h2 h3 h4 h5 h6 h7 h8

theorem es_all : ∀ D, EsAt D := by
  intro D
  induction D with
  | zero => intro t u a b w v h; exact absurd h id
  | succ D ih => exact es_step ih
/-- The document's same. -/
theorem esam_any {D E : Nat} {t u : Tr} {a b : Nb} {w : World} {v : Bool} (hA : Nd D w a t) (hB : Nd E w b u) (hv : v = true ↔ t = u) : Calls Tryz.prog 33 #[.agg a.arr, .agg b.arr] w fun e w' => e = .returned (.bool v) ∧ Below w.heap.size w w' :=
  es_all (max D E) t u a b w v (hA.le (Nat.le_max_left _ _)) (hB.le (Nat.le_max_right _ _)) hv
end Go.Proofs.YtnjbppfanmmifaaGreatDoor
namespace Go.Proofs.YtnjbppfanmmifaaGreatDoor
open Go.RowKit

theorem xlength_0 (c : Nat) (w : World) (h : c < 128) : Calls Tryz.prog 171 #[.int .u8 c] w fun e w' => e = .returned (.int .i64 1) ∧ w' = w := by
  have d0 : decide ((c : Int) < 128) = true := by simp; omega
  go_enter Tryz.func171, Tryz.ntmps171
  go_wp2
  go_ret
  exact ⟨rfl, rfl⟩
theorem xlength_1 (c : Nat) (w : World) (h : 194 ≤ c ∧ c ≤ 223) : Calls Tryz.prog 171 #[.int .u8 c] w fun e w' => e = .returned (.int .i64 2) ∧ w' = w := by
  have d0 : decide ((c : Int) < 128) = false := by simp; omega
  have d2 : decide ((194 : Int) ≤ (c : Int)) = true := by simp; omega
  have d4 : decide ((c : Int) ≤ 223) = true := by simp; omega
  go_enter Tryz.func171, Tryz.ntmps171
  go_wp2
  go_ret
  exact ⟨rfl, rfl⟩
theorem xlength_2 (c : Nat) (w : World) (h : 224 ≤ c ∧ c ≤ 239) : Calls Tryz.prog 171 #[.int .u8 c] w fun e w' => e = .returned (.int .i64 3) ∧ w' = w := by
  have d0 : decide ((c : Int) < 128) = false := by simp; omega
  have d2 : decide ((194 : Int) ≤ (c : Int)) = true := by simp; omega
  have d4 : decide ((c : Int) ≤ 223) = false := by simp; omega
  have d6 : decide ((224 : Int) ≤ (c : Int)) = true := by simp; omega
  have d8 : decide ((c : Int) ≤ 239) = true := by simp; omega
  go_enter Tryz.func171, Tryz.ntmps171
  go_wp2
  go_ret
  exact ⟨rfl, rfl⟩
theorem xlength_3 (c : Nat) (w : World) (h : 240 ≤ c ∧ c ≤ 244) : Calls Tryz.prog 171 #[.int .u8 c] w fun e w' => e = .returned (.int .i64 4) ∧ w' = w := by
  have d0 : decide ((c : Int) < 128) = false := by simp; omega
  have d2 : decide ((194 : Int) ≤ (c : Int)) = true := by simp; omega
  have d4 : decide ((c : Int) ≤ 223) = false := by simp; omega
  have d6 : decide ((224 : Int) ≤ (c : Int)) = true := by simp; omega
  have d8 : decide ((c : Int) ≤ 239) = false := by simp; omega
  have d10 : decide ((240 : Int) ≤ (c : Int)) = true := by simp; omega
  have d12 : decide ((c : Int) ≤ 244) = true := by simp; omega
  go_enter Tryz.func171, Tryz.ntmps171
  go_wp2
  go_ret
  exact ⟨rfl, rfl⟩
theorem xlength_4 (c : Nat) (w : World) (h : 128 ≤ c ∧ c < 194) : Calls Tryz.prog 171 #[.int .u8 c] w fun e w' => e = .returned (.int .i64 0) ∧ w' = w := by
  have d0 : decide ((c : Int) < 128) = false := by simp; omega
  have d2 : decide ((194 : Int) ≤ (c : Int)) = false := by simp; omega
  have d4 : decide ((224 : Int) ≤ (c : Int)) = false := by simp; omega
  have d6 : decide ((240 : Int) ≤ (c : Int)) = false := by simp; omega
  go_enter Tryz.func171, Tryz.ntmps171
  go_wp2
  go_ret
  exact ⟨rfl, rfl⟩
theorem xlength_5 (c : Nat) (w : World) (h : 244 < c) : Calls Tryz.prog 171 #[.int .u8 c] w fun e w' => e = .returned (.int .i64 0) ∧ w' = w := by
  have d0 : decide ((c : Int) < 128) = false := by simp; omega
  have d2 : decide ((194 : Int) ≤ (c : Int)) = true := by simp; omega
  have d4 : decide ((c : Int) ≤ 223) = false := by simp; omega
  have d6 : decide ((224 : Int) ≤ (c : Int)) = true := by simp; omega
  have d8 : decide ((c : Int) ≤ 239) = false := by simp; omega
  have d10 : decide ((240 : Int) ≤ (c : Int)) = true := by simp; omega
  have d12 : decide ((c : Int) ≤ 244) = false := by simp; omega
  go_enter Tryz.func171, Tryz.ntmps171
  go_wp2
  go_ret
  exact ⟨rfl, rfl⟩
theorem xlength_any (c : Nat) (w : World) : Calls Tryz.prog 171 #[.int .u8 c] w fun e w' => e = .returned (.int .i64 (lenN c : Nat)) ∧ w' = w := by
  rcases len_cases c with ⟨e, h⟩ | ⟨e, h⟩ | ⟨e, h⟩ | ⟨e, h⟩ | ⟨e, h0, h | h⟩ <;> rw [e]
  · exact xlength_0 c w h
  · exact xlength_1 c w h
  · exact xlength_2 c w h
  · exact xlength_3 c w h
  · exact xlength_4 c w ⟨h0, h⟩
  · exact xlength_5 c w h
theorem xleast_any (c : Nat) (w : World) : Calls Tryz.prog 172 #[.int .u8 c] w fun e w' => e = .returned (.int .u8 (lo2 c : Nat)) ∧ w' = w := by
  have hc := lo2_cases c
  generalize lo2 c = L at *
  rcases hc with ⟨rfl, rfl⟩ | ⟨rfl, rfl⟩ | ⟨h1, h2, rfl⟩
  · go_enter Tryz.func172, Tryz.ntmps172
    go_wp2
    go_ret
    exact ⟨rfl, rfl⟩
  · go_enter Tryz.func172, Tryz.ntmps172
    go_wp2
    go_ret
    exact ⟨rfl, rfl⟩
  · have e1 : ((c : Int) == 224) = false := by simp; omega
    have e2 : ((c : Int) == 240) = false := by simp; omega
    go_enter Tryz.func172, Tryz.ntmps172
    go_wp2
    go_ret
    exact ⟨rfl, rfl⟩
theorem xmost_any (c : Nat) (w : World) : Calls Tryz.prog 173 #[.int .u8 c] w fun e w' => e = .returned (.int .u8 (hi2 c : Nat)) ∧ w' = w := by
  have hc := hi2_cases c
  generalize hi2 c = L at *
  rcases hc with ⟨rfl, rfl⟩ | ⟨rfl, rfl⟩ | ⟨h1, h2, rfl⟩
  · go_enter Tryz.func173, Tryz.ntmps173
    go_wp2
    go_ret
    exact ⟨rfl, rfl⟩
  · go_enter Tryz.func173, Tryz.ntmps173
    go_wp2
    go_ret
    exact ⟨rfl, rfl⟩
  · have e1 : ((c : Int) == 237) = false := by simp; omega
    have e2 : ((c : Int) == 244) = false := by simp; omega
    go_enter Tryz.func173, Tryz.ntmps173
    go_wp2
    go_ret
    exact ⟨rfl, rfl⟩

/-- The i-th byte is there, and may be. -/
def okAt (zs : List Int) (n i : Nat) : Prop := i < n ∧ ((i = 1 ∧ lo2 (nth zs 0) ≤ nth zs 1 ∧ nth zs 1 ≤ hi2 (nth zs 0)) ∨ (2 ≤ i ∧ 128 ≤ nth zs i ∧ nth zs i ≤ 191))
theorem good_okAt {zs : List Int} {n : Nat} (hl : zs.length = n) (h : Good zs) {i : Nat} (h1 : 1 ≤ i) (h2 : i < lenB zs) : okAt zs n i := by
  obtain ⟨k0, k1, k2, k3⟩ := h
  unfold ok1 at k1
  unfold okK at k2 k3
  rw [hl] at k1 k2 k3
  have hb : lenB zs = lenN (nth zs 0) := rfl
  rw [hb] at h2
  unfold okAt
  have hc := len_cases (nth zs 0)
  have h4 : i = 1 ∨ i = 2 ∨ i = 3 := by omega
  rcases h4 with rfl | rfl | rfl
  · have := k1 (by omega); omega
  · have := k2 (by omega); omega
  · have := k3 (by omega); omega
theorem bad_okAt {zs : List Int} {n : Nat} (hl : zs.length = n) (h : ¬ Good zs) (h0 : lenB zs ≠ 0) :
    badB zs < lenB zs ∧ 1 ≤ badB zs ∧ (∀ i, 1 ≤ i → i < badB zs → okAt zs n i) ∧ ¬ okAt zs n (badB zs) := by
  unfold okAt
  have hb := bad_cases h
  unfold ok1 okK at hb
  rw [hl] at hb
  rcases hb with ⟨e, k0⟩ | ⟨e, k1, k2⟩ | ⟨e, k1, k2, k3⟩ | ⟨e, k1, k2, k3, k4⟩
  · exact absurd k0 h0
  · rw [e]
    exact ⟨by omega, by omega, fun i h1 h2 => by omega, by omega⟩
  · rw [e]
    refine ⟨by omega, by omega, fun i h1 h2 => ?_, by omega⟩
    obtain rfl : i = 1 := by omega
    omega
  · rw [e]
    refine ⟨by omega, by omega, fun i h1 h2 => ?_, by omega⟩
    have h3 : i = 1 ∨ i = 2 := by omega
    rcases h3 with rfl | rfl
    · omega
    · omega

set_option maxHeartbeats 1000000 in
/-- The loop of 'first': up to S every byte may be; there it ends. -/
theorem xfirst_any (b off n cap : Nat) (zs : List Int) (w : World) (hl : zs.length = n) (h0 : 0 < n) (hb : Bytes w (some ⟨b, off, none⟩) zs) (hn : n ≤ 4611686018427387904)
    (hL : lenB zs ≠ 0) (S : Nat) (hS1 : 1 ≤ S) (hS : ∀ i, 1 ≤ i → i < S → okAt zs n i) (R : Value)
    (hend : (S = lenB zs ∧ R = .tuple #[.int .i64 (lenB zs : Nat), .int .i64 (-1)]) ∨ (S < lenB zs ∧ ¬ okAt zs n S ∧ R = .tuple #[.int .i64 0, .int .i64 (S : Nat)] ∧ S ≤ n)) :
    Calls Tryz.prog 138 #[.slice (some ⟨b, off, none⟩) n cap] w fun e w' => e = .returned R ∧ ∃ q, w' = w.drewN q := by
  have hLen : Hid (zs.length = n) := hl
  have hB : Hid (Bytes w (some ⟨b, off, none⟩) zs) := hb
  have c0 : w.cell? ⟨b, off, none⟩ = some (.int .u8 (nth zs 0 : Nat)) := hb.nat (i := 0) (by omega)
  have kl := xlength_any (nth zs 0) w
  rw [show lenN (nth zs 0) = lenB zs from rfl] at kl
  have k1 := fun w1 => xleast_any (nth zs 0) w1
  have k2 := fun w1 => xmost_any (nth zs 0) w1
  have hle : lenB zs ≤ 4 := by
    have := len_cases (nth zs 0)
    unfold lenB
    omega
  have hl0 : (((lenB zs : Nat) : Int) == 0) = false := by simp; omega
  have hSH : Hid (∀ i, 1 ≤ i → i < S → okAt zs n i) := hS
  have hEH : Hid ((S = lenB zs ∧ R = .tuple #[.int .i64 (lenB zs : Nat), .int .i64 (-1)]) ∨ (S < lenB zs ∧ ¬ okAt zs n S ∧ R = .tuple #[.int .i64 0, .int .i64 (S : Nat)] ∧ S ≤ n)) := hend
  have hSL : S ≤ lenB zs := by rcases hend with h | h <;> omega
  clear hl hb hS hend hL
  generalize hLL : lenB zs = L at *
  clear hLL
  unfold okAt at hSH hEH
  generalize nth zs 0 = c at *
  generalize lo2 c = l0 at *
  generalize hi2 c = u0 at *
  go_enter Tryz.func138, Tryz.ntmps138
  go_wp2_with (go_at_call 171; refine kl.mono ?_; rintro e w' ⟨rfl, hw⟩; obtain rfl : w = w' := hw.symm)
  go_loopw [5] (fun i wr => ∃ k : Nat, 1 ≤ k ∧ k ≤ S ∧ i = .int .i64 k ∧ Hid (∃ q, wr = w.drewN q)) (fun i _ => S - (intOf i).toNat)
  case atStart => exact ⟨1, Nat.le_refl _, hS1, rfl, 0, rfl⟩
  case round =>
    obtain ⟨k, hk1, hk2, rfl, hQ⟩ := hrel
    have hcell : Hid (∀ p, wr.cell? p = w.cell? p) := by obtain ⟨q0, h⟩ := hQ.out; intro p; rw [h]; rfl
    have c0r : wr.cell? ⟨b, off, none⟩ = some (.int .u8 (c : Nat)) := by rw [hcell.out]; exact c0
    have hmore : Hid (∀ q, ∃ q', wr.drewN q = w.drewN q') := fun q => by obtain ⟨q0, h⟩ := hQ.out; exact ⟨q0 + q, by rw [h, World.drewN_drewN]⟩
    by_cases hlt : k < S
    · obtain ⟨s1, s2⟩ := hSH.out k hk1 hlt
      have ck : wr.cell? ⟨b, off + k, none⟩ = some (.int .u8 (nth zs k : Nat)) := by rw [hcell.out]; exact hB.out.nat (by rw [hLen.out]; exact s1)
      have j1 : (k : Int) < (L : Int) := by omega
      have j2 : (k : Int) < (n : Int) := by omega
      rcases s2 with ⟨rfl, s2, s3⟩ | ⟨s2, s3, s4⟩
      · generalize nth zs 1 = d at *
        go_wp2
        go_quiet (first | (go_at_call 172; exact Calls.quiet_of_same (k1 _)) | (go_at_call 173; exact Calls.quiet_of_same (k2 _)))
        go_wp2
        go_roundw
        case rel => exact ⟨2, by omega, by omega, rfl, hmore.out _⟩
        case measure => simp [intOf]; omega
      · have e1 : ((k : Int) == 1) = false := by simp; omega
        generalize nth zs k = d at *
        go_wp2
        go_roundw
        case rel => exact ⟨k + 1, by omega, by omega, by go_num, hQ⟩
        case measure => simp [intOf]; omega
    · obtain rfl : k = S := by omega
      rcases hEH.out with ⟨rfl, hR⟩ | ⟨h1, h2, hR, h3⟩
      · have hR' : Hid (R = _) := hR
        clear hR
        go_wp2
        go_ret2
        rw [hR'.out]
        exact ⟨rfl, hQ.out⟩
      · have hR' : Hid (R = _) := hR
        clear hR
        by_cases hkn : k < n
        · have ck : wr.cell? ⟨b, off + k, none⟩ = some (.int .u8 (nth zs k : Nat)) := by rw [hcell.out]; exact hB.out.nat (by rw [hLen.out]; exact hkn)
          have j2 : (k : Int) < (n : Int) := by omega
          by_cases e1 : k = 1
          · subst e1
            have hno : Hid (¬ (l0 ≤ nth zs 1 ∧ nth zs 1 ≤ u0)) := fun h => h2 ⟨hkn, .inl ⟨rfl, h⟩⟩
            clear h2
            generalize nth zs 1 = d at *
            go_wp2
            go_quiet (first | (go_at_call 172; exact Calls.quiet_of_same (k1 _)) | (go_at_call 173; exact Calls.quiet_of_same (k2 _)))
            go_wp2
            all_goals first
              | (exfalso; have := hno.out; omega)
              | (go_ret2
                 rw [hR'.out]
                 exact ⟨rfl, hmore.out _⟩)
          · have hno : Hid (¬ (128 ≤ nth zs k ∧ nth zs k ≤ 191)) := fun h => h2 ⟨hkn, .inr ⟨by omega, h⟩⟩
            have e2 : ((k : Int) == 1) = false := by simp; omega
            clear h2 e1
            generalize nth zs k = d at *
            go_wp2
            all_goals first
              | (exfalso; have := hno.out; omega)
              | (go_ret2
                 rw [hR'.out]
                 exact ⟨rfl, hQ.out⟩)
        · obtain rfl : k = n := by omega
          clear h2
          go_wp2
          go_ret2
          rw [hR'.out]
          exact ⟨rfl, hQ.out⟩
end Go.Proofs.YtnjbppfanmmifaaGreatDoor
