/-
  The document's count of nodes and depth: left, deep.
  The document's depth, and when it says that trees are the same: deep, same.
  When the document says that trees are the same: same.
  When the document says that trees are the same: they differ in a field.
  When the document says that trees are the same: they differ in a field, or in how many nodes are in them.
  When the document says that trees are the same: their fields are the same.
  When the document says that trees are the same: put together.
  The document's Few, Size, Deep, Same, and both.
-/
import Derived.Test.YtelabgonpmafpaaDoorU8
import Derived.Test.YtelabgonpmafpaaDoorU9
import Derived.Test.YtelabgonpmafpaaDoorU7
import Derived.Deep.RegionHeld3
namespace Go.Proofs.YtelabgonpmafpaaDoor
open Go.RowKit
set_option linter.unusedVariables false

def LeftAt (D : Nat) : Prop := ∀ (t : Tr) (b : Nb) (w : World) (m : Int), Nd D w b t → 0 ≤ m → m ≤ 2000 → Calls Tryd.prog 15 #[.agg b.arr, .int .i64 m] w fun e w' => e = .returned (.int .i64 (Tr.lft m t.size)) ∧ Below w.heap.size w w'
theorem lft_bd {m : Int} {s : Nat} (h0 : 0 ≤ m) (h1 : m ≤ 2000) : -1 ≤ Tr.lft m s ∧ Tr.lft m s ≤ 2000 := by unfold Tr.lft; split <;> omega

set_option maxHeartbeats 4000000 in
set_option maxRecDepth 100000 in
theorem left_step {D : Nat} (ih : LeftAt D) : LeftAt (D + 1) := by
  intro t b w m hN h0 h1
  have hal := alloc_below w (.cells b.arr 26)
  have Q0 : Hid (NBox (w.alloc (.cells b.arr 26)) w.heap.size b) := nbox_new w b
  have B0 : Hid (Below w.heap.size w (w.alloc (.cells b.arr 26))) := hal
  obtain ⟨a0, a1, a2, a3, a4, a5, a6, a7, a8⟩ := (nbox_new w b).fields
  have hNk : Hid (RowN (Nd D w) w b.ak b.lk b.ck t.keys) := hN.2.2.2.1
  have hNi : Hid (RowN (Nd D w) w b.ai b.li b.ci t.kids) := hN.2.2.2.2
  have hlk : Hid (t.keys.length = b.lk) := hN.2.2.2.1.1
  have hli : Hid (t.kids.length = b.li) := hN.2.2.2.2.1
  have mk := hN.2.2.2.1.2.1.1
  have mk' := hN.2.2.2.1.2.1.2.1
  have mi := hN.2.2.2.2.2.1.1
  have mi' := hN.2.2.2.2.2.1.2.1
  unfold maxLen at mk' mi'
  have hm : Hid (0 ≤ m ∧ m ≤ 2000) := ⟨h0, h1⟩
  have wm : IntKind.i64.wrap (m - 1) = m - 1 := by rw [IntKind.wrap_i64]; omega
  have hsz : Hid (t.size = 1 + Tr.sizes t.keys + Tr.sizes t.kids) := Tr.size_eq t
  have hst : Hid (m - 1 = Tr.lft m (1 + Tr.sizes (t.keys.take 0))) := by
    show _ = _
    rw [List.take_zero, Tr.sizes_nil]; unfold Tr.lft; split <;> omega
  clear hal hN h0 h1
  go_enter Tryd.func15, Tryd.ntmps15
  go_wp2
  go_loopw [1, 5] (fun s1 s5 wr => ∃ (i : Nat) (M : Int), i ≤ b.lk ∧ s1 = .int .i64 M ∧ s5 = .int .i64 i ∧ Hid (Below (w.alloc (.cells b.arr 26)).heap.size (w.alloc (.cells b.arr 26)) wr) ∧ Hid (M = Tr.lft m (1 + Tr.sizes (t.keys.take i)))) (fun _ i _ => b.lk - (intOf i).toNat)
  case atStart => exact ⟨0, m - 1, Nat.zero_le _, rfl, rfl, Below.refl _ _, hst⟩
  case round =>
    obtain ⟨i, M, him, rfl, rfl, hbl, hM⟩ := hrel
    clear a0 a1 a2 a3 a4 a5 a6 a7 a8
    have Qr := Q0.out.kept hbl.out Q0.out.lt
    have Br : Hid (Below w.heap.size w wr) := B0.out.trans (hbl.out.mono B0.out.size)
    obtain ⟨a0, a1, a2, a3, a4, a5, a6, a7, a8⟩ := Qr.fields
    have hMb := lft_bd (s := 1 + Tr.sizes (t.keys.take i)) hm.out.1 hm.out.2
    rw [← hM.out] at hMb
    by_cases hlt : i < b.lk
    · have hz : (i : Int) < (b.lk : Int) := by omega
      have hix : i < t.keys.length := by rw [hlk.out]; exact hlt
      by_cases hM0 : 0 ≤ M
      · have hMd : decide (0 ≤ M) = true := decide_eq_true hM0
        obtain ⟨bk, ok, nk, hak, hck, hNn, hbk⟩ := row_el hNk.out Br.out hix
        obtain ⟨f0, f1, f2, f3, f4, f5, f6, f7, f8⟩ := elem_fields hck
        have kk := ih t.keys[i] nk wr M hNn hM0 hMb.2
        have wi : IntKind.i64.wrap ((i : Int) + 1) = (i : Int) + 1 := by rw [IntKind.wrap_i64]; omega
        have hM' : Hid (Tr.lft M (t.keys[i]).size = Tr.lft m (1 + Tr.sizes (t.keys.take (i + 1)))) := by
          show _ = _
          have e := hM.out
          subst e
          rw [Tr.lft_add hM0, Tr.sizes_snoc _ hix, Nat.add_assoc]
        generalize Tr.lft M (t.keys[i]).size = M2 at *
        clear hck hNn hbk hM0
        go_wp2_with (go_at_call 15; refine kk.mono ?_; rintro e w2 ⟨rfl, hb2⟩)
        try simp only [hak]
        go_roundw
        case rel => exact ⟨i + 1, M2, by omega, rfl, by go_num, hbl.out.trans (hb2.mono hbl.out.size), hM'⟩
        case measure => simp [intOf]; omega
      · have hMd : decide (0 ≤ M) = false := decide_eq_false hM0
        have hK : Hid (M = Tr.lft m (1 + Tr.sizes t.keys)) := by
          show _ = _
          have h1 : Tr.sizes t.keys = Tr.sizes (t.keys.take i) + Tr.sizes (t.keys.drop i) := by rw [← Tr.sizes_app, List.take_append_drop]
          have h2 := Tr.lft_over (m := m) (a := 1 + Tr.sizes (t.keys.take i)) (b := Tr.sizes (t.keys.drop i)) (by rw [← hM.out]; omega) hm.out.1
          rw [hM.out, h2.2, h1, ← Nat.add_assoc, h2.1]
        clear hM hM0
        go_wp2
        go_loopw [1, 6] (fun s1 s6 wq => ∃ (j : Nat) (N : Int), j ≤ b.li ∧ s1 = .int .i64 N ∧ s6 = .int .i64 j ∧ Hid (Below (w.alloc (.cells b.arr 26)).heap.size (w.alloc (.cells b.arr 26)) wq) ∧ Hid (N = Tr.lft m (1 + Tr.sizes t.keys + Tr.sizes (t.kids.take j)))) (fun _ j _ => b.li - (intOf j).toNat)
        case atStart => exact ⟨0, M, Nat.zero_le _, rfl, rfl, hbl, by show _ = _; rw [List.take_zero, Tr.sizes_nil, Nat.add_zero]; exact hK.out⟩
        case round =>
          obtain ⟨j, N, hjm, rfl, rfl, hbq, hN'⟩ := hrel
          clear a0 a1 a2 a3 a4 a5 a6 a7 a8
          have Qq := Q0.out.kept hbq.out Q0.out.lt
          have Bq : Hid (Below w.heap.size w _) := B0.out.trans (hbq.out.mono B0.out.size)
          obtain ⟨a0, a1, a2, a3, a4, a5, a6, a7, a8⟩ := Qq.fields
          have hNb := lft_bd (s := 1 + Tr.sizes t.keys + Tr.sizes (t.kids.take j)) hm.out.1 hm.out.2
          rw [← hN'.out] at hNb
          by_cases hjt : j < b.li
          · have hjz : (j : Int) < (b.li : Int) := by omega
            have hjx : j < t.kids.length := by rw [hli.out]; exact hjt
            by_cases hN0 : 0 ≤ N
            · have hNd : decide (0 ≤ N) = true := decide_eq_true hN0
              obtain ⟨bi, oi, ni, hai, hci, hNn2, hbi⟩ := row_el hNi.out Bq.out hjx
              obtain ⟨p0, p1, p2, p3, p4, p5, p6, p7, p8⟩ := elem_fields hci
              have k2 := ih t.kids[j] ni _ N hNn2 hN0 hNb.2
              have wj : IntKind.i64.wrap ((j : Int) + 1) = (j : Int) + 1 := by rw [IntKind.wrap_i64]; omega
              have hN2 : Hid (Tr.lft N (t.kids[j]).size = Tr.lft m (1 + Tr.sizes t.keys + Tr.sizes (t.kids.take (j + 1)))) := by
                show _ = _
                have e := hN'.out
                subst e
                rw [Tr.lft_add hN0, Tr.sizes_snoc _ hjx, Nat.add_assoc (1 + Tr.sizes t.keys)]
              generalize Tr.lft N (t.kids[j]).size = N2 at *
              clear hci hNn2 hbi hN0
              go_wp2_with (go_at_call 15; refine k2.mono ?_; rintro e w3 ⟨rfl, hb3⟩)
              try simp only [hai]
              go_roundw
              case rel => exact ⟨j + 1, N2, by omega, rfl, by go_num, hbq.out.trans (hb3.mono hbq.out.size), hN2⟩
              case measure => simp [intOf]; omega
            · have hNd : decide (0 ≤ N) = false := decide_eq_false hN0
              have hfin : Hid (N = Tr.lft m t.size) := by
                show _ = _
                have h1 : Tr.sizes t.kids = Tr.sizes (t.kids.take j) + Tr.sizes (t.kids.drop j) := by rw [← Tr.sizes_app, List.take_append_drop]
                have h2 := Tr.lft_over (m := m) (a := 1 + Tr.sizes t.keys + Tr.sizes (t.kids.take j)) (b := Tr.sizes (t.kids.drop j)) (by rw [← hN'.out]; omega) hm.out.1
                rw [hN'.out, h2.2, hsz.out, h1, ← Nat.add_assoc (1 + Tr.sizes t.keys), h2.1]
              clear hN' hN0
              go_wp2
              go_ret
              exact ⟨by rw [← hfin.out]; rfl, Bq.out⟩
          · have hjz : ¬ (j : Int) < (b.li : Int) := by omega
            have hfin : Hid (N = Tr.lft m t.size) := by
              show _ = _
              rw [hN'.out, hsz.out, List.take_of_length_le (by rw [hli.out]; omega)]
            clear hN'
            go_wp2
            go_ret
            exact ⟨by rw [← hfin.out]; rfl, Bq.out⟩
    · have hz : ¬ (i : Int) < (b.lk : Int) := by omega
      have hK : Hid (M = Tr.lft m (1 + Tr.sizes t.keys)) := by
        show _ = _
        rw [hM.out, List.take_of_length_le (by rw [hlk.out]; omega)]
      clear hM
      go_wp2
      go_loopw [1, 6] (fun s1 s6 wq => ∃ (j : Nat) (N : Int), j ≤ b.li ∧ s1 = .int .i64 N ∧ s6 = .int .i64 j ∧ Hid (Below (w.alloc (.cells b.arr 26)).heap.size (w.alloc (.cells b.arr 26)) wq) ∧ Hid (N = Tr.lft m (1 + Tr.sizes t.keys + Tr.sizes (t.kids.take j)))) (fun _ j _ => b.li - (intOf j).toNat)
      case atStart => exact ⟨0, M, Nat.zero_le _, rfl, rfl, hbl, by show _ = _; rw [List.take_zero, Tr.sizes_nil, Nat.add_zero]; exact hK.out⟩
      case round =>
        obtain ⟨j, N, hjm, rfl, rfl, hbq, hN'⟩ := hrel
        clear a0 a1 a2 a3 a4 a5 a6 a7 a8
        have Qq := Q0.out.kept hbq.out Q0.out.lt
        have Bq : Hid (Below w.heap.size w _) := B0.out.trans (hbq.out.mono B0.out.size)
        obtain ⟨a0, a1, a2, a3, a4, a5, a6, a7, a8⟩ := Qq.fields
        have hNb := lft_bd (s := 1 + Tr.sizes t.keys + Tr.sizes (t.kids.take j)) hm.out.1 hm.out.2
        rw [← hN'.out] at hNb
        by_cases hjt : j < b.li
        · have hjz : (j : Int) < (b.li : Int) := by omega
          have hjx : j < t.kids.length := by rw [hli.out]; exact hjt
          by_cases hN0 : 0 ≤ N
          · have hNd : decide (0 ≤ N) = true := decide_eq_true hN0
            obtain ⟨bi, oi, ni, hai, hci, hNn2, hbi⟩ := row_el hNi.out Bq.out hjx
            obtain ⟨p0, p1, p2, p3, p4, p5, p6, p7, p8⟩ := elem_fields hci
            have k2 := ih t.kids[j] ni _ N hNn2 hN0 hNb.2
            have wj : IntKind.i64.wrap ((j : Int) + 1) = (j : Int) + 1 := by rw [IntKind.wrap_i64]; omega
            have hN2 : Hid (Tr.lft N (t.kids[j]).size = Tr.lft m (1 + Tr.sizes t.keys + Tr.sizes (t.kids.take (j + 1)))) := by
              show _ = _
              have e := hN'.out
              subst e
              rw [Tr.lft_add hN0, Tr.sizes_snoc _ hjx, Nat.add_assoc (1 + Tr.sizes t.keys)]
            generalize Tr.lft N (t.kids[j]).size = N2 at *
            clear hci hNn2 hbi hN0
            go_wp2_with (go_at_call 15; refine k2.mono ?_; rintro e w3 ⟨rfl, hb3⟩)
            try simp only [hai]
            go_roundw
            case rel => exact ⟨j + 1, N2, by omega, rfl, by go_num, hbq.out.trans (hb3.mono hbq.out.size), hN2⟩
            case measure => simp [intOf]; omega
          · have hNd : decide (0 ≤ N) = false := decide_eq_false hN0
            have hfin : Hid (N = Tr.lft m t.size) := by
              show _ = _
              have h1 : Tr.sizes t.kids = Tr.sizes (t.kids.take j) + Tr.sizes (t.kids.drop j) := by rw [← Tr.sizes_app, List.take_append_drop]
              have h2 := Tr.lft_over (m := m) (a := 1 + Tr.sizes t.keys + Tr.sizes (t.kids.take j)) (b := Tr.sizes (t.kids.drop j)) (by rw [← hN'.out]; omega) hm.out.1
              rw [hN'.out, h2.2, hsz.out, h1, ← Nat.add_assoc (1 + Tr.sizes t.keys), h2.1]
            clear hN' hN0
            go_wp2
            go_ret
            exact ⟨by rw [← hfin.out]; rfl, Bq.out⟩
        · have hjz : ¬ (j : Int) < (b.li : Int) := by omega
          have hfin : Hid (N = Tr.lft m t.size) := by
            show _ = _
            rw [hN'.out, hsz.out, List.take_of_length_le (by rw [hli.out]; omega)]
          clear hN'
          go_wp2
          go_ret
          exact ⟨by rw [← hfin.out]; rfl, Bq.out⟩
theorem left_all : ∀ D, LeftAt D := by
  intro D
  induction D with
  | zero => intro t b w m h; exact absurd h id
  | succ D ih => exact left_step ih
end Go.Proofs.YtelabgonpmafpaaDoor
namespace Go.Proofs.YtelabgonpmafpaaDoor
open Go.RowKit
set_option linter.unusedVariables false

end Go.Proofs.YtelabgonpmafpaaDoor
namespace Go.Proofs.YtelabgonpmafpaaDoor
open Go.RowKit
set_option linter.unusedVariables false

def EsAt (D : Nat) : Prop := ∀ (t u : Tr) (a b : Nb) (w : World) (v : Bool), Nd D w a t → Nd D w b u → (v = true ↔ t = u) → Calls Tryd.prog 12 #[.agg a.arr, .agg b.arr] w fun e w' => e = .returned (.bool v) ∧ Below w.heap.size w w'
/-- Two boxes. -/
structure Bo2 (w wx : World) (a b : Nb) : Prop where
  one : NBox wx w.heap.size a
  two : NBox wx (w.heap.size + 1) b
  bel : Below w.heap.size w wx
theorem Bo2.on {w wx wy : World} {a b : Nb} (h : Bo2 w wx a b) (hb : Below wx.heap.size wx wy) : Bo2 w wy a b := ⟨h.one.kept hb h.one.lt, h.two.kept hb h.two.lt, h.bel.trans (hb.mono h.bel.size)⟩
theorem Bo2.drew {w wx : World} {a b : Nb} (h : Bo2 w wx a b) : Bo2 w wx.drew a b := ⟨h.one, h.two, h.bel.drew⟩
theorem bo2_new (w : World) (a b : Nb) : Bo2 w ((w.alloc (.cells a.arr 26)).alloc (.cells b.arr 26)) a b := by
  have a1 := alloc_below w (.cells a.arr 26)
  have a2 := alloc_below (w.alloc (.cells a.arr 26)) (.cells b.arr 26)
  have s1 : (w.alloc (.cells a.arr 26)).heap.size = w.heap.size + 1 := by simp
  have n2 := nbox_new (w.alloc (.cells a.arr 26)) b
  rw [s1] at n2
  exact ⟨(nbox_new w a).kept a2 (by omega), n2, a1.trans (a2.mono (by omega))⟩
/-- An element of a row, as a place. -/
theorem row_sp {D : Nat} {w w' : World} {a : Option Addr} {len cap : Nat} {l : List Tr} (h : RowN (Nd D w) w a len cap l) (hb : Below w.heap.size w w') {i : Nat} (hi : i < l.length) :
    ∃ (bk off : Nat) (nb : Nb), a = some ⟨bk, off, none⟩ ∧ (∀ w'', Below w.heap.size w w'' → ∀ j, j < 9 → w''.cell? ⟨bk, off + (i * 9 + j), none⟩ = nb.cells[j]?) ∧ Nd D w nb l[i] := by
  obtain ⟨bk, off, nb, ha, hc, hN, hlt⟩ := row_el h (Below.refl _ _) hi
  exact ⟨bk, off, nb, ha, fun w'' hb'' j hj => by rw [hb''.cell (p := ⟨bk, off + (i * 9 + j), none⟩) hlt]; exact hc j hj, hN⟩
end Go.Proofs.YtelabgonpmafpaaDoor
namespace Go.Proofs.YtelabgonpmafpaaDoor
open Go.RowKit
set_option linter.unusedVariables false

set_option maxHeartbeats 2000000 in
set_option maxRecDepth 100000 in
theorem es_no0 {D : Nat} (t u : Tr) (a b : Nb) (w : World) (v : Bool) (hA : Nd (D + 1) w a t) (hB : Nd (D + 1) w b u) (hv : v = true ↔ t = u) (h0 : ¬ a.kind = b.kind) : Calls Tryd.prog 12 #[.agg a.arr, .agg b.arr] w fun e w' => e = .returned (.bool v) ∧ Below w.heap.size w w' := by
  have T0 : Hid (Bo2 w ((w.alloc (.cells a.arr 26)).alloc (.cells b.arr 26)) a b) := bo2_new w a b
  obtain ⟨a0, a1, a2, a3, a4, a5, a6, a7, a8⟩ := T0.out.one.fields
  obtain ⟨b0, b1, b2, b3, b4, b5, b6, b7, b8⟩ := T0.out.two.fields
  obtain ⟨⟨x0, x1, x2, x3, x4, x5⟩, _, ⟨xl, xr, xb⟩, xk, xi⟩ := hA
  obtain ⟨⟨y0, y1, y2, y3, y4, y5⟩, _, ⟨yl, yr, yb⟩, yk, yi⟩ := hB
  have cx := conv_str (xb.kept ((alloc_below w (.cells a.arr 26)).trans ((alloc_below (w.alloc (.cells a.arr 26)) (.cells b.arr 26)).mono (Nat.le_of_lt (alloc_lt _ _))))) a.lb a.cb xl
  have cy := conv_str (yb.kept ((alloc_below w (.cells a.arr 26)).trans ((alloc_below (w.alloc (.cells a.arr 26)) (.cells b.arr 26)).mono (Nat.le_of_lt (alloc_lt _ _))))) b.lb b.cb yl
  have hst := str_eq xb.1 yb.1
  have hEq : Hid (t = u ↔ a.kind = b.kind ∧ a.num = b.num ∧ a.neg = b.neg ∧ a.dig = b.dig ∧ a.exp = b.exp ∧ a.txt = b.txt ∧ t.bytes = u.bytes ∧ t.keys = u.keys ∧ t.kids = u.kids) := by
    show _ ↔ _
    rw [x0, x1, x2, x3, x4, x5, y0, y1, y2, y3, y4, y5]
    exact ⟨fun h => by subst h; exact ⟨rfl, rfl, rfl, rfl, rfl, rfl, rfl, rfl, rfl⟩, fun ⟨h0, h1, h2, h3, h4, h5, h6, h7, h8⟩ => Tr.mk_eq h0 h1 h2 h3 h4 h5 h6 h7 h8⟩
  have hV : Hid (v = true ↔ t = u) := hv
  have hAk : Hid (RowN (Nd D w) w a.ak a.lk a.ck t.keys) := xk
  have hAi : Hid (RowN (Nd D w) w a.ai a.li a.ci t.kids) := xi
  have hBk : Hid (RowN (Nd D w) w b.ak b.lk b.ck u.keys) := yk
  have hBi : Hid (RowN (Nd D w) w b.ai b.li b.ci u.kids) := yi
  have hxk : Hid (t.keys.length = a.lk) := xk.1
  have hxi : Hid (t.kids.length = a.li) := xi.1
  have hyk : Hid (u.keys.length = b.lk) := yk.1
  have hyi : Hid (u.kids.length = b.li) := yi.1
  have m1 := xk.2.1.1
  have m2 := xk.2.1.2.1
  have m3 := xi.2.1.1
  have m4 := xi.2.1.2.1
  have m5 := yk.2.1.1
  have m6 := yk.2.1.2.1
  have m7 := yi.2.1.1
  have m8 := yi.2.1.2.1
  unfold maxLen at m2 m4 m6 m8
  generalize strOfNums t.bytes = SX at *
  generalize strOfNums u.bytes = SY at *
  clear x0 x1 x2 x3 x4 x5 y0 y1 y2 y3 y4 y5 xl yl xb yb xr yr xk xi yk yi hv
  have hvf : v = false := not_true hV.out (fun h => h0 (hEq.out.1 h).1)
  subst hvf
  have q0 : (a.kind == b.kind) = false := by simp [h0]
  have r0 : (a.kind != b.kind) = true := by simp [h0]
  clear h0 hAk hAi hBk hBi hxk hxi hyk hyi hEq hV
  clear cx cy hst
  go_enter Tryd.func12, Tryd.ntmps12
  go_wp2
  go_ret
  exact ⟨rfl, T0.out.bel⟩

set_option maxHeartbeats 2000000 in
set_option maxRecDepth 100000 in
theorem es_no1 {D : Nat} (t u : Tr) (a b : Nb) (w : World) (v : Bool) (hA : Nd (D + 1) w a t) (hB : Nd (D + 1) w b u) (hv : v = true ↔ t = u) (h0 : a.kind = b.kind) (h1 : ¬ a.num = b.num) : Calls Tryd.prog 12 #[.agg a.arr, .agg b.arr] w fun e w' => e = .returned (.bool v) ∧ Below w.heap.size w w' := by
  have T0 : Hid (Bo2 w ((w.alloc (.cells a.arr 26)).alloc (.cells b.arr 26)) a b) := bo2_new w a b
  obtain ⟨a0, a1, a2, a3, a4, a5, a6, a7, a8⟩ := T0.out.one.fields
  obtain ⟨b0, b1, b2, b3, b4, b5, b6, b7, b8⟩ := T0.out.two.fields
  obtain ⟨⟨x0, x1, x2, x3, x4, x5⟩, _, ⟨xl, xr, xb⟩, xk, xi⟩ := hA
  obtain ⟨⟨y0, y1, y2, y3, y4, y5⟩, _, ⟨yl, yr, yb⟩, yk, yi⟩ := hB
  have cx := conv_str (xb.kept ((alloc_below w (.cells a.arr 26)).trans ((alloc_below (w.alloc (.cells a.arr 26)) (.cells b.arr 26)).mono (Nat.le_of_lt (alloc_lt _ _))))) a.lb a.cb xl
  have cy := conv_str (yb.kept ((alloc_below w (.cells a.arr 26)).trans ((alloc_below (w.alloc (.cells a.arr 26)) (.cells b.arr 26)).mono (Nat.le_of_lt (alloc_lt _ _))))) b.lb b.cb yl
  have hst := str_eq xb.1 yb.1
  have hEq : Hid (t = u ↔ a.kind = b.kind ∧ a.num = b.num ∧ a.neg = b.neg ∧ a.dig = b.dig ∧ a.exp = b.exp ∧ a.txt = b.txt ∧ t.bytes = u.bytes ∧ t.keys = u.keys ∧ t.kids = u.kids) := by
    show _ ↔ _
    rw [x0, x1, x2, x3, x4, x5, y0, y1, y2, y3, y4, y5]
    exact ⟨fun h => by subst h; exact ⟨rfl, rfl, rfl, rfl, rfl, rfl, rfl, rfl, rfl⟩, fun ⟨h0, h1, h2, h3, h4, h5, h6, h7, h8⟩ => Tr.mk_eq h0 h1 h2 h3 h4 h5 h6 h7 h8⟩
  have hV : Hid (v = true ↔ t = u) := hv
  have hAk : Hid (RowN (Nd D w) w a.ak a.lk a.ck t.keys) := xk
  have hAi : Hid (RowN (Nd D w) w a.ai a.li a.ci t.kids) := xi
  have hBk : Hid (RowN (Nd D w) w b.ak b.lk b.ck u.keys) := yk
  have hBi : Hid (RowN (Nd D w) w b.ai b.li b.ci u.kids) := yi
  have hxk : Hid (t.keys.length = a.lk) := xk.1
  have hxi : Hid (t.kids.length = a.li) := xi.1
  have hyk : Hid (u.keys.length = b.lk) := yk.1
  have hyi : Hid (u.kids.length = b.li) := yi.1
  have m1 := xk.2.1.1
  have m2 := xk.2.1.2.1
  have m3 := xi.2.1.1
  have m4 := xi.2.1.2.1
  have m5 := yk.2.1.1
  have m6 := yk.2.1.2.1
  have m7 := yi.2.1.1
  have m8 := yi.2.1.2.1
  unfold maxLen at m2 m4 m6 m8
  generalize strOfNums t.bytes = SX at *
  generalize strOfNums u.bytes = SY at *
  clear x0 x1 x2 x3 x4 x5 y0 y1 y2 y3 y4 y5 xl yl xb yb xr yr xk xi yk yi hv
  have hvf : v = false := not_true hV.out (fun h => h1 (hEq.out.1 h).2.1)
  subst hvf
  have q0 : (a.kind == b.kind) = true := by rw [h0]; exact beq_self_eq_true _
  have r0 : (a.kind != b.kind) = false := by simp [h0]
  have q1 : (a.num == b.num) = false := by simp [h1]
  have r1 : (a.num != b.num) = true := by simp [h1]
  clear h0 h1 hAk hAi hBk hBi hxk hxi hyk hyi hEq hV
  clear cx cy hst
  go_enter Tryd.func12, Tryd.ntmps12
  go_wp2
  go_ret
  exact ⟨rfl, T0.out.bel⟩

set_option maxHeartbeats 2000000 in
set_option maxRecDepth 100000 in
theorem es_no2 {D : Nat} (t u : Tr) (a b : Nb) (w : World) (v : Bool) (hA : Nd (D + 1) w a t) (hB : Nd (D + 1) w b u) (hv : v = true ↔ t = u) (h0 : a.kind = b.kind) (h1 : a.num = b.num) (h2 : ¬ a.neg = b.neg) : Calls Tryd.prog 12 #[.agg a.arr, .agg b.arr] w fun e w' => e = .returned (.bool v) ∧ Below w.heap.size w w' := by
  have T0 : Hid (Bo2 w ((w.alloc (.cells a.arr 26)).alloc (.cells b.arr 26)) a b) := bo2_new w a b
  obtain ⟨a0, a1, a2, a3, a4, a5, a6, a7, a8⟩ := T0.out.one.fields
  obtain ⟨b0, b1, b2, b3, b4, b5, b6, b7, b8⟩ := T0.out.two.fields
  obtain ⟨⟨x0, x1, x2, x3, x4, x5⟩, _, ⟨xl, xr, xb⟩, xk, xi⟩ := hA
  obtain ⟨⟨y0, y1, y2, y3, y4, y5⟩, _, ⟨yl, yr, yb⟩, yk, yi⟩ := hB
  have cx := conv_str (xb.kept ((alloc_below w (.cells a.arr 26)).trans ((alloc_below (w.alloc (.cells a.arr 26)) (.cells b.arr 26)).mono (Nat.le_of_lt (alloc_lt _ _))))) a.lb a.cb xl
  have cy := conv_str (yb.kept ((alloc_below w (.cells a.arr 26)).trans ((alloc_below (w.alloc (.cells a.arr 26)) (.cells b.arr 26)).mono (Nat.le_of_lt (alloc_lt _ _))))) b.lb b.cb yl
  have hst := str_eq xb.1 yb.1
  have hEq : Hid (t = u ↔ a.kind = b.kind ∧ a.num = b.num ∧ a.neg = b.neg ∧ a.dig = b.dig ∧ a.exp = b.exp ∧ a.txt = b.txt ∧ t.bytes = u.bytes ∧ t.keys = u.keys ∧ t.kids = u.kids) := by
    show _ ↔ _
    rw [x0, x1, x2, x3, x4, x5, y0, y1, y2, y3, y4, y5]
    exact ⟨fun h => by subst h; exact ⟨rfl, rfl, rfl, rfl, rfl, rfl, rfl, rfl, rfl⟩, fun ⟨h0, h1, h2, h3, h4, h5, h6, h7, h8⟩ => Tr.mk_eq h0 h1 h2 h3 h4 h5 h6 h7 h8⟩
  have hV : Hid (v = true ↔ t = u) := hv
  have hAk : Hid (RowN (Nd D w) w a.ak a.lk a.ck t.keys) := xk
  have hAi : Hid (RowN (Nd D w) w a.ai a.li a.ci t.kids) := xi
  have hBk : Hid (RowN (Nd D w) w b.ak b.lk b.ck u.keys) := yk
  have hBi : Hid (RowN (Nd D w) w b.ai b.li b.ci u.kids) := yi
  have hxk : Hid (t.keys.length = a.lk) := xk.1
  have hxi : Hid (t.kids.length = a.li) := xi.1
  have hyk : Hid (u.keys.length = b.lk) := yk.1
  have hyi : Hid (u.kids.length = b.li) := yi.1
  have m1 := xk.2.1.1
  have m2 := xk.2.1.2.1
  have m3 := xi.2.1.1
  have m4 := xi.2.1.2.1
  have m5 := yk.2.1.1
  have m6 := yk.2.1.2.1
  have m7 := yi.2.1.1
  have m8 := yi.2.1.2.1
  unfold maxLen at m2 m4 m6 m8
  generalize strOfNums t.bytes = SX at *
  generalize strOfNums u.bytes = SY at *
  clear x0 x1 x2 x3 x4 x5 y0 y1 y2 y3 y4 y5 xl yl xb yb xr yr xk xi yk yi hv
  have hvf : v = false := not_true hV.out (fun h => h2 (hEq.out.1 h).2.2.1)
  subst hvf
  have q0 : (a.kind == b.kind) = true := by rw [h0]; exact beq_self_eq_true _
  have r0 : (a.kind != b.kind) = false := by simp [h0]
  have q1 : (a.num == b.num) = true := by rw [h1]; exact beq_self_eq_true _
  have r1 : (a.num != b.num) = false := by simp [h1]
  have q2 : (a.neg == b.neg) = false := by simp [h2]
  have r2 : (a.neg != b.neg) = true := by simp [h2]
  clear h0 h1 h2 hAk hAi hBk hBi hxk hxi hyk hyi hEq hV
  clear cx cy hst
  go_enter Tryd.func12, Tryd.ntmps12
  go_wp2
  go_ret
  exact ⟨rfl, T0.out.bel⟩

set_option maxHeartbeats 2000000 in
set_option maxRecDepth 100000 in
theorem es_no3 {D : Nat} (t u : Tr) (a b : Nb) (w : World) (v : Bool) (hA : Nd (D + 1) w a t) (hB : Nd (D + 1) w b u) (hv : v = true ↔ t = u) (h0 : a.kind = b.kind) (h1 : a.num = b.num) (h2 : a.neg = b.neg) (h3 : ¬ a.dig = b.dig) : Calls Tryd.prog 12 #[.agg a.arr, .agg b.arr] w fun e w' => e = .returned (.bool v) ∧ Below w.heap.size w w' := by
  have T0 : Hid (Bo2 w ((w.alloc (.cells a.arr 26)).alloc (.cells b.arr 26)) a b) := bo2_new w a b
  obtain ⟨a0, a1, a2, a3, a4, a5, a6, a7, a8⟩ := T0.out.one.fields
  obtain ⟨b0, b1, b2, b3, b4, b5, b6, b7, b8⟩ := T0.out.two.fields
  obtain ⟨⟨x0, x1, x2, x3, x4, x5⟩, _, ⟨xl, xr, xb⟩, xk, xi⟩ := hA
  obtain ⟨⟨y0, y1, y2, y3, y4, y5⟩, _, ⟨yl, yr, yb⟩, yk, yi⟩ := hB
  have cx := conv_str (xb.kept ((alloc_below w (.cells a.arr 26)).trans ((alloc_below (w.alloc (.cells a.arr 26)) (.cells b.arr 26)).mono (Nat.le_of_lt (alloc_lt _ _))))) a.lb a.cb xl
  have cy := conv_str (yb.kept ((alloc_below w (.cells a.arr 26)).trans ((alloc_below (w.alloc (.cells a.arr 26)) (.cells b.arr 26)).mono (Nat.le_of_lt (alloc_lt _ _))))) b.lb b.cb yl
  have hst := str_eq xb.1 yb.1
  have hEq : Hid (t = u ↔ a.kind = b.kind ∧ a.num = b.num ∧ a.neg = b.neg ∧ a.dig = b.dig ∧ a.exp = b.exp ∧ a.txt = b.txt ∧ t.bytes = u.bytes ∧ t.keys = u.keys ∧ t.kids = u.kids) := by
    show _ ↔ _
    rw [x0, x1, x2, x3, x4, x5, y0, y1, y2, y3, y4, y5]
    exact ⟨fun h => by subst h; exact ⟨rfl, rfl, rfl, rfl, rfl, rfl, rfl, rfl, rfl⟩, fun ⟨h0, h1, h2, h3, h4, h5, h6, h7, h8⟩ => Tr.mk_eq h0 h1 h2 h3 h4 h5 h6 h7 h8⟩
  have hV : Hid (v = true ↔ t = u) := hv
  have hAk : Hid (RowN (Nd D w) w a.ak a.lk a.ck t.keys) := xk
  have hAi : Hid (RowN (Nd D w) w a.ai a.li a.ci t.kids) := xi
  have hBk : Hid (RowN (Nd D w) w b.ak b.lk b.ck u.keys) := yk
  have hBi : Hid (RowN (Nd D w) w b.ai b.li b.ci u.kids) := yi
  have hxk : Hid (t.keys.length = a.lk) := xk.1
  have hxi : Hid (t.kids.length = a.li) := xi.1
  have hyk : Hid (u.keys.length = b.lk) := yk.1
  have hyi : Hid (u.kids.length = b.li) := yi.1
  have m1 := xk.2.1.1
  have m2 := xk.2.1.2.1
  have m3 := xi.2.1.1
  have m4 := xi.2.1.2.1
  have m5 := yk.2.1.1
  have m6 := yk.2.1.2.1
  have m7 := yi.2.1.1
  have m8 := yi.2.1.2.1
  unfold maxLen at m2 m4 m6 m8
  generalize strOfNums t.bytes = SX at *
  generalize strOfNums u.bytes = SY at *
  clear x0 x1 x2 x3 x4 x5 y0 y1 y2 y3 y4 y5 xl yl xb yb xr yr xk xi yk yi hv
  have hvf : v = false := not_true hV.out (fun h => h3 (hEq.out.1 h).2.2.2.1)
  subst hvf
  have q0 : (a.kind == b.kind) = true := by rw [h0]; exact beq_self_eq_true _
  have r0 : (a.kind != b.kind) = false := by simp [h0]
  have q1 : (a.num == b.num) = true := by rw [h1]; exact beq_self_eq_true _
  have r1 : (a.num != b.num) = false := by simp [h1]
  have q2 : (a.neg == b.neg) = true := by rw [h2]; exact beq_self_eq_true _
  have r2 : (a.neg != b.neg) = false := by simp [h2]
  have q3 := beq_of (s := a.dig) (t := b.dig) false (by simp [h3])
  have r3 : (a.dig.toList != b.dig.toList) = true := by simp [bne, q3]
  clear h0 h1 h2 h3 hAk hAi hBk hBi hxk hxi hyk hyi hEq hV
  clear cx cy hst
  go_enter Tryd.func12, Tryd.ntmps12
  go_wp2
  go_ret
  exact ⟨rfl, T0.out.bel⟩

set_option maxHeartbeats 2000000 in
set_option maxRecDepth 100000 in
theorem es_no4 {D : Nat} (t u : Tr) (a b : Nb) (w : World) (v : Bool) (hA : Nd (D + 1) w a t) (hB : Nd (D + 1) w b u) (hv : v = true ↔ t = u) (h0 : a.kind = b.kind) (h1 : a.num = b.num) (h2 : a.neg = b.neg) (h3 : a.dig = b.dig) (h4 : ¬ a.exp = b.exp) : Calls Tryd.prog 12 #[.agg a.arr, .agg b.arr] w fun e w' => e = .returned (.bool v) ∧ Below w.heap.size w w' := by
  have T0 : Hid (Bo2 w ((w.alloc (.cells a.arr 26)).alloc (.cells b.arr 26)) a b) := bo2_new w a b
  obtain ⟨a0, a1, a2, a3, a4, a5, a6, a7, a8⟩ := T0.out.one.fields
  obtain ⟨b0, b1, b2, b3, b4, b5, b6, b7, b8⟩ := T0.out.two.fields
  obtain ⟨⟨x0, x1, x2, x3, x4, x5⟩, _, ⟨xl, xr, xb⟩, xk, xi⟩ := hA
  obtain ⟨⟨y0, y1, y2, y3, y4, y5⟩, _, ⟨yl, yr, yb⟩, yk, yi⟩ := hB
  have cx := conv_str (xb.kept ((alloc_below w (.cells a.arr 26)).trans ((alloc_below (w.alloc (.cells a.arr 26)) (.cells b.arr 26)).mono (Nat.le_of_lt (alloc_lt _ _))))) a.lb a.cb xl
  have cy := conv_str (yb.kept ((alloc_below w (.cells a.arr 26)).trans ((alloc_below (w.alloc (.cells a.arr 26)) (.cells b.arr 26)).mono (Nat.le_of_lt (alloc_lt _ _))))) b.lb b.cb yl
  have hst := str_eq xb.1 yb.1
  have hEq : Hid (t = u ↔ a.kind = b.kind ∧ a.num = b.num ∧ a.neg = b.neg ∧ a.dig = b.dig ∧ a.exp = b.exp ∧ a.txt = b.txt ∧ t.bytes = u.bytes ∧ t.keys = u.keys ∧ t.kids = u.kids) := by
    show _ ↔ _
    rw [x0, x1, x2, x3, x4, x5, y0, y1, y2, y3, y4, y5]
    exact ⟨fun h => by subst h; exact ⟨rfl, rfl, rfl, rfl, rfl, rfl, rfl, rfl, rfl⟩, fun ⟨h0, h1, h2, h3, h4, h5, h6, h7, h8⟩ => Tr.mk_eq h0 h1 h2 h3 h4 h5 h6 h7 h8⟩
  have hV : Hid (v = true ↔ t = u) := hv
  have hAk : Hid (RowN (Nd D w) w a.ak a.lk a.ck t.keys) := xk
  have hAi : Hid (RowN (Nd D w) w a.ai a.li a.ci t.kids) := xi
  have hBk : Hid (RowN (Nd D w) w b.ak b.lk b.ck u.keys) := yk
  have hBi : Hid (RowN (Nd D w) w b.ai b.li b.ci u.kids) := yi
  have hxk : Hid (t.keys.length = a.lk) := xk.1
  have hxi : Hid (t.kids.length = a.li) := xi.1
  have hyk : Hid (u.keys.length = b.lk) := yk.1
  have hyi : Hid (u.kids.length = b.li) := yi.1
  have m1 := xk.2.1.1
  have m2 := xk.2.1.2.1
  have m3 := xi.2.1.1
  have m4 := xi.2.1.2.1
  have m5 := yk.2.1.1
  have m6 := yk.2.1.2.1
  have m7 := yi.2.1.1
  have m8 := yi.2.1.2.1
  unfold maxLen at m2 m4 m6 m8
  generalize strOfNums t.bytes = SX at *
  generalize strOfNums u.bytes = SY at *
  clear x0 x1 x2 x3 x4 x5 y0 y1 y2 y3 y4 y5 xl yl xb yb xr yr xk xi yk yi hv
  have hvf : v = false := not_true hV.out (fun h => h4 (hEq.out.1 h).2.2.2.2.1)
  subst hvf
  have q0 : (a.kind == b.kind) = true := by rw [h0]; exact beq_self_eq_true _
  have r0 : (a.kind != b.kind) = false := by simp [h0]
  have q1 : (a.num == b.num) = true := by rw [h1]; exact beq_self_eq_true _
  have r1 : (a.num != b.num) = false := by simp [h1]
  have q2 : (a.neg == b.neg) = true := by rw [h2]; exact beq_self_eq_true _
  have r2 : (a.neg != b.neg) = false := by simp [h2]
  have q3 := beq_of (s := a.dig) (t := b.dig) true (by simp [h3])
  have r3 : (a.dig.toList != b.dig.toList) = false := by simp [bne, q3]
  have q4 : (a.exp == b.exp) = false := by simp [h4]
  have r4 : (a.exp != b.exp) = true := by simp [h4]
  clear h0 h1 h2 h3 h4 hAk hAi hBk hBi hxk hxi hyk hyi hEq hV
  clear cx cy hst
  go_enter Tryd.func12, Tryd.ntmps12
  go_wp2
  go_ret
  exact ⟨rfl, T0.out.bel⟩
end Go.Proofs.YtelabgonpmafpaaDoor
namespace Go.Proofs.YtelabgonpmafpaaDoor
open Go.RowKit
set_option linter.unusedVariables false

set_option maxHeartbeats 2000000 in
set_option maxRecDepth 100000 in
theorem es_no5 {D : Nat} (t u : Tr) (a b : Nb) (w : World) (v : Bool) (hA : Nd (D + 1) w a t) (hB : Nd (D + 1) w b u) (hv : v = true ↔ t = u) (h0 : a.kind = b.kind) (h1 : a.num = b.num) (h2 : a.neg = b.neg) (h3 : a.dig = b.dig) (h4 : a.exp = b.exp) (h5 : ¬ a.txt = b.txt) : Calls Tryd.prog 12 #[.agg a.arr, .agg b.arr] w fun e w' => e = .returned (.bool v) ∧ Below w.heap.size w w' := by
  have T0 : Hid (Bo2 w ((w.alloc (.cells a.arr 26)).alloc (.cells b.arr 26)) a b) := bo2_new w a b
  obtain ⟨a0, a1, a2, a3, a4, a5, a6, a7, a8⟩ := T0.out.one.fields
  obtain ⟨b0, b1, b2, b3, b4, b5, b6, b7, b8⟩ := T0.out.two.fields
  obtain ⟨⟨x0, x1, x2, x3, x4, x5⟩, _, ⟨xl, xr, xb⟩, xk, xi⟩ := hA
  obtain ⟨⟨y0, y1, y2, y3, y4, y5⟩, _, ⟨yl, yr, yb⟩, yk, yi⟩ := hB
  have cx := conv_str (xb.kept ((alloc_below w (.cells a.arr 26)).trans ((alloc_below (w.alloc (.cells a.arr 26)) (.cells b.arr 26)).mono (Nat.le_of_lt (alloc_lt _ _))))) a.lb a.cb xl
  have cy := conv_str (yb.kept ((alloc_below w (.cells a.arr 26)).trans ((alloc_below (w.alloc (.cells a.arr 26)) (.cells b.arr 26)).mono (Nat.le_of_lt (alloc_lt _ _))))) b.lb b.cb yl
  have hst := str_eq xb.1 yb.1
  have hEq : Hid (t = u ↔ a.kind = b.kind ∧ a.num = b.num ∧ a.neg = b.neg ∧ a.dig = b.dig ∧ a.exp = b.exp ∧ a.txt = b.txt ∧ t.bytes = u.bytes ∧ t.keys = u.keys ∧ t.kids = u.kids) := by
    show _ ↔ _
    rw [x0, x1, x2, x3, x4, x5, y0, y1, y2, y3, y4, y5]
    exact ⟨fun h => by subst h; exact ⟨rfl, rfl, rfl, rfl, rfl, rfl, rfl, rfl, rfl⟩, fun ⟨h0, h1, h2, h3, h4, h5, h6, h7, h8⟩ => Tr.mk_eq h0 h1 h2 h3 h4 h5 h6 h7 h8⟩
  have hV : Hid (v = true ↔ t = u) := hv
  have hAk : Hid (RowN (Nd D w) w a.ak a.lk a.ck t.keys) := xk
  have hAi : Hid (RowN (Nd D w) w a.ai a.li a.ci t.kids) := xi
  have hBk : Hid (RowN (Nd D w) w b.ak b.lk b.ck u.keys) := yk
  have hBi : Hid (RowN (Nd D w) w b.ai b.li b.ci u.kids) := yi
  have hxk : Hid (t.keys.length = a.lk) := xk.1
  have hxi : Hid (t.kids.length = a.li) := xi.1
  have hyk : Hid (u.keys.length = b.lk) := yk.1
  have hyi : Hid (u.kids.length = b.li) := yi.1
  have m1 := xk.2.1.1
  have m2 := xk.2.1.2.1
  have m3 := xi.2.1.1
  have m4 := xi.2.1.2.1
  have m5 := yk.2.1.1
  have m6 := yk.2.1.2.1
  have m7 := yi.2.1.1
  have m8 := yi.2.1.2.1
  unfold maxLen at m2 m4 m6 m8
  generalize strOfNums t.bytes = SX at *
  generalize strOfNums u.bytes = SY at *
  clear x0 x1 x2 x3 x4 x5 y0 y1 y2 y3 y4 y5 xl yl xb yb xr yr xk xi yk yi hv
  have hvf : v = false := not_true hV.out (fun h => h5 (hEq.out.1 h).2.2.2.2.2.1)
  subst hvf
  have q0 : (a.kind == b.kind) = true := by rw [h0]; exact beq_self_eq_true _
  have r0 : (a.kind != b.kind) = false := by simp [h0]
  have q1 : (a.num == b.num) = true := by rw [h1]; exact beq_self_eq_true _
  have r1 : (a.num != b.num) = false := by simp [h1]
  have q2 : (a.neg == b.neg) = true := by rw [h2]; exact beq_self_eq_true _
  have r2 : (a.neg != b.neg) = false := by simp [h2]
  have q3 := beq_of (s := a.dig) (t := b.dig) true (by simp [h3])
  have r3 : (a.dig.toList != b.dig.toList) = false := by simp [bne, q3]
  have q4 : (a.exp == b.exp) = true := by rw [h4]; exact beq_self_eq_true _
  have r4 : (a.exp != b.exp) = false := by simp [h4]
  have q5 := beq_of (s := a.txt) (t := b.txt) false (by simp [h5])
  have r5 : (a.txt.toList != b.txt.toList) = true := by simp [bne, q5]
  clear h0 h1 h2 h3 h4 h5 hAk hAi hBk hBi hxk hxi hyk hyi hEq hV
  clear cx cy hst
  go_enter Tryd.func12, Tryd.ntmps12
  go_wp2
  go_ret
  exact ⟨rfl, T0.out.bel⟩

set_option maxHeartbeats 2000000 in
set_option maxRecDepth 100000 in
theorem es_no6 {D : Nat} (t u : Tr) (a b : Nb) (w : World) (v : Bool) (hA : Nd (D + 1) w a t) (hB : Nd (D + 1) w b u) (hv : v = true ↔ t = u) (h0 : a.kind = b.kind) (h1 : a.num = b.num) (h2 : a.neg = b.neg) (h3 : a.dig = b.dig) (h4 : a.exp = b.exp) (h5 : a.txt = b.txt) (h6 : ¬ t.bytes = u.bytes) : Calls Tryd.prog 12 #[.agg a.arr, .agg b.arr] w fun e w' => e = .returned (.bool v) ∧ Below w.heap.size w w' := by
  have T0 : Hid (Bo2 w ((w.alloc (.cells a.arr 26)).alloc (.cells b.arr 26)) a b) := bo2_new w a b
  obtain ⟨a0, a1, a2, a3, a4, a5, a6, a7, a8⟩ := T0.out.one.fields
  obtain ⟨b0, b1, b2, b3, b4, b5, b6, b7, b8⟩ := T0.out.two.fields
  obtain ⟨⟨x0, x1, x2, x3, x4, x5⟩, _, ⟨xl, xr, xb⟩, xk, xi⟩ := hA
  obtain ⟨⟨y0, y1, y2, y3, y4, y5⟩, _, ⟨yl, yr, yb⟩, yk, yi⟩ := hB
  have cx := conv_str (xb.kept ((alloc_below w (.cells a.arr 26)).trans ((alloc_below (w.alloc (.cells a.arr 26)) (.cells b.arr 26)).mono (Nat.le_of_lt (alloc_lt _ _))))) a.lb a.cb xl
  have cy := conv_str (yb.kept ((alloc_below w (.cells a.arr 26)).trans ((alloc_below (w.alloc (.cells a.arr 26)) (.cells b.arr 26)).mono (Nat.le_of_lt (alloc_lt _ _))))) b.lb b.cb yl
  have hst := str_eq xb.1 yb.1
  have hEq : Hid (t = u ↔ a.kind = b.kind ∧ a.num = b.num ∧ a.neg = b.neg ∧ a.dig = b.dig ∧ a.exp = b.exp ∧ a.txt = b.txt ∧ t.bytes = u.bytes ∧ t.keys = u.keys ∧ t.kids = u.kids) := by
    show _ ↔ _
    rw [x0, x1, x2, x3, x4, x5, y0, y1, y2, y3, y4, y5]
    exact ⟨fun h => by subst h; exact ⟨rfl, rfl, rfl, rfl, rfl, rfl, rfl, rfl, rfl⟩, fun ⟨h0, h1, h2, h3, h4, h5, h6, h7, h8⟩ => Tr.mk_eq h0 h1 h2 h3 h4 h5 h6 h7 h8⟩
  have hV : Hid (v = true ↔ t = u) := hv
  have hAk : Hid (RowN (Nd D w) w a.ak a.lk a.ck t.keys) := xk
  have hAi : Hid (RowN (Nd D w) w a.ai a.li a.ci t.kids) := xi
  have hBk : Hid (RowN (Nd D w) w b.ak b.lk b.ck u.keys) := yk
  have hBi : Hid (RowN (Nd D w) w b.ai b.li b.ci u.kids) := yi
  have hxk : Hid (t.keys.length = a.lk) := xk.1
  have hxi : Hid (t.kids.length = a.li) := xi.1
  have hyk : Hid (u.keys.length = b.lk) := yk.1
  have hyi : Hid (u.kids.length = b.li) := yi.1
  have m1 := xk.2.1.1
  have m2 := xk.2.1.2.1
  have m3 := xi.2.1.1
  have m4 := xi.2.1.2.1
  have m5 := yk.2.1.1
  have m6 := yk.2.1.2.1
  have m7 := yi.2.1.1
  have m8 := yi.2.1.2.1
  unfold maxLen at m2 m4 m6 m8
  generalize strOfNums t.bytes = SX at *
  generalize strOfNums u.bytes = SY at *
  clear x0 x1 x2 x3 x4 x5 y0 y1 y2 y3 y4 y5 xl yl xb yb xr yr xk xi yk yi hv
  have hvf : v = false := not_true hV.out (fun h => h6 (hEq.out.1 h).2.2.2.2.2.2.1)
  subst hvf
  have q0 : (a.kind == b.kind) = true := by rw [h0]; exact beq_self_eq_true _
  have r0 : (a.kind != b.kind) = false := by simp [h0]
  have q1 : (a.num == b.num) = true := by rw [h1]; exact beq_self_eq_true _
  have r1 : (a.num != b.num) = false := by simp [h1]
  have q2 : (a.neg == b.neg) = true := by rw [h2]; exact beq_self_eq_true _
  have r2 : (a.neg != b.neg) = false := by simp [h2]
  have q3 := beq_of (s := a.dig) (t := b.dig) true (by simp [h3])
  have r3 : (a.dig.toList != b.dig.toList) = false := by simp [bne, q3]
  have q4 : (a.exp == b.exp) = true := by rw [h4]; exact beq_self_eq_true _
  have r4 : (a.exp != b.exp) = false := by simp [h4]
  have q5 := beq_of (s := a.txt) (t := b.txt) true (by simp [h5])
  have r5 : (a.txt.toList != b.txt.toList) = false := by simp [bne, q5]
  rw [decide_eq_false h6] at hst
  have r6 : (SX.toList != SY.toList) = true := by simp [bne, hst]
  clear h0 h1 h2 h3 h4 h5 h6 hAk hAi hBk hBi hxk hxi hyk hyi hEq hV
  go_enter Tryd.func12, Tryd.ntmps12
  go_wp2
  go_ret
  exact ⟨rfl, T0.out.bel⟩

set_option maxHeartbeats 2000000 in
set_option maxRecDepth 100000 in
theorem es_no7 {D : Nat} (t u : Tr) (a b : Nb) (w : World) (v : Bool) (hA : Nd (D + 1) w a t) (hB : Nd (D + 1) w b u) (hv : v = true ↔ t = u) (h0 : a.kind = b.kind) (h1 : a.num = b.num) (h2 : a.neg = b.neg) (h3 : a.dig = b.dig) (h4 : a.exp = b.exp) (h5 : a.txt = b.txt) (h6 : t.bytes = u.bytes) (h7 : ¬ a.lk = b.lk) : Calls Tryd.prog 12 #[.agg a.arr, .agg b.arr] w fun e w' => e = .returned (.bool v) ∧ Below w.heap.size w w' := by
  have T0 : Hid (Bo2 w ((w.alloc (.cells a.arr 26)).alloc (.cells b.arr 26)) a b) := bo2_new w a b
  obtain ⟨a0, a1, a2, a3, a4, a5, a6, a7, a8⟩ := T0.out.one.fields
  obtain ⟨b0, b1, b2, b3, b4, b5, b6, b7, b8⟩ := T0.out.two.fields
  obtain ⟨⟨x0, x1, x2, x3, x4, x5⟩, _, ⟨xl, xr, xb⟩, xk, xi⟩ := hA
  obtain ⟨⟨y0, y1, y2, y3, y4, y5⟩, _, ⟨yl, yr, yb⟩, yk, yi⟩ := hB
  have cx := conv_str (xb.kept ((alloc_below w (.cells a.arr 26)).trans ((alloc_below (w.alloc (.cells a.arr 26)) (.cells b.arr 26)).mono (Nat.le_of_lt (alloc_lt _ _))))) a.lb a.cb xl
  have cy := conv_str (yb.kept ((alloc_below w (.cells a.arr 26)).trans ((alloc_below (w.alloc (.cells a.arr 26)) (.cells b.arr 26)).mono (Nat.le_of_lt (alloc_lt _ _))))) b.lb b.cb yl
  have hst := str_eq xb.1 yb.1
  have hEq : Hid (t = u ↔ a.kind = b.kind ∧ a.num = b.num ∧ a.neg = b.neg ∧ a.dig = b.dig ∧ a.exp = b.exp ∧ a.txt = b.txt ∧ t.bytes = u.bytes ∧ t.keys = u.keys ∧ t.kids = u.kids) := by
    show _ ↔ _
    rw [x0, x1, x2, x3, x4, x5, y0, y1, y2, y3, y4, y5]
    exact ⟨fun h => by subst h; exact ⟨rfl, rfl, rfl, rfl, rfl, rfl, rfl, rfl, rfl⟩, fun ⟨h0, h1, h2, h3, h4, h5, h6, h7, h8⟩ => Tr.mk_eq h0 h1 h2 h3 h4 h5 h6 h7 h8⟩
  have hV : Hid (v = true ↔ t = u) := hv
  have hAk : Hid (RowN (Nd D w) w a.ak a.lk a.ck t.keys) := xk
  have hAi : Hid (RowN (Nd D w) w a.ai a.li a.ci t.kids) := xi
  have hBk : Hid (RowN (Nd D w) w b.ak b.lk b.ck u.keys) := yk
  have hBi : Hid (RowN (Nd D w) w b.ai b.li b.ci u.kids) := yi
  have hxk : Hid (t.keys.length = a.lk) := xk.1
  have hxi : Hid (t.kids.length = a.li) := xi.1
  have hyk : Hid (u.keys.length = b.lk) := yk.1
  have hyi : Hid (u.kids.length = b.li) := yi.1
  have m1 := xk.2.1.1
  have m2 := xk.2.1.2.1
  have m3 := xi.2.1.1
  have m4 := xi.2.1.2.1
  have m5 := yk.2.1.1
  have m6 := yk.2.1.2.1
  have m7 := yi.2.1.1
  have m8 := yi.2.1.2.1
  unfold maxLen at m2 m4 m6 m8
  generalize strOfNums t.bytes = SX at *
  generalize strOfNums u.bytes = SY at *
  clear x0 x1 x2 x3 x4 x5 y0 y1 y2 y3 y4 y5 xl yl xb yb xr yr xk xi yk yi hv
  have hvf : v = false := not_true hV.out (fun h => h7 (by have h9 := congrArg List.length (hEq.out.1 h).2.2.2.2.2.2.2.1; rw [hxk.out, hyk.out] at h9; exact h9))
  subst hvf
  have q0 : (a.kind == b.kind) = true := by rw [h0]; exact beq_self_eq_true _
  have r0 : (a.kind != b.kind) = false := by simp [h0]
  have q1 : (a.num == b.num) = true := by rw [h1]; exact beq_self_eq_true _
  have r1 : (a.num != b.num) = false := by simp [h1]
  have q2 : (a.neg == b.neg) = true := by rw [h2]; exact beq_self_eq_true _
  have r2 : (a.neg != b.neg) = false := by simp [h2]
  have q3 := beq_of (s := a.dig) (t := b.dig) true (by simp [h3])
  have r3 : (a.dig.toList != b.dig.toList) = false := by simp [bne, q3]
  have q4 : (a.exp == b.exp) = true := by rw [h4]; exact beq_self_eq_true _
  have r4 : (a.exp != b.exp) = false := by simp [h4]
  have q5 := beq_of (s := a.txt) (t := b.txt) true (by simp [h5])
  have r5 : (a.txt.toList != b.txt.toList) = false := by simp [bne, q5]
  rw [decide_eq_true h6] at hst
  have r6 : (SX.toList != SY.toList) = false := by simp [bne, hst]
  have r7 : ((a.lk : Int) != (b.lk : Int)) = true := by simp; omega
  clear h0 h1 h2 h3 h4 h5 h6 h7 hAk hAi hBk hBi hxk hxi hyk hyi hEq hV
  go_enter Tryd.func12, Tryd.ntmps12
  go_wp2
  go_ret
  exact ⟨rfl, T0.out.bel⟩

set_option maxHeartbeats 2000000 in
set_option maxRecDepth 100000 in
theorem es_no8 {D : Nat} (t u : Tr) (a b : Nb) (w : World) (v : Bool) (hA : Nd (D + 1) w a t) (hB : Nd (D + 1) w b u) (hv : v = true ↔ t = u) (h0 : a.kind = b.kind) (h1 : a.num = b.num) (h2 : a.neg = b.neg) (h3 : a.dig = b.dig) (h4 : a.exp = b.exp) (h5 : a.txt = b.txt) (h6 : t.bytes = u.bytes) (h7 : a.lk = b.lk) (h8 : ¬ a.li = b.li) : Calls Tryd.prog 12 #[.agg a.arr, .agg b.arr] w fun e w' => e = .returned (.bool v) ∧ Below w.heap.size w w' := by
  have T0 : Hid (Bo2 w ((w.alloc (.cells a.arr 26)).alloc (.cells b.arr 26)) a b) := bo2_new w a b
  obtain ⟨a0, a1, a2, a3, a4, a5, a6, a7, a8⟩ := T0.out.one.fields
  obtain ⟨b0, b1, b2, b3, b4, b5, b6, b7, b8⟩ := T0.out.two.fields
  obtain ⟨⟨x0, x1, x2, x3, x4, x5⟩, _, ⟨xl, xr, xb⟩, xk, xi⟩ := hA
  obtain ⟨⟨y0, y1, y2, y3, y4, y5⟩, _, ⟨yl, yr, yb⟩, yk, yi⟩ := hB
  have cx := conv_str (xb.kept ((alloc_below w (.cells a.arr 26)).trans ((alloc_below (w.alloc (.cells a.arr 26)) (.cells b.arr 26)).mono (Nat.le_of_lt (alloc_lt _ _))))) a.lb a.cb xl
  have cy := conv_str (yb.kept ((alloc_below w (.cells a.arr 26)).trans ((alloc_below (w.alloc (.cells a.arr 26)) (.cells b.arr 26)).mono (Nat.le_of_lt (alloc_lt _ _))))) b.lb b.cb yl
  have hst := str_eq xb.1 yb.1
  have hEq : Hid (t = u ↔ a.kind = b.kind ∧ a.num = b.num ∧ a.neg = b.neg ∧ a.dig = b.dig ∧ a.exp = b.exp ∧ a.txt = b.txt ∧ t.bytes = u.bytes ∧ t.keys = u.keys ∧ t.kids = u.kids) := by
    show _ ↔ _
    rw [x0, x1, x2, x3, x4, x5, y0, y1, y2, y3, y4, y5]
    exact ⟨fun h => by subst h; exact ⟨rfl, rfl, rfl, rfl, rfl, rfl, rfl, rfl, rfl⟩, fun ⟨h0, h1, h2, h3, h4, h5, h6, h7, h8⟩ => Tr.mk_eq h0 h1 h2 h3 h4 h5 h6 h7 h8⟩
  have hV : Hid (v = true ↔ t = u) := hv
  have hAk : Hid (RowN (Nd D w) w a.ak a.lk a.ck t.keys) := xk
  have hAi : Hid (RowN (Nd D w) w a.ai a.li a.ci t.kids) := xi
  have hBk : Hid (RowN (Nd D w) w b.ak b.lk b.ck u.keys) := yk
  have hBi : Hid (RowN (Nd D w) w b.ai b.li b.ci u.kids) := yi
  have hxk : Hid (t.keys.length = a.lk) := xk.1
  have hxi : Hid (t.kids.length = a.li) := xi.1
  have hyk : Hid (u.keys.length = b.lk) := yk.1
  have hyi : Hid (u.kids.length = b.li) := yi.1
  have m1 := xk.2.1.1
  have m2 := xk.2.1.2.1
  have m3 := xi.2.1.1
  have m4 := xi.2.1.2.1
  have m5 := yk.2.1.1
  have m6 := yk.2.1.2.1
  have m7 := yi.2.1.1
  have m8 := yi.2.1.2.1
  unfold maxLen at m2 m4 m6 m8
  generalize strOfNums t.bytes = SX at *
  generalize strOfNums u.bytes = SY at *
  clear x0 x1 x2 x3 x4 x5 y0 y1 y2 y3 y4 y5 xl yl xb yb xr yr xk xi yk yi hv
  have hvf : v = false := not_true hV.out (fun h => h8 (by have h9 := congrArg List.length (hEq.out.1 h).2.2.2.2.2.2.2.2; rw [hxi.out, hyi.out] at h9; exact h9))
  subst hvf
  have q0 : (a.kind == b.kind) = true := by rw [h0]; exact beq_self_eq_true _
  have r0 : (a.kind != b.kind) = false := by simp [h0]
  have q1 : (a.num == b.num) = true := by rw [h1]; exact beq_self_eq_true _
  have r1 : (a.num != b.num) = false := by simp [h1]
  have q2 : (a.neg == b.neg) = true := by rw [h2]; exact beq_self_eq_true _
  have r2 : (a.neg != b.neg) = false := by simp [h2]
  have q3 := beq_of (s := a.dig) (t := b.dig) true (by simp [h3])
  have r3 : (a.dig.toList != b.dig.toList) = false := by simp [bne, q3]
  have q4 : (a.exp == b.exp) = true := by rw [h4]; exact beq_self_eq_true _
  have r4 : (a.exp != b.exp) = false := by simp [h4]
  have q5 := beq_of (s := a.txt) (t := b.txt) true (by simp [h5])
  have r5 : (a.txt.toList != b.txt.toList) = false := by simp [bne, q5]
  rw [decide_eq_true h6] at hst
  have r6 : (SX.toList != SY.toList) = false := by simp [bne, hst]
  have r7 : ((a.lk : Int) != (b.lk : Int)) = false := by simp; omega
  have r8 : ((a.li : Int) != (b.li : Int)) = true := by simp; omega
  clear h0 h1 h2 h3 h4 h5 h6 h7 h8 hAk hAi hBk hBi hxk hxi hyk hyi hEq hV
  go_enter Tryd.func12, Tryd.ntmps12
  go_wp2
  go_ret
  exact ⟨rfl, T0.out.bel⟩
end Go.Proofs.YtelabgonpmafpaaDoor
namespace Go.Proofs.YtelabgonpmafpaaDoor
open Go.RowKit
set_option linter.unusedVariables false

set_option maxHeartbeats 8000000 in
set_option maxRecDepth 100000 in
theorem es_eq {D : Nat} (ih : EsAt D) (t u : Tr) (a b : Nb) (w : World) (v : Bool) (hA : Nd (D + 1) w a t) (hB : Nd (D + 1) w b u) (hv : v = true ↔ t = u) (h0 : a.kind = b.kind) (h1 : a.num = b.num) (h2 : a.neg = b.neg) (h3 : a.dig = b.dig) (h4 : a.exp = b.exp) (h5 : a.txt = b.txt) (h6 : t.bytes = u.bytes) (h7 : a.lk = b.lk) (h8 : a.li = b.li) : Calls Tryd.prog 12 #[.agg a.arr, .agg b.arr] w fun e w' => e = .returned (.bool v) ∧ Below w.heap.size w w' := by
  have T0 : Hid (Bo2 w ((w.alloc (.cells a.arr 26)).alloc (.cells b.arr 26)) a b) := bo2_new w a b
  obtain ⟨a0, a1, a2, a3, a4, a5, a6, a7, a8⟩ := T0.out.one.fields
  obtain ⟨b0, b1, b2, b3, b4, b5, b6, b7, b8⟩ := T0.out.two.fields
  obtain ⟨⟨x0, x1, x2, x3, x4, x5⟩, _, ⟨xl, xr, xb⟩, xk, xi⟩ := hA
  obtain ⟨⟨y0, y1, y2, y3, y4, y5⟩, _, ⟨yl, yr, yb⟩, yk, yi⟩ := hB
  have cx := conv_str (xb.kept ((alloc_below w (.cells a.arr 26)).trans ((alloc_below (w.alloc (.cells a.arr 26)) (.cells b.arr 26)).mono (Nat.le_of_lt (alloc_lt _ _))))) a.lb a.cb xl
  have cy := conv_str (yb.kept ((alloc_below w (.cells a.arr 26)).trans ((alloc_below (w.alloc (.cells a.arr 26)) (.cells b.arr 26)).mono (Nat.le_of_lt (alloc_lt _ _))))) b.lb b.cb yl
  have hst := str_eq xb.1 yb.1
  have hEq : Hid (t = u ↔ a.kind = b.kind ∧ a.num = b.num ∧ a.neg = b.neg ∧ a.dig = b.dig ∧ a.exp = b.exp ∧ a.txt = b.txt ∧ t.bytes = u.bytes ∧ t.keys = u.keys ∧ t.kids = u.kids) := by
    show _ ↔ _
    rw [x0, x1, x2, x3, x4, x5, y0, y1, y2, y3, y4, y5]
    exact ⟨fun h => by subst h; exact ⟨rfl, rfl, rfl, rfl, rfl, rfl, rfl, rfl, rfl⟩, fun ⟨h0, h1, h2, h3, h4, h5, h6, h7, h8⟩ => Tr.mk_eq h0 h1 h2 h3 h4 h5 h6 h7 h8⟩
  have hV : Hid (v = true ↔ t = u) := hv
  have hAk : Hid (RowN (Nd D w) w a.ak a.lk a.ck t.keys) := xk
  have hAi : Hid (RowN (Nd D w) w a.ai a.li a.ci t.kids) := xi
  have hBk : Hid (RowN (Nd D w) w b.ak b.lk b.ck u.keys) := yk
  have hBi : Hid (RowN (Nd D w) w b.ai b.li b.ci u.kids) := yi
  have hxk : Hid (t.keys.length = a.lk) := xk.1
  have hxi : Hid (t.kids.length = a.li) := xi.1
  have hyk : Hid (u.keys.length = b.lk) := yk.1
  have hyi : Hid (u.kids.length = b.li) := yi.1
  have m1 := xk.2.1.1
  have m2 := xk.2.1.2.1
  have m3 := xi.2.1.1
  have m4 := xi.2.1.2.1
  have m5 := yk.2.1.1
  have m6 := yk.2.1.2.1
  have m7 := yi.2.1.1
  have m8 := yi.2.1.2.1
  unfold maxLen at m2 m4 m6 m8
  generalize strOfNums t.bytes = SX at *
  generalize strOfNums u.bytes = SY at *
  clear x0 x1 x2 x3 x4 x5 y0 y1 y2 y3 y4 y5 xl yl xb yb xr yr xk xi yk yi hv
  have q0 : (a.kind == b.kind) = true := by rw [h0]; exact beq_self_eq_true _
  have r0 : (a.kind != b.kind) = false := by simp [h0]
  have q1 : (a.num == b.num) = true := by rw [h1]; exact beq_self_eq_true _
  have r1 : (a.num != b.num) = false := by simp [h1]
  have q2 : (a.neg == b.neg) = true := by rw [h2]; exact beq_self_eq_true _
  have r2 : (a.neg != b.neg) = false := by simp [h2]
  have q3 := beq_of (s := a.dig) (t := b.dig) true (by simp [h3])
  have r3 : (a.dig.toList != b.dig.toList) = false := by simp [bne, q3]
  have q4 : (a.exp == b.exp) = true := by rw [h4]; exact beq_self_eq_true _
  have r4 : (a.exp != b.exp) = false := by simp [h4]
  have q5 := beq_of (s := a.txt) (t := b.txt) true (by simp [h5])
  have r5 : (a.txt.toList != b.txt.toList) = false := by simp [bne, q5]
  rw [decide_eq_true h6] at hst
  have r6 : (SX.toList != SY.toList) = false := by simp [bne, hst]
  have r7 : ((a.lk : Int) != (b.lk : Int)) = false := by simp; omega
  have r8 : ((a.li : Int) != (b.li : Int)) = false := by simp; omega
  have e0 : Hid (a.kind = b.kind) := h0
  have e1 : Hid (a.num = b.num) := h1
  have e2 : Hid (a.neg = b.neg) := h2
  have e3 : Hid (a.dig = b.dig) := h3
  have e4 : Hid (a.exp = b.exp) := h4
  have e5 : Hid (a.txt = b.txt) := h5
  have e6 : Hid (t.bytes = u.bytes) := h6
  have hLk : Hid (a.lk = b.lk) := h7
  have hLi : Hid (a.li = b.li) := h8
  clear h0 h1 h2 h3 h4 h5 h6 h7 h8
  go_enter Tryd.func12, Tryd.ntmps12
  go_wp2
  go_loopw [5] (fun s5 wr => ∃ (i : Nat), i ≤ a.lk ∧ s5 = .int .i64 i ∧ Hid (Bo2 w wr a b) ∧ Hid (t.keys.take i = u.keys.take i)) (fun i _ => a.lk - (intOf i).toNat)
  case atStart => exact ⟨0, Nat.zero_le _, rfl, T0, rfl⟩
  case round =>
    obtain ⟨i, him, rfl, hT, hE⟩ := hrel
    clear a0 a1 a2 a3 a4 a5 a6 a7 a8 b0 b1 b2 b3 b4 b5 b6 b7 b8
    obtain ⟨c0, c1, c2, c3, c4, c5, c6, c7, c8⟩ := hT.out.one.fields
    obtain ⟨d0, d1, d2, d3, d4, d5, d6, d7, d8⟩ := hT.out.two.fields
    by_cases hlt : i < a.lk
    · have hz : (i : Int) < (a.lk : Int) := by omega
      have hz2 : (i : Int) < (b.lk : Int) := by have := hLk.out; omega
      have hix : i < t.keys.length := by rw [hxk.out]; exact hlt
      have hiy : i < u.keys.length := by rw [hyk.out, ← hLk.out]; exact hlt
      obtain ⟨bk, ok, nk, hak, hck, hNk⟩ := row_sp hAk.out hT.out.bel hix
      obtain ⟨bi, oi, ni, hai, hci, hNi⟩ := row_sp hBk.out hT.out.bel hiy
      have hS : Hid (∀ wx, Bo2 w wx a b → wx.cell? ⟨w.heap.size, 7, none⟩ = some (.slice (some ⟨bk, ok, none⟩) a.lk a.ck) ∧ wx.cell? ⟨w.heap.size + 1, 7, none⟩ = some (.slice (some ⟨bi, oi, none⟩) b.lk b.ck) ∧ (wx.cell? ⟨bk, ok + i * 9, none⟩ = some (.int .i64 nk.kind) ∧ wx.cell? ⟨bk, ok + i * 9 + 1, none⟩ = some (.int .u64 nk.num) ∧ wx.cell? ⟨bk, ok + i * 9 + 2, none⟩ = some (.bool nk.neg) ∧ wx.cell? ⟨bk, ok + i * 9 + 3, none⟩ = some (.string nk.dig) ∧ wx.cell? ⟨bk, ok + i * 9 + 4, none⟩ = some (.int .i64 nk.exp) ∧ wx.cell? ⟨bk, ok + i * 9 + 5, none⟩ = some (.string nk.txt) ∧ wx.cell? ⟨bk, ok + i * 9 + 6, none⟩ = some (.slice nk.ab nk.lb nk.cb) ∧ wx.cell? ⟨bk, ok + i * 9 + 7, none⟩ = some (.slice nk.ak nk.lk nk.ck) ∧ wx.cell? ⟨bk, ok + i * 9 + 8, none⟩ = some (.slice nk.ai nk.li nk.ci)) ∧ (wx.cell? ⟨bi, oi + i * 9, none⟩ = some (.int .i64 ni.kind) ∧ wx.cell? ⟨bi, oi + i * 9 + 1, none⟩ = some (.int .u64 ni.num) ∧ wx.cell? ⟨bi, oi + i * 9 + 2, none⟩ = some (.bool ni.neg) ∧ wx.cell? ⟨bi, oi + i * 9 + 3, none⟩ = some (.string ni.dig) ∧ wx.cell? ⟨bi, oi + i * 9 + 4, none⟩ = some (.int .i64 ni.exp) ∧ wx.cell? ⟨bi, oi + i * 9 + 5, none⟩ = some (.string ni.txt) ∧ wx.cell? ⟨bi, oi + i * 9 + 6, none⟩ = some (.slice ni.ab ni.lb ni.cb) ∧ wx.cell? ⟨bi, oi + i * 9 + 7, none⟩ = some (.slice ni.ak ni.lk ni.ck) ∧ wx.cell? ⟨bi, oi + i * 9 + 8, none⟩ = some (.slice ni.ai ni.li ni.ci))) := fun wx h => ⟨by rw [← hak]; exact h.one.cell 7, by rw [← hai]; exact h.two.cell 7, elem_fields (hck wx h.bel), elem_fields (hci wx h.bel)⟩
      have hS0 := hS.out _ hT.out
      obtain ⟨e0, e1, ⟨f0, f1, f2, f3, f4, f5, f6, f7, f8⟩, ⟨p0, p1, p2, p3, p4, p5, p6, p7, p8⟩⟩ := hS0
      have kk : ∀ (v' : Bool), (v' = true ↔ t.keys[i] = u.keys[i]) → ∀ w', Below w.heap.size w w' → Calls Tryd.prog 12 #[.agg nk.arr, .agg ni.arr] w' fun e w'' => e = .returned (.bool v') ∧ Below w'.heap.size w' w'' := fun v' h w' hb => ih _ _ nk ni w' v' (hNk.kept hb) (hNi.kept hb) h
      have wi : IntKind.i64.wrap ((i : Int) + 1) = (i : Int) + 1 := by rw [IntKind.wrap_i64]; omega
      by_cases hq : t.keys[i] = u.keys[i]
      · have k1 := kk true (by simp [hq])
        have hE' : Hid (t.keys.take (i + 1) = u.keys.take (i + 1)) := by
          show _ = _
          rw [List.take_succ_eq_append_getElem hix, List.take_succ_eq_append_getElem hiy, hE.out, hq]
        clear hck hci hNk hNi kk hq ih
        go_wp2
        go_region_held3 (fun wx => wx.cell? ⟨w.heap.size, 7, none⟩ = some (.slice (some ⟨bk, ok, none⟩) a.lk a.ck) ∧ wx.cell? ⟨w.heap.size + 1, 7, none⟩ = some (.slice (some ⟨bi, oi, none⟩) b.lk b.ck) ∧ (wx.cell? ⟨bk, ok + i * 9, none⟩ = some (.int .i64 nk.kind) ∧ wx.cell? ⟨bk, ok + i * 9 + 1, none⟩ = some (.int .u64 nk.num) ∧ wx.cell? ⟨bk, ok + i * 9 + 2, none⟩ = some (.bool nk.neg) ∧ wx.cell? ⟨bk, ok + i * 9 + 3, none⟩ = some (.string nk.dig) ∧ wx.cell? ⟨bk, ok + i * 9 + 4, none⟩ = some (.int .i64 nk.exp) ∧ wx.cell? ⟨bk, ok + i * 9 + 5, none⟩ = some (.string nk.txt) ∧ wx.cell? ⟨bk, ok + i * 9 + 6, none⟩ = some (.slice nk.ab nk.lb nk.cb) ∧ wx.cell? ⟨bk, ok + i * 9 + 7, none⟩ = some (.slice nk.ak nk.lk nk.ck) ∧ wx.cell? ⟨bk, ok + i * 9 + 8, none⟩ = some (.slice nk.ai nk.li nk.ci)) ∧ (wx.cell? ⟨bi, oi + i * 9, none⟩ = some (.int .i64 ni.kind) ∧ wx.cell? ⟨bi, oi + i * 9 + 1, none⟩ = some (.int .u64 ni.num) ∧ wx.cell? ⟨bi, oi + i * 9 + 2, none⟩ = some (.bool ni.neg) ∧ wx.cell? ⟨bi, oi + i * 9 + 3, none⟩ = some (.string ni.dig) ∧ wx.cell? ⟨bi, oi + i * 9 + 4, none⟩ = some (.int .i64 ni.exp) ∧ wx.cell? ⟨bi, oi + i * 9 + 5, none⟩ = some (.string ni.txt) ∧ wx.cell? ⟨bi, oi + i * 9 + 6, none⟩ = some (.slice ni.ab ni.lb ni.cb) ∧ wx.cell? ⟨bi, oi + i * 9 + 7, none⟩ = some (.slice ni.ak ni.lk ni.ck) ∧ wx.cell? ⟨bi, oi + i * 9 + 8, none⟩ = some (.slice ni.ai ni.li ni.ci))) (first | exact hS.out _ hT.out.drew | exact hS.out _ T1.out) (first
          | (go_at_call 12; refine (k1 _ hT.out.drew.bel).mono ?_; rintro e w1 ⟨rfl, q1⟩; have T1 : Hid (Bo2 w w1 a b) := hT.out.drew.on q1; clear q1))
        go_wp2
        try simp only [hak, hai]
        go_roundw
        case rel => exact ⟨i + 1, by omega, by go_num, T1, hE'⟩
        case measure => simp [intOf]; omega
      · have k1 := kk false (by simp [hq])
        have hvf : v = false := not_true hV.out (fun h => hq (by have := (hEq.out.1 h).2.2.2.2.2.2.2.1; simp only [this]))
        subst hvf
        clear hck hci hNk hNi kk hq ih
        go_wp2
        go_region_held3 (fun wx => wx.cell? ⟨w.heap.size, 7, none⟩ = some (.slice (some ⟨bk, ok, none⟩) a.lk a.ck) ∧ wx.cell? ⟨w.heap.size + 1, 7, none⟩ = some (.slice (some ⟨bi, oi, none⟩) b.lk b.ck) ∧ (wx.cell? ⟨bk, ok + i * 9, none⟩ = some (.int .i64 nk.kind) ∧ wx.cell? ⟨bk, ok + i * 9 + 1, none⟩ = some (.int .u64 nk.num) ∧ wx.cell? ⟨bk, ok + i * 9 + 2, none⟩ = some (.bool nk.neg) ∧ wx.cell? ⟨bk, ok + i * 9 + 3, none⟩ = some (.string nk.dig) ∧ wx.cell? ⟨bk, ok + i * 9 + 4, none⟩ = some (.int .i64 nk.exp) ∧ wx.cell? ⟨bk, ok + i * 9 + 5, none⟩ = some (.string nk.txt) ∧ wx.cell? ⟨bk, ok + i * 9 + 6, none⟩ = some (.slice nk.ab nk.lb nk.cb) ∧ wx.cell? ⟨bk, ok + i * 9 + 7, none⟩ = some (.slice nk.ak nk.lk nk.ck) ∧ wx.cell? ⟨bk, ok + i * 9 + 8, none⟩ = some (.slice nk.ai nk.li nk.ci)) ∧ (wx.cell? ⟨bi, oi + i * 9, none⟩ = some (.int .i64 ni.kind) ∧ wx.cell? ⟨bi, oi + i * 9 + 1, none⟩ = some (.int .u64 ni.num) ∧ wx.cell? ⟨bi, oi + i * 9 + 2, none⟩ = some (.bool ni.neg) ∧ wx.cell? ⟨bi, oi + i * 9 + 3, none⟩ = some (.string ni.dig) ∧ wx.cell? ⟨bi, oi + i * 9 + 4, none⟩ = some (.int .i64 ni.exp) ∧ wx.cell? ⟨bi, oi + i * 9 + 5, none⟩ = some (.string ni.txt) ∧ wx.cell? ⟨bi, oi + i * 9 + 6, none⟩ = some (.slice ni.ab ni.lb ni.cb) ∧ wx.cell? ⟨bi, oi + i * 9 + 7, none⟩ = some (.slice ni.ak ni.lk ni.ck) ∧ wx.cell? ⟨bi, oi + i * 9 + 8, none⟩ = some (.slice ni.ai ni.li ni.ci))) (first | exact hS.out _ hT.out.drew | exact hS.out _ T1.out) (first
          | (go_at_call 12; refine (k1 _ hT.out.drew.bel).mono ?_; rintro e w1 ⟨rfl, q1⟩; have T1 : Hid (Bo2 w w1 a b) := hT.out.drew.on q1; clear q1))
        go_wp2
        go_ret
        exact ⟨rfl, T1.out.bel⟩
    · have hz : ¬ (i : Int) < (a.lk : Int) := by omega
      have ekeys : Hid (t.keys = u.keys) := by
        show _ = _
        have h1 := hE.out
        rwa [List.take_of_length_le (by rw [hxk.out]; omega), List.take_of_length_le (by rw [hyk.out, ← hLk.out]; omega)] at h1
      clear hE
      go_wp2
      go_loopw [6] (fun s5 wr => ∃ (i : Nat), i ≤ a.li ∧ s5 = .int .i64 i ∧ Hid (Bo2 w wr a b) ∧ Hid (t.kids.take i = u.kids.take i)) (fun i _ => a.li - (intOf i).toNat)
      case atStart => exact ⟨0, Nat.zero_le _, rfl, hT, rfl⟩
      case round =>
        obtain ⟨i, him, rfl, hT, hE⟩ := hrel
        clear c0 c1 c2 c3 c4 c5 c6 c7 c8 d0 d1 d2 d3 d4 d5 d6 d7 d8
        obtain ⟨c0, c1, c2, c3, c4, c5, c6, c7, c8⟩ := hT.out.one.fields
        obtain ⟨d0, d1, d2, d3, d4, d5, d6, d7, d8⟩ := hT.out.two.fields
        by_cases hlt : i < a.li
        · have hz : (i : Int) < (a.li : Int) := by omega
          have hz2 : (i : Int) < (b.li : Int) := by have := hLi.out; omega
          have hix : i < t.kids.length := by rw [hxi.out]; exact hlt
          have hiy : i < u.kids.length := by rw [hyi.out, ← hLi.out]; exact hlt
          obtain ⟨bk, ok, nk, hak, hck, hNk⟩ := row_sp hAi.out hT.out.bel hix
          obtain ⟨bi, oi, ni, hai, hci, hNi⟩ := row_sp hBi.out hT.out.bel hiy
          have hS : Hid (∀ wx, Bo2 w wx a b → wx.cell? ⟨w.heap.size, 8, none⟩ = some (.slice (some ⟨bk, ok, none⟩) a.li a.ci) ∧ wx.cell? ⟨w.heap.size + 1, 8, none⟩ = some (.slice (some ⟨bi, oi, none⟩) b.li b.ci) ∧ (wx.cell? ⟨bk, ok + i * 9, none⟩ = some (.int .i64 nk.kind) ∧ wx.cell? ⟨bk, ok + i * 9 + 1, none⟩ = some (.int .u64 nk.num) ∧ wx.cell? ⟨bk, ok + i * 9 + 2, none⟩ = some (.bool nk.neg) ∧ wx.cell? ⟨bk, ok + i * 9 + 3, none⟩ = some (.string nk.dig) ∧ wx.cell? ⟨bk, ok + i * 9 + 4, none⟩ = some (.int .i64 nk.exp) ∧ wx.cell? ⟨bk, ok + i * 9 + 5, none⟩ = some (.string nk.txt) ∧ wx.cell? ⟨bk, ok + i * 9 + 6, none⟩ = some (.slice nk.ab nk.lb nk.cb) ∧ wx.cell? ⟨bk, ok + i * 9 + 7, none⟩ = some (.slice nk.ak nk.lk nk.ck) ∧ wx.cell? ⟨bk, ok + i * 9 + 8, none⟩ = some (.slice nk.ai nk.li nk.ci)) ∧ (wx.cell? ⟨bi, oi + i * 9, none⟩ = some (.int .i64 ni.kind) ∧ wx.cell? ⟨bi, oi + i * 9 + 1, none⟩ = some (.int .u64 ni.num) ∧ wx.cell? ⟨bi, oi + i * 9 + 2, none⟩ = some (.bool ni.neg) ∧ wx.cell? ⟨bi, oi + i * 9 + 3, none⟩ = some (.string ni.dig) ∧ wx.cell? ⟨bi, oi + i * 9 + 4, none⟩ = some (.int .i64 ni.exp) ∧ wx.cell? ⟨bi, oi + i * 9 + 5, none⟩ = some (.string ni.txt) ∧ wx.cell? ⟨bi, oi + i * 9 + 6, none⟩ = some (.slice ni.ab ni.lb ni.cb) ∧ wx.cell? ⟨bi, oi + i * 9 + 7, none⟩ = some (.slice ni.ak ni.lk ni.ck) ∧ wx.cell? ⟨bi, oi + i * 9 + 8, none⟩ = some (.slice ni.ai ni.li ni.ci))) := fun wx h => ⟨by rw [← hak]; exact h.one.cell 8, by rw [← hai]; exact h.two.cell 8, elem_fields (hck wx h.bel), elem_fields (hci wx h.bel)⟩
          have hS0 := hS.out _ hT.out
          obtain ⟨e0, e1, ⟨f0, f1, f2, f3, f4, f5, f6, f7, f8⟩, ⟨p0, p1, p2, p3, p4, p5, p6, p7, p8⟩⟩ := hS0
          have kk : ∀ (v' : Bool), (v' = true ↔ t.kids[i] = u.kids[i]) → ∀ w', Below w.heap.size w w' → Calls Tryd.prog 12 #[.agg nk.arr, .agg ni.arr] w' fun e w'' => e = .returned (.bool v') ∧ Below w'.heap.size w' w'' := fun v' h w' hb => ih _ _ nk ni w' v' (hNk.kept hb) (hNi.kept hb) h
          have wi : IntKind.i64.wrap ((i : Int) + 1) = (i : Int) + 1 := by rw [IntKind.wrap_i64]; omega
          by_cases hq : t.kids[i] = u.kids[i]
          · have k1 := kk true (by simp [hq])
            have hE' : Hid (t.kids.take (i + 1) = u.kids.take (i + 1)) := by
              show _ = _
              rw [List.take_succ_eq_append_getElem hix, List.take_succ_eq_append_getElem hiy, hE.out, hq]
            clear hck hci hNk hNi kk hq ih
            go_wp2
            go_region_held3 (fun wx => wx.cell? ⟨w.heap.size, 8, none⟩ = some (.slice (some ⟨bk, ok, none⟩) a.li a.ci) ∧ wx.cell? ⟨w.heap.size + 1, 8, none⟩ = some (.slice (some ⟨bi, oi, none⟩) b.li b.ci) ∧ (wx.cell? ⟨bk, ok + i * 9, none⟩ = some (.int .i64 nk.kind) ∧ wx.cell? ⟨bk, ok + i * 9 + 1, none⟩ = some (.int .u64 nk.num) ∧ wx.cell? ⟨bk, ok + i * 9 + 2, none⟩ = some (.bool nk.neg) ∧ wx.cell? ⟨bk, ok + i * 9 + 3, none⟩ = some (.string nk.dig) ∧ wx.cell? ⟨bk, ok + i * 9 + 4, none⟩ = some (.int .i64 nk.exp) ∧ wx.cell? ⟨bk, ok + i * 9 + 5, none⟩ = some (.string nk.txt) ∧ wx.cell? ⟨bk, ok + i * 9 + 6, none⟩ = some (.slice nk.ab nk.lb nk.cb) ∧ wx.cell? ⟨bk, ok + i * 9 + 7, none⟩ = some (.slice nk.ak nk.lk nk.ck) ∧ wx.cell? ⟨bk, ok + i * 9 + 8, none⟩ = some (.slice nk.ai nk.li nk.ci)) ∧ (wx.cell? ⟨bi, oi + i * 9, none⟩ = some (.int .i64 ni.kind) ∧ wx.cell? ⟨bi, oi + i * 9 + 1, none⟩ = some (.int .u64 ni.num) ∧ wx.cell? ⟨bi, oi + i * 9 + 2, none⟩ = some (.bool ni.neg) ∧ wx.cell? ⟨bi, oi + i * 9 + 3, none⟩ = some (.string ni.dig) ∧ wx.cell? ⟨bi, oi + i * 9 + 4, none⟩ = some (.int .i64 ni.exp) ∧ wx.cell? ⟨bi, oi + i * 9 + 5, none⟩ = some (.string ni.txt) ∧ wx.cell? ⟨bi, oi + i * 9 + 6, none⟩ = some (.slice ni.ab ni.lb ni.cb) ∧ wx.cell? ⟨bi, oi + i * 9 + 7, none⟩ = some (.slice ni.ak ni.lk ni.ck) ∧ wx.cell? ⟨bi, oi + i * 9 + 8, none⟩ = some (.slice ni.ai ni.li ni.ci))) (first | exact hS.out _ hT.out.drew | exact hS.out _ T1.out) (first
              | (go_at_call 12; refine (k1 _ hT.out.drew.bel).mono ?_; rintro e w1 ⟨rfl, q1⟩; have T1 : Hid (Bo2 w w1 a b) := hT.out.drew.on q1; clear q1))
            go_wp2
            try simp only [hak, hai]
            go_roundw
            case rel => exact ⟨i + 1, by omega, by go_num, T1, hE'⟩
            case measure => simp [intOf]; omega
          · have k1 := kk false (by simp [hq])
            have hvf : v = false := not_true hV.out (fun h => hq (by have := (hEq.out.1 h).2.2.2.2.2.2.2.2; simp only [this]))
            subst hvf
            clear hck hci hNk hNi kk hq ih
            go_wp2
            go_region_held3 (fun wx => wx.cell? ⟨w.heap.size, 8, none⟩ = some (.slice (some ⟨bk, ok, none⟩) a.li a.ci) ∧ wx.cell? ⟨w.heap.size + 1, 8, none⟩ = some (.slice (some ⟨bi, oi, none⟩) b.li b.ci) ∧ (wx.cell? ⟨bk, ok + i * 9, none⟩ = some (.int .i64 nk.kind) ∧ wx.cell? ⟨bk, ok + i * 9 + 1, none⟩ = some (.int .u64 nk.num) ∧ wx.cell? ⟨bk, ok + i * 9 + 2, none⟩ = some (.bool nk.neg) ∧ wx.cell? ⟨bk, ok + i * 9 + 3, none⟩ = some (.string nk.dig) ∧ wx.cell? ⟨bk, ok + i * 9 + 4, none⟩ = some (.int .i64 nk.exp) ∧ wx.cell? ⟨bk, ok + i * 9 + 5, none⟩ = some (.string nk.txt) ∧ wx.cell? ⟨bk, ok + i * 9 + 6, none⟩ = some (.slice nk.ab nk.lb nk.cb) ∧ wx.cell? ⟨bk, ok + i * 9 + 7, none⟩ = some (.slice nk.ak nk.lk nk.ck) ∧ wx.cell? ⟨bk, ok + i * 9 + 8, none⟩ = some (.slice nk.ai nk.li nk.ci)) ∧ (wx.cell? ⟨bi, oi + i * 9, none⟩ = some (.int .i64 ni.kind) ∧ wx.cell? ⟨bi, oi + i * 9 + 1, none⟩ = some (.int .u64 ni.num) ∧ wx.cell? ⟨bi, oi + i * 9 + 2, none⟩ = some (.bool ni.neg) ∧ wx.cell? ⟨bi, oi + i * 9 + 3, none⟩ = some (.string ni.dig) ∧ wx.cell? ⟨bi, oi + i * 9 + 4, none⟩ = some (.int .i64 ni.exp) ∧ wx.cell? ⟨bi, oi + i * 9 + 5, none⟩ = some (.string ni.txt) ∧ wx.cell? ⟨bi, oi + i * 9 + 6, none⟩ = some (.slice ni.ab ni.lb ni.cb) ∧ wx.cell? ⟨bi, oi + i * 9 + 7, none⟩ = some (.slice ni.ak ni.lk ni.ck) ∧ wx.cell? ⟨bi, oi + i * 9 + 8, none⟩ = some (.slice ni.ai ni.li ni.ci))) (first | exact hS.out _ hT.out.drew | exact hS.out _ T1.out) (first
              | (go_at_call 12; refine (k1 _ hT.out.drew.bel).mono ?_; rintro e w1 ⟨rfl, q1⟩; have T1 : Hid (Bo2 w w1 a b) := hT.out.drew.on q1; clear q1))
            go_wp2
            go_ret
            exact ⟨rfl, T1.out.bel⟩
        · have hz : ¬ (i : Int) < (a.li : Int) := by omega
          have ekids : Hid (t.kids = u.kids) := by
            show _ = _
            have h1 := hE.out
            rwa [List.take_of_length_le (by rw [hxi.out]; omega), List.take_of_length_le (by rw [hyi.out, ← hLi.out]; omega)] at h1
          have hvt : v = true := hV.out.2 (hEq.out.2 ⟨e0.out, e1.out, e2.out, e3.out, e4.out, e5.out, e6.out, ekeys.out, ekids.out⟩)
          subst hvt
          clear hE ih
          go_wp2
          go_ret
          exact ⟨rfl, hT.out.bel⟩
end Go.Proofs.YtelabgonpmafpaaDoor
namespace Go.Proofs.YtelabgonpmafpaaDoor
open Go.RowKit
set_option linter.unusedVariables false

theorem es_step {D : Nat} (ih : EsAt D) : EsAt (D + 1) := by
  intro t u a b w v hA hB hv
  by_cases h0 : a.kind = b.kind
  case neg => exact es_no0 t u a b w v hA hB hv h0
  by_cases h1 : a.num = b.num
  case neg => exact es_no1 t u a b w v hA hB hv h0 h1
  by_cases h2 : a.neg = b.neg
  case neg => exact es_no2 t u a b w v hA hB hv h0 h1 h2
  by_cases h3 : a.dig = b.dig
  case neg => exact es_no3 t u a b w v hA hB hv h0 h1 h2 h3
  by_cases h4 : a.exp = b.exp
  case neg => exact es_no4 t u a b w v hA hB hv h0 h1 h2 h3 h4
  by_cases h5 : a.txt = b.txt
  case neg => exact es_no5 t u a b w v hA hB hv h0 h1 h2 h3 h4 h5
  by_cases h6 : t.bytes = u.bytes
  case neg => exact es_no6 t u a b w v hA hB hv h0 h1 h2 h3 h4 h5 h6
  by_cases h7 : a.lk = b.lk
  case neg => exact es_no7 t u a b w v hA hB hv h0 h1 h2 h3 h4 h5 h6 h7
  by_cases h8 : a.li = b.li
  case neg => exact es_no8 t u a b w v hA hB hv h0 h1 h2 h3 h4 h5 h6 h7 h8
  exact es_eq ih t u a b w v hA hB hv h0 h1 h2 h3 h4 h5 h6 h7 h8

theorem es_all : ∀ D, EsAt D := by
  intro D
  induction D with
  | zero => intro t u a b w v h; exact absurd h id
  | succ D ih => exact es_step ih
/-- The document's same. -/
theorem esam_any {D E : Nat} {t u : Tr} {a b : Nb} {w : World} {v : Bool} (hA : Nd D w a t) (hB : Nd E w b u) (hv : v = true ↔ t = u) : Calls Tryd.prog 12 #[.agg a.arr, .agg b.arr] w fun e w' => e = .returned (.bool v) ∧ Below w.heap.size w w' :=
  es_all (max D E) t u a b w v (hA.le (Nat.le_max_left _ _)) (hB.le (Nat.le_max_right _ _)) hv
end Go.Proofs.YtelabgonpmafpaaDoor
namespace Go.Proofs.YtelabgonpmafpaaDoor
open Go.RowKit
set_option linter.unusedVariables false
set_option maxHeartbeats 1000000 in
theorem efew_any {D : Nat} {t : Tr} {b : Nb} {w : World} (hN : Nd D w b t) : Calls Tryd.prog 11 #[.agg b.arr] w fun e w' => e = .returned (.bool (decide (t.size ≤ 1024))) ∧ Below w.heap.size w w' := by
  have hal := alloc_below w (.cells b.arr 26)
  have km := left_all D t b _ 1024 (hN.kept hal) (by omega) (by omega)
  have hB : Hid (Below w.heap.size w (w.alloc (.cells b.arr 26))) := hal
  obtain ⟨c0, c1, c2, c3, c4, c5, c6, c7, c8⟩ := (nbox_new w b).fields
  rw [← Tr.lft_few]
  generalize Tr.lft 1024 t.size = S at *
  clear hal hN
  go_enter Tryd.func11, Tryd.ntmps11
  go_wp2_with (go_at_call 15; refine km.mono ?_; rintro e w1 ⟨rfl, hb⟩)
  go_ret
  exact ⟨rfl, hB.out.trans (hb.mono hB.out.size)⟩
set_option maxHeartbeats 2000000 in
theorem esame_any {D E : Nat} {t u : Tr} {a b : Nb} {w : World} {v : Bool} (hA : Nd D w a t) (hB : Nd E w b u) (hv : v = true ↔ t.size ≤ 1024 ∧ u.size ≤ 1024 ∧ t = u) : Calls Tryd.prog 8 #[.agg a.arr, .agg b.arr] w fun e w' => e = .returned (.bool v) ∧ Below w.heap.size w w' := by
  have hal := alloc_below w (.cells a.arr 26)
  have hal2 := alloc_below (w.alloc (.cells a.arr 26)) (.cells b.arr 26)
  have hb2 : Hid (Below w.heap.size w ((w.alloc (.cells a.arr 26)).alloc (.cells b.arr 26))) := hal.trans (hal2.mono hal.size)
  have hs2 : Hid (w.heap.size ≤ ((w.alloc (.cells a.arr 26)).alloc (.cells b.arr 26)).heap.size) := Nat.le_trans hal.size hal2.size
  have boxA := (nbox_new w a).kept hal2 (by simp)
  have boxB := nbox_new (w.alloc (.cells a.arr 26)) b
  have s1 : (w.alloc (.cells a.arr 26)).heap.size = w.heap.size + 1 := by simp
  rw [s1] at boxB
  obtain ⟨a0, a1, a2, a3, a4, a5, a6, a7, a8⟩ := boxA.fields
  obtain ⟨b0, b1, b2, b3, b4, b5, b6, b7, b8⟩ := boxB.fields
  have hKa : Hid (NBox ((w.alloc (.cells a.arr 26)).alloc (.cells b.arr 26)) w.heap.size a) := boxA
  have hKb : Hid (NBox ((w.alloc (.cells a.arr 26)).alloc (.cells b.arr 26)) (w.heap.size + 1) b) := boxB
  have hsz : Hid (w.heap.size + 1 < ((w.alloc (.cells a.arr 26)).alloc (.cells b.arr 26)).heap.size) := by show _ < _; simp
  have kA : Hid (∀ w', Below w.heap.size w w' → Calls Tryd.prog 11 #[.agg a.arr] w' _) := fun w' h => efew_any (hA.kept h)
  have kB : Hid (∀ w', Below w.heap.size w w' → Calls Tryd.prog 11 #[.agg b.arr] w' _) := fun w' h => efew_any (hB.kept h)
  have k1 := kA.out _ hb2.out
  have kS : Hid (∀ (v' : Bool), (v' = true ↔ t = u) → ∀ w', Below w.heap.size w w' → Calls Tryd.prog 12 #[.agg a.arr, .agg b.arr] w' _) := fun v' h w' hb => esam_any (hA.kept hb) (hB.kept hb) h
  have hV : Hid (v = true ↔ t.size ≤ 1024 ∧ u.size ≤ 1024 ∧ t = u) := hv
  clear hal hal2 boxA boxB s1 hv hA hB
  by_cases hf : t.size ≤ 1024
  · rw [decide_eq_true hf] at k1
    by_cases hg : u.size ≤ 1024
    · rw [show decide (u.size ≤ 1024) = true from decide_eq_true hg] at kB
      have hv : v = true ↔ t = u := ⟨fun h => (hV.out.1 h).2.2, fun h => hV.out.2 ⟨hf, hg, h⟩⟩
      have kS' := kS.out v hv
      clear hf hg hv kS
      go_enter Tryd.func8, Tryd.ntmps8
      go_wp2_with (first
        | (go_at_call 11; refine k1.mono ?_; rintro e w1 ⟨rfl, hb1⟩; clear k1; have hbw := hb2.out.trans (hb1.mono hs2.out); have q2 := hKb.out.kept hb1 hsz.out; have q1 := hKa.out.kept hb1 (Nat.lt_of_le_of_lt (Nat.le_succ _) hsz.out); obtain ⟨c0, c1, c2, c3, c4, c5, c6, c7, c8⟩ := q1.fields; obtain ⟨d0, d1, d2, d3, d4, d5, d6, d7, d8⟩ := q2.fields; have k2 := kB.out w1 hbw)
        | (go_at_call 11; refine k2.mono ?_; rintro e w2 ⟨rfl, hb3⟩; clear k2; have hbw2 := hbw.trans (hb3.mono hbw.size); obtain ⟨g0, g1, g2, g3, g4, g5, g6, g7, g8⟩ := (q1.kept hb3 q1.lt).fields; obtain ⟨h0, h1, h2, h3, h4, h5, h6, h7, h8⟩ := (q2.kept hb3 q2.lt).fields; have k3 := kS' w2 hbw2)
        | (go_at_call 12; refine k3.mono ?_; rintro e w3 ⟨rfl, hb4⟩))
      go_ret
      exact ⟨rfl, hbw2.trans (hb4.mono hbw2.size)⟩
    · rw [show decide (u.size ≤ 1024) = false from decide_eq_false hg] at kB
      have hv : v = false := not_true hV.out fun h => hg h.2.1
      subst hv
      clear hf hg kS
      go_enter Tryd.func8, Tryd.ntmps8
      go_wp2_with (first
        | (go_at_call 11; refine k1.mono ?_; rintro e w1 ⟨rfl, hb1⟩; clear k1; have hbw := hb2.out.trans (hb1.mono hs2.out); have q2 := hKb.out.kept hb1 hsz.out; obtain ⟨d0, d1, d2, d3, d4, d5, d6, d7, d8⟩ := q2.fields; have k2 := kB.out w1 hbw)
        | (go_at_call 11; refine k2.mono ?_; rintro e w2 ⟨rfl, hb3⟩))
      go_ret
      exact ⟨rfl, hbw.trans (hb3.mono hbw.size)⟩
  · rw [decide_eq_false hf] at k1
    have hv : v = false := not_true hV.out fun h => hf h.1
    subst hv
    clear hf kS kB
    go_enter Tryd.func8, Tryd.ntmps8
    go_wp2_with (go_at_call 11; refine k1.mono ?_; rintro e w1 ⟨rfl, hb1⟩)
    go_ret
    exact ⟨rfl, hb2.out.trans (hb1.mono hs2.out)⟩

end Go.Proofs.YtelabgonpmafpaaDoor
