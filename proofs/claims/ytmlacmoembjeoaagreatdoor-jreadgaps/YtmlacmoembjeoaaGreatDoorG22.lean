/-
  The reader's loop over tokens: jread.read, the walk.
  Tokens are no more than bytes.
  The texts of tokens: no longer than the bytes; a string's is a text.
  A field of a fault that a call answered.
  A text read, and told valid: jread.Parse, jread.Valid.
  The library's calls, as this program bears them: told of in Lib.
  Nodes of which all is zero: where they are told of.
  A tree in new memory: tree.clone.
  The fault of one node, as plain data: gt tells which bytes are a text, ri which digits are a number, rd which numbers may a Dec have.
  What should be zero of a node: tree.rest; and which numbers and counts a Kind may have: tree.mayBe.
-/
import Derived.Test.YtmlacmoembjeoaaGreatDoorG21
import Derived.Test.YtmlacmoembjeoaaGreatDoorG9
import Derived.Test.YtmlacmoembjeoaaGreatDoorG4
import Derived.Test.YtmlacmoembjeoaaGreatDoorG13
import Derived.Test.YtmlacmoembjeoaaGreatDoorG3
import Derived.Test.YtmlacmoembjeoaaGreatDoorG2
import Derived.Deep.CutBlock
import Derived.Deep.CutRange
import Derived.Deep.RegionWith
namespace Go.Proofs.YtmlacmoembjeoaaGreatDoor
open Go.RowKit
set_option linter.unusedVariables false
/-- A place of two words is written over: the reader stays. -/
theorem jmx_put {B : Nat} {lab : Nat → Nat} {w : World} {g : Nat} {s : JS} (h : JMX B lab w g s) {k0 : Nat} {x y : Int} {T : TypeId} (hk : Blk w k0 #[.int .i64 x, .int .i64 y] T) (h0 : lab k0 = 0) (j : Nat) (v : Value) : JMX B lab (w.setCell ⟨k0, j, none⟩ v) g s := by
  obtain ⟨D, nbs, ao, co, r, h⟩ := h
  have hT : Trn (fun L => L = 0) lab lab w (w.setCell ⟨k0, j, none⟩ v) := ⟨rfl, rfl, rfl, by rw [set_size]; exact Nat.le_refl _, fun k hk hn => ⟨rfl, setk (fun e => hn (by rw [e]; exact h0)) v⟩⟩
  have nd : ∀ {b : Nb} {t : Tr}, NdS (fun k => lab k = 0 ∧ B ≤ k ∧ k < w.heap.size) D w b t → NdS (fun k => lab k = 0 ∧ B ≤ k ∧ k < (w.setCell ⟨k0, j, none⟩ v).heap.size) D (w.setCell ⟨k0, j, none⟩ v) b t := fun q =>
    ((q.avoid hk).stays fun k hk => setk hk.2 v).mono fun k hk => ⟨hk.1.1, hk.1.2.1, by rw [set_size]; exact hk.1.2.2⟩
  refine ⟨D, nbs, ao, co, r, h.lo, fun k hk => h.hi k (by rw [set_size] at hk; exact hk), h.gl, h.box.same (setk (fun e => by have := h.gl; rw [e, h0] at this; omega) v), (own_tr h.opn hT (L := 2) h.ol (by omega)).1, h.ol, h.len, fun i hi hi2 => ?_, nd h.rt, h.few⟩
  have o := h.nd i hi hi2
  obtain ⟨bk, k1, k2, k3⟩ := o.ks
  obtain ⟨bi, i1, i2, i3⟩ := o.is
  exact ⟨o.fl, o.tf, o.kd, ⟨bk, (own_tr k1 hT (L := 3 + 2 * i) o.kl (by omega)).1, k2, k3⟩, o.kl, ⟨bi, (own_tr i1 hT (L := 4 + 2 * i) o.il (by omega)).1, i2, fun j hj hj2 => nd (i3 j hj hj2)⟩, o.il⟩
/-- Where the loop stands. -/
def LpS (B : Nat) (lab : Nat → Nat) (W wr : World) (g : Nat) (s : JS) (L : List Tk) (i : Nat) : Prop := ∃ lab' s', readT s L = readT s' (L.drop i) ∧ Few s' i ∧ Nxt s' ∧ JMX B lab' wr g s' ∧ Frm lab lab' W wr
set_option maxHeartbeats 8000000 in
set_option maxRecDepth 100000 in
theorem read_loop {B : Nat} {lab : Nat → Nat} {w : World} {g : Nat} {s : JS} (hJ : JMX B lab w g s) (hn : Nxt s) (hf : Few s 0) (hB : B ≤ w.heap.size) (a : Option Addr) (n cap : Nat) (zs : List Int) (hl : zs.length = n) (hb : Bytes w a zs) (hc : n ≤ cap) (hsm : n ≤ 140737488351232) (hX : ∀ t ∈ (lexW zs).1, (strOfNums t.txt).size ≤ 140737488351232) (hM : (lexW zs).1.length ≤ 4096) :
    Calls Tryz.prog 18 #[.pointer (some ⟨g, 0, none⟩), .slice a n cap] w fun e w' => e = .returned (.agg #[.int .i64 (readA s zs).2.1, .int .i64 ((readA s zs).2.2 : Nat)]) ∧ ∃ lab', ((readA s zs).2.1 = 0 → JMX B lab' w' g (readA s zs).1) ∧ Frm lab lab' w w' := by
  have hA := alloc_below w (.cells #[.int .i64 0, .int .i64 0] 29)
  have K0 : Hid (Blk (w.alloc (.cells #[.int .i64 0, .int .i64 0] 29)) w.heap.size #[.int .i64 0, .int .i64 0] 29) := blk_new w _ _
  have kL := lex_full a n cap zs (w.alloc (.cells #[.int .i64 0, .int .i64 0] 29)) hl (hb.kept hA) hc
  obtain ⟨RA, hRA⟩ : ∃ RA, readA s zs = RA := ⟨_, rfl⟩
  have hRA' : Hid (readA s zs = RA) := hRA
  rw [hRA]
  obtain ⟨⟨LL, Y, A⟩, hR⟩ : ∃ R, lexW zs = R := ⟨_, rfl⟩
  have hR' : Hid (lexW zs = (LL, Y, A)) := hR
  rw [hR] at kL hX hM
  have HX : Hid ((∀ t ∈ LL, (strOfNums t.txt).size ≤ 140737488351232) ∧ LL.length ≤ 4096) := ⟨hX, hM⟩
  clear hX hM
  obtain ⟨m, hm⟩ : ∃ m, LL.length = m := ⟨_, rfl⟩
  have hm' : Hid (LL.length = m) := hm
  have kL' : Calls Tryz.prog 28 #[.slice a n cap] (w.alloc (.cells #[.int .i64 0, .int .i64 0] 29)) fun e w' => ∃ av cv, e = .returned (.tuple #[.slice av m cv, .agg #[.int .i64 (Y : Nat), .int .i64 (A : Nat)]]) ∧ m ≤ cv ∧ cv ≤ 9223372036854775807 ∧ TokAt w' av LL ∧ (∀ x, av = some x → w.heap.size ≤ x.block) ∧ Below w.heap.size w w' ∧ w.heap.size + 1 ≤ w'.heap.size ∧ Blk w' w.heap.size #[.int .i64 0, .int .i64 0] 29 := kL.mono fun e w' ⟨v, h1, h2, h3⟩ => by
    obtain ⟨av, cv, hv, q1, q2, q3⟩ := h2.at
    have hbk : ∀ x, av = some x → w.heap.size ≤ x.block := fun x hx => by
      rcases h2.2 with ⟨hv2, _⟩ | ⟨g2, cap2, cur2, hv2, hg2, _⟩
      · rw [hv2] at hv; injection hv with p1 p2 p3; rw [← p1] at hx; cases hx
      · rw [hv2] at hv; injection hv with p1 p2 p3; rw [← p1] at hx; cases hx; have := hA.size; show _ ≤ g2; omega
    rw [hm] at hv q1
    exact ⟨av, cv, by rw [h1, hv], q1, q2, q3, hbk, hA.trans (h3.mono hA.size), by have := h3.size; simpa using this, K0.out.kept h3 K0.out.lt⟩
  have J0 : Hid (JMX B lab w g s ∧ Nxt s ∧ Few s 0 ∧ B ≤ w.heap.size ∧ zs.length = n) := ⟨hJ, hn, hf, hB, hl⟩
  have A0 : Hid (Below w.heap.size w (w.alloc (.cells #[.int .i64 0, .int .i64 0] 29))) := hA
  clear kL hR hRA hl hb hm hJ hn hf hB hA
  go_enter Tryz.func18, Tryz.ntmps18
  go_wp2_with (go_at_call 28; refine kL'.mono ?_; rintro e w1 ⟨av, cv, rfl, hcv1, hcv2, hT, hbk, hb1, hs1, k4⟩; clear kL'; have HK : Hid (∀ x, av = some x → w.heap.size ≤ x.block) := hbk; clear hbk; have A1 : Hid (Below w.heap.size w (w1.alloc (.cells #[.int .i64 (Y : Nat), .int .i64 (A : Nat)] 29))) := hb1.trans ((alloc_below w1 _).mono hb1.size); have T1 : Hid (TokAt (w1.alloc (.cells #[.int .i64 (Y : Nat), .int .i64 (A : Nat)] 29)) av LL) := hT.kept (alloc_below w1 _); have K6 : Hid (Blk (w1.alloc (.cells #[.int .i64 (Y : Nat), .int .i64 (A : Nat)] 29)) w1.heap.size #[.int .i64 (Y : Nat), .int .i64 (A : Nat)] 29) := blk_new w1 _ _; have K4 : Hid (Blk (w1.alloc (.cells #[.int .i64 (Y : Nat), .int .i64 (A : Nat)] 29)) w.heap.size #[.int .i64 0, .int .i64 0] 29) := k4.kept (alloc_below w1 _) k4.lt; have H1 : Hid (w.heap.size + 1 ≤ w1.heap.size) := hs1; clear hT hb1 hs1 k4)
  generalize w1.alloc (.cells #[.int .i64 (Y : Nat), .int .i64 (A : Nat)] 29) = W at *
  go_loopw [17] (fun u wr => ∃ i : Nat, i ≤ m ∧ u = .int .i64 i ∧ Hid (LpS B lab W wr g s LL i)) (fun u _ => m - (intOf u).toNat)
  case atStart => exact ⟨0, Nat.zero_le _, rfl, lab, s, rfl, J0.out.2.2.1, J0.out.2.1, jmx_below J0.out.1 A1.out, Frm.refl _ _⟩
  case round =>
    obtain ⟨i, hi, rfl, hS⟩ := hrel
    by_cases hlt : i < m
    · have hil : i < LL.length := by rw [hm'.out]; exact hlt
      obtain ⟨lab1, s1, e1, f1, n1, j1, fr1⟩ := hS.out
      have hz : (i : Int) < (m : Int) := by omega
      have lab0 : ∀ k, w.heap.size ≤ k → lab k = 0 := (jmx_cell J0.out.1).2.2.2.2
      obtain ⟨gt, hav, hgt, hcell⟩ := (T1.out.frm fr1 (fun x hx => lab0 _ (HK.out x hx))) (by rintro rfl; simp at hil)
      subst hav
      have hcs := tkCs_get LL i
      have hXi := HX.out.1 LL[i] (List.getElem_mem hil)
      have eR := readT_at (s := s1) hil
      generalize hTk : LL[i]'hil = tk at *
      obtain ⟨K, F, T, X⟩ := tk
      have q0 : wr.cell? ⟨gt, i * 4, none⟩ = some (.int .i64 (K : Nat)) := by
        have := hcell (i * 4) (by omega)
        rw [this, show i * 4 = i * 4 + 0 by omega, hcs 0 hil (by omega), hTk]; rfl
      have q1 : wr.cell? ⟨gt, i * 4 + 1, none⟩ = some (.int .i64 (F : Nat)) := by rw [hcell _ (by omega), hcs 1 hil (by omega), hTk]; rfl
      have q2 : wr.cell? ⟨gt, i * 4 + 2, none⟩ = some (.int .i64 (T : Nat)) := by rw [hcell _ (by omega), hcs 2 hil (by omega), hTk]; rfl
      have q3 : wr.cell? ⟨gt, i * 4 + 3, none⟩ = some (.string (strOfNums X)) := by rw [hcell _ (by omega), hcs 3 hil (by omega), hTk]; rfl
      simp only at hXi eR
      have ha := alloc_below wr (.cells #[.int .i64 (K : Nat), .int .i64 (F : Nat), .int .i64 (T : Nat), .string (strOfNums X)] 40)
      have kb := blk_new wr #[.int .i64 (K : Nat), .int .i64 (F : Nat), .int .i64 (T : Nat), .string (strOfNums X)] 40
      have hBr : B ≤ wr.heap.size := Nat.le_trans J0.out.2.2.2.1 (Nat.le_trans A1.out.size fr1.size)
      have kS := fun (w' : World) (hb : Below wr.heap.size wr w') => step_any (jmx_below j1 hb) n1 ⟨by have := f1.1; have := HX.out.2; omega, by have := f1.2.1; have := HX.out.2; omega, fun u hu => by have := f1.2.2 u hu; have := HX.out.2; exact ⟨by omega, by omega⟩⟩ (Nat.le_trans hBr hb.size) K F T (strOfNums X) (node_leaf K _ hXi) hXi
      have en := nxt_enters n1
      obtain ⟨c1, _, g1, gl1, hi1⟩ := jmx_cell (jmx_below j1 ha)
      have ks := step_keeps f1 n1 K (strOfNums X)
      have d0 : (wr.alloc (.cells #[.int .i64 (K : Nat), .int .i64 (F : Nat), .int .i64 (T : Nat), .string (strOfNums X)] 40)).cell? ⟨wr.heap.size, 0, none⟩ = some (.int .i64 (K : Nat)) := kb.cell 0
      have d1 : (wr.alloc (.cells #[.int .i64 (K : Nat), .int .i64 (F : Nat), .int .i64 (T : Nat), .string (strOfNums X)] 40)).cell? ⟨wr.heap.size, 1, none⟩ = some (.int .i64 (F : Nat)) := kb.cell 1
      have d2 : (wr.alloc (.cells #[.int .i64 (K : Nat), .int .i64 (F : Nat), .int .i64 (T : Nat), .string (strOfNums X)] 40)).cell? ⟨wr.heap.size, 2, none⟩ = some (.int .i64 (T : Nat)) := kb.cell 2
      have d3 : (wr.alloc (.cells #[.int .i64 (K : Nat), .int .i64 (F : Nat), .int .i64 (T : Nat), .string (strOfNums X)] 40)).cell? ⟨wr.heap.size, 3, none⟩ = some (.string (strOfNums X)) := kb.cell 3
      have k1 := kS _ ha
      have k2 := kS _ ha.drew
      have hTk' : Hid (LL[i]'hil = ⟨K, F, T, X⟩) := hTk
      have HF : Hid (Frm lab lab1 W wr ∧ readT s LL = readT s1 (LL.drop i) ∧ readT s1 (LL.drop i) = readT s1 (⟨K, F, T, X⟩ :: LL.drop (i + 1))) := ⟨fr1, e1, eR⟩
      obtain ⟨⟨s2, y⟩, hst⟩ : ∃ R, stepA s1 K (strOfNums X) = R := ⟨_, rfl⟩
      rw [hst] at k1 k2 ks
      simp only at k1 k2 ks
      have hst' : Hid (stepA s1 K (strOfNums X) = (s2, y)) := hst
      have KS : Hid (Few s2 (i + 1) ∧ Nxt s2) := ks
      have BA : Hid (Below wr.heap.size wr (wr.alloc (.cells #[.int .i64 (K : Nat), .int .i64 (F : Nat), .int .i64 (T : Nat), .string (strOfNums X)] 40))) := ha
      generalize s1.nx = nx at *
      have L1 : Hid (∀ k, wr.heap.size ≤ k → lab1 k = 0) := (jmx_cell j1).2.2.2.2
      have KB : Hid (Blk (wr.alloc (.cells #[.int .i64 (K : Nat), .int .i64 (F : Nat), .int .i64 (T : Nat), .string (strOfNums X)] 40)) wr.heap.size #[.int .i64 (K : Nat), .int .i64 (F : Nat), .int .i64 (T : Nat), .string (strOfNums X)] 40) := kb
      clear hcs hcell hTk hS kb kS fr1 e1 eR hst ks ha f1 n1 j1 hXi hBr lab0 hi1 g1
      go_upto_region 5 with (fail)
      go_cut [9] (fun v wx => v = .int .i64 y ∧ ∃ lab2, Hid (y = 0 → JMX B lab2 wx g s2) ∧ Hid (Frm lab1 lab2 (wr.alloc (.cells #[.int .i64 (K : Nat), .int .i64 (F : Nat), .int .i64 (T : Nat), .string (strOfNums X)] 40)) wx))
      case first =>
        go_region_with (first
          | (go_at_fn nx; refine k2.mono ?_; rintro e w2 ⟨rfl, lab2, hj2, hf2⟩; have F2 : Hid (Frm lab1 lab2 (wr.alloc (.cells #[.int .i64 (K : Nat), .int .i64 (F : Nat), .int .i64 (T : Nat), .string (strOfNums X)] 40)) w2) := (below_frm (Below.refl _ _).drew).trans hf2; have J2 : Hid (y = 0 → JMX B lab2 w2 g s2) := hj2; clear hj2 hf2)
          | (go_at_fn nx; refine k1.mono ?_; rintro e w2 ⟨rfl, lab2, hj2, hf2⟩; have F2 : Hid (Frm lab1 lab2 (wr.alloc (.cells #[.int .i64 (K : Nat), .int .i64 (F : Nat), .int .i64 (T : Nat), .string (strOfNums X)] 40)) w2) := hf2; have J2 : Hid (y = 0 → JMX B lab2 w2 g s2) := hj2; clear hj2 hf2))
        all_goals (go_wp2_with fail; go_meet; exact ⟨rfl, lab2, J2, F2⟩)
      case rest =>
        obtain ⟨rfl, lab2, J2, F2⟩ := hcut
        have z3 : Hid (Frm lab lab2 W wc) := HF.out.1.trans ((below_frm BA.out).trans F2.out)
        by_cases hy : y = 0
        · subst hy
          have LP : Hid (LpS B lab W wc g s LL (i + 1)) := ⟨lab2, s2, HF.out.2.1.trans (HF.out.2.2.trans ((readT_cons_ok (t := ⟨K, F, T, X⟩) (by show (stepA s1 K (strOfNums X)).2 = 0; rw [hst'.out])).trans (by show readT (stepA s1 K (strOfNums X)).1 _ = _; rw [hst'.out]))), KS.out.1, KS.out.2, J2.out rfl, z3.out⟩
          have wi : IntKind.i64.wrap ((i : Int) + 1) = (i : Int) + 1 := by rw [IntKind.wrap_i64]; omega
          clear q0 q1 q2 q3 d0 d1 d2 d3 c1 k1 k2 en
          go_wp2
          go_roundw
          case rel => exact ⟨i + 1, by omega, by go_num, LP⟩
          case measure => simp [intOf]; omega
        · have p1 : wc.cell? ⟨wr.heap.size, 1, none⟩ = some (.int .i64 (F : Nat)) := by
            have hk : wr.heap.size < (wr.alloc (.cells #[.int .i64 (K : Nat), .int .i64 (F : Nat), .int .i64 (T : Nat), .string (strOfNums X)] 40)).heap.size := by simp
            have := (F2.out.rest wr.heap.size hk (L1.out _ (Nat.le_refl _))).2
            rw [← d1]
            simp only [World.cell?, this]
          have l0 : lab w.heap.size = 0 := (jmx_cell J0.out.1).2.2.2.2 _ (Nat.le_refl _)
          have p4 : Blk wc w.heap.size #[.int .i64 0, .int .i64 0] 29 := (z3.out.rest w.heap.size K4.out.lt l0).2.trans K4.out
          have p40 := p4.cell 0
          have p41 := p4.cell 1
          have v0 := p4.fz 0
          have v1 := p4.fz 1
          have P4 : Hid (Blk ((wc.setCell ⟨w.heap.size, 0, none⟩ (.int .i64 y)).setCell ⟨w.heap.size, 1, none⟩ (.int .i64 (F : Nat))) w.heap.size #[.int .i64 y, .int .i64 (F : Nat)] 29) := (p4.set 0 (.int .i64 y)).set 1 (.int .i64 (F : Nat))
          have r0 := P4.out.cell 0
          have r1 := P4.out.cell 1
          have hra : Hid (RA = (s1, y, F)) := by
            show _ = _
            have e2 : readT s (lexW zs).1 = (s1, y, F) := by
              rw [hR'.out]
              refine HF.out.2.1.trans (HF.out.2.2.trans ((readT_cons_bad (t := ⟨K, F, T, X⟩) (by show (stepA s1 K (strOfNums X)).2 ≠ 0; rw [hst'.out]; exact hy)).trans ?_))
              show (s1, (stepA s1 K (strOfNums X)).2, F) = _
              rw [hst'.out]
            rw [← hRA'.out]
            unfold readA
            rw [e2, if_pos hy]
          have z4 : Hid (Frm lab lab2 w ((wc.setCell ⟨w.heap.size, 0, none⟩ (.int .i64 y)).setCell ⟨w.heap.size, 1, none⟩ (.int .i64 (F : Nat)))) := by
            have z5 := (below_frm (lab := lab) A1.out).trans z3.out
            refine ⟨z5.os, z5.tape, z5.output, by rw [set_size, set_size]; exact z5.size, fun k hk hl => ?_⟩
            rw [setk (by omega), setk (by omega)]
            exact z5.rest k hk hl
          clear q0 q1 q2 q3 d0 d1 d2 d3 c1 k1 k2 en
          have hyb : (y != 0) = true := by simpa using hy
          go_wp2
          refine bodyPost_ret (v := .agg #[.int .i64 y, .int .i64 (F : Nat)]) (by simp [results, Tryz.results18, go_sem, *]) rfl ⟨by rw [hra.out], lab2, fun q => absurd (by rw [hra.out] at q; exact q) hy, z4.out⟩
    · have hz : ¬ (i : Int) < (m : Int) := by omega
      obtain rfl : i = m := by omega
      obtain ⟨lab1, s1, e1, f1, n1, j1, fr1⟩ := hS.out
      rw [List.drop_eq_nil_of_le (by rw [hm'.out]; exact Nat.le_refl _)] at e1
      have E1 : Hid (readT s LL = (s1, 0, 0)) := e1
      have lab0 : ∀ k, w.heap.size ≤ k → lab k = 0 := (jmx_cell J0.out.1).2.2.2.2
      obtain ⟨_, c5, g1, gl1, hi1⟩ := jmx_cell j1
      have p6 : Blk wr w1.heap.size #[.int .i64 (Y : Nat), .int .i64 (A : Nat)] 29 := (fr1.rest w1.heap.size K6.out.lt (lab0 _ (by have := H1.out; omega))).2.trans K6.out
      have p4 : Blk wr w.heap.size #[.int .i64 0, .int .i64 0] 29 := (fr1.rest w.heap.size K4.out.lt (lab0 _ (Nat.le_refl _))).2.trans K4.out
      have l4 : lab1 w.heap.size = 0 := (fr1.rest w.heap.size K4.out.lt (lab0 _ (Nat.le_refl _))).1
      have c60 := p6.cell 0
      have c61 := p6.cell 1
      have p40 := p4.cell 0
      have p41 := p4.cell 1
      have v0 := p4.fz 0
      have v1 := p4.fz 1
      have P4 : Hid (∀ u v : Int, Blk ((wr.setCell ⟨w.heap.size, 0, none⟩ (.int .i64 u)).setCell ⟨w.heap.size, 1, none⟩ (.int .i64 v)) w.heap.size #[.int .i64 u, .int .i64 v] 29) := fun u v => (p4.set 0 (.int .i64 u)).set 1 (.int .i64 v)
      have JP : Hid (∀ u v : Int, JMX B lab1 ((wr.setCell ⟨w.heap.size, 0, none⟩ (.int .i64 u)).setCell ⟨w.heap.size, 1, none⟩ (.int .i64 v)) g s1) := fun u v => jmx_put (jmx_put j1 p4 l4 0 _) (x := u) (y := 0) (T := 29) (p4.set 0 (.int .i64 u)) l4 1 _
      have Z4 : Hid (∀ u v : Value, Frm lab lab1 w ((wr.setCell ⟨w.heap.size, 0, none⟩ u).setCell ⟨w.heap.size, 1, none⟩ v)) := fun u v => by
        have z5 := (below_frm (lab := lab) A1.out).trans fr1
        refine ⟨z5.os, z5.tape, z5.output, by rw [set_size, set_size]; exact z5.size, fun k hk hl => ?_⟩
        rw [setk (by omega), setk (by omega)]
        exact z5.rest k hk hl
      have hra : Hid (RA = if Y = 0 ∧ s1.ended = false then (s1, 3, n) else (s1, ((Y : Nat) : Int), A)) := by
        show _ = _
        rw [← hRA'.out]
        unfold readA
        rw [hR'.out, E1.out, if_neg (by simp), J0.out.2.2.2.2]
      clear e1 f1 n1 j1 fr1 p6 p4 hS hi1
      by_cases hY : Y = 0
      · subst hY
        cases hE : s1.ended with
        | false =>
          rw [hE] at c5
          have r0 := (P4.out 3 n).cell 0
          have r1 := (P4.out 3 n).cell 1
          have hr2 : Hid (RA = (s1, 3, n)) := by show _ = _; rw [hra.out, if_pos ⟨rfl, hE⟩]
          go_wp2
          refine bodyPost_ret (v := .agg #[.int .i64 3, .int .i64 (n : Nat)]) (by simp [results, Tryz.results18, go_sem, *]) rfl ⟨by rw [hr2.out], lab1, fun q => by rw [hr2.out] at q; simp at q, Z4.out _ _⟩
        | true =>
          rw [hE] at c5
          have r0 := (P4.out ((0 : Nat) : Int) (A : Nat)).cell 0
          have r1 := (P4.out ((0 : Nat) : Int) (A : Nat)).cell 1
          have hr2 : Hid (RA = (s1, 0, A)) := by show _ = _; rw [hra.out, if_neg (by rw [hE]; simp)]; rfl
          go_wp2
          refine bodyPost_ret (v := .agg #[.int .i64 ((0 : Nat) : Int), .int .i64 (A : Nat)]) (by simp [results, Tryz.results18, go_sem, *]) rfl ⟨by rw [hr2.out]; rfl, lab1, fun q => by rw [hr2.out]; exact JP.out _ _, Z4.out _ _⟩
      · have hyb : (((Y : Nat) : Int) == 0) = false := by simp; exact hY
        have r0 := (P4.out (Y : Nat) (A : Nat)).cell 0
        have r1 := (P4.out (Y : Nat) (A : Nat)).cell 1
        have hr2 : Hid (RA = (s1, ((Y : Nat) : Int), A)) := by show _ = _; rw [hra.out, if_neg (fun q => hY q.1)]
        go_wp2
        refine bodyPost_ret (v := .agg #[.int .i64 (Y : Nat), .int .i64 (A : Nat)]) (by simp [results, Tryz.results18, go_sem, *]) rfl ⟨by rw [hr2.out], lab1, fun q => by rw [hr2.out]; exact JP.out _ _, Z4.out _ _⟩
end Go.Proofs.YtmlacmoembjeoaaGreatDoor
namespace Go.Proofs.YtmlacmoembjeoaaGreatDoor
open Go.RowKit
set_option linter.unusedVariables false
theorem ordr_len {zs : List Int} : ∀ (L : List Tk) (p : Nat), p ≤ zs.length → Ordr zs p L → p + L.length ≤ zs.length := by
  intro L
  induction L with
  | nil => intro p hp _; simpa using hp
  | cons t L ih =>
    intro p hp h
    obtain ⟨h1, h2, h3, _, _, _, h7⟩ := h
    have := ih t.to h3 h7
    rw [List.length_cons]
    omega
theorem lexW_few (zs : List Int) : (lexW zs).1.length ≤ 4096 := by
  unfold lexW
  by_cases h : zs.length ≤ 4096
  · rw [if_pos h]
    have := ordr_len _ 0 (Nat.zero_le _) (lex_order zs zs 0 rfl (Nat.zero_le _)).1
    omega
  · rw [if_neg h]; simp
end Go.Proofs.YtmlacmoembjeoaaGreatDoor
namespace Go.Proofs.YtmlacmoembjeoaaGreatDoor
open Go.RowKit
set_option linter.unusedVariables false
/-- What is known of a string's reader. -/
def RJ (s : RS) : Prop := (runesL s.txt).2 = none ∧ (∀ c ∈ s.txt, 0 ≤ c ∧ c < 256) ∧ (s.fst = 0 ∨ (55296 ≤ s.fst ∧ s.fst < 56320)) ∧ s.dig ≤ 3 ∧ s.num < 16 ^ s.dig ∧ (s.q ≤ 1 → s.fst = 0)
theorem rj_txt {x : List Int} {r : Nat} (h : (runesL x).2 = none) (hz : ∀ c ∈ x, 0 ≤ c ∧ c < 256) (hr : Right r) : (runesL (x ++ encL r)).2 = none ∧ ∀ c ∈ x ++ encL r, 0 ≤ c ∧ c < 256 := by
  refine ⟨?_, fun c hc => ?_⟩
  · rw [runes_append x (encL r) h]
    have := runes_enc hr []
    rw [List.append_nil] at this
    rw [this]
    rfl
  · rcases List.mem_append.1 hc with hc | hc
    · exact hz c hc
    · exact enc_bytes hr c hc
theorem hexD_lt {r d : Nat} (h : hexD r = some d) : d < 16 := by
  unfold hexD at h
  split at h
  · cases h; omega
  split at h
  · cases h; omega
  split at h
  · cases h; omega
  · cases h
theorem shortM_lt {r m : Nat} (h : shortM r = some m) : m < 128 := by
  unfold shortM at h
  repeat' split at h
  all_goals first | (cases h; omega) | cases h
theorem rj_put {s : RS} {r : Nat} (h : RJ s) (hr : Right r) (hq : s.q ≤ 1) : RJ (putR s r) := by
  obtain ⟨h1, h2, h3, h4, h5, h6⟩ := h
  obtain ⟨g1, g2⟩ := rj_txt h1 h2 hr
  exact ⟨g1, g2, h3, h4, h5, fun _ => h6 hq⟩
theorem rj_dig {s : RS} {d : Nat} (h : RJ s) (hd : d < 16) (h6 : (digR s d).q ≠ 6) : RJ (digR s d) := by
  obtain ⟨h1, h2, h3, h4, h5, _⟩ := h
  unfold digR at h6 ⊢
  by_cases m0 : mayGo s.fst (s.num * 16 + d) (s.dig + 1) = false
  · rw [if_pos m0] at h6; exact absurd rfl h6
  rw [if_neg m0]
  have hp : 16 ^ (s.dig + 1) = 16 ^ s.dig * 16 := Nat.pow_succ 16 s.dig
  by_cases m1 : s.dig + 1 < 4
  · rw [if_pos m1]
    exact ⟨h1, h2, h3, by show s.dig + 1 ≤ 3; omega, by show s.num * 16 + d < 16 ^ (s.dig + 1); omega, fun q => absurd (show 2 ≤ 1 from q) (by decide)⟩
  rw [if_neg m1]
  have hdig : s.dig = 3 := by omega
  rw [hdig] at h5 m0
  have hn : s.num * 16 + d < 65536 := by omega
  have m0' : mayGo s.fst (s.num * 16 + d) 4 = true := by simpa using m0
  unfold mayGo at m0'
  rw [show 16 ^ (4 - 4) = 1 from rfl, Nat.mul_one, Nat.mul_one] at m0'
  by_cases f0 : s.fst ≠ 0
  · rw [if_pos f0]
    rw [if_neg f0] at m0'
    simp at m0'
    rcases h3 with h3 | h3
    · exact absurd h3 f0
    obtain ⟨g1, g2⟩ := rj_txt h1 h2 (r := 65536 + (s.fst - 55296) * 1024 + (s.num * 16 + d) - 56320) ⟨by omega, by omega⟩
    exact ⟨g1, g2, .inl rfl, by show 0 ≤ 3; omega, by show 0 < 16 ^ 0; omega, fun _ => rfl⟩
  rw [if_neg f0]
  have f0' : s.fst = 0 := by omega
  rw [if_pos f0'] at m0'
  simp at m0'
  by_cases g : 55296 ≤ s.num * 16 + d ∧ s.num * 16 + d < 57344
  · rw [if_pos g]
    exact ⟨h1, h2, .inr ⟨g.1, by show s.num * 16 + d < 56320; omega⟩, by show 0 ≤ 3; omega, by show 0 < 16 ^ 0; omega, fun q => absurd (show 3 ≤ 1 from q) (by decide)⟩
  · rw [if_neg g]
    obtain ⟨g1, g2⟩ := rj_txt h1 h2 (r := s.num * 16 + d) ⟨by omega, by omega⟩
    exact ⟨g1, g2, .inl rfl, by show 0 ≤ 3; omega, by show 0 < 16 ^ 0; omega, fun _ => rfl⟩
theorem rj_take {s : RS} {r : Nat} (h : RJ s) (hr : Right r) (h6 : (takeR s r).q ≠ 6) : RJ (takeR s r) := by
  have hs : ∀ q, (q ≤ 1 → s.fst = 0) → RJ ⟨q, s.num, s.dig, s.fst, s.txt⟩ := fun q hq => ⟨h.1, h.2.1, h.2.2.1, h.2.2.2.1, h.2.2.2.2.1, hq⟩
  have hf := h.2.2.2.2.2
  unfold takeR at h6 ⊢
  by_cases q0 : s.q = 0
  · rw [if_pos q0] at h6 ⊢
    have f0 := hf (by omega)
    split
    · exact hs _ fun _ => f0
    split
    · exact hs _ fun _ => f0
    split
    · exact hs _ fun _ => f0
    · exact rj_put h hr (by omega)
  rw [if_neg q0] at h6 ⊢
  by_cases q1 : s.q = 1
  · rw [if_pos q1] at h6 ⊢
    have f0 := hf (by omega)
    split
    · exact hs _ fun _ => f0
    split
    · exact rj_put h ⟨by omega, by omega⟩ (by omega)
    split
    · rename_i m hm
      have := shortM_lt hm
      exact rj_put h ⟨by omega, by omega⟩ (by omega)
    · exact hs _ fun _ => f0
  rw [if_neg q1] at h6 ⊢
  by_cases q2 : s.q = 2
  · rw [if_pos q2] at h6 ⊢
    cases hd : hexD r with
    | some d =>
      rw [hd] at h6
      exact rj_dig h (hexD_lt hd) h6
    | none => exact hs _ fun q => absurd q (by decide)
  rw [if_neg q2] at h6 ⊢
  split
  · exact hs _ fun q => by split at q <;> omega
  split
  · exact hs _ fun q => by split at q <;> omega
  · exact h
/-- What a begun escape has taken. -/
def cR (s : RS) : Nat := if s.q = 1 then 1 else if s.q = 2 then (if s.fst = 0 then 2 else 5) else if s.q = 3 then 3 else if s.q = 4 then 4 else 0
theorem cR_mk (q a b f : Nat) (x : List Int) : cR ⟨q, a, b, f, x⟩ = if q = 1 then 1 else if q = 2 then (if f = 0 then 2 else 5) else if q = 3 then 3 else if q = 4 then 4 else 0 := rfl
theorem lenR_small {r : Nat} (h : r < 128) : lenR r = 1 := by unfold lenR; rw [if_pos h]
theorem lenR_three {r : Nat} (h : r < 65536) : lenR r ≤ 3 := by
  unfold lenR
  repeat' split
  all_goals omega
theorem dig_pot {s : RS} {d r : Nat} (h : RJ s) (hd : d < 16) (hq : s.q = 2) (h6 : (digR s d).q ≠ 6) : (digR s d).txt.length + cR (digR s d) ≤ s.txt.length + cR s + 1 := by
  obtain ⟨h1, h2, h3, h4, h5, _⟩ := h
  have hc : cR s = if s.fst = 0 then 2 else 5 := by unfold cR; rw [if_neg (by omega), if_pos hq]
  unfold digR at h6 ⊢
  by_cases m0 : mayGo s.fst (s.num * 16 + d) (s.dig + 1) = false
  · rw [if_pos m0] at h6; exact absurd rfl h6
  rw [if_neg m0]
  by_cases m1 : s.dig + 1 < 4
  · rw [if_pos m1, cR_mk, hc, if_neg (by decide), if_pos rfl]
    show s.txt.length + _ ≤ _
    omega
  rw [if_neg m1]
  have hdig : s.dig = 3 := by omega
  rw [hdig] at h5
  have hn : s.num * 16 + d < 65536 := by omega
  by_cases f0 : s.fst ≠ 0
  · rw [if_pos f0, cR_mk, hc, if_neg f0]
    have := (lenR_le (65536 + (s.fst - 55296) * 1024 + (s.num * 16 + d) - 56320)).2
    generalize 65536 + (s.fst - 55296) * 1024 + (s.num * 16 + d) - 56320 = R at *
    show (s.txt ++ encL R).length + 0 ≤ s.txt.length + 5 + 1
    rw [List.length_append, enc_lenR]
    omega
  have f0' : s.fst = 0 := by omega
  rw [if_pos f0'] at hc
  rw [if_neg f0, hc]
  by_cases g : 55296 ≤ s.num * 16 + d ∧ s.num * 16 + d < 57344
  · rw [if_pos g]
    show s.txt.length + 3 ≤ s.txt.length + 2 + 1
    omega
  · rw [if_neg g]
    have := lenR_three hn
    generalize s.num * 16 + d = R at *
    show (s.txt ++ encL R).length + 0 ≤ s.txt.length + 2 + 1
    rw [List.length_append, enc_lenR]
    omega
theorem put_pot (s : RS) (r : Nat) : (putR s r).txt.length + cR (putR s r) = s.txt.length + lenR r := by
  unfold putR
  rw [cR_mk]
  simp [enc_lenR]
theorem take_pot {s : RS} {r : Nat} (h : RJ s) (h6 : (takeR s r).q ≠ 6) : (takeR s r).txt.length + cR (takeR s r) ≤ s.txt.length + cR s + lenR r := by
  have hl := (lenR_le r).1
  unfold takeR at h6 ⊢
  by_cases q0 : s.q = 0
  · rw [if_pos q0] at h6 ⊢
    have hc : cR s = 0 := by unfold cR; rw [if_neg (by omega), if_neg (by omega), if_neg (by omega), if_neg (by omega)]
    rw [hc]
    split
    · rw [cR_mk]; simp
    split
    · rw [cR_mk]; simp; omega
    split
    · rw [cR_mk]; simp
    · rw [put_pot]; omega
  rw [if_neg q0] at h6 ⊢
  by_cases q1 : s.q = 1
  · rw [if_pos q1] at h6 ⊢
    have hc : cR s = 1 := by unfold cR; rw [if_pos q1]
    rw [hc]
    split
    · have f0 := h.2.2.2.2.2 (by omega)
      rw [cR_mk, if_neg (by decide), if_pos rfl, if_pos f0]
      show s.txt.length + 2 ≤ _
      omega
    split
    · rw [put_pot, lenR_small (r := 47) (by decide)]; omega
    split
    · rename_i m hm
      rw [put_pot, lenR_small (shortM_lt hm)]; omega
    · rw [cR_mk]; simp; omega
  rw [if_neg q1] at h6 ⊢
  by_cases q2 : s.q = 2
  · rw [if_pos q2] at h6 ⊢
    cases hd : hexD r with
    | some d =>
      rw [hd] at h6
      have := dig_pot (r := r) h (hexD_lt hd) q2 h6
      simp only
      omega
    | none => rw [hd] at h6; exact absurd rfl h6
  rw [if_neg q2] at h6 ⊢
  by_cases q3 : s.q = 3
  · rw [if_pos q3] at h6 ⊢
    have hc : cR s = 3 := by unfold cR; rw [if_neg (by omega), if_neg (by omega), if_pos q3]
    rw [hc, cR_mk]
    split <;> simp <;> omega
  rw [if_neg q3] at h6 ⊢
  by_cases q4 : s.q = 4
  · rw [if_pos q4] at h6 ⊢
    have hc : cR s = 4 := by unfold cR; rw [if_neg (by omega), if_neg (by omega), if_neg (by omega), if_pos q4]
    rw [hc, cR_mk]
    by_cases e : r = 117
    · rw [if_pos e]
      simp only
      split <;> simp <;> (try split) <;> omega
    · rw [if_neg e]; simp; omega
  rw [if_neg q4]
  omega
/-- A string's bytes. -/
theorem str_text (b : List Int) : ∀ (p : Nat) (s : RS), RJ s → (strL b p s).2.2.1 = 0 → (runesL (strL b p s).1).2 = none ∧ (∀ c ∈ (strL b p s).1, 0 ≤ c ∧ c < 256) ∧ (strL b p s).1.length ≤ s.txt.length + cR s + b.length := by
  induction b using text_ind with
  | nil => intro p s _ h; rw [str_nil] at h; simp at h
  | good b h0 h ih =>
    intro p s hj hw
    have hg := good_ne h h0
    have hl := val_lenR h
    by_cases h5 : (takeR s (valB b)).q = 5
    · have := rj_take hj (good_right h) (by omega)
      have ht := take_pot (r := valB b) hj (by omega)
      rw [str_all h0 h h5]
      exact ⟨this.1, this.2.1, by show (takeR s (valB b)).txt.length ≤ _; omega⟩
    by_cases h6 : (takeR s (valB b)).q = 6
    · rw [str_wrong h0 h h6] at hw; simp at hw
    have ht := take_pot (r := valB b) hj h6
    rw [str_on h0 h h5 h6] at hw ⊢
    obtain ⟨i1, i2, i3⟩ := ih (p + lenB b) _ (rj_take hj (good_right h) h6) hw
    rw [List.length_drop] at i3
    exact ⟨i1, i2, by omega⟩
  | bad b h0 h =>
    intro p s _ hw
    rw [str_bad h0 h] at hw
    exfalso
    have hw' : (brkR b p (s.q == 0)).1 = 0 := hw
    unfold brkR at hw'
    revert hw'
    repeat' split
    all_goals simp
/-- What is known of a token's text. -/
def TkOK (N : Nat) (t : Tk) : Prop := t.txt.length ≤ N ∧ (t.kind = 7 → (runesL t.txt).2 = none ∧ ∀ c ∈ t.txt, 0 ≤ c ∧ c < 256)
theorem r0_rj : RJ r0 := ⟨rfl, fun c hc => by simp [r0] at hc, .inl rfl, by decide, by decide, fun _ => rfl⟩
theorem wrdT_txt (kind : Nat) (w b : List Int) (p : Nat) : (wrdT kind w b p).1.txt = [] ∧ ((wrdT kind w b p).1.kind = kind ∨ (wrdT kind w b p).1.kind = 0) := by
  unfold wrdT
  split
  · exact ⟨rfl, .inl rfl⟩
  · exact ⟨rfl, .inr rfl⟩
theorem tok_text {b : List Int} (h0 : b ≠ []) (p : Nat) (h : (tokR b p).2.1 = 0) : TkOK b.length (tokR b p).1 := by
  unfold tokR at h ⊢
  have hw : ∀ k w, k ≠ 7 → TkOK b.length (wrdT k w b p).1 := fun k w hk => by
    obtain ⟨e, e2⟩ := wrdT_txt k w b p
    exact ⟨by rw [e]; simp, fun h7 => by rcases e2 with e2 | e2 <;> omega⟩
  split
  · have := sign_le (b.getD 0 0)
    exact ⟨by simp, fun h7 => by have h7' : signN (b.getD 0 0) = 7 := h7; omega⟩
  split
  · rename_i h1 h2
    rw [if_neg h1, if_pos h2] at h
    obtain ⟨g1, g2, g3⟩ := str_text (b.drop 1) (p + 1) r0 r0_rj h
    rw [List.length_drop] at g3
    have e0 : r0.txt.length = 0 := rfl
    have e1 : cR r0 = 0 := rfl
    exact ⟨by show (strL (b.drop 1) (p + 1) r0).1.length ≤ _; omega, fun _ => ⟨g1, g2⟩⟩
  split
  · unfold nuT
    split
    · refine ⟨?_, fun h7 => ?_⟩
      · show (b.take _).length ≤ _
        rw [List.length_take]; omega
      · exact absurd (show (8 : Nat) = 7 from h7) (by decide)
    · split
      · exact ⟨by simp [z0], fun h7 => absurd (show (0 : Nat) = 7 from h7) (by decide)⟩
      · exact ⟨by simp [z0], fun h7 => absurd (show (0 : Nat) = 7 from h7) (by decide)⟩
  split
  · exact hw 9 _ (by decide)
  split
  · exact hw 10 _ (by decide)
  split
  · exact hw 11 _ (by decide)
  · exact ⟨by simp [z0], fun h7 => absurd (show (0 : Nat) = 7 from h7) (by decide)⟩
theorem tkOK_mono {N N' : Nat} {t : Tk} (h : TkOK N t) (hn : N ≤ N') : TkOK N' t := ⟨by have := h.1; omega, h.2⟩
theorem lex_text (b : List Int) (p : Nat) : ∀ t ∈ (lexA b p).1, TkOK b.length t := by
  induction b, p using lex_ind with
  | nil b p h => intro t ht; rw [lex_end h] at ht; simp at ht
  | bad b p h h2 => intro t ht; rw [lex_bad h h2] at ht; simp at ht
  | tok b p h h2 ih =>
    intro t ht
    rw [lex_tok h h2] at ht
    rcases List.mem_cons.1 ht with rfl | ht
    · exact tkOK_mono (tok_text h _ h2) (by rw [List.length_drop]; omega)
    · exact tkOK_mono (ih t ht) (by rw [List.length_drop]; omega)
/-- The tokens of any bytes. -/
theorem lexW_text (zs : List Int) : ∀ t ∈ (lexW zs).1, TkOK 4096 t := by
  intro t ht
  unfold lexW at ht
  by_cases h : zs.length ≤ 4096
  · rw [if_pos h] at ht
    exact tkOK_mono (lex_text zs 0 t ht) h
  · rw [if_neg h] at ht; simp at ht
theorem strOfNums_size (l : List Int) : (strOfNums l).size = l.length := by simp [strOfNums, ByteArray.size]
theorem lexW_short (zs : List Int) : ∀ t ∈ (lexW zs).1, (strOfNums t.txt).size ≤ 140737488351232 := fun t ht => by
  have := (lexW_text zs t ht).1
  rw [strOfNums_size]
  omega
end Go.Proofs.YtmlacmoembjeoaaGreatDoor
namespace Go.Proofs.YtmlacmoembjeoaaGreatDoor
open Go.RowKit
theorem field_why (x y : Value) (w : World) : Sem.run Tryz.prog (Instr.field 29 (.agg #[x, y]) 0) w = .ok x w := by
  have t1 := Tryz.underlying29
  simp [Instr.field, run_underlying t1, asAgg, part, go_sem, Tryz.isAgg27, Tryz.sizeOf27]
end Go.Proofs.YtmlacmoembjeoaaGreatDoor
namespace Go.Proofs.YtmlacmoembjeoaaGreatDoor
open Go.RowKit
set_option linter.unusedVariables false
theorem frm_below {lab lab' : Nat → Nat} {w w' : World} {B : Nat} (h : Frm lab lab' w w') (hB : B ≤ w.heap.size) (hl : ∀ k, k < B → lab k = 0) : Below B w w' := ⟨h.os, h.tape, h.output, h.size, fun k hk => (h.rest k (by omega) (hl k hk)).2⟩
/-- A new reader reads. -/
theorem read_new (free : Bool) {w : World} {g B : Nat} (h : RBox w g free 27 none 0 0 0 zN false) (hB : B ≤ g) (a : Option Addr) (n cap : Nat) (zs : List Int) (hl : zs.length = n) (hb : Bytes w a zs) (hc : n ≤ cap) (hsm : n ≤ 140737488351232) :
    Calls Tryz.prog 18 #[.pointer (some ⟨g, 0, none⟩), .slice a n cap] w fun e w' => e = .returned (.agg #[.int .i64 (readA (newS free) zs).2.1, .int .i64 ((readA (newS free) zs).2.2 : Nat)]) ∧ ((readA (newS free) zs).2.1 = 0 → ∃ lab', JMX B lab' w' g (readA (newS free) zs).1) ∧ (∀ k, k < w.heap.size → k ≠ g → w'.heap[k]? = w.heap[k]?) ∧ Below B w w' := by
  refine (read_loop (jmx_new free h hB) (new_nxt free) (new_few free) (by have := h.lt; omega) a n cap zs hl hb hc hsm (lexW_short zs) (lexW_few zs)).mono ?_
  rintro e w' ⟨h1, lab', h2, h3⟩
  exact ⟨h1, fun q => ⟨lab', h2 q⟩, fun k hk hn => (h3.rest k hk (if_neg hn)).2, frm_below h3 (by have := h.lt; omega) fun k hk => if_neg (by omega)⟩
set_option maxHeartbeats 1000000 in
set_option maxRecDepth 100000 in
/-- jread.Valid. -/
theorem rvalid_any (a : Option Addr) (n cap : Nat) (zs : List Int) (w : World) (hl : zs.length = n) (hb : Bytes w a zs) (hc : n ≤ cap) (hsm : n ≤ 140737488351232) :
    Calls Tryz.prog 13 #[.slice a n cap] w fun e w' => e = .returned (.bool (decide ((readA (newS true) zs).2.1 = 0))) ∧ Below w.heap.size w w' := by
  have k1 := new_any w
  have kR : Hid (∀ w1 g, RBox w1 g true 27 none 0 0 0 zN false → w.heap.size ≤ g → Below w.heap.size w w1 → Calls Tryz.prog 18 #[.pointer (some ⟨g, 0, none⟩), .slice a n cap] w1 fun e w' => e = .returned (.agg #[.int .i64 (readA (newS true) zs).2.1, .int .i64 ((readA (newS true) zs).2.2 : Nat)]) ∧ Below w.heap.size w1 w') := fun w1 g h hg hw =>
    (read_new true h hg a n cap zs hl (hb.kept hw) hc hsm).mono fun e w' ⟨q1, _, _, q2⟩ => ⟨q1, q2⟩
  obtain ⟨X, hX⟩ : ∃ X, (readA (newS true) zs).2.1 = X := ⟨_, rfl⟩
  obtain ⟨Y, hY⟩ : ∃ Y, (readA (newS true) zs).2.2 = Y := ⟨_, rfl⟩
  rw [hX, hY] at kR
  rw [hX]
  have hfw := fun (x y : Value) (w : World) => field_why x y w
  clear hX hY hl hb hc hsm
  go_enter Tryz.func13, Tryz.ntmps13
  go_wp2_with (first
    | (go_at_call 17; refine k1.mono ?_; rintro e w1 ⟨rfl, hr1, hb1, hs1⟩; clear k1; have c0 := hr1.fields.1; have f0 := hr1.fz 0; have k2 := kR.out _ _ (hr1.set (free' := true) (nx' := 27) (ao' := none) (no' := 0) (co' := 0) (nodes' := 0) (r' := zN) (ended' := false) 0 (.bool true) rfl) (Nat.le_refl _) (hb1.setCell (p := ⟨w.heap.size, 0, none⟩) (Nat.le_refl _) (.bool true)); have B1 : Hid (Below w.heap.size w (w1.setCell ⟨w.heap.size, 0, none⟩ (.bool true))) := hb1.setCell (p := ⟨w.heap.size, 0, none⟩) (Nat.le_refl _) (.bool true); clear hr1 hb1 hs1)
    | (go_at_call 18; refine k2.mono ?_; rintro e w2 ⟨rfl, hb2⟩))
  go_ret
  exact ⟨rfl, B1.out.trans hb2⟩
end Go.Proofs.YtmlacmoembjeoaaGreatDoor
namespace Go.Proofs.YtmlacmoembjeoaaGreatDoor
end Go.Proofs.YtmlacmoembjeoaaGreatDoor
namespace Go.Proofs.YtmlacmoembjeoaaGreatDoor
end Go.Proofs.YtmlacmoembjeoaaGreatDoor
namespace Go.Proofs.YtmlacmoembjeoaaGreatDoor
open Go.RowKit
set_option linter.unusedVariables false

theorem nbox_setc {w : World} {g : Nat} {b b' : Nb} (h : NBox w g b) (j : Nat) (v : Value) (hv : b'.arr = b.arr.setIfInBounds j v) : NBox (w.setCell ⟨g, j, none⟩ v) g b' := by
  unfold NBox
  rw [heap_setCell_same w g j b.arr 26 v h, hv]
end Go.Proofs.YtmlacmoembjeoaaGreatDoor
namespace Go.Proofs.YtmlacmoembjeoaaGreatDoor
set_option linter.unusedVariables false

namespace Tr
/-- Is all else zero? -/
def clean (t : Tr) : Bool :=
  (decide (t.kind = 1 ∨ t.kind = 4 ∨ t.kind = 9 ∨ t.kind = 10) || decide (t.num = 0)) &&
  (decide (t.kind = 2 ∨ t.kind = 3) || (!t.neg && decide (t.dig.size = 0))) &&
  (decide (t.kind = 3) || decide (t.exp = 0)) &&
  (decide (t.kind = 5) || decide (t.txt.size = 0)) &&
  (decide (t.kind = 6) || decide (t.bytes.length = 0)) &&
  (decide (t.kind = 8) || decide (t.keys.length = 0)) &&
  (decide (t.kind = 7 ∨ t.kind = 8 ∨ t.kind = 9) || decide (t.kids.length = 0))
theorem mk_eq {t u : Tr} (h0 : t.kind = u.kind) (h1 : t.num = u.num) (h2 : t.neg = u.neg) (h3 : t.dig = u.dig) (h4 : t.exp = u.exp) (h5 : t.txt = u.txt) (h6 : t.bytes = u.bytes) (h7 : t.keys = u.keys) (h8 : t.kids = u.kids) : t = u := by
  cases t; cases u
  simp only at *
  subst h0 h1 h2 h3 h4 h5 h6 h7 h8
  rfl
/-- May a Simple have this number? -/
def smp (n : Int) : Bool := decide (n < 20) || decide (n = 23) || (decide (32 ≤ n) && decide (n < 256))
/-- Is a node not of its Kind's form, numbers and texts aside? -/
def odd (t : Tr) : Bool :=
  decide (t.kind < 0) || decide (10 < t.kind) || !t.clean || (decide (t.kind = 1) && decide (1 < t.num)) || (decide (t.kind = 8) && decide (t.keys.length ≠ t.kids.length)) || (decide (t.kind = 9) && decide (t.kids.length ≠ 1)) || (decide (t.kind = 10) && !smp t.num)
/-- THE FAULT OF A NODE, what is in it aside. -/
def alo (gt ri : ByteArray → Bool) (rd : Bool → ByteArray → Int → Bool) (t : Tr) : Int :=
  if (t.kind = 5 ∧ 4096 < t.txt.size) ∨ (t.kind = 6 ∧ 4096 < t.bytes.length) then 8
  else if t.kind = 5 ∧ gt t.txt = false then 6
  else if t.kind = 2 ∧ (ri t.dig = false ∨ (t.neg = true ∧ t.dig = ⟨#[48]⟩)) then 11
  else if t.kind = 3 ∧ rd t.neg t.dig t.exp = false then 11
  else if t.odd = true then 12 else 0
end Tr
end Go.Proofs.YtmlacmoembjeoaaGreatDoor
namespace Go.Proofs.YtmlacmoembjeoaaGreatDoor
open Go.RowKit
set_option linter.unusedVariables false

theorem room_nil (k : Nat) : Room k none 0 0 := ⟨Nat.le_refl _, Nat.zero_le _, fun _ => rfl, by simp⟩
theorem rowN_nil (Q : Nb → Tr → Prop) (w : World) : RowN Q w none 0 0 [] := ⟨rfl, room_nil _, .inl rfl⟩
theorem bytes_nil (w : World) : Bytes w none [] := ⟨by simp, by simp, .inl rfl⟩
theorem nd_zero (D : Nat) (w : World) : Nd (D + 1) w zN zT := ⟨⟨rfl, rfl, rfl, rfl, rfl, rfl⟩, ⟨by decide, by decide, by decide, by decide, by decide⟩, ⟨rfl, room_nil _, bytes_nil w⟩, rowN_nil _ _, rowN_nil _ _⟩
end Go.Proofs.YtmlacmoembjeoaaGreatDoor
