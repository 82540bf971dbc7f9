/-
  The document's depth, and when it says that trees are the same: deep, same.
  The document's Few, Size, Deep, Same, and both.
  What is wrong with a tree, as the document's call tells it: gantlineref08.Check.
  A tree has its text.
  A tree's text, or why it has none: the document's Print and Can; the walk of both beside each other.
  A tree's text is the document's: the walk.
-/
import Derived.Test.YtelabgonpmafpaaGreatDoorP12
import Derived.Test.YtelabgonpmafpaaGreatDoorP29
import Derived.Test.YtelabgonpmafpaaGreatDoorP24
import Derived.Test.YtelabgonpmafpaaGreatDoorP2
import Derived.Test.YtelabgonpmafpaaGreatDoorP16
import Derived.Test.YtelabgonpmafpaaGreatDoorP18
import Derived.Test.YtelabgonpmafpaaGreatDoorP20
import Derived.Deep.RegionHeld3
namespace Go.Proofs.YtelabgonpmafpaaGreatDoor
open Go.RowKit
set_option linter.unusedVariables false

def DeepAt (D : Nat) : Prop := ∀ (t : Tr) (b : Nb) (w : World), Nd D w b t → t.size ≤ 1000000 → Calls Tryz.prog 27 #[.agg b.arr] w fun e w' => e = .returned (.int .i64 (t.deep : Nat)) ∧ Below w.heap.size w w'
theorem deeps_le (l : List Tr) : Tr.deeps l ≤ Tr.sizes l := Tr.mx_le fun x hx => by
  obtain ⟨k, hm, rfl⟩ := List.mem_map.1 hx
  exact Nat.le_trans (Tr.deep_size k) (Tr.size_le hm)
theorem deeps_take (l : List Tr) (i : Nat) : Tr.deeps (l.take i) ≤ Tr.sizes l := Nat.le_trans (deeps_le _) (Tr.sizes_take l i)
set_option maxHeartbeats 4000000 in
set_option maxRecDepth 100000 in
theorem deep_step {D : Nat} (ih : DeepAt D) : DeepAt (D + 1) := by
  intro t b w hN hsz
  have hal := alloc_below w (.cells b.arr 26)
  have Q0 : Hid (NBox (w.alloc (.cells b.arr 26)) w.heap.size b) := nbox_new w b
  have B0 : Hid (Below w.heap.size w (w.alloc (.cells b.arr 26))) := hal
  obtain ⟨a0, a1, a2, a3, a4, a5, a6, a7, a8⟩ := (nbox_new w b).fields
  have hNk : Hid (RowN (Nd D w) w b.ak b.lk b.ck t.keys) := hN.2.2.2.1
  have hNi : Hid (RowN (Nd D w) w b.ai b.li b.ci t.kids) := hN.2.2.2.2
  have hlk : Hid (t.keys.length = b.lk) := hN.2.2.2.1.1
  have hli : Hid (t.kids.length = b.li) := hN.2.2.2.2.1
  have mk := hN.2.2.2.1.2.1.1
  have mk' := hN.2.2.2.1.2.1.2.1
  have mi := hN.2.2.2.2.2.1.1
  have mi' := hN.2.2.2.2.2.1.2.1
  unfold maxLen at mk' mi'
  have hse := Tr.size_eq t
  have hS : Hid (Tr.sizes t.keys ≤ 1000000 ∧ Tr.sizes t.kids ≤ 1000000) := ⟨by omega, by omega⟩
  have hd : Hid (t.deep = 1 + max (Tr.deeps t.keys) (Tr.deeps t.kids)) := Tr.deep_eq t
  clear hal hN hse hsz
  go_enter Tryz.func27, Tryz.ntmps27
  go_wp2
  go_loopw [3, 4] (fun s3 s4 wr => ∃ (i : Nat) (M : Nat), i ≤ b.lk ∧ s3 = .int .i64 (M : Nat) ∧ s4 = .int .i64 i ∧ Hid (Below (w.alloc (.cells b.arr 26)).heap.size (w.alloc (.cells b.arr 26)) wr) ∧ Hid (M = Tr.deeps (t.keys.take i))) (fun _ i _ => b.lk - (intOf i).toNat)
  case atStart => exact ⟨0, 0, Nat.zero_le _, rfl, rfl, Below.refl _ _, by show _ = _; rw [List.take_zero]; rfl⟩
  case round =>
    obtain ⟨i, M, him, rfl, rfl, hbl, hM⟩ := hrel
    clear a0 a1 a2 a3 a4 a5 a6 a7 a8
    have Qr := Q0.out.kept hbl.out Q0.out.lt
    have Br : Hid (Below w.heap.size w wr) := B0.out.trans (hbl.out.mono B0.out.size)
    obtain ⟨a0, a1, a2, a3, a4, a5, a6, a7, a8⟩ := Qr.fields
    have hMb : M ≤ 1000000 := by rw [hM.out]; exact Nat.le_trans (deeps_take _ _) hS.out.1
    by_cases hlt : i < b.lk
    · have hz : (i : Int) < (b.lk : Int) := by omega
      have hix : i < t.keys.length := by rw [hlk.out]; exact hlt
      obtain ⟨bk, ok, nk, hak, hck, hNn, hbk⟩ := row_el hNk.out Br.out hix
      obtain ⟨f0, f1, f2, f3, f4, f5, f6, f7, f8⟩ := elem_fields hck
      have kk := ih t.keys[i] nk wr hNn (Nat.le_trans (Tr.size_le (List.getElem_mem hix)) hS.out.1)
      have wi : IntKind.i64.wrap ((i : Int) + 1) = (i : Int) + 1 := by rw [IntKind.wrap_i64]; omega
      have hM' : Hid (max M (t.keys[i]).deep = Tr.deeps (t.keys.take (i + 1))) := by
        show _ = _
        rw [Tr.deeps_snoc _ hix, hM.out]
      generalize (t.keys[i]).deep = E at *
      clear hck hNn hbk
      by_cases hE : M < E
      · have hEz : (M : Int) < (E : Int) := by omega
        have hmx : Hid (max M E = E) := by show _ = _; omega
        clear hE
        go_wp2_with (go_at_call 27; refine kk.mono ?_; rintro e w2 ⟨rfl, hb2⟩)
        try simp only [hak]
        go_roundw
        case rel => exact ⟨i + 1, E, by omega, (by first | rfl | (congr 1; omega)), by go_num, hbl.out.trans (hb2.mono hbl.out.size), by show _ = _; rw [← hM'.out, hmx.out]⟩
        case measure => simp [intOf]; omega
      · have hEz : ¬ (M : Int) < (E : Int) := by omega
        have hmx : Hid (max M E = M) := by show _ = _; omega
        clear hE
        go_wp2_with (go_at_call 27; refine kk.mono ?_; rintro e w2 ⟨rfl, hb2⟩)
        try simp only [hak]
        go_roundw
        case rel => exact ⟨i + 1, M, by omega, (by first | rfl | (congr 1; omega)), by go_num, hbl.out.trans (hb2.mono hbl.out.size), by show _ = _; rw [← hM'.out, hmx.out]⟩
        case measure => simp [intOf]; omega
    · have hz : ¬ (i : Int) < (b.lk : Int) := by omega
      have hK : Hid (M = Tr.deeps t.keys) := by
        show _ = _
        rw [hM.out, List.take_of_length_le (by rw [hlk.out]; omega)]
      clear hM
      go_wp2
      go_loopw [3, 5] (fun s3 s5 wq => ∃ (j : Nat) (N : Nat), j ≤ b.li ∧ s3 = .int .i64 (N : Nat) ∧ s5 = .int .i64 j ∧ Hid (Below (w.alloc (.cells b.arr 26)).heap.size (w.alloc (.cells b.arr 26)) wq) ∧ Hid (N = max (Tr.deeps t.keys) (Tr.deeps (t.kids.take j)))) (fun _ j _ => b.li - (intOf j).toNat)
      case atStart => exact ⟨0, M, Nat.zero_le _, rfl, rfl, hbl, by show _ = _; rw [List.take_zero, hK.out]; exact (Nat.max_eq_left (Nat.zero_le _)).symm⟩
      case round =>
        obtain ⟨j, N, hjm, rfl, rfl, hbq, hN'⟩ := hrel
        clear a0 a1 a2 a3 a4 a5 a6 a7 a8
        have Qq := Q0.out.kept hbq.out Q0.out.lt
        have Bq : Hid (Below w.heap.size w _) := B0.out.trans (hbq.out.mono B0.out.size)
        obtain ⟨a0, a1, a2, a3, a4, a5, a6, a7, a8⟩ := Qq.fields
        have hNb : N ≤ 1000000 := by
          rw [hN'.out]
          exact Nat.max_le.2 ⟨Nat.le_trans (deeps_le _) hS.out.1, Nat.le_trans (deeps_take _ _) hS.out.2⟩
        by_cases hjt : j < b.li
        · have hjz : (j : Int) < (b.li : Int) := by omega
          have hjx : j < t.kids.length := by rw [hli.out]; exact hjt
          obtain ⟨bi, oi, ni, hai, hci, hNn2, hbi⟩ := row_el hNi.out Bq.out hjx
          obtain ⟨p0, p1, p2, p3, p4, p5, p6, p7, p8⟩ := elem_fields hci
          have k2 := ih t.kids[j] ni _ hNn2 (Nat.le_trans (Tr.size_le (List.getElem_mem hjx)) hS.out.2)
          have wj : IntKind.i64.wrap ((j : Int) + 1) = (j : Int) + 1 := by rw [IntKind.wrap_i64]; omega
          have hN2 : Hid (max N (t.kids[j]).deep = max (Tr.deeps t.keys) (Tr.deeps (t.kids.take (j + 1)))) := by
            show _ = _
            rw [Tr.deeps_snoc _ hjx, hN'.out, Nat.max_assoc]
          generalize (t.kids[j]).deep = E at *
          clear hci hNn2 hbi
          by_cases hE : N < E
          · have hEz : (N : Int) < (E : Int) := by omega
            have hmx : Hid (max N E = E) := by show _ = _; omega
            clear hE
            go_wp2_with (go_at_call 27; refine k2.mono ?_; rintro e w3 ⟨rfl, hb3⟩)
            try simp only [hai]
            go_roundw
            case rel => exact ⟨j + 1, E, by omega, (by first | rfl | (congr 1; omega)), by go_num, hbq.out.trans (hb3.mono hbq.out.size), by show _ = _; rw [← hN2.out, hmx.out]⟩
            case measure => simp [intOf]; omega
          · have hEz : ¬ (N : Int) < (E : Int) := by omega
            have hmx : Hid (max N E = N) := by show _ = _; omega
            clear hE
            go_wp2_with (go_at_call 27; refine k2.mono ?_; rintro e w3 ⟨rfl, hb3⟩)
            try simp only [hai]
            go_roundw
            case rel => exact ⟨j + 1, N, by omega, (by first | rfl | (congr 1; omega)), by go_num, hbq.out.trans (hb3.mono hbq.out.size), by show _ = _; rw [← hN2.out, hmx.out]⟩
            case measure => simp [intOf]; omega
        · have hjz : ¬ (j : Int) < (b.li : Int) := by omega
          have hfin : Hid (N + 1 = t.deep) := by
            show _ = _
            rw [hd.out, hN'.out, List.take_of_length_le (by rw [hli.out]; omega), Nat.add_comm]
          have wN : IntKind.i64.wrap ((N : Int) + 1) = (N : Int) + 1 := by rw [IntKind.wrap_i64]; omega
          clear hN'
          go_wp2
          go_ret
          exact ⟨by rw [← hfin.out]; rfl, Bq.out⟩
theorem deep_all : ∀ D, DeepAt D := by
  intro D
  induction D with
  | zero => intro t b w h; exact absurd h id
  | succ D ih => exact deep_step ih
end Go.Proofs.YtelabgonpmafpaaGreatDoor
namespace Go.Proofs.YtelabgonpmafpaaGreatDoor
open Go.RowKit
set_option linter.unusedVariables false
set_option maxHeartbeats 1000000 in
theorem efew_any {D : Nat} {t : Tr} {b : Nb} {w : World} (hN : Nd D w b t) : Calls Tryz.prog 23 #[.agg b.arr] w fun e w' => e = .returned (.bool (decide (t.size ≤ 1024))) ∧ Below w.heap.size w w' := by
  have hal := alloc_below w (.cells b.arr 26)
  have km := left_all D t b _ 1024 (hN.kept hal) (by omega) (by omega)
  have hB : Hid (Below w.heap.size w (w.alloc (.cells b.arr 26))) := hal
  obtain ⟨c0, c1, c2, c3, c4, c5, c6, c7, c8⟩ := (nbox_new w b).fields
  rw [← Tr.lft_few]
  generalize Tr.lft 1024 t.size = S at *
  clear hal hN
  go_enter Tryz.func23, Tryz.ntmps23
  go_wp2_with (go_at_call 39; refine km.mono ?_; rintro e w1 ⟨rfl, hb⟩)
  go_ret
  exact ⟨rfl, hB.out.trans (hb.mono hB.out.size)⟩
end Go.Proofs.YtelabgonpmafpaaGreatDoor
namespace Go.Proofs.YtelabgonpmafpaaGreatDoor
open Go.RowKit
set_option linter.unusedVariables false

set_option maxHeartbeats 4000000 in
set_option maxRecDepth 100000 in
theorem echeck_any {D : Nat} {t : Tr} {b : Nb} {w : World} (hN : Nd D w b t) : Calls Tryz.prog 18 #[.agg b.arr] w fun e w' => (∃ er, e = .returned (.int .i64 er) ∧ Tr.ChkIs alF t er) ∧ Below w.heap.size w w' := by
  have hal := alloc_below w (.cells b.arr 26)
  have Q0 : Hid (NBox (w.alloc (.cells b.arr 26)) w.heap.size b) := nbox_new w b
  have B0 : Hid (Below w.heap.size w (w.alloc (.cells b.arr 26))) := hal
  obtain ⟨a0, a1, a2, a3, a4, a5, a6, a7, a8⟩ := (nbox_new w b).fields
  have kF := efew_any (hN.kept hal)
  have hN' : Hid (Nd D w b t) := hN
  clear hal hN
  by_cases hs : t.size ≤ 1024
  · rw [decide_eq_true hs] at kF
    have hs' : Hid (t.size ≤ 1024) := hs
    have kD : Hid (∀ w2, Below w.heap.size w w2 → Calls Tryz.prog 27 #[.agg b.arr] w2 fun e w' => e = .returned (.int .i64 (t.deep : Nat)) ∧ Below w2.heap.size w2 w') := fun w2 hb => deep_all D t b w2 (hN'.out.kept hb) (by have := hs'.out; omega)
    have kO : Hid (∀ w2, Below w.heap.size w w2 → Calls Tryz.prog 28 #[.agg b.arr] w2 fun e w' => e = .returned (.int .i64 (t.forms alF)) ∧ Below w2.heap.size w2 w') := fun w2 hb => form_all D t b w2 (hN'.out.kept hb)
    obtain ⟨v, hv⟩ := bool_of (¬ t.All (fun u => u.keys.Nodup))
    have kT : Hid (∀ w2, Below w.heap.size w w2 → Calls Tryz.prog 29 #[.agg b.arr] w2 fun e w' => e = .returned (.bool v) ∧ Below w2.heap.size w2 w') := fun w2 hb => etwice_any (hN'.out.kept hb) hv
    have hV : Hid (v = true ↔ ¬ t.All (fun u => u.keys.Nodup)) := hv
    have hF' : Hid (t.forms alF = t.forms alF) := rfl
    have hFx : ∃ A, t.forms alF = A := ⟨_, rfl⟩
    obtain ⟨A, hA⟩ := hFx
    rw [hA] at kO
    have hA' : Hid (t.forms alF = A) := hA
    clear hs hv hF' hA
    by_cases hd : t.deep ≤ 24
    · have hd1 : decide ((24 : Int) < ((t.deep : Nat) : Int)) = false := by simp; omega
      have hd' : Hid (t.deep ≤ 24) := hd
      clear hd
      generalize t.deep = E at kD hd1
      by_cases hz : A = 0
      · subst hz
        cases v with
        | true =>
          go_enter Tryz.func18, Tryz.ntmps18
          go_wp2_with (first
            | (go_at_call 23; refine kF.mono ?_; rintro e w2 ⟨rfl, hb2⟩; clear kF a0 a1 a2 a3 a4 a5 a6 a7 a8; have Q2 : Hid (NBox w2 w.heap.size b) := Q0.out.kept hb2 Q0.out.lt; have B2 : Hid (Below w.heap.size w w2) := B0.out.trans (hb2.mono B0.out.size); obtain ⟨a0, a1, a2, a3, a4, a5, a6, a7, a8⟩ := Q2.out.fields; have kD2 := kD.out w2 B2.out)
            | (go_at_call 27; refine kD2.mono ?_; rintro e w3 ⟨rfl, hb3⟩; clear kD2 a0 a1 a2 a3 a4 a5 a6 a7 a8; have Q3 : Hid (NBox w3 w.heap.size b) := Q2.out.kept hb3 Q2.out.lt; have B3 : Hid (Below w.heap.size w w3) := B2.out.trans (hb3.mono B2.out.size); obtain ⟨a0, a1, a2, a3, a4, a5, a6, a7, a8⟩ := Q3.out.fields; have kO3 := kO.out w3 B3.out)
            | (go_at_call 28; refine kO3.mono ?_; rintro e w4 ⟨rfl, hb4⟩; clear kO3 a0 a1 a2 a3 a4 a5 a6 a7 a8; have Q4 : Hid (NBox w4 w.heap.size b) := Q3.out.kept hb4 Q3.out.lt; have B4 : Hid (Below w.heap.size w w4) := B3.out.trans (hb4.mono B3.out.size); obtain ⟨a0, a1, a2, a3, a4, a5, a6, a7, a8⟩ := Q4.out.fields; have kT4 := kT.out w4 B4.out)
            | (go_at_call 29; refine kT4.mono ?_; rintro e w5 ⟨rfl, hb5⟩))
          go_ret
          exact ⟨⟨9, rfl, .inr (.inr (.inr (.inl ⟨hs'.out, hd'.out, hA'.out, (by simpa using hV.out), rfl⟩)))⟩, B4.out.trans (hb5.mono B4.out.size)⟩
        | false =>
          go_enter Tryz.func18, Tryz.ntmps18
          go_wp2_with (first
            | (go_at_call 23; refine kF.mono ?_; rintro e w2 ⟨rfl, hb2⟩; clear kF a0 a1 a2 a3 a4 a5 a6 a7 a8; have Q2 : Hid (NBox w2 w.heap.size b) := Q0.out.kept hb2 Q0.out.lt; have B2 : Hid (Below w.heap.size w w2) := B0.out.trans (hb2.mono B0.out.size); obtain ⟨a0, a1, a2, a3, a4, a5, a6, a7, a8⟩ := Q2.out.fields; have kD2 := kD.out w2 B2.out)
            | (go_at_call 27; refine kD2.mono ?_; rintro e w3 ⟨rfl, hb3⟩; clear kD2 a0 a1 a2 a3 a4 a5 a6 a7 a8; have Q3 : Hid (NBox w3 w.heap.size b) := Q2.out.kept hb3 Q2.out.lt; have B3 : Hid (Below w.heap.size w w3) := B2.out.trans (hb3.mono B2.out.size); obtain ⟨a0, a1, a2, a3, a4, a5, a6, a7, a8⟩ := Q3.out.fields; have kO3 := kO.out w3 B3.out)
            | (go_at_call 28; refine kO3.mono ?_; rintro e w4 ⟨rfl, hb4⟩; clear kO3 a0 a1 a2 a3 a4 a5 a6 a7 a8; have Q4 : Hid (NBox w4 w.heap.size b) := Q3.out.kept hb4 Q3.out.lt; have B4 : Hid (Below w.heap.size w w4) := B3.out.trans (hb4.mono B3.out.size); obtain ⟨a0, a1, a2, a3, a4, a5, a6, a7, a8⟩ := Q4.out.fields; have kT4 := kT.out w4 B4.out)
            | (go_at_call 29; refine kT4.mono ?_; rintro e w5 ⟨rfl, hb5⟩))
          go_ret
          exact ⟨⟨0, rfl, .inr (.inr (.inr (.inr ⟨hs'.out, hd'.out, hA'.out, (by simpa using hV.out), rfl⟩)))⟩, B4.out.trans (hb5.mono B4.out.size)⟩
      · have hz2 : (A == 0) = false := by simp [hz]
        have hz' : Hid (A ≠ 0) := hz
        clear hz kT
        go_enter Tryz.func18, Tryz.ntmps18
        go_wp2_with (first
          | (go_at_call 23; refine kF.mono ?_; rintro e w2 ⟨rfl, hb2⟩; clear kF a0 a1 a2 a3 a4 a5 a6 a7 a8; have Q2 : Hid (NBox w2 w.heap.size b) := Q0.out.kept hb2 Q0.out.lt; have B2 : Hid (Below w.heap.size w w2) := B0.out.trans (hb2.mono B0.out.size); obtain ⟨a0, a1, a2, a3, a4, a5, a6, a7, a8⟩ := Q2.out.fields; have kD2 := kD.out w2 B2.out)
          | (go_at_call 27; refine kD2.mono ?_; rintro e w3 ⟨rfl, hb3⟩; clear kD2 a0 a1 a2 a3 a4 a5 a6 a7 a8; have Q3 : Hid (NBox w3 w.heap.size b) := Q2.out.kept hb3 Q2.out.lt; have B3 : Hid (Below w.heap.size w w3) := B2.out.trans (hb3.mono B2.out.size); obtain ⟨a0, a1, a2, a3, a4, a5, a6, a7, a8⟩ := Q3.out.fields; have kO3 := kO.out w3 B3.out)
          | (go_at_call 28; refine kO3.mono ?_; rintro e w4 ⟨rfl, hb4⟩; clear kO3 a0 a1 a2 a3 a4 a5 a6 a7 a8))
        go_ret
        exact ⟨⟨A, rfl, .inr (.inr (.inl ⟨hs'.out, hd'.out, by rw [hA'.out]; exact hz'.out, hA'.out.symm⟩))⟩, B3.out.trans (hb4.mono B3.out.size)⟩
    · have hd1 : decide ((24 : Int) < ((t.deep : Nat) : Int)) = true := by simp; omega
      have hd' : Hid (24 < t.deep) := by show _ < _; omega
      clear hd kT kO
      generalize t.deep = E at kD hd1
      go_enter Tryz.func18, Tryz.ntmps18
      go_wp2_with (first
        | (go_at_call 23; refine kF.mono ?_; rintro e w2 ⟨rfl, hb2⟩; clear kF a0 a1 a2 a3 a4 a5 a6 a7 a8; have Q2 : Hid (NBox w2 w.heap.size b) := Q0.out.kept hb2 Q0.out.lt; have B2 : Hid (Below w.heap.size w w2) := B0.out.trans (hb2.mono B0.out.size); obtain ⟨a0, a1, a2, a3, a4, a5, a6, a7, a8⟩ := Q2.out.fields; have kD2 := kD.out w2 B2.out)
        | (go_at_call 27; refine kD2.mono ?_; rintro e w3 ⟨rfl, hb3⟩; clear kD2))
      go_ret
      exact ⟨⟨7, rfl, .inr (.inl ⟨hs'.out, hd'.out, rfl⟩)⟩, B2.out.trans (hb3.mono B2.out.size)⟩
  · rw [decide_eq_false hs] at kF
    have hs' : Hid (1024 < t.size) := by show _ < _; omega
    clear hs
    go_enter Tryz.func18, Tryz.ntmps18
    go_wp2_with (go_at_call 23; refine kF.mono ?_; rintro e w2 ⟨rfl, hb2⟩)
    go_ret
    exact ⟨⟨8, rfl, .inl ⟨hs'.out, rfl⟩⟩, B0.out.trans (hb2.mono B0.out.size)⟩
end Go.Proofs.YtelabgonpmafpaaGreatDoor
namespace Go.Proofs.YtelabgonpmafpaaGreatDoor
open Go.RowKit
set_option linter.unusedVariables false
def lfN1 : Nb := ⟨2, 0, true, ⟨#[55]⟩, 0, ⟨#[]⟩, none, 0, 0, none, 0, 0, none, 0, 0⟩
def lfT1 : Tr := ⟨2, 0, true, ⟨#[55]⟩, 0, ⟨#[]⟩, [], [], []⟩
theorem nd_lf1 (W : World) : Nd 1 W lfN1 lfT1 := ⟨⟨rfl, rfl, rfl, rfl, rfl, rfl⟩, ⟨by decide, by decide, by decide, by decide, by decide⟩, ⟨rfl, room_nil _, bytes_nil _⟩, rowN_nil _ _, rowN_nil _ _⟩
def lfN2 : Nb := ⟨3, 0, false, ⟨#[50, 53]⟩, (-1), ⟨#[]⟩, none, 0, 0, none, 0, 0, none, 0, 0⟩
def lfT2 : Tr := ⟨3, 0, false, ⟨#[50, 53]⟩, (-1), ⟨#[]⟩, [], [], []⟩
theorem nd_lf2 (W : World) : Nd 1 W lfN2 lfT2 := ⟨⟨rfl, rfl, rfl, rfl, rfl, rfl⟩, ⟨by decide, by decide, by decide, by decide, by decide⟩, ⟨rfl, room_nil _, bytes_nil _⟩, rowN_nil _ _, rowN_nil _ _⟩
def lfN3 : Nb := ⟨5, 0, false, ⟨#[]⟩, 0, ⟨#[97, 34]⟩, none, 0, 0, none, 0, 0, none, 0, 0⟩
def lfT3 : Tr := ⟨5, 0, false, ⟨#[]⟩, 0, ⟨#[97, 34]⟩, [], [], []⟩
theorem nd_lf3 (W : World) : Nd 1 W lfN3 lfT3 := ⟨⟨rfl, rfl, rfl, rfl, rfl, rfl⟩, ⟨by decide, by decide, by decide, by decide, by decide⟩, ⟨rfl, room_nil _, bytes_nil _⟩, rowN_nil _ _, rowN_nil _ _⟩
def alN (g : Nat) : Nb := ⟨7, 0, false, ⟨#[]⟩, 0, ⟨#[]⟩, none, 0, 0, none, 0, 0, some ⟨g, 0, none⟩, 3, 3⟩
def alT : Tr := ⟨7, 0, false, ⟨#[]⟩, 0, ⟨#[]⟩, [], [], [lfT1, lfT2, lfT3]⟩
def alS : ByteArray := ⟨#[91, 45, 55, 44, 50, 53, 101, 45, 49, 44, 34, 97, 92, 34, 34, 93]⟩
theorem nd_al (w : World) : Nd 2 ((w.alloc (.cells #[.int .i64 2, .int .u64 0, .bool true, .string ⟨#[55]⟩, .int .i64 0, .string ⟨#[]⟩, .slice none 0 0, .slice none 0 0, .slice none 0 0, .int .i64 3, .int .u64 0, .bool false, .string ⟨#[50, 53]⟩, .int .i64 (-1), .string ⟨#[]⟩, .slice none 0 0, .slice none 0 0, .slice none 0 0, .int .i64 5, .int .u64 0, .bool false, .string ⟨#[]⟩, .int .i64 0, .string ⟨#[97, 34]⟩, .slice none 0 0, .slice none 0 0, .slice none 0 0] 26)).alloc (.cells #[.int .i64 7, .int .u64 0, .bool false, .string ⟨#[]⟩, .int .i64 0, .string ⟨#[]⟩, .slice none 0 0, .slice none 0 0, .slice (some ⟨w.heap.size, 0, none⟩) 3 3] 26)) (alN w.heap.size) alT := by
  have A2 := alloc_below (w.alloc (.cells #[.int .i64 2, .int .u64 0, .bool true, .string ⟨#[55]⟩, .int .i64 0, .string ⟨#[]⟩, .slice none 0 0, .slice none 0 0, .slice none 0 0, .int .i64 3, .int .u64 0, .bool false, .string ⟨#[50, 53]⟩, .int .i64 (-1), .string ⟨#[]⟩, .slice none 0 0, .slice none 0 0, .slice none 0 0, .int .i64 5, .int .u64 0, .bool false, .string ⟨#[]⟩, .int .i64 0, .string ⟨#[97, 34]⟩, .slice none 0 0, .slice none 0 0, .slice none 0 0] 26)) (.cells #[.int .i64 7, .int .u64 0, .bool false, .string ⟨#[]⟩, .int .i64 0, .string ⟨#[]⟩, .slice none 0 0, .slice none 0 0, .slice (some ⟨w.heap.size, 0, none⟩) 3 3] 26)
  have hc : ∀ j, ((w.alloc (.cells #[.int .i64 2, .int .u64 0, .bool true, .string ⟨#[55]⟩, .int .i64 0, .string ⟨#[]⟩, .slice none 0 0, .slice none 0 0, .slice none 0 0, .int .i64 3, .int .u64 0, .bool false, .string ⟨#[50, 53]⟩, .int .i64 (-1), .string ⟨#[]⟩, .slice none 0 0, .slice none 0 0, .slice none 0 0, .int .i64 5, .int .u64 0, .bool false, .string ⟨#[]⟩, .int .i64 0, .string ⟨#[97, 34]⟩, .slice none 0 0, .slice none 0 0, .slice none 0 0] 26)).alloc (.cells #[.int .i64 7, .int .u64 0, .bool false, .string ⟨#[]⟩, .int .i64 0, .string ⟨#[]⟩, .slice none 0 0, .slice none 0 0, .slice (some ⟨w.heap.size, 0, none⟩) 3 3] 26)).cell? ⟨w.heap.size, j, none⟩ = (#[.int .i64 2, .int .u64 0, .bool true, .string ⟨#[55]⟩, .int .i64 0, .string ⟨#[]⟩, .slice none 0 0, .slice none 0 0, .slice none 0 0, .int .i64 3, .int .u64 0, .bool false, .string ⟨#[50, 53]⟩, .int .i64 (-1), .string ⟨#[]⟩, .slice none 0 0, .slice none 0 0, .slice none 0 0, .int .i64 5, .int .u64 0, .bool false, .string ⟨#[]⟩, .int .i64 0, .string ⟨#[97, 34]⟩, .slice none 0 0, .slice none 0 0, .slice none 0 0] : Array Value)[j]? := fun j => by
    rw [A2.cell (p := ⟨w.heap.size, j, none⟩) (by simp)]
    exact cell_row (heap_alloc_new w _) j
  refine ⟨⟨rfl, rfl, rfl, rfl, rfl, rfl⟩, ⟨by decide, by decide, by decide, by decide, by decide⟩, ⟨rfl, room_nil _, bytes_nil _⟩, rowN_nil _ _, rfl, ⟨Nat.le_refl _, by show (3 : Nat) ≤ maxLen; decide, fun h => by simp [alN] at h, by show 3 * 136 ≤ _; omega⟩, .inr ⟨w.heap.size, 0, rfl, fun i hi => ?_⟩⟩
  have hi3 : i < 3 := hi
  rcases i with _ | _ | _ | i
  · refine ⟨lfN1, fun j hj => ?_, nd_lf1 _⟩
    rw [hc]
    rcases j with _ | _ | _ | _ | _ | _ | _ | _ | _ | j
    all_goals first | rfl | omega
  · refine ⟨lfN2, fun j hj => ?_, nd_lf2 _⟩
    rw [hc]
    rcases j with _ | _ | _ | _ | _ | _ | _ | _ | _ | j
    all_goals first | rfl | omega
  · refine ⟨lfN3, fun j hj => ?_, nd_lf3 _⟩
    rw [hc]
    rcases j with _ | _ | _ | _ | _ | _ | _ | _ | _ | j
    all_goals first | rfl | omega
  · omega
theorem al_size : alT.size = 4 := by
  have h1 : lfT1.size = 1 := by rw [Tr.size_eq]; rfl
  have h2 : lfT2.size = 1 := by rw [Tr.size_eq]; rfl
  have h3 : lfT3.size = 1 := by rw [Tr.size_eq]; rfl
  rw [Tr.size_eq]
  show 1 + Tr.sizes [] + Tr.sizes [lfT1, lfT2, lfT3] = 4
  rw [Tr.sizes_cons, Tr.sizes_cons, Tr.sizes_cons, Tr.sizes_nil, h1, h2, h3]
theorem al_may : alT.May (fun u => alF u = 0) := by
  refine ⟨by rw [al_size]; omega, Nat.le_trans (Tr.deep_size alT) (by rw [al_size]; omega), ?_, ?_⟩
  · rw [Tr.all_eq]
    refine ⟨by kernel_rfl, fun k hk => by simp [alT] at hk, fun k hk => ?_⟩
    simp only [alT, List.mem_cons, List.not_mem_nil, or_false] at hk
    rcases hk with rfl | rfl | rfl
    all_goals
      rw [Tr.all_eq]
      exact ⟨by kernel_rfl, (fun k hk => by cases hk), (fun k hk => by cases hk)⟩
  · rw [Tr.all_eq]
    refine ⟨List.nodup_nil, fun k hk => by simp [alT] at hk, fun k hk => ?_⟩
    simp only [alT, List.mem_cons, List.not_mem_nil, or_false] at hk
    rcases hk with rfl | rfl | rfl
    all_goals
      rw [Tr.all_eq]
      exact ⟨List.nodup_nil, (fun k hk => by cases hk), (fun k hk => by cases hk)⟩
theorem al_text : txT 2 alT = some alS := by kernel_rfl
theorem al_print {v : Value} {er : Int} {w' : World} (h : PrintR 2 alT v er w') : er = 0 ∧ ∃ a n c, v = .slice a n c ∧ (bs alS).length = n ∧ n ≤ c ∧ c ≤ 9223372036854775807 ∧ (a = none → c = 0) ∧ Bytes w' a (bs alS) := by
  rcases h with ⟨_, h0, h | ⟨_, h, _⟩ | ⟨s, _, h, h2, _⟩⟩ | ⟨h0, s, a, n, c, hv, _, h1, h2, h3⟩
  · exact absurd ((chk_null h).2 al_may) h0
  · rw [al_text] at h; cases h
  · rw [al_text] at h; cases h; exact absurd h2 (by decide)
  · rw [al_text] at h1; cases h1; exact ⟨h0, a, n, c, hv, h3⟩
theorem al_tell {s : ByteArray} {er : Int} (h : TellR 2 alT s er) : er = 0 := by
  rcases h with ⟨h, h0, _⟩ | ⟨_, h, _⟩ | ⟨_, _, h⟩
  · exact absurd ((chk_null h).2 al_may) h0
  · rw [al_text] at h; cases h
  · exact h
set_option maxHeartbeats 2000000 in
set_option maxRecDepth 100000 in
theorem alive_any (w : World) (hT : Tab w.heap.size w) : Calls Tryz.prog 12 #[] w fun e w' => e = .returned (.bool true) ∧ Below w.heap.size w w' := by
  have A1 := alloc_below w (.cells #[.int .i64 2, .int .u64 0, .bool true, .string ⟨#[55]⟩, .int .i64 0, .string ⟨#[]⟩, .slice none 0 0, .slice none 0 0, .slice none 0 0, .int .i64 3, .int .u64 0, .bool false, .string ⟨#[50, 53]⟩, .int .i64 (-1), .string ⟨#[]⟩, .slice none 0 0, .slice none 0 0, .slice none 0 0, .int .i64 5, .int .u64 0, .bool false, .string ⟨#[]⟩, .int .i64 0, .string ⟨#[97, 34]⟩, .slice none 0 0, .slice none 0 0, .slice none 0 0] 26)
  have A2 := alloc_below (w.alloc (.cells #[.int .i64 2, .int .u64 0, .bool true, .string ⟨#[55]⟩, .int .i64 0, .string ⟨#[]⟩, .slice none 0 0, .slice none 0 0, .slice none 0 0, .int .i64 3, .int .u64 0, .bool false, .string ⟨#[50, 53]⟩, .int .i64 (-1), .string ⟨#[]⟩, .slice none 0 0, .slice none 0 0, .slice none 0 0, .int .i64 5, .int .u64 0, .bool false, .string ⟨#[]⟩, .int .i64 0, .string ⟨#[97, 34]⟩, .slice none 0 0, .slice none 0 0, .slice none 0 0] 26)) (.cells #[.int .i64 7, .int .u64 0, .bool false, .string ⟨#[]⟩, .int .i64 0, .string ⟨#[]⟩, .slice none 0 0, .slice none 0 0, .slice (some ⟨w.heap.size, 0, none⟩) 3 3] 26)
  have s1 : (w.alloc (.cells #[.int .i64 2, .int .u64 0, .bool true, .string ⟨#[55]⟩, .int .i64 0, .string ⟨#[]⟩, .slice none 0 0, .slice none 0 0, .slice none 0 0, .int .i64 3, .int .u64 0, .bool false, .string ⟨#[50, 53]⟩, .int .i64 (-1), .string ⟨#[]⟩, .slice none 0 0, .slice none 0 0, .slice none 0 0, .int .i64 5, .int .u64 0, .bool false, .string ⟨#[]⟩, .int .i64 0, .string ⟨#[97, 34]⟩, .slice none 0 0, .slice none 0 0, .slice none 0 0] 26)).heap.size = w.heap.size + 1 := by simp
  have B2 : Hid (Below w.heap.size w ((w.alloc (.cells #[.int .i64 2, .int .u64 0, .bool true, .string ⟨#[55]⟩, .int .i64 0, .string ⟨#[]⟩, .slice none 0 0, .slice none 0 0, .slice none 0 0, .int .i64 3, .int .u64 0, .bool false, .string ⟨#[50, 53]⟩, .int .i64 (-1), .string ⟨#[]⟩, .slice none 0 0, .slice none 0 0, .slice none 0 0, .int .i64 5, .int .u64 0, .bool false, .string ⟨#[]⟩, .int .i64 0, .string ⟨#[97, 34]⟩, .slice none 0 0, .slice none 0 0, .slice none 0 0] 26)).alloc (.cells #[.int .i64 7, .int .u64 0, .bool false, .string ⟨#[]⟩, .int .i64 0, .string ⟨#[]⟩, .slice none 0 0, .slice none 0 0, .slice (some ⟨w.heap.size, 0, none⟩) 3 3] 26))) := A1.trans (A2.mono A1.size)
  have hN := nd_al w
  have X2 : Hid (NBox ((w.alloc (.cells #[.int .i64 2, .int .u64 0, .bool true, .string ⟨#[55]⟩, .int .i64 0, .string ⟨#[]⟩, .slice none 0 0, .slice none 0 0, .slice none 0 0, .int .i64 3, .int .u64 0, .bool false, .string ⟨#[50, 53]⟩, .int .i64 (-1), .string ⟨#[]⟩, .slice none 0 0, .slice none 0 0, .slice none 0 0, .int .i64 5, .int .u64 0, .bool false, .string ⟨#[]⟩, .int .i64 0, .string ⟨#[97, 34]⟩, .slice none 0 0, .slice none 0 0, .slice none 0 0] 26)).alloc (.cells #[.int .i64 7, .int .u64 0, .bool false, .string ⟨#[]⟩, .int .i64 0, .string ⟨#[]⟩, .slice none 0 0, .slice none 0 0, .slice (some ⟨w.heap.size, 0, none⟩) 3 3] 26)) (w.heap.size + 1) (alN w.heap.size)) := by have := nbox_new (w.alloc (.cells #[.int .i64 2, .int .u64 0, .bool true, .string ⟨#[55]⟩, .int .i64 0, .string ⟨#[]⟩, .slice none 0 0, .slice none 0 0, .slice none 0 0, .int .i64 3, .int .u64 0, .bool false, .string ⟨#[50, 53]⟩, .int .i64 (-1), .string ⟨#[]⟩, .slice none 0 0, .slice none 0 0, .slice none 0 0, .int .i64 5, .int .u64 0, .bool false, .string ⟨#[]⟩, .int .i64 0, .string ⟨#[97, 34]⟩, .slice none 0 0, .slice none 0 0, .slice none 0 0] 26)) (alN w.heap.size); rw [s1] at this; exact this
  have T2 := (hT.on B2.out).up B2.out.size
  have kP := print_any hN T2
  have hN' : Hid (Nd 2 ((w.alloc (.cells #[.int .i64 2, .int .u64 0, .bool true, .string ⟨#[55]⟩, .int .i64 0, .string ⟨#[]⟩, .slice none 0 0, .slice none 0 0, .slice none 0 0, .int .i64 3, .int .u64 0, .bool false, .string ⟨#[50, 53]⟩, .int .i64 (-1), .string ⟨#[]⟩, .slice none 0 0, .slice none 0 0, .slice none 0 0, .int .i64 5, .int .u64 0, .bool false, .string ⟨#[]⟩, .int .i64 0, .string ⟨#[97, 34]⟩, .slice none 0 0, .slice none 0 0, .slice none 0 0] 26)).alloc (.cells #[.int .i64 7, .int .u64 0, .bool false, .string ⟨#[]⟩, .int .i64 0, .string ⟨#[]⟩, .slice none 0 0, .slice none 0 0, .slice (some ⟨w.heap.size, 0, none⟩) 3 3] 26)) (alN w.heap.size) alT) := hN
  have T2' : Hid (Tab ((w.alloc (.cells #[.int .i64 2, .int .u64 0, .bool true, .string ⟨#[55]⟩, .int .i64 0, .string ⟨#[]⟩, .slice none 0 0, .slice none 0 0, .slice none 0 0, .int .i64 3, .int .u64 0, .bool false, .string ⟨#[50, 53]⟩, .int .i64 (-1), .string ⟨#[]⟩, .slice none 0 0, .slice none 0 0, .slice none 0 0, .int .i64 5, .int .u64 0, .bool false, .string ⟨#[]⟩, .int .i64 0, .string ⟨#[97, 34]⟩, .slice none 0 0, .slice none 0 0, .slice none 0 0] 26)).alloc (.cells #[.int .i64 7, .int .u64 0, .bool false, .string ⟨#[]⟩, .int .i64 0, .string ⟨#[]⟩, .slice none 0 0, .slice none 0 0, .slice (some ⟨w.heap.size, 0, none⟩) 3 3] 26)).heap.size ((w.alloc (.cells #[.int .i64 2, .int .u64 0, .bool true, .string ⟨#[55]⟩, .int .i64 0, .string ⟨#[]⟩, .slice none 0 0, .slice none 0 0, .slice none 0 0, .int .i64 3, .int .u64 0, .bool false, .string ⟨#[50, 53]⟩, .int .i64 (-1), .string ⟨#[]⟩, .slice none 0 0, .slice none 0 0, .slice none 0 0, .int .i64 5, .int .u64 0, .bool false, .string ⟨#[]⟩, .int .i64 0, .string ⟨#[97, 34]⟩, .slice none 0 0, .slice none 0 0, .slice none 0 0] 26)).alloc (.cells #[.int .i64 7, .int .u64 0, .bool false, .string ⟨#[]⟩, .int .i64 0, .string ⟨#[]⟩, .slice none 0 0, .slice none 0 0, .slice (some ⟨w.heap.size, 0, none⟩) 3 3] 26))) := T2
  clear A1 A2 s1 hT hN T2
  go_enter Tryz.func12, Tryz.ntmps12
  go_wp2_with fail
  refine kP.mono ?_
  rintro e w3 ⟨⟨v, er, rfl, hr⟩, hb3⟩
  obtain ⟨rfl, a, n, c, rfl, hl, hc, hcm, hca, hby⟩ := al_print hr.out
  have hcv := conv_str hby n c hl
  rw [str_bs] at hcv
  unfold alS at hcv
  have b3 : Hid (Below w.heap.size w w3) := B2.out.trans (hb3.mono B2.out.size)
  have X3 := X2.out.kept hb3 X2.out.lt
  obtain ⟨f0, f1, f2, f3, f4, f5, f6, f7, f8⟩ := X3.fields
  simp only [alN] at f0 f1 f2 f3 f4 f5 f6 f7 f8
  have kC := can_any (hN'.out.kept hb3) ((T2'.out.on hb3).up hb3.size)
  clear kP hr hl hby hca hb3 B2 X2 X3 hN' T2'
  go_wp2_with fail
  refine kC.mono ?_
  rintro e w4 ⟨⟨s, er, rfl, ht⟩, hb4⟩
  obtain rfl := al_tell ht.out
  go_wp2_with fail
  go_ret
  exact ⟨rfl, b3.out.trans (hb4.mono b3.out.size)⟩
end Go.Proofs.YtelabgonpmafpaaGreatDoor
namespace Go.Proofs.YtelabgonpmafpaaGreatDoor
open Go.RowKit
set_option linter.unusedVariables false
theorem full_none {D : Nat} {t : Tr} : (txF D t).isSome = false ↔ txT D t = none := by
  have h := tx_full D t
  cases hx : txT D t with
  | none => cases hy : txF D t with
    | none => simp
    | some y => rw [hx, hy] at h; exact h.elim
  | some x => cases hy : txF D t with
    | none => rw [hx, hy] at h; exact h.elim
    | some y => simp
theorem full_some {D : Nat} {t : Tr} {f : ByteArray} (h : txF D t = some f) : (f.size ≤ 4096 → txT D t = some f) ∧ (4096 < f.size → ∃ s, txT D t = some s ∧ 4096 < s.size) := by
  have hr := tx_full D t
  rw [h] at hr
  cases hx : txT D t with
  | none => rw [hx] at hr; exact hr.elim
  | some s =>
    rw [hx] at hr
    rcases Nat.lt_or_ge 4096 s.size with q | q
    · exact ⟨fun e => absurd (hr.2 q) (by omega), fun _ => ⟨s, rfl, q⟩⟩
    · have e := hr.1 q
      subst e
      exact ⟨fun _ => rfl, fun e => by omega⟩
set_option maxHeartbeats 2000000 in
set_option maxRecDepth 100000 in
/-- The document's Print. -/
theorem printd_any {D : Nat} {t : Tr} {b : Nb} {w : World} (hN : Nd D w b t) :
    Calls Tryz.prog 8 #[.agg b.arr] w fun e w' => (∃ v er, e = .returned (.tuple #[v, .int .i64 er]) ∧ Hid (PrintR D t v er w')) ∧ Below w.heap.size w w' := by
  have hal := alloc_below w (.cells b.arr 26)
  have B1 : Hid (Below w.heap.size w (w.alloc (.cells b.arr 26))) := hal
  have X1 : Hid (NBox (w.alloc (.cells b.arr 26)) w.heap.size b) := nbox_new w b
  have kC := echeck_any (hN.kept hal)
  have hN' : Hid (Nd D w b t) := hN
  obtain ⟨f0, f1, f2, f3, f4, f5, f6, f7, f8⟩ := (nbox_new w b).fields
  clear hN hal
  go_enter Tryz.func8, Tryz.ntmps8
  go_wp2_with fail
  refine kC.mono ?_
  rintro e w2 ⟨⟨er, rfl, hc⟩, hb2⟩
  have b2 : Hid (Below w.heap.size w w2) := B1.out.trans (hb2.mono B1.out.size)
  have X2 : Hid (NBox w2 w.heap.size b) := X1.out.kept hb2 X1.out.lt
  have hc' : Hid (Tr.ChkIs alF t er) := hc
  clear kC hb2 f0 f1 f2 f3 f4 f5 f6 f7 f8 X1 hc
  by_cases h0 : er = 0
  · have hM : Hid (t.May (fun u => alF u = 0)) := (chk_null hc'.out).1 h0
    subst h0
    have kT := told_all D t b w2 (hN'.out.kept b2.out) hM.out.2.2.1
    obtain ⟨V, hV⟩ : ∃ V, (txF D t).isSome = V := ⟨_, rfl⟩
    rw [hV] at kT
    obtain ⟨f0, f1, f2, f3, f4, f5, f6, f7, f8⟩ := X2.out.fields
    go_wp2_with fail
    refine kT.mono ?_
    rintro e w3 ⟨rfl, hb3⟩
    have b3 : Hid (Below w.heap.size w w3) := b2.out.trans (hb3.mono b2.out.size)
    have X3 : Hid (NBox w3 w.heap.size b) := X2.out.kept hb3 X2.out.lt
    clear kT hb3 f0 f1 f2 f3 f4 f5 f6 f7 f8 X2
    cases V with
    | false =>
      have hn : Hid (txT D t = none) := full_none.1 hV
      clear hV
      go_wp2_with fail
      refine bodyPost_ret (v := .tuple #[.slice none 0 0, .int .i64 12]) (by simp [results, Tryz.results8, go_sem, *]) rfl ⟨⟨_, _, rfl, .inl ⟨rfl, by decide, .inr (.inl ⟨hM.out, hn.out, rfl⟩)⟩⟩, b3.out⟩
    | true =>
      obtain ⟨s, hs⟩ := Option.isSome_iff_exists.1 hV
      have kX := textd_all D t b w3 s (hN'.out.kept b3.out) hM.out.2.2.1 (Nat.le_trans hM.out.1 (by omega)) hs
      have hf : Hid ((s.size ≤ 4096 → txT D t = some s) ∧ (4096 < s.size → ∃ s', txT D t = some s' ∧ 4096 < s'.size)) := full_some hs
      obtain ⟨f0, f1, f2, f3, f4, f5, f6, f7, f8⟩ := X3.out.fields
      clear hV hs
      go_wp2_with fail
      refine kX.mono ?_
      rintro e w4 ⟨rfl, hb4⟩
      have b4 : Hid (Below w.heap.size w w4) := b3.out.trans (hb4.mono b3.out.size)
      clear kX hb4 f0 f1 f2 f3 f4 f5 f6 f7 f8 X3
      by_cases hl : s.size ≤ 4096
      · have g1 : decide ((4096 : Int) < (s.size : Int)) = false := by simp; omega
        have g2 : decide (4096 < s.size) = false := by simp; omega
        obtain ⟨g, n, c, W, hcv, BW, hn, hc, hcm, hby⟩ := conv_b s w4 (by omega)
        have hl' : Hid (s.size ≤ 4096) := hl
        clear hl
        go_wp2_with fail
        refine bodyPost_ret (v := .tuple #[.slice (some ⟨g, 0, none⟩) n c, .int .i64 0]) (by simp [results, Tryz.results8, go_sem, *]) rfl ⟨⟨_, _, rfl, .inr ⟨rfl, s, _, n, c, rfl, hM.out, hf.out.1 hl'.out, hl'.out, hn.out, hc, hcm, (fun h => by cases h), hby.out⟩⟩, b4.out.trans (BW.out.mono b4.out.size)⟩
      · have g1 : decide ((4096 : Int) < (s.size : Int)) = true := by simp; omega
        have g2 : decide (4096 < s.size) = true := by simp; omega
        have hl' : Hid (4096 < s.size) := by show _ < _; omega
        obtain ⟨s', h1, h2⟩ := hf.out.2 hl'.out
        have hq : Hid (txT D t = some s' ∧ 4096 < s'.size) := ⟨h1, h2⟩
        clear hl h1 h2
        go_wp2_with fail
        refine bodyPost_ret (v := .tuple #[.slice none 0 0, .int .i64 8]) (by simp [results, Tryz.results8, go_sem, *]) rfl ⟨⟨_, _, rfl, .inl ⟨rfl, by decide, .inr (.inr ⟨s', hM.out, hq.out.1, hq.out.2, rfl⟩)⟩⟩, b4.out⟩
  · have g0 : (er != 0) = true := by simpa using h0
    have h0' : Hid (er ≠ 0) := h0
    clear h0
    go_wp2_with fail
    refine bodyPost_ret (v := .tuple #[.slice none 0 0, .int .i64 er]) (by simp [results, Tryz.results8, go_sem, *]) rfl ⟨⟨_, _, rfl, .inl ⟨rfl, h0'.out, .inl hc'.out⟩⟩, b2.out⟩
set_option maxHeartbeats 2000000 in
set_option maxRecDepth 100000 in
/-- The document's Can. -/
theorem cand_any {D : Nat} {t : Tr} {b : Nb} {w : World} (hN : Nd D w b t) :
    Calls Tryz.prog 11 #[.agg b.arr] w fun e w' => (∃ V, e = .returned (.bool V) ∧ Hid (V = true ↔ t.May (fun u => alF u = 0) ∧ txT D t ≠ none)) ∧ Below w.heap.size w w' := by
  have hal := alloc_below w (.cells b.arr 26)
  have B1 : Hid (Below w.heap.size w (w.alloc (.cells b.arr 26))) := hal
  have X1 : Hid (NBox (w.alloc (.cells b.arr 26)) w.heap.size b) := nbox_new w b
  have kC := echeck_any (hN.kept hal)
  have hN' : Hid (Nd D w b t) := hN
  obtain ⟨f0, f1, f2, f3, f4, f5, f6, f7, f8⟩ := (nbox_new w b).fields
  clear hN hal
  go_enter Tryz.func11, Tryz.ntmps11
  go_wp2_with fail
  refine kC.mono ?_
  rintro e w2 ⟨⟨er, rfl, hc⟩, hb2⟩
  have b2 : Hid (Below w.heap.size w w2) := B1.out.trans (hb2.mono B1.out.size)
  have X2 : Hid (NBox w2 w.heap.size b) := X1.out.kept hb2 X1.out.lt
  have hc' : Hid (Tr.ChkIs alF t er) := hc
  clear kC hb2 f0 f1 f2 f3 f4 f5 f6 f7 f8 X1 hc
  by_cases h0 : er = 0
  · have hM : Hid (t.May (fun u => alF u = 0)) := (chk_null hc'.out).1 h0
    subst h0
    have kT := told_all D t b w2 (hN'.out.kept b2.out) hM.out.2.2.1
    obtain ⟨V, hV⟩ : ∃ V, (txF D t).isSome = V := ⟨_, rfl⟩
    rw [hV] at kT
    have hq : Hid (V = true ↔ t.May (fun u => alF u = 0) ∧ txT D t ≠ none) := by
      have h1 := full_none (D := D) (t := t)
      rw [hV] at h1
      cases V with
      | true => exact ⟨fun _ => ⟨hM.out, fun e => by have := h1.2 e; cases this⟩, fun _ => rfl⟩
      | false => exact ⟨fun e => (by cases e), fun e => absurd (h1.1 rfl) e.2⟩
    obtain ⟨f0, f1, f2, f3, f4, f5, f6, f7, f8⟩ := X2.out.fields
    clear hV
    go_wp2_with fail
    refine kT.mono ?_
    rintro e w3 ⟨rfl, hb3⟩
    clear kT
    go_wp2_with fail
    go_ret
    exact ⟨⟨V, rfl, hq⟩, b2.out.trans (hb3.mono b2.out.size)⟩
  · have g0 : (er == 0) = false := by simpa using h0
    have hq : Hid (false = true ↔ t.May (fun u => alF u = 0) ∧ txT D t ≠ none) := ⟨fun e => (by cases e), fun e => absurd ((chk_null hc'.out).2 e.1) h0⟩
    clear h0
    go_wp2_with fail
    go_ret
    exact ⟨⟨false, rfl, hq⟩, b2.out⟩
/-- What both Prints answer is the same. -/
theorem print_one {D : Nat} {t : Tr} {v v2 : Value} {er er2 : Int} {w w2 : World} (h : PrintR D t v er w) (h2 : PrintR D t v2 er2 w2) : er = er2 ∧ ∃ zs a n c a2 n2 c2, v = .slice a n c ∧ v2 = .slice a2 n2 c2 ∧ zs.length = n ∧ zs.length = n2 ∧ Bytes w a zs ∧ Bytes w2 a2 zs := by
  rcases h with ⟨rfl, h0, h⟩ | ⟨rfl, s, a, n, c, rfl, hM, hx, hs, hl, _, _, _, hb⟩
  · rcases h2 with ⟨rfl, h02, h2⟩ | ⟨rfl, s, a, n, c, rfl, hM, hx, hs, hl, _, _, _, hb⟩
    · refine ⟨?_, [], none, 0, 0, none, 0, 0, rfl, rfl, rfl, rfl, bytes_nil _, bytes_nil _⟩
      rcases h with h | ⟨hM, hx, rfl⟩ | ⟨s, hM, hx, hs, rfl⟩
      · rcases h2 with h2 | ⟨hM, _, _⟩ | ⟨s, hM, _⟩
        · exact Tr.chk_one h h2
        · exact absurd ((chk_null h).2 hM) h0
        · exact absurd ((chk_null h).2 hM) h0
      · rcases h2 with h2 | ⟨_, _, rfl⟩ | ⟨s, _, hx2, _⟩
        · exact absurd ((chk_null h2).2 hM) h02
        · rfl
        · rw [hx] at hx2; cases hx2
      · rcases h2 with h2 | ⟨_, hx2, _⟩ | ⟨s, _, _, _, rfl⟩
        · exact absurd ((chk_null h2).2 hM) h02
        · rw [hx] at hx2; cases hx2
        · rfl
    · exfalso
      rcases h with h | ⟨_, hx2, _⟩ | ⟨s2, _, hx2, hs2, _⟩
      · exact h0 ((chk_null h).2 hM)
      · rw [hx] at hx2; cases hx2
      · rw [hx] at hx2; cases hx2; omega
  · rcases h2 with ⟨rfl, h02, h2⟩ | ⟨rfl, s2, a2, n2, c2, rfl, hM2, hx2, hs2, hl2, _, _, _, hb2⟩
    · exfalso
      rcases h2 with h2 | ⟨_, hx2, _⟩ | ⟨s2, _, hx2, hs2, _⟩
      · exact h02 ((chk_null h2).2 hM)
      · rw [hx] at hx2; cases hx2
      · rw [hx] at hx2; cases hx2; omega
    · rw [hx] at hx2
      cases hx2
      exact ⟨rfl, bs s, a, n, c, a2, n2, c2, rfl, rfl, hl, hl2, hb, hb2⟩
theorem tell_can {D : Nat} {t : Tr} {s : ByteArray} {er : Int} (h : TellR D t s er) : (er == 0) = true ↔ t.May (fun u => alF u = 0) ∧ txT D t ≠ none := by
  rw [beq_iff_eq]
  rcases h with ⟨h, h0, _⟩ | ⟨hM, hx, rfl, _⟩ | ⟨hM, hx, rfl⟩
  · exact ⟨fun e => absurd e h0, fun e => absurd ((chk_null h).2 e.1) h0⟩
  · exact ⟨(fun e => by cases e), fun e => absurd hx e.2⟩
  · exact ⟨fun _ => ⟨hM, by rw [hx]; simp⟩, fun _ => rfl⟩
end Go.Proofs.YtelabgonpmafpaaGreatDoor
namespace Go.Proofs.YtelabgonpmafpaaGreatDoor
open Go.RowKit
set_option linter.unusedVariables false
theorem strZ_inj {xs ys : List Int} (hx : ∀ c ∈ xs, 0 ≤ c ∧ c < 256) (hy : ∀ c ∈ ys, 0 ≤ c ∧ c < 256) : ((strOfNums xs).toList == (strOfNums ys).toList) = decide (xs = ys) := by
  rw [Bool.eq_iff_iff, beq_iff_eq, decide_eq_true_iff]
  refine ⟨fun h => ?_, fun h => by rw [h]⟩
  rw [ByteArray.toList_eq, ByteArray.toList_eq] at h
  have e : strOfNums xs = strOfNums ys := by
    have h2 := Array.ext' h
    cases h3 : strOfNums xs; cases h4 : strOfNums ys
    rw [h3, h4] at h2
    simpa using h2
  rw [← bs_str hx, ← bs_str hy, e]
set_option maxHeartbeats 400000 in
theorem sameZ_any (a b : Option Addr) (na nb ca cb : Nat) (za zb : List Int) (w : World) (hl : za.length = na) (hm : zb.length = nb) (ha : Bytes w a za) (hb : Bytes w b zb) :
    Calls Tryz.prog 9 #[.slice a na ca, .slice b nb cb] w fun e w' => e = .returned (.bool (decide (za = zb))) ∧ Below w.heap.size w w' := by
  have k1 := conv_str ha na ca hl
  have k2 := conv_str hb nb cb hm
  have he : Hid _ := strZ_inj ha.1 hb.1
  go_enter Tryz.func9, Tryz.ntmps9
  go_wp2
  go_ret
  exact ⟨by rw [← he.out]; rfl, Below.refl _ _⟩
set_option maxHeartbeats 4000000 in
set_option maxRecDepth 100000 in
theorem wprints {D : Nat} {t : Tr} {b : Nb} {w : World} (hN : Nd D w b t) (hT : Tab w.heap.size w) :
    Calls Tryz.prog 3 #[.agg b.arr] w fun e w' => e = .returned (.bool true) ∧ Below w.heap.size w w' := by
  have hal := alloc_below w (.cells b.arr 26)
  have BW : Hid (Below w.heap.size w (w.alloc (.cells b.arr 26))) := hal
  have Y1 : Hid (NBox (w.alloc (.cells b.arr 26)) w.heap.size b) := nbox_new w b
  have G1 : Hid (Nd D (w.alloc (.cells b.arr 26)) b t) := hN.kept hal
  have TW : Hid (Tab (w.alloc (.cells b.arr 26)).heap.size (w.alloc (.cells b.arr 26))) := (hT.on hal).up hal.size
  obtain ⟨f0, f1, f2, f3, f4, f5, f6, f7, f8⟩ := (nbox_new w b).fields
  clear hal hN hT
  go_enter Tryz.func3, Tryz.ntmps3
  go_wp2_with fail
  generalize w.alloc (.cells b.arr 26) = W at *
  refine (print_any G1.out TW.out).mono ?_
  rintro e w2 ⟨⟨v, er, rfl, hr⟩, hb2⟩
  have b2' : Hid (Below W.heap.size W w2) := hb2
  have Z2 := Y1.out.kept hb2 Y1.out.lt
  obtain ⟨k0, k1, k2, k3, k4, k5, k6, k7, k8⟩ := Z2.fields
  clear f0 f1 f2 f3 f4 f5 f6 f7 f8 Z2
  go_wp2_with fail
  refine (printd_any (G1.out.kept hb2)).mono ?_
  rintro e w3 ⟨⟨v2, er2, rfl, hr2⟩, hb3⟩
  have b3 : Hid (Below W.heap.size W w3) := hb2.trans (hb3.mono hb2.size)
  obtain ⟨rfl, zs, a, n, c, a2, n2, c2, rfl, rfl, hl, hl2, hby, hby2⟩ := print_one hr.out hr2.out
  have P1 : Hid (Bytes w3 a zs ∧ Bytes w3 a2 zs) := ⟨hby.kept hb3, hby2⟩
  have kS0 : Hid (∀ wx, Bytes wx a zs → Bytes wx a2 zs → Calls Tryz.prog 9 #[.slice a n c, .slice a2 n2 c2] wx fun e w' => e = .returned (.bool true) ∧ Below wx.heap.size wx w') := fun wx p1 p2 => (sameZ_any a a2 n n2 c c2 zs zs wx hl hl2 p1 p2).mono fun e w' ⟨h1, h2⟩ => ⟨by rw [h1, decide_eq_true rfl], h2⟩
  have kC0 : Hid (∀ wx, Below W.heap.size W wx → Calls Tryz.prog 10 #[.agg #[.int .i64 b.kind, .int .u64 b.num, .bool b.neg, .string b.dig, .int .i64 b.exp, .string b.txt, .slice b.ab b.lb b.cb, .slice b.ak b.lk b.ck, .slice b.ai b.li b.ci]] wx fun e w' => (∃ V, e = .returned (.bool V) ∧ Hid (V = true ↔ t.May (fun u => alF u = 0) ∧ txT D t ≠ none)) ∧ Below wx.heap.size wx w') := fun wx h => (can_any (G1.out.kept h) ((TW.out.on h).up h.size)).mono fun e w' ⟨⟨s, er, h1, h2⟩, h3⟩ => ⟨⟨_, h1, tell_can h2.out⟩, h3⟩
  have kD0 : Hid (∀ wx, Below W.heap.size W wx → Calls Tryz.prog 11 #[.agg #[.int .i64 b.kind, .int .u64 b.num, .bool b.neg, .string b.dig, .int .i64 b.exp, .string b.txt, .slice b.ab b.lb b.cb, .slice b.ak b.lk b.ck, .slice b.ai b.li b.ci]] wx fun e w' => (∃ V, e = .returned (.bool V) ∧ Hid (V = true ↔ t.May (fun u => alF u = 0) ∧ txT D t ≠ none)) ∧ Below wx.heap.size wx w') := fun wx h => cand_any (G1.out.kept h)
  have kA : Hid (∀ w', Below W.heap.size W w' → Calls Tryz.prog 12 #[] w' fun e w'' => e = .returned (.bool true) ∧ Below w'.heap.size w' w'') := fun w' h => alive_any w' ((TW.out.on h).up h.size)
  have Z1 := Y1.out.kept b3.out Y1.out.lt
  have S0 : Hid (w3.cell? ⟨w.heap.size, 0, none⟩ = some (.int .i64 b.kind) ∧ w3.cell? ⟨w.heap.size, 1, none⟩ = some (.int .u64 b.num) ∧ w3.cell? ⟨w.heap.size, 2, none⟩ = some (.bool b.neg) ∧ w3.cell? ⟨w.heap.size, 3, none⟩ = some (.string b.dig) ∧ w3.cell? ⟨w.heap.size, 4, none⟩ = some (.int .i64 b.exp) ∧ w3.cell? ⟨w.heap.size, 5, none⟩ = some (.string b.txt) ∧ w3.cell? ⟨w.heap.size, 6, none⟩ = some (.slice b.ab b.lb b.cb) ∧ w3.cell? ⟨w.heap.size, 7, none⟩ = some (.slice b.ak b.lk b.ck) ∧ w3.cell? ⟨w.heap.size, 8, none⟩ = some (.slice b.ai b.li b.ci)) := Z1.fields
  have SK : Hid (∀ w', Below w3.heap.size w3 w' → w'.cell? ⟨w.heap.size, 0, none⟩ = some (.int .i64 b.kind) ∧ w'.cell? ⟨w.heap.size, 1, none⟩ = some (.int .u64 b.num) ∧ w'.cell? ⟨w.heap.size, 2, none⟩ = some (.bool b.neg) ∧ w'.cell? ⟨w.heap.size, 3, none⟩ = some (.string b.dig) ∧ w'.cell? ⟨w.heap.size, 4, none⟩ = some (.int .i64 b.exp) ∧ w'.cell? ⟨w.heap.size, 5, none⟩ = some (.string b.txt) ∧ w'.cell? ⟨w.heap.size, 6, none⟩ = some (.slice b.ab b.lb b.cb) ∧ w'.cell? ⟨w.heap.size, 7, none⟩ = some (.slice b.ak b.lk b.ck) ∧ w'.cell? ⟨w.heap.size, 8, none⟩ = some (.slice b.ai b.li b.ci)) := fun w' h => (Z1.kept h Z1.lt).fields
  have ge : (er == er) = true := by simp
  obtain ⟨V, hVV⟩ : ∃ V : Bool, (V = true ↔ t.May (fun u => alF u = 0) ∧ txT D t ≠ none) := by
    rcases Classical.em (t.May (fun u => alF u = 0) ∧ txT D t ≠ none) with q | q
    · exact ⟨true, fun _ => q, fun _ => rfl⟩
    · exact ⟨false, fun e => (by cases e), fun e => absurd e q⟩
  have hV : Hid (∀ U : Bool, (U = true ↔ t.May (fun u => alF u = 0) ∧ txT D t ≠ none) → U = V) := fun U h => by
    rw [Bool.eq_iff_iff]; exact h.trans hVV.symm
  clear k0 k1 k2 k3 k4 k5 k6 k7 k8 hb2 hb3 hr hr2 hl hl2 hby hby2 Y1 Z1 b2' TW G1 hVV
  go_wp2_with fail
  go_region_held3 (fun wx => wx.cell? ⟨w.heap.size, 0, none⟩ = some (.int .i64 b.kind) ∧ wx.cell? ⟨w.heap.size, 1, none⟩ = some (.int .u64 b.num) ∧ wx.cell? ⟨w.heap.size, 2, none⟩ = some (.bool b.neg) ∧ wx.cell? ⟨w.heap.size, 3, none⟩ = some (.string b.dig) ∧ wx.cell? ⟨w.heap.size, 4, none⟩ = some (.int .i64 b.exp) ∧ wx.cell? ⟨w.heap.size, 5, none⟩ = some (.string b.txt) ∧ wx.cell? ⟨w.heap.size, 6, none⟩ = some (.slice b.ab b.lb b.cb) ∧ wx.cell? ⟨w.heap.size, 7, none⟩ = some (.slice b.ak b.lk b.ck) ∧ wx.cell? ⟨w.heap.size, 8, none⟩ = some (.slice b.ai b.li b.ci)) (first | exact S0.out | exact SK.out _ b4.out | exact SK.out _ b5.out | exact SK.out _ b6.out | exact SK.out _ b7.out) (first
    | (go_at_call 9; refine (kS0.out w3.drew P1.out.1 P1.out.2).mono ?_; rintro e w4 ⟨rfl, hb4⟩; have b4 : Hid (Below w3.heap.size w3 w4) := ⟨hb4.os, hb4.tape, hb4.output, hb4.size, hb4.block⟩; clear hb4 kS0)
    | (go_at_call 10; refine (kC0.out _ (b3.out.trans (b4.out.mono b3.out.size))).mono ?_; rintro e w5 ⟨⟨U, rfl, hU⟩, hb5⟩; obtain rfl := (hV.out U hU.out).symm; have b5 : Hid (Below w3.heap.size w3 w5) := b4.out.trans (hb5.mono b4.out.size); clear hb5 kC0 hU)
    | (go_at_call 11; refine (kD0.out _ (b3.out.trans (b5.out.mono b3.out.size))).mono ?_; rintro e w6 ⟨⟨U2, rfl, hU⟩, hb6⟩; obtain rfl := (hV.out U2 hU.out).symm; have b6 : Hid (Below w3.heap.size w3 w6) := b5.out.trans (hb6.mono b5.out.size); clear hb6 kD0 hU)
    | (go_at_call 12; refine (kA.out _ (b3.out.trans (b6.out.mono b3.out.size))).mono ?_; rintro e w7 ⟨rfl, hb7⟩; have b7 : Hid (Below w3.heap.size w3 w7) := b6.out.trans (hb7.mono b6.out.size); clear hb7))
  all_goals
    go_wp2_with fail
    go_ret
    exact ⟨by simp, BW.out.trans ((b3.out.trans (b7.out.mono b3.out.size)).mono BW.out.size)⟩
end Go.Proofs.YtelabgonpmafpaaGreatDoor
