/-
  The document's depth, and when it says that trees are the same: deep, same.
-/
import Derived.Test.YtkealjaealeojaaQSmt
namespace Go.Proofs.Ytkealjaealeojaa
open Go.RowKit
set_option linter.unusedVariables false

def DeepAt (D : Nat) : Prop := ∀ (t : Tr) (b : Nb) (w : World), Nd D w b t → t.size ≤ 1000000 → Calls Try.prog 31 #[.agg b.arr] w fun e w' => e = .returned (.int .i64 (t.deep : Nat)) ∧ Below w.heap.size w w'
theorem deeps_le (l : List Tr) : Tr.deeps l ≤ Tr.sizes l := Tr.mx_le fun x hx => by
  obtain ⟨k, hm, rfl⟩ := List.mem_map.1 hx
  exact Nat.le_trans (Tr.deep_size k) (Tr.size_le hm)
theorem deeps_take (l : List Tr) (i : Nat) : Tr.deeps (l.take i) ≤ Tr.sizes l := Nat.le_trans (deeps_le _) (Tr.sizes_take l i)
set_option maxHeartbeats 4000000 in
set_option maxRecDepth 100000 in
theorem deep_step {D : Nat} (ih : DeepAt D) : DeepAt (D + 1) := by
  intro t b w hN hsz
  have hal := alloc_below w (.cells b.arr 26)
  have Q0 : Hid (NBox (w.alloc (.cells b.arr 26)) w.heap.size b) := nbox_new w b
  have B0 : Hid (Below w.heap.size w (w.alloc (.cells b.arr 26))) := hal
  obtain ⟨a0, a1, a2, a3, a4, a5, a6, a7, a8⟩ := (nbox_new w b).fields
  have hNk : Hid (RowN (Nd D w) w b.ak b.lk b.ck t.keys) := hN.2.2.2.1
  have hNi : Hid (RowN (Nd D w) w b.ai b.li b.ci t.kids) := hN.2.2.2.2
  have hlk : Hid (t.keys.length = b.lk) := hN.2.2.2.1.1
  have hli : Hid (t.kids.length = b.li) := hN.2.2.2.2.1
  have mk := hN.2.2.2.1.2.1.1
  have mk' := hN.2.2.2.1.2.1.2.1
  have mi := hN.2.2.2.2.2.1.1
  have mi' := hN.2.2.2.2.2.1.2.1
  unfold maxLen at mk' mi'
  have hse := Tr.size_eq t
  have hS : Hid (Tr.sizes t.keys ≤ 1000000 ∧ Tr.sizes t.kids ≤ 1000000) := ⟨by omega, by omega⟩
  have hd : Hid (t.deep = 1 + max (Tr.deeps t.keys) (Tr.deeps t.kids)) := Tr.deep_eq t
  clear hal hN hse hsz
  go_enter Try.func31, Try.ntmps31
  go_wp2
  go_loopw [3, 4] (fun s3 s4 wr => ∃ (i : Nat) (M : Nat), i ≤ b.lk ∧ s3 = .int .i64 (M : Nat) ∧ s4 = .int .i64 i ∧ Hid (Below (w.alloc (.cells b.arr 26)).heap.size (w.alloc (.cells b.arr 26)) wr) ∧ Hid (M = Tr.deeps (t.keys.take i))) (fun _ i _ => b.lk - (intOf i).toNat)
  case atStart => exact ⟨0, 0, Nat.zero_le _, rfl, rfl, Below.refl _ _, by show _ = _; rw [List.take_zero]; rfl⟩
  case round =>
    obtain ⟨i, M, him, rfl, rfl, hbl, hM⟩ := hrel
    clear a0 a1 a2 a3 a4 a5 a6 a7 a8
    have Qr := Q0.out.kept hbl.out Q0.out.lt
    have Br : Hid (Below w.heap.size w wr) := B0.out.trans (hbl.out.mono B0.out.size)
    obtain ⟨a0, a1, a2, a3, a4, a5, a6, a7, a8⟩ := Qr.fields
    have hMb : M ≤ 1000000 := by rw [hM.out]; exact Nat.le_trans (deeps_take _ _) hS.out.1
    by_cases hlt : i < b.lk
    · have hz : (i : Int) < (b.lk : Int) := by omega
      have hix : i < t.keys.length := by rw [hlk.out]; exact hlt
      obtain ⟨bk, ok, nk, hak, hck, hNn, hbk⟩ := row_el hNk.out Br.out hix
      obtain ⟨f0, f1, f2, f3, f4, f5, f6, f7, f8⟩ := elem_fields hck
      have kk := ih t.keys[i] nk wr hNn (Nat.le_trans (Tr.size_le (List.getElem_mem hix)) hS.out.1)
      have wi : IntKind.i64.wrap ((i : Int) + 1) = (i : Int) + 1 := by rw [IntKind.wrap_i64]; omega
      have hM' : Hid (max M (t.keys[i]).deep = Tr.deeps (t.keys.take (i + 1))) := by
        show _ = _
        rw [Tr.deeps_snoc _ hix, hM.out]
      generalize (t.keys[i]).deep = E at *
      clear hck hNn hbk
      by_cases hE : M < E
      · have hEz : (M : Int) < (E : Int) := by omega
        have hmx : Hid (max M E = E) := by show _ = _; omega
        clear hE
        go_wp2_with (go_at_call 31; refine kk.mono ?_; rintro e w2 ⟨rfl, hb2⟩)
        try simp only [hak]
        go_roundw
        case rel => exact ⟨i + 1, E, by omega, rfl, by go_num, hbl.out.trans (hb2.mono hbl.out.size), by show _ = _; rw [← hM'.out, hmx.out]⟩
        case measure => simp [intOf]; omega
      · have hEz : ¬ (M : Int) < (E : Int) := by omega
        have hmx : Hid (max M E = M) := by show _ = _; omega
        clear hE
        go_wp2_with (go_at_call 31; refine kk.mono ?_; rintro e w2 ⟨rfl, hb2⟩)
        try simp only [hak]
        go_roundw
        case rel => exact ⟨i + 1, M, by omega, rfl, by go_num, hbl.out.trans (hb2.mono hbl.out.size), by show _ = _; rw [← hM'.out, hmx.out]⟩
        case measure => simp [intOf]; omega
    · have hz : ¬ (i : Int) < (b.lk : Int) := by omega
      have hK : Hid (M = Tr.deeps t.keys) := by
        show _ = _
        rw [hM.out, List.take_of_length_le (by rw [hlk.out]; omega)]
      clear hM
      go_wp2
      go_loopw [3, 5] (fun s3 s5 wq => ∃ (j : Nat) (N : Nat), j ≤ b.li ∧ s3 = .int .i64 (N : Nat) ∧ s5 = .int .i64 j ∧ Hid (Below (w.alloc (.cells b.arr 26)).heap.size (w.alloc (.cells b.arr 26)) wq) ∧ Hid (N = max (Tr.deeps t.keys) (Tr.deeps (t.kids.take j)))) (fun _ j _ => b.li - (intOf j).toNat)
      case atStart => exact ⟨0, M, Nat.zero_le _, rfl, rfl, hbl, by show _ = _; rw [List.take_zero, hK.out]; exact (Nat.max_eq_left (Nat.zero_le _)).symm⟩
      case round =>
        obtain ⟨j, N, hjm, rfl, rfl, hbq, hN'⟩ := hrel
        clear a0 a1 a2 a3 a4 a5 a6 a7 a8
        have Qq := Q0.out.kept hbq.out Q0.out.lt
        have Bq : Hid (Below w.heap.size w _) := B0.out.trans (hbq.out.mono B0.out.size)
        obtain ⟨a0, a1, a2, a3, a4, a5, a6, a7, a8⟩ := Qq.fields
        have hNb : N ≤ 1000000 := by
          rw [hN'.out]
          exact Nat.max_le.2 ⟨Nat.le_trans (deeps_le _) hS.out.1, Nat.le_trans (deeps_take _ _) hS.out.2⟩
        by_cases hjt : j < b.li
        · have hjz : (j : Int) < (b.li : Int) := by omega
          have hjx : j < t.kids.length := by rw [hli.out]; exact hjt
          obtain ⟨bi, oi, ni, hai, hci, hNn2, hbi⟩ := row_el hNi.out Bq.out hjx
          obtain ⟨p0, p1, p2, p3, p4, p5, p6, p7, p8⟩ := elem_fields hci
          have k2 := ih t.kids[j] ni _ hNn2 (Nat.le_trans (Tr.size_le (List.getElem_mem hjx)) hS.out.2)
          have wj : IntKind.i64.wrap ((j : Int) + 1) = (j : Int) + 1 := by rw [IntKind.wrap_i64]; omega
          have hN2 : Hid (max N (t.kids[j]).deep = max (Tr.deeps t.keys) (Tr.deeps (t.kids.take (j + 1)))) := by
            show _ = _
            rw [Tr.deeps_snoc _ hjx, hN'.out, Nat.max_assoc]
          generalize (t.kids[j]).deep = E at *
          clear hci hNn2 hbi
          by_cases hE : N < E
          · have hEz : (N : Int) < (E : Int) := by omega
            have hmx : Hid (max N E = E) := by show _ = _; omega
            clear hE
            go_wp2_with (go_at_call 31; refine k2.mono ?_; rintro e w3 ⟨rfl, hb3⟩)
            try simp only [hai]
            go_roundw
            case rel => exact ⟨j + 1, E, by omega, rfl, by go_num, hbq.out.trans (hb3.mono hbq.out.size), by show _ = _; rw [← hN2.out, hmx.out]⟩
            case measure => simp [intOf]; omega
          · have hEz : ¬ (N : Int) < (E : Int) := by omega
            have hmx : Hid (max N E = N) := by show _ = _; omega
            clear hE
            go_wp2_with (go_at_call 31; refine k2.mono ?_; rintro e w3 ⟨rfl, hb3⟩)
            try simp only [hai]
            go_roundw
            case rel => exact ⟨j + 1, N, by omega, rfl, by go_num, hbq.out.trans (hb3.mono hbq.out.size), by show _ = _; rw [← hN2.out, hmx.out]⟩
            case measure => simp [intOf]; omega
        · have hjz : ¬ (j : Int) < (b.li : Int) := by omega
          have hfin : Hid (N + 1 = t.deep) := by
            show _ = _
            rw [hd.out, hN'.out, List.take_of_length_le (by rw [hli.out]; omega), Nat.add_comm]
          have wN : IntKind.i64.wrap ((N : Int) + 1) = (N : Int) + 1 := by rw [IntKind.wrap_i64]; omega
          clear hN'
          go_wp2
          go_ret
          exact ⟨by rw [← hfin.out]; rfl, Bq.out⟩
theorem deep_all : ∀ D, DeepAt D := by
  intro D
  induction D with
  | zero => intro t b w h; exact absurd h id
  | succ D ih => exact deep_step ih
end Go.Proofs.Ytkealjaealeojaa
