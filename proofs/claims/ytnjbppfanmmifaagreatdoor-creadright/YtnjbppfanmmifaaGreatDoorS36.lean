/-
  The document's depth, and when it says that trees are the same: deep, same.
  The document's Few, Size, Deep, Same, and both.
  What is wrong with a node itself: tree.fault, of a text.
  What is wrong with a node itself: tree.fault, of bytes.
-/
import Derived.Test.YtnjbppfanmmifaaGreatDoorS6
import Derived.Test.YtnjbppfanmmifaaGreatDoorS35
import Derived.Test.YtnjbppfanmmifaaGreatDoorS33
import Derived.Test.YtnjbppfanmmifaaGreatDoorS2
import Derived.Test.YtnjbppfanmmifaaGreatDoorS8
import Derived.Test.YtnjbppfanmmifaaGreatDoorS30
namespace Go.Proofs.YtnjbppfanmmifaaGreatDoor
open Go.RowKit
set_option linter.unusedVariables false

def DeepAt (D : Nat) : Prop := ∀ (t : Tr) (b : Nb) (w : World), Nd D w b t → t.size ≤ 1000000 → Calls Tryz.prog 37 #[.agg b.arr] w fun e w' => e = .returned (.int .i64 (t.deep : Nat)) ∧ Below w.heap.size w w'
theorem deeps_le (l : List Tr) : Tr.deeps l ≤ Tr.sizes l := Tr.mx_le fun x hx => by
  obtain ⟨k, hm, rfl⟩ := List.mem_map.1 hx
  exact Nat.le_trans (Tr.deep_size k) (Tr.size_le hm)
theorem deeps_take (l : List Tr) (i : Nat) : Tr.deeps (l.take i) ≤ Tr.sizes l := Nat.le_trans (deeps_le _) (Tr.sizes_take l i)
set_option maxHeartbeats 4000000 in
set_option maxRecDepth 100000 in
theorem deep_step {D : Nat} (ih : DeepAt D) : DeepAt (D + 1) := by
  intro t b w hN hsz
  have hal := alloc_below w (.cells b.arr 26)
  have Q0 : Hid (NBox (w.alloc (.cells b.arr 26)) w.heap.size b) := nbox_new w b
  have B0 : Hid (Below w.heap.size w (w.alloc (.cells b.arr 26))) := hal
  obtain ⟨a0, a1, a2, a3, a4, a5, a6, a7, a8⟩ := (nbox_new w b).fields
  have hNk : Hid (RowN (Nd D w) w b.ak b.lk b.ck t.keys) := hN.2.2.2.1
  have hNi : Hid (RowN (Nd D w) w b.ai b.li b.ci t.kids) := hN.2.2.2.2
  have hlk : Hid (t.keys.length = b.lk) := hN.2.2.2.1.1
  have hli : Hid (t.kids.length = b.li) := hN.2.2.2.2.1
  have mk := hN.2.2.2.1.2.1.1
  have mk' := hN.2.2.2.1.2.1.2.1
  have mi := hN.2.2.2.2.2.1.1
  have mi' := hN.2.2.2.2.2.1.2.1
  unfold maxLen at mk' mi'
  have hse := Tr.size_eq t
  have hS : Hid (Tr.sizes t.keys ≤ 1000000 ∧ Tr.sizes t.kids ≤ 1000000) := ⟨by omega, by omega⟩
  have hd : Hid (t.deep = 1 + max (Tr.deeps t.keys) (Tr.deeps t.kids)) := Tr.deep_eq t
  clear hal hN hse hsz
  go_enter Tryz.func37, Tryz.ntmps37
  go_wp2
  go_loopw [3, 4] (fun s3 s4 wr => ∃ (i : Nat) (M : Nat), i ≤ b.lk ∧ s3 = .int .i64 (M : Nat) ∧ s4 = .int .i64 i ∧ Hid (Below (w.alloc (.cells b.arr 26)).heap.size (w.alloc (.cells b.arr 26)) wr) ∧ Hid (M = Tr.deeps (t.keys.take i))) (fun _ i _ => b.lk - (intOf i).toNat)
  case atStart => exact ⟨0, 0, Nat.zero_le _, rfl, rfl, Below.refl _ _, by show _ = _; rw [List.take_zero]; rfl⟩
  case round =>
    obtain ⟨i, M, him, rfl, rfl, hbl, hM⟩ := hrel
    clear a0 a1 a2 a3 a4 a5 a6 a7 a8
    have Qr := Q0.out.kept hbl.out Q0.out.lt
    have Br : Hid (Below w.heap.size w wr) := B0.out.trans (hbl.out.mono B0.out.size)
    obtain ⟨a0, a1, a2, a3, a4, a5, a6, a7, a8⟩ := Qr.fields
    have hMb : M ≤ 1000000 := by rw [hM.out]; exact Nat.le_trans (deeps_take _ _) hS.out.1
    by_cases hlt : i < b.lk
    · have hz : (i : Int) < (b.lk : Int) := by omega
      have hix : i < t.keys.length := by rw [hlk.out]; exact hlt
      obtain ⟨bk, ok, nk, hak, hck, hNn, hbk⟩ := row_el hNk.out Br.out hix
      obtain ⟨f0, f1, f2, f3, f4, f5, f6, f7, f8⟩ := elem_fields hck
      have kk := ih t.keys[i] nk wr hNn (Nat.le_trans (Tr.size_le (List.getElem_mem hix)) hS.out.1)
      have wi : IntKind.i64.wrap ((i : Int) + 1) = (i : Int) + 1 := by rw [IntKind.wrap_i64]; omega
      have hM' : Hid (max M (t.keys[i]).deep = Tr.deeps (t.keys.take (i + 1))) := by
        show _ = _
        rw [Tr.deeps_snoc _ hix, hM.out]
      generalize (t.keys[i]).deep = E at *
      clear hck hNn hbk
      by_cases hE : M < E
      · have hEz : (M : Int) < (E : Int) := by omega
        have hmx : Hid (max M E = E) := by show _ = _; omega
        clear hE
        go_wp2_with (go_at_call 37; refine kk.mono ?_; rintro e w2 ⟨rfl, hb2⟩)
        try simp only [hak]
        go_roundw
        case rel => exact ⟨i + 1, E, by omega, (by first | rfl | (congr 1; omega)), by go_num, hbl.out.trans (hb2.mono hbl.out.size), by show _ = _; rw [← hM'.out, hmx.out]⟩
        case measure => simp [intOf]; omega
      · have hEz : ¬ (M : Int) < (E : Int) := by omega
        have hmx : Hid (max M E = M) := by show _ = _; omega
        clear hE
        go_wp2_with (go_at_call 37; refine kk.mono ?_; rintro e w2 ⟨rfl, hb2⟩)
        try simp only [hak]
        go_roundw
        case rel => exact ⟨i + 1, M, by omega, (by first | rfl | (congr 1; omega)), by go_num, hbl.out.trans (hb2.mono hbl.out.size), by show _ = _; rw [← hM'.out, hmx.out]⟩
        case measure => simp [intOf]; omega
    · have hz : ¬ (i : Int) < (b.lk : Int) := by omega
      have hK : Hid (M = Tr.deeps t.keys) := by
        show _ = _
        rw [hM.out, List.take_of_length_le (by rw [hlk.out]; omega)]
      clear hM
      go_wp2
      go_loopw [3, 5] (fun s3 s5 wq => ∃ (j : Nat) (N : Nat), j ≤ b.li ∧ s3 = .int .i64 (N : Nat) ∧ s5 = .int .i64 j ∧ Hid (Below (w.alloc (.cells b.arr 26)).heap.size (w.alloc (.cells b.arr 26)) wq) ∧ Hid (N = max (Tr.deeps t.keys) (Tr.deeps (t.kids.take j)))) (fun _ j _ => b.li - (intOf j).toNat)
      case atStart => exact ⟨0, M, Nat.zero_le _, rfl, rfl, hbl, by show _ = _; rw [List.take_zero, hK.out]; exact (Nat.max_eq_left (Nat.zero_le _)).symm⟩
      case round =>
        obtain ⟨j, N, hjm, rfl, rfl, hbq, hN'⟩ := hrel
        clear a0 a1 a2 a3 a4 a5 a6 a7 a8
        have Qq := Q0.out.kept hbq.out Q0.out.lt
        have Bq : Hid (Below w.heap.size w _) := B0.out.trans (hbq.out.mono B0.out.size)
        obtain ⟨a0, a1, a2, a3, a4, a5, a6, a7, a8⟩ := Qq.fields
        have hNb : N ≤ 1000000 := by
          rw [hN'.out]
          exact Nat.max_le.2 ⟨Nat.le_trans (deeps_le _) hS.out.1, Nat.le_trans (deeps_take _ _) hS.out.2⟩
        by_cases hjt : j < b.li
        · have hjz : (j : Int) < (b.li : Int) := by omega
          have hjx : j < t.kids.length := by rw [hli.out]; exact hjt
          obtain ⟨bi, oi, ni, hai, hci, hNn2, hbi⟩ := row_el hNi.out Bq.out hjx
          obtain ⟨p0, p1, p2, p3, p4, p5, p6, p7, p8⟩ := elem_fields hci
          have k2 := ih t.kids[j] ni _ hNn2 (Nat.le_trans (Tr.size_le (List.getElem_mem hjx)) hS.out.2)
          have wj : IntKind.i64.wrap ((j : Int) + 1) = (j : Int) + 1 := by rw [IntKind.wrap_i64]; omega
          have hN2 : Hid (max N (t.kids[j]).deep = max (Tr.deeps t.keys) (Tr.deeps (t.kids.take (j + 1)))) := by
            show _ = _
            rw [Tr.deeps_snoc _ hjx, hN'.out, Nat.max_assoc]
          generalize (t.kids[j]).deep = E at *
          clear hci hNn2 hbi
          by_cases hE : N < E
          · have hEz : (N : Int) < (E : Int) := by omega
            have hmx : Hid (max N E = E) := by show _ = _; omega
            clear hE
            go_wp2_with (go_at_call 37; refine k2.mono ?_; rintro e w3 ⟨rfl, hb3⟩)
            try simp only [hai]
            go_roundw
            case rel => exact ⟨j + 1, E, by omega, (by first | rfl | (congr 1; omega)), by go_num, hbq.out.trans (hb3.mono hbq.out.size), by show _ = _; rw [← hN2.out, hmx.out]⟩
            case measure => simp [intOf]; omega
          · have hEz : ¬ (N : Int) < (E : Int) := by omega
            have hmx : Hid (max N E = N) := by show _ = _; omega
            clear hE
            go_wp2_with (go_at_call 37; refine k2.mono ?_; rintro e w3 ⟨rfl, hb3⟩)
            try simp only [hai]
            go_roundw
            case rel => exact ⟨j + 1, N, by omega, (by first | rfl | (congr 1; omega)), by go_num, hbq.out.trans (hb3.mono hbq.out.size), by show _ = _; rw [← hN2.out, hmx.out]⟩
            case measure => simp [intOf]; omega
        · have hjz : ¬ (j : Int) < (b.li : Int) := by omega
          have hfin : Hid (N + 1 = t.deep) := by
            show _ = _
            rw [hd.out, hN'.out, List.take_of_length_le (by rw [hli.out]; omega), Nat.add_comm]
          have wN : IntKind.i64.wrap ((N : Int) + 1) = (N : Int) + 1 := by rw [IntKind.wrap_i64]; omega
          clear hN'
          go_wp2
          go_ret
          exact ⟨by rw [← hfin.out]; rfl, Bq.out⟩
theorem deep_all : ∀ D, DeepAt D := by
  intro D
  induction D with
  | zero => intro t b w h; exact absurd h id
  | succ D ih => exact deep_step ih
end Go.Proofs.YtnjbppfanmmifaaGreatDoor
namespace Go.Proofs.YtnjbppfanmmifaaGreatDoor
open Go.RowKit
set_option linter.unusedVariables false
set_option maxHeartbeats 1000000 in
theorem efew_any {D : Nat} {t : Tr} {b : Nb} {w : World} (hN : Nd D w b t) : Calls Tryz.prog 32 #[.agg b.arr] w fun e w' => e = .returned (.bool (decide (t.size ≤ 1024))) ∧ Below w.heap.size w w' := by
  have hal := alloc_below w (.cells b.arr 26)
  have km := left_all D t b _ 1024 (hN.kept hal) (by omega) (by omega)
  have hB : Hid (Below w.heap.size w (w.alloc (.cells b.arr 26))) := hal
  obtain ⟨c0, c1, c2, c3, c4, c5, c6, c7, c8⟩ := (nbox_new w b).fields
  rw [← Tr.lft_few]
  generalize Tr.lft 1024 t.size = S at *
  clear hal hN
  go_enter Tryz.func32, Tryz.ntmps32
  go_wp2_with (go_at_call 46; refine km.mono ?_; rintro e w1 ⟨rfl, hb⟩)
  go_ret
  exact ⟨rfl, hB.out.trans (hb.mono hB.out.size)⟩
set_option maxHeartbeats 2000000 in
theorem esame_any {D E : Nat} {t u : Tr} {a b : Nb} {w : World} {v : Bool} (hA : Nd D w a t) (hB : Nd E w b u) (hv : v = true ↔ t.size ≤ 1024 ∧ u.size ≤ 1024 ∧ t = u) : Calls Tryz.prog 19 #[.agg a.arr, .agg b.arr] w fun e w' => e = .returned (.bool v) ∧ Below w.heap.size w w' := by
  have hal := alloc_below w (.cells a.arr 26)
  have hal2 := alloc_below (w.alloc (.cells a.arr 26)) (.cells b.arr 26)
  have hb2 : Hid (Below w.heap.size w ((w.alloc (.cells a.arr 26)).alloc (.cells b.arr 26))) := hal.trans (hal2.mono hal.size)
  have hs2 : Hid (w.heap.size ≤ ((w.alloc (.cells a.arr 26)).alloc (.cells b.arr 26)).heap.size) := Nat.le_trans hal.size hal2.size
  have boxA := (nbox_new w a).kept hal2 (by simp)
  have boxB := nbox_new (w.alloc (.cells a.arr 26)) b
  have s1 : (w.alloc (.cells a.arr 26)).heap.size = w.heap.size + 1 := by simp
  rw [s1] at boxB
  obtain ⟨a0, a1, a2, a3, a4, a5, a6, a7, a8⟩ := boxA.fields
  obtain ⟨b0, b1, b2, b3, b4, b5, b6, b7, b8⟩ := boxB.fields
  have hKa : Hid (NBox ((w.alloc (.cells a.arr 26)).alloc (.cells b.arr 26)) w.heap.size a) := boxA
  have hKb : Hid (NBox ((w.alloc (.cells a.arr 26)).alloc (.cells b.arr 26)) (w.heap.size + 1) b) := boxB
  have hsz : Hid (w.heap.size + 1 < ((w.alloc (.cells a.arr 26)).alloc (.cells b.arr 26)).heap.size) := by show _ < _; simp
  have kA : Hid (∀ w', Below w.heap.size w w' → Calls Tryz.prog 32 #[.agg a.arr] w' _) := fun w' h => efew_any (hA.kept h)
  have kB : Hid (∀ w', Below w.heap.size w w' → Calls Tryz.prog 32 #[.agg b.arr] w' _) := fun w' h => efew_any (hB.kept h)
  have k1 := kA.out _ hb2.out
  have kS : Hid (∀ (v' : Bool), (v' = true ↔ t = u) → ∀ w', Below w.heap.size w w' → Calls Tryz.prog 33 #[.agg a.arr, .agg b.arr] w' _) := fun v' h w' hb => esam_any (hA.kept hb) (hB.kept hb) h
  have hV : Hid (v = true ↔ t.size ≤ 1024 ∧ u.size ≤ 1024 ∧ t = u) := hv
  clear hal hal2 boxA boxB s1 hv hA hB
  by_cases hf : t.size ≤ 1024
  · rw [decide_eq_true hf] at k1
    by_cases hg : u.size ≤ 1024
    · rw [show decide (u.size ≤ 1024) = true from decide_eq_true hg] at kB
      have hv : v = true ↔ t = u := ⟨fun h => (hV.out.1 h).2.2, fun h => hV.out.2 ⟨hf, hg, h⟩⟩
      have kS' := kS.out v hv
      clear hf hg hv kS
      go_enter Tryz.func19, Tryz.ntmps19
      go_wp2_with (first
        | (go_at_call 32; refine k1.mono ?_; rintro e w1 ⟨rfl, hb1⟩; clear k1; have hbw := hb2.out.trans (hb1.mono hs2.out); have q2 := hKb.out.kept hb1 hsz.out; have q1 := hKa.out.kept hb1 (Nat.lt_of_le_of_lt (Nat.le_succ _) hsz.out); obtain ⟨c0, c1, c2, c3, c4, c5, c6, c7, c8⟩ := q1.fields; obtain ⟨d0, d1, d2, d3, d4, d5, d6, d7, d8⟩ := q2.fields; have k2 := kB.out w1 hbw)
        | (go_at_call 32; refine k2.mono ?_; rintro e w2 ⟨rfl, hb3⟩; clear k2; have hbw2 := hbw.trans (hb3.mono hbw.size); obtain ⟨g0, g1, g2, g3, g4, g5, g6, g7, g8⟩ := (q1.kept hb3 q1.lt).fields; obtain ⟨h0, h1, h2, h3, h4, h5, h6, h7, h8⟩ := (q2.kept hb3 q2.lt).fields; have k3 := kS' w2 hbw2)
        | (go_at_call 33; refine k3.mono ?_; rintro e w3 ⟨rfl, hb4⟩))
      go_ret
      exact ⟨rfl, hbw2.trans (hb4.mono hbw2.size)⟩
    · rw [show decide (u.size ≤ 1024) = false from decide_eq_false hg] at kB
      have hv : v = false := not_true hV.out fun h => hg h.2.1
      subst hv
      clear hf hg kS
      go_enter Tryz.func19, Tryz.ntmps19
      go_wp2_with (first
        | (go_at_call 32; refine k1.mono ?_; rintro e w1 ⟨rfl, hb1⟩; clear k1; have hbw := hb2.out.trans (hb1.mono hs2.out); have q2 := hKb.out.kept hb1 hsz.out; obtain ⟨d0, d1, d2, d3, d4, d5, d6, d7, d8⟩ := q2.fields; have k2 := kB.out w1 hbw)
        | (go_at_call 32; refine k2.mono ?_; rintro e w2 ⟨rfl, hb3⟩))
      go_ret
      exact ⟨rfl, hbw.trans (hb3.mono hbw.size)⟩
  · rw [decide_eq_false hf] at k1
    have hv : v = false := not_true hV.out fun h => hf h.1
    subst hv
    clear hf kS kB
    go_enter Tryz.func19, Tryz.ntmps19
    go_wp2_with (go_at_call 32; refine k1.mono ?_; rintro e w1 ⟨rfl, hb1⟩)
    go_ret
    exact ⟨rfl, hb2.out.trans (hb1.mono hs2.out)⟩

end Go.Proofs.YtnjbppfanmmifaaGreatDoor
namespace Go.Proofs.YtnjbppfanmmifaaGreatDoor
open Go.RowKit
set_option linter.unusedVariables false

end Go.Proofs.YtnjbppfanmmifaaGreatDoor
namespace Go.Proofs.YtnjbppfanmmifaaGreatDoor
open Go.RowKit
set_option linter.unusedVariables false

end Go.Proofs.YtnjbppfanmmifaaGreatDoor
