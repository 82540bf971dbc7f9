/-
  The fault of the first node that has one, as the document's call tells it: gantlineref08.forms.
  Whether two keys are the same: tree.twice, with slices.ContainsFunc and slices.IndexFunc; tree.Same.
  Whether a map has two keys that are the same, as the document's call tells it: gantlineref08.twice.
  The document's count of nodes and depth: left, deep.
-/
import Derived.Test.YtmlacmoembjeoaaGreatDoorG37
import Derived.Test.YtmlacmoembjeoaaGreatDoorG23
import Derived.Test.YtmlacmoembjeoaaGreatDoorG2
import Derived.Test.YtmlacmoembjeoaaGreatDoorG31
import Derived.Test.YtmlacmoembjeoaaGreatDoorG3
import Derived.Deep.RegionHeld3
namespace Go.Proofs.YtmlacmoembjeoaaGreatDoor
open Go.RowKit
set_option linter.unusedVariables false

end Go.Proofs.YtmlacmoembjeoaaGreatDoor
namespace Go.Proofs.YtmlacmoembjeoaaGreatDoor
open Go.RowKit
set_option linter.unusedVariables false

end Go.Proofs.YtmlacmoembjeoaaGreatDoor
namespace Go.Proofs.YtmlacmoembjeoaaGreatDoor
open Go.RowKit
set_option linter.unusedVariables false

end Go.Proofs.YtmlacmoembjeoaaGreatDoor
namespace Go.Proofs.YtmlacmoembjeoaaGreatDoor
open Go.RowKit
set_option linter.unusedVariables false

def LeftAt (D : Nat) : Prop := ∀ (t : Tr) (b : Nb) (w : World) (m : Int), Nd D w b t → 0 ≤ m → m ≤ 2000 → Calls Tryz.prog 32 #[.agg b.arr, .int .i64 m] w fun e w' => e = .returned (.int .i64 (Tr.lft m t.size)) ∧ Below w.heap.size w w'
theorem lft_bd {m : Int} {s : Nat} (h0 : 0 ≤ m) (h1 : m ≤ 2000) : -1 ≤ Tr.lft m s ∧ Tr.lft m s ≤ 2000 := by unfold Tr.lft; split <;> omega

set_option maxHeartbeats 4000000 in
set_option maxRecDepth 100000 in
theorem left_step {D : Nat} (ih : LeftAt D) : LeftAt (D + 1) := by
  intro t b w m hN h0 h1
  have hal := alloc_below w (.cells b.arr 26)
  have Q0 : Hid (NBox (w.alloc (.cells b.arr 26)) w.heap.size b) := nbox_new w b
  have B0 : Hid (Below w.heap.size w (w.alloc (.cells b.arr 26))) := hal
  obtain ⟨a0, a1, a2, a3, a4, a5, a6, a7, a8⟩ := (nbox_new w b).fields
  have hNk : Hid (RowN (Nd D w) w b.ak b.lk b.ck t.keys) := hN.2.2.2.1
  have hNi : Hid (RowN (Nd D w) w b.ai b.li b.ci t.kids) := hN.2.2.2.2
  have hlk : Hid (t.keys.length = b.lk) := hN.2.2.2.1.1
  have hli : Hid (t.kids.length = b.li) := hN.2.2.2.2.1
  have mk := hN.2.2.2.1.2.1.1
  have mk' := hN.2.2.2.1.2.1.2.1
  have mi := hN.2.2.2.2.2.1.1
  have mi' := hN.2.2.2.2.2.1.2.1
  unfold maxLen at mk' mi'
  have hm : Hid (0 ≤ m ∧ m ≤ 2000) := ⟨h0, h1⟩
  have wm : IntKind.i64.wrap (m - 1) = m - 1 := by rw [IntKind.wrap_i64]; omega
  have hsz : Hid (t.size = 1 + Tr.sizes t.keys + Tr.sizes t.kids) := Tr.size_eq t
  have hst : Hid (m - 1 = Tr.lft m (1 + Tr.sizes (t.keys.take 0))) := by
    show _ = _
    rw [List.take_zero, Tr.sizes_nil]; unfold Tr.lft; split <;> omega
  clear hal hN h0 h1
  go_enter Tryz.func32, Tryz.ntmps32
  go_wp2
  go_loopw [1, 5] (fun s1 s5 wr => ∃ (i : Nat) (M : Int), i ≤ b.lk ∧ s1 = .int .i64 M ∧ s5 = .int .i64 i ∧ Hid (Below (w.alloc (.cells b.arr 26)).heap.size (w.alloc (.cells b.arr 26)) wr) ∧ Hid (M = Tr.lft m (1 + Tr.sizes (t.keys.take i)))) (fun _ i _ => b.lk - (intOf i).toNat)
  case atStart => exact ⟨0, m - 1, Nat.zero_le _, rfl, rfl, Below.refl _ _, hst⟩
  case round =>
    obtain ⟨i, M, him, rfl, rfl, hbl, hM⟩ := hrel
    clear a0 a1 a2 a3 a4 a5 a6 a7 a8
    have Qr := Q0.out.kept hbl.out Q0.out.lt
    have Br : Hid (Below w.heap.size w wr) := B0.out.trans (hbl.out.mono B0.out.size)
    obtain ⟨a0, a1, a2, a3, a4, a5, a6, a7, a8⟩ := Qr.fields
    have hMb := lft_bd (s := 1 + Tr.sizes (t.keys.take i)) hm.out.1 hm.out.2
    rw [← hM.out] at hMb
    by_cases hlt : i < b.lk
    · have hz : (i : Int) < (b.lk : Int) := by omega
      have hix : i < t.keys.length := by rw [hlk.out]; exact hlt
      by_cases hM0 : 0 ≤ M
      · have hMd : decide (0 ≤ M) = true := decide_eq_true hM0
        obtain ⟨bk, ok, nk, hak, hck, hNn, hbk⟩ := row_el hNk.out Br.out hix
        obtain ⟨f0, f1, f2, f3, f4, f5, f6, f7, f8⟩ := elem_fields hck
        have kk := ih t.keys[i] nk wr M hNn hM0 hMb.2
        have wi : IntKind.i64.wrap ((i : Int) + 1) = (i : Int) + 1 := by rw [IntKind.wrap_i64]; omega
        have hM' : Hid (Tr.lft M (t.keys[i]).size = Tr.lft m (1 + Tr.sizes (t.keys.take (i + 1)))) := by
          show _ = _
          have e := hM.out
          subst e
          rw [Tr.lft_add hM0, Tr.sizes_snoc _ hix, Nat.add_assoc]
        generalize Tr.lft M (t.keys[i]).size = M2 at *
        clear hck hNn hbk hM0
        go_wp2_with (go_at_call 32; refine kk.mono ?_; rintro e w2 ⟨rfl, hb2⟩)
        try simp only [hak]
        go_roundw
        case rel => exact ⟨i + 1, M2, by omega, rfl, by go_num, hbl.out.trans (hb2.mono hbl.out.size), hM'⟩
        case measure => simp [intOf]; omega
      · have hMd : decide (0 ≤ M) = false := decide_eq_false hM0
        have hK : Hid (M = Tr.lft m (1 + Tr.sizes t.keys)) := by
          show _ = _
          have h1 : Tr.sizes t.keys = Tr.sizes (t.keys.take i) + Tr.sizes (t.keys.drop i) := by rw [← Tr.sizes_app, List.take_append_drop]
          have h2 := Tr.lft_over (m := m) (a := 1 + Tr.sizes (t.keys.take i)) (b := Tr.sizes (t.keys.drop i)) (by rw [← hM.out]; omega) hm.out.1
          rw [hM.out, h2.2, h1, ← Nat.add_assoc, h2.1]
        clear hM hM0
        go_wp2
        go_loopw [1, 6] (fun s1 s6 wq => ∃ (j : Nat) (N : Int), j ≤ b.li ∧ s1 = .int .i64 N ∧ s6 = .int .i64 j ∧ Hid (Below (w.alloc (.cells b.arr 26)).heap.size (w.alloc (.cells b.arr 26)) wq) ∧ Hid (N = Tr.lft m (1 + Tr.sizes t.keys + Tr.sizes (t.kids.take j)))) (fun _ j _ => b.li - (intOf j).toNat)
        case atStart => exact ⟨0, M, Nat.zero_le _, rfl, rfl, hbl, by show _ = _; rw [List.take_zero, Tr.sizes_nil, Nat.add_zero]; exact hK.out⟩
        case round =>
          obtain ⟨j, N, hjm, rfl, rfl, hbq, hN'⟩ := hrel
          clear a0 a1 a2 a3 a4 a5 a6 a7 a8
          have Qq := Q0.out.kept hbq.out Q0.out.lt
          have Bq : Hid (Below w.heap.size w _) := B0.out.trans (hbq.out.mono B0.out.size)
          obtain ⟨a0, a1, a2, a3, a4, a5, a6, a7, a8⟩ := Qq.fields
          have hNb := lft_bd (s := 1 + Tr.sizes t.keys + Tr.sizes (t.kids.take j)) hm.out.1 hm.out.2
          rw [← hN'.out] at hNb
          by_cases hjt : j < b.li
          · have hjz : (j : Int) < (b.li : Int) := by omega
            have hjx : j < t.kids.length := by rw [hli.out]; exact hjt
            by_cases hN0 : 0 ≤ N
            · have hNd : decide (0 ≤ N) = true := decide_eq_true hN0
              obtain ⟨bi, oi, ni, hai, hci, hNn2, hbi⟩ := row_el hNi.out Bq.out hjx
              obtain ⟨p0, p1, p2, p3, p4, p5, p6, p7, p8⟩ := elem_fields hci
              have k2 := ih t.kids[j] ni _ N hNn2 hN0 hNb.2
              have wj : IntKind.i64.wrap ((j : Int) + 1) = (j : Int) + 1 := by rw [IntKind.wrap_i64]; omega
              have hN2 : Hid (Tr.lft N (t.kids[j]).size = Tr.lft m (1 + Tr.sizes t.keys + Tr.sizes (t.kids.take (j + 1)))) := by
                show _ = _
                have e := hN'.out
                subst e
                rw [Tr.lft_add hN0, Tr.sizes_snoc _ hjx, Nat.add_assoc (1 + Tr.sizes t.keys)]
              generalize Tr.lft N (t.kids[j]).size = N2 at *
              clear hci hNn2 hbi hN0
              go_wp2_with (go_at_call 32; refine k2.mono ?_; rintro e w3 ⟨rfl, hb3⟩)
              try simp only [hai]
              go_roundw
              case rel => exact ⟨j + 1, N2, by omega, rfl, by go_num, hbq.out.trans (hb3.mono hbq.out.size), hN2⟩
              case measure => simp [intOf]; omega
            · have hNd : decide (0 ≤ N) = false := decide_eq_false hN0
              have hfin : Hid (N = Tr.lft m t.size) := by
                show _ = _
                have h1 : Tr.sizes t.kids = Tr.sizes (t.kids.take j) + Tr.sizes (t.kids.drop j) := by rw [← Tr.sizes_app, List.take_append_drop]
                have h2 := Tr.lft_over (m := m) (a := 1 + Tr.sizes t.keys + Tr.sizes (t.kids.take j)) (b := Tr.sizes (t.kids.drop j)) (by rw [← hN'.out]; omega) hm.out.1
                rw [hN'.out, h2.2, hsz.out, h1, ← Nat.add_assoc (1 + Tr.sizes t.keys), h2.1]
              clear hN' hN0
              go_wp2
              go_ret
              exact ⟨by rw [← hfin.out]; rfl, Bq.out⟩
          · have hjz : ¬ (j : Int) < (b.li : Int) := by omega
            have hfin : Hid (N = Tr.lft m t.size) := by
              show _ = _
              rw [hN'.out, hsz.out, List.take_of_length_le (by rw [hli.out]; omega)]
            clear hN'
            go_wp2
            go_ret
            exact ⟨by rw [← hfin.out]; rfl, Bq.out⟩
    · have hz : ¬ (i : Int) < (b.lk : Int) := by omega
      have hK : Hid (M = Tr.lft m (1 + Tr.sizes t.keys)) := by
        show _ = _
        rw [hM.out, List.take_of_length_le (by rw [hlk.out]; omega)]
      clear hM
      go_wp2
      go_loopw [1, 6] (fun s1 s6 wq => ∃ (j : Nat) (N : Int), j ≤ b.li ∧ s1 = .int .i64 N ∧ s6 = .int .i64 j ∧ Hid (Below (w.alloc (.cells b.arr 26)).heap.size (w.alloc (.cells b.arr 26)) wq) ∧ Hid (N = Tr.lft m (1 + Tr.sizes t.keys + Tr.sizes (t.kids.take j)))) (fun _ j _ => b.li - (intOf j).toNat)
      case atStart => exact ⟨0, M, Nat.zero_le _, rfl, rfl, hbl, by show _ = _; rw [List.take_zero, Tr.sizes_nil, Nat.add_zero]; exact hK.out⟩
      case round =>
        obtain ⟨j, N, hjm, rfl, rfl, hbq, hN'⟩ := hrel
        clear a0 a1 a2 a3 a4 a5 a6 a7 a8
        have Qq := Q0.out.kept hbq.out Q0.out.lt
        have Bq : Hid (Below w.heap.size w _) := B0.out.trans (hbq.out.mono B0.out.size)
        obtain ⟨a0, a1, a2, a3, a4, a5, a6, a7, a8⟩ := Qq.fields
        have hNb := lft_bd (s := 1 + Tr.sizes t.keys + Tr.sizes (t.kids.take j)) hm.out.1 hm.out.2
        rw [← hN'.out] at hNb
        by_cases hjt : j < b.li
        · have hjz : (j : Int) < (b.li : Int) := by omega
          have hjx : j < t.kids.length := by rw [hli.out]; exact hjt
          by_cases hN0 : 0 ≤ N
          · have hNd : decide (0 ≤ N) = true := decide_eq_true hN0
            obtain ⟨bi, oi, ni, hai, hci, hNn2, hbi⟩ := row_el hNi.out Bq.out hjx
            obtain ⟨p0, p1, p2, p3, p4, p5, p6, p7, p8⟩ := elem_fields hci
            have k2 := ih t.kids[j] ni _ N hNn2 hN0 hNb.2
            have wj : IntKind.i64.wrap ((j : Int) + 1) = (j : Int) + 1 := by rw [IntKind.wrap_i64]; omega
            have hN2 : Hid (Tr.lft N (t.kids[j]).size = Tr.lft m (1 + Tr.sizes t.keys + Tr.sizes (t.kids.take (j + 1)))) := by
              show _ = _
              have e := hN'.out
              subst e
              rw [Tr.lft_add hN0, Tr.sizes_snoc _ hjx, Nat.add_assoc (1 + Tr.sizes t.keys)]
            generalize Tr.lft N (t.kids[j]).size = N2 at *
            clear hci hNn2 hbi hN0
            go_wp2_with (go_at_call 32; refine k2.mono ?_; rintro e w3 ⟨rfl, hb3⟩)
            try simp only [hai]
            go_roundw
            case rel => exact ⟨j + 1, N2, by omega, rfl, by go_num, hbq.out.trans (hb3.mono hbq.out.size), hN2⟩
            case measure => simp [intOf]; omega
          · have hNd : decide (0 ≤ N) = false := decide_eq_false hN0
            have hfin : Hid (N = Tr.lft m t.size) := by
              show _ = _
              have h1 : Tr.sizes t.kids = Tr.sizes (t.kids.take j) + Tr.sizes (t.kids.drop j) := by rw [← Tr.sizes_app, List.take_append_drop]
              have h2 := Tr.lft_over (m := m) (a := 1 + Tr.sizes t.keys + Tr.sizes (t.kids.take j)) (b := Tr.sizes (t.kids.drop j)) (by rw [← hN'.out]; omega) hm.out.1
              rw [hN'.out, h2.2, hsz.out, h1, ← Nat.add_assoc (1 + Tr.sizes t.keys), h2.1]
            clear hN' hN0
            go_wp2
            go_ret
            exact ⟨by rw [← hfin.out]; rfl, Bq.out⟩
        · have hjz : ¬ (j : Int) < (b.li : Int) := by omega
          have hfin : Hid (N = Tr.lft m t.size) := by
            show _ = _
            rw [hN'.out, hsz.out, List.take_of_length_le (by rw [hli.out]; omega)]
          clear hN'
          go_wp2
          go_ret
          exact ⟨by rw [← hfin.out]; rfl, Bq.out⟩
theorem left_all : ∀ D, LeftAt D := by
  intro D
  induction D with
  | zero => intro t b w m h; exact absurd h id
  | succ D ih => exact left_step ih
end Go.Proofs.YtmlacmoembjeoaaGreatDoor
