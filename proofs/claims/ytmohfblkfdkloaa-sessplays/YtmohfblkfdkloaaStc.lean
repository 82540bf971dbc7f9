/-
  The document's time that goes on.
-/
import Derived.Test.YtmohfblkfdkloaaStb
namespace Go.Proofs.Ytmohfblkfdkloaa
open Go.RowKit
set_option linter.unusedVariables false
set_option maxHeartbeats 4000000 in
set_option maxRecDepth 100000 in
theorem xtick_any {w : World} {E : Nat → Prop} {rb k : Nat} {v u : Value} {R : Tb} {us : List Int} (now : Int) (h : RTab w E rb v u R us) (hO : Ok k R) (hE : ∀ q, w.heap.size ≤ q → E q) :
    Calls Try.prog 21 #[.pointer (some ⟨rb, 0, none⟩), .int .i64 now] w fun e w' => ∃ v1 v2, e = .returned v1 ∧ Hid (OwnsW w' w.heap.size v1 (endA R now)) ∧ Hid (RTab w' E rb v2 u (goA R now) us) ∧ Hid (KS (fun k => k = rb) w w') := by
  obtain ⟨a, c, rfl, h1, h2, _⟩ := h.form
  have c2 := h.c2
  have ky := ytime_any now w
  have h64 : R.L.length ≤ 64 := by have := hO.few; have := hO.m2; omega
  have htm := tm_le hO now
  have hO' : Hid (Ok k R) := hO
  have hEE : Hid (∀ q, w.heap.size ≤ q → E q) := hE
  have hn : Hid (∃ n, n = R.L.length) := ⟨_, rfl⟩
  obtain ⟨n, hn⟩ := hn
  have c3 := h.c3
  rw [← hn] at c3 h1
  have hn' : Hid (n = R.L.length) := hn
  have hbd0 : ∀ s ∈ R.L, 0 ≤ s.h ∧ s.h ≤ R.time := fun s hs => ⟨(hO.ent s hs).2.2.2.2.1, (hO.ent s hs).2.2.2.2.2.1⟩
  have ht0 := hO.t1
  have hset : ∀ x, RTab (w.setCell ⟨rb, 2, none⟩ (.int .i64 x)) E rb (.slice a R.L.length c) u { R with time := x } us := fun x => by
    have hk : ∀ q T cs, T ≠ 30 → w.heap[q]? = some (Obj.cells cs T (0, 0)) → (w.setCell ⟨rb, 2, none⟩ (.int .i64 x)).heap[q]? = w.heap[q]? := fun q T cs hT hq => Below.heap_setCell _ _ _ _ (fun e1 => by
      have e2 : q = rb := e1
      subst e2
      have e4 := h.blk
      unfold Blk at e4
      rw [hq] at e4
      injection e4 with e4
      injection e4 with _ e4
      exact hT e4)
    exact ⟨h.blk.set 2 _, ownsRow_keep h.row fun b cur _ _ h3 => hk b _ _ (by decide) h3, ownsRow_keep h.urow fun b cur _ _ h3 => hk b _ _ (by decide) h3, h.ov, h.ou, h.er, h.mem, h.cnt⟩
  by_cases hs : R.time < now ∧ now ≤ 1099511627776
  · have q1 : (decide (0 ≤ now) && decide (now ≤ 1099511627776)) = true := by simp; omega
    have q2 : decide (now > R.time) = true := by simp; omega
    have htmA : Hid (tmA R now = now) := by show _ = _; unfold tmA; rw [if_pos hs]
    have hT1 : Hid (RTab (w.setCell ⟨rb, 2, none⟩ (.int .i64 now)) E rb (.slice a R.L.length c) u { R with time := now } us) := hset now
    have hK1 : Hid (KS (fun k => k = rb) w (w.setCell ⟨rb, 2, none⟩ (.int .i64 now))) := KS.set (C := fun k => k = rb) w rb 2 rfl _
    have hsz : Hid (w.heap.size ≤ (w.setCell ⟨rb, 2, none⟩ (.int .i64 now)).heap.size) := hK1.out.size
    have hbd : Hid (∀ s ∈ R.L, 0 ≤ s.h ∧ s.h ≤ now ∧ now ≤ 1099511627776) := fun s hm => by have := hbd0 s hm; omega
    have f2 := h.blk.fz 2
    rw [q1] at ky
    unfold endA goA
    rw [htmA.out]
    clear h hO hE hn hset hbd0 ht0 htm hs
    go_enter Try.func21, Try.ntmps21
    go_wp2_with (go_at_call 35; refine ky.mono ?_; rintro e w1 ⟨rfl, hw1⟩; obtain rfl := hw1.symm; clear hw1 ky)
    clear c2 c3 f2 q2
    generalize (w.setCell ⟨rb, 2, none⟩ (.int .i64 now)) = w1 at *
    have hlen64 : Hid (R.L.length ≤ 64) := h64
    go_loopw [5, 6, 7] (fun s5 s6 s7 wr => ∃ (i : Nat), i ≤ n ∧ s7 = .int .i64 i ∧ Hid (OwnsX wr w1.heap.size s6 ((R.L.take i).filter (fun s => !old R.idle now s))) ∧ Hid (OwnsW wr w1.heap.size s5 (wordsA ((R.L.take i).filter (old R.idle now)))) ∧ Hid (Below w1.heap.size w1 wr)) (fun _ _ i _ => n - (intOf i).toNat)
    case atStart => exact ⟨0, Nat.zero_le _, rfl, ownsX_nil _ _, ownsW_nil _ _, Below.refl _ _⟩
    case round =>
      obtain ⟨i, him, rfl, hS, hW, hB⟩ := hrel
      have d1 : wr.cell? ⟨rb, 1, none⟩ = some (.int .i64 R.idle) := (hT1.out.kept hB.out).c1
      have d2 : wr.cell? ⟨rb, 2, none⟩ = some (.int .i64 now) := (hT1.out.kept hB.out).c2
      have d3 : wr.cell? ⟨rb, 3, none⟩ = some (.slice a n c) := by have := (hT1.out.kept hB.out).c3; rw [hn'.out]; exact this
      by_cases hlt : i < n
      · have hz : (i : Int) < (n : Int) := by omega
        have hix : i < R.L.length := by rw [← hn'.out]; exact hlt
        have hi : R.L[i]? = some R.L[i] := List.getElem?_eq_getElem hix
        have hmem : R.L[i] ∈ R.L := List.getElem_mem hix
        have htk : R.L.take (i + 1) = R.L.take i ++ [R.L[i]] := List.take_succ_eq_append_getElem hix
        have hb := hbd.out _ hmem
        obtain ⟨g, c', hv, hg, hC, hgr, _, hcell⟩ := hT1.out.cells hi
        simp only [Value.slice.injEq] at hv
        obtain ⟨rfl, -, rfl⟩ := hv
        generalize R.L[i] = s at *
        have f0 : wr.cell? ⟨g, i * 4, none⟩ = some (.int .u64 s.t) := (hB.out.cell (p := ⟨g, i * 4, none⟩) hg).trans (hcell 0 (by decide))
        have f1 : wr.cell? ⟨g, i * 4 + 1, none⟩ = some (.int .i64 s.e) := (hB.out.cell (p := ⟨g, i * 4 + 1, none⟩) hg).trans (hcell 1 (by decide))
        have f2 : wr.cell? ⟨g, i * 4 + 2, none⟩ = some (.int .i64 s.f) := (hB.out.cell (p := ⟨g, i * 4 + 2, none⟩) hg).trans (hcell 2 (by decide))
        have f3 : wr.cell? ⟨g, i * 4 + 3, none⟩ = some (.int .i64 s.h) := (hB.out.cell (p := ⟨g, i * 4 + 3, none⟩) hg).trans (hcell 3 (by decide))
        have wi : IntKind.i64.wrap ((i : Int) + 1) = (i : Int) + 1 := by rw [IntKind.wrap_i64]; have := hlen64.out; omega
        have ws : IntKind.i64.wrap (now - s.h) = now - s.h := by rw [IntKind.wrap_i64]; omega
        have htk' : Hid (R.L.take (i + 1) = R.L.take i ++ [s]) := htk
        have hN : Hid (w1.heap.size ≤ wr.heap.size) := hB.out.size
        have hl1 : Hid (((R.L.take i).filter (fun s => !old R.idle now s)).length + ([s] : List Se).length ≤ 1000000000000) := by
          have h1 := List.length_filter_le (fun s => !old R.idle now s) (R.L.take i)
          have h2 := List.length_take_le i R.L
          have := hlen64.out
          show _ + 1 ≤ _
          omega
        have hl2 : Hid ((wordsA ((R.L.take i).filter (old R.idle now))).length + ([s.t] : List Int).length ≤ 10000000000000) := by
          have h1 := List.length_filter_le (old R.idle now) (R.L.take i)
          have h2 := List.length_take_le i R.L
          have := hlen64.out
          show _ + 1 ≤ _
          unfold wordsA
          rw [List.length_map]
          omega
        cases hpv : old R.idle now s with
        | true =>
          have dq : decide (now - s.h > R.idle) = true := hpv
          have hL1 : Hid ((R.L.take (i + 1)).filter (fun s => !old R.idle now s) = (R.L.take i).filter (fun s => !old R.idle now s)) := by show _ = _; rw [htk'.out, List.filter_append]; simp [hpv]
          have hL2 : Hid ((R.L.take (i + 1)).filter (old R.idle now) = (R.L.take i).filter (old R.idle now) ++ [s]) := by show _ = _; rw [htk'.out, List.filter_append]; simp [hpv]
          clear hpv htk' htk hcell hi hmem hb hgr hC
          go_wp2
          go_region
          go_wp2_with (at_builtin; refine wpList_app_w rfl _ _ rfl w1.heap.size u5 (wordsA ((R.L.take i).filter (old R.idle now))) [s.t] rfl _ _ _ rfl (ownsRow_kept hW.out (by repeat' with_reducible first | exact Below.refl _ _ | refine Below.drew ?_ | refine Below.drN ?_ _ | refine Below.al ?_ _)) (srcW_one ((blk_new _ _ _).cell 0)) hl2.out (Nat.le_trans hN.out (Below.size (B := wr.heap.size) (w := wr) (by repeat' with_reducible first | exact Below.refl _ _ | refine Below.drew ?_ | refine Below.drN ?_ _ | refine Below.al ?_ _))) ?_; intro v4 w4 hO4 hg4; have hW4 : Hid (OwnsW w4 w1.heap.size v4 (wordsA ((R.L.take i).filter (old R.idle now)) ++ [s.t])) := hO4; have hB4 : Hid (Below w1.heap.size w1 w4) := own_below (hB.out.trans (Below.mono (by repeat' with_reducible first | exact Below.refl _ _ | refine Below.drew ?_ | refine Below.drN ?_ _ | refine Below.al ?_ _) hN.out)) (ownsRow_kept hW.out (by repeat' with_reducible first | exact Below.refl _ _ | refine Below.drew ?_ | refine Below.drN ?_ _ | refine Below.al ?_ _)) hg4 (Nat.le_trans hN.out (Below.size (B := wr.heap.size) (w := wr) (by repeat' with_reducible first | exact Below.refl _ _ | refine Below.drew ?_ | refine Below.drN ?_ _ | refine Below.al ?_ _))); have hS4 : Hid (OwnsX w4 w1.heap.size u6 ((R.L.take i).filter (fun s => !old R.idle now s))) := ownsRow_other (ownsRow_kept hS.out (by repeat' with_reducible first | exact Below.refl _ _ | refine Below.drew ?_ | refine Below.drN ?_ _ | refine Below.al ?_ _)) (ownsRow_kept hW.out (by repeat' with_reducible first | exact Below.refl _ _ | refine Below.drew ?_ | refine Below.drN ?_ _ | refine Below.al ?_ _)) (by decide) hg4; clear hO4 hg4)
          go_roundw
          case rel => exact ⟨i + 1, by omega, by go_num, (by rw [hL1.out]; exact hS4), (by rw [hL2.out]; show OwnsW _ _ _ _; rw [wordsA, List.map_append]; exact hW4), hB4⟩
          case measure => simp [intOf]; omega
        | false =>
          have dq : decide (now - s.h > R.idle) = false := hpv
          have hL1 : Hid ((R.L.take (i + 1)).filter (fun s => !old R.idle now s) = (R.L.take i).filter (fun s => !old R.idle now s) ++ [s]) := by show _ = _; rw [htk'.out, List.filter_append]; simp [hpv]
          have hL2 : Hid ((R.L.take (i + 1)).filter (old R.idle now) = (R.L.take i).filter (old R.idle now)) := by show _ = _; rw [htk'.out, List.filter_append]; simp [hpv]
          clear hpv htk' htk hcell hi hmem hb hgr hC
          go_wp2
          go_region
          go_wp2_with (at_builtin; refine wpList_app_x rfl _ _ rfl w1.heap.size u6 ((R.L.take i).filter (fun s => !old R.idle now s)) [s] rfl _ _ _ rfl (ownsRow_kept hS.out (by repeat' with_reducible first | exact Below.refl _ _ | refine Below.drew ?_ | refine Below.drN ?_ _ | refine Below.al ?_ _)) (srcX_one (fun j _ => ((blk_new _ _ _).cell j).trans Array.getElem?_toList.symm)) hl1.out (Nat.le_trans hN.out (Below.size (B := wr.heap.size) (w := wr) (by repeat' with_reducible first | exact Below.refl _ _ | refine Below.drew ?_ | refine Below.drN ?_ _ | refine Below.al ?_ _))) ?_; intro v4 w4 hO4 hg4; have hS4 : Hid (OwnsX w4 w1.heap.size v4 ((R.L.take i).filter (fun s => !old R.idle now s) ++ [s])) := hO4; have hB4 : Hid (Below w1.heap.size w1 w4) := own_below (hB.out.trans (Below.mono (by repeat' with_reducible first | exact Below.refl _ _ | refine Below.drew ?_ | refine Below.drN ?_ _ | refine Below.al ?_ _) hN.out)) (ownsRow_kept hS.out (by repeat' with_reducible first | exact Below.refl _ _ | refine Below.drew ?_ | refine Below.drN ?_ _ | refine Below.al ?_ _)) hg4 (Nat.le_trans hN.out (Below.size (B := wr.heap.size) (w := wr) (by repeat' with_reducible first | exact Below.refl _ _ | refine Below.drew ?_ | refine Below.drN ?_ _ | refine Below.al ?_ _))); have hW4 : Hid (OwnsW w4 w1.heap.size u5 (wordsA ((R.L.take i).filter (old R.idle now)))) := ownsRow_other (ownsRow_kept hW.out (by repeat' with_reducible first | exact Below.refl _ _ | refine Below.drew ?_ | refine Below.drN ?_ _ | refine Below.al ?_ _)) (ownsRow_kept hS.out (by repeat' with_reducible first | exact Below.refl _ _ | refine Below.drew ?_ | refine Below.drN ?_ _ | refine Below.al ?_ _)) (by decide) hg4; clear hO4 hg4)
          go_roundw
          case rel => exact ⟨i + 1, by omega, by go_num, (by rw [hL1.out]; exact hS4), (by rw [hL2.out]; exact hW4), hB4⟩
          case measure => simp [intOf]; omega
      · have hz : ¬ (i : Int) < (n : Int) := by omega
        have hi : R.L.take i = R.L := List.take_of_length_le (by rw [← hn'.out]; omega)
        rw [hi] at hS hW
        obtain ⟨a5, c5, rfl, _, _, _⟩ := ownsRow_form hS.out
        obtain ⟨a6, c6, rfl, _, _, _⟩ := ownsRow_form hW.out
        have hbt : Hid (Blk wr rb _ 30) := (hT1.out.kept hB.out).blk
        have f4r := hbt.out.fz 3
        have hrlt : Hid (rb < w1.heap.size) := hT1.out.blk.lt
        clear hi d1 d2
        go_wp2
        go_ret
        refine ⟨_, rfl, ?_, ⟨.slice a5 (List.filter (fun s => !old R.idle now s) R.L).length c5, ?_⟩, ?_⟩
        · refine ownsRow_base (ownsRow_keep hW.out fun b cur h1 h2 h3 => Below.heap_setCell _ _ _ _ (fun e1 => ?_)) hsz.out
          have e2 : b = rb := e1
          have := hrlt.out
          omega
        · have hk : ∀ q, q ≠ rb → q < wr.heap.size → (wr.setCell ⟨rb, 3, none⟩ (.slice a5 (List.filter (fun s => !old R.idle now s) R.L).length c5)).heap[q]? = wr.heap[q]? := fun q hq _ => Below.heap_setCell _ _ _ _ hq
          have h0 := hT1.out.kept hB.out
          refine ⟨hbt.out.set 3 _, ?_, ?_, fun g hg => ?_, h0.ou, h0.er, h0.mem, h0.cnt⟩
          · refine ownsRow_base (ownsRow_keep hS.out fun b cur h1 h2 h3 => hk b (fun e2 => ?_) (Array.getElem?_eq_some_iff.1 h3).1) (Nat.zero_le _)
            have := hrlt.out
            omega
          · refine ownsRow_keep h0.urow fun b cur h1 h2 h3 => hk b (fun e2 => ?_) (Array.getElem?_eq_some_iff.1 h3).1
            subst e2
            have e4 := hbt.out
            unfold Blk at e4
            rw [h3] at e4
            injection e4 with e4
            injection e4 with _ e4
            exact absurd e4 (by decide)
          · exact hEE.out g (Nat.le_trans hsz.out (ownsRow_lt hS.out g hg).1)
        · exact hK1.out.trans ((KS.of_below hB.out).trans (KS.set (C := fun k => k = rb) wr rb 3 rfl _))
  · have htmA : Hid (tmA R now = R.time) := by show _ = _; unfold tmA; rw [if_neg hs]
    have hT1 : Hid (RTab w E rb (.slice a R.L.length c) u { R with time := R.time } us) := h
    have hK1 : Hid (KS (fun k => k = rb) w w) := KS.refl _ _
    have hsz : Hid (w.heap.size ≤ w.heap.size) := Nat.le_refl _
    have hbd : Hid (∀ s ∈ R.L, 0 ≤ s.h ∧ s.h ≤ R.time ∧ R.time ≤ 1099511627776) := fun s hm => by have := hbd0 s hm; have := hO.t2; omega
    have hq : ((decide (0 ≤ now) && decide (now ≤ 1099511627776)) = true ∧ decide (now > R.time) = false) ∨ (decide (0 ≤ now) && decide (now ≤ 1099511627776)) = false := by
      by_cases ha : 0 ≤ now ∧ now ≤ 1099511627776
      · left
        refine ⟨by simp; omega, by simp; omega⟩
      · right
        simp
        omega
    unfold endA goA
    rw [htmA.out]
    clear h hO hE hn hset hbd0 ht0 htm hs
    rcases hq with ⟨q1, q2⟩ | q1
    all_goals (
    rw [q1] at ky
    go_enter Try.func21, Try.ntmps21
    go_wp2_with (go_at_call 35; refine ky.mono ?_; rintro e w1 ⟨rfl, hw1⟩; obtain rfl := hw1.symm; clear hw1 ky)
    clear c2 c3
    have hlen64 : Hid (R.L.length ≤ 64) := h64
    go_loopw [5, 6, 7] (fun s5 s6 s7 wr => ∃ (i : Nat), i ≤ n ∧ s7 = .int .i64 i ∧ Hid (OwnsX wr w.heap.size s6 ((R.L.take i).filter (fun s => !old R.idle R.time s))) ∧ Hid (OwnsW wr w.heap.size s5 (wordsA ((R.L.take i).filter (old R.idle R.time)))) ∧ Hid (Below w.heap.size w wr)) (fun _ _ i _ => n - (intOf i).toNat)
    case atStart => exact ⟨0, Nat.zero_le _, rfl, ownsX_nil _ _, ownsW_nil _ _, Below.refl _ _⟩
    case round =>
      obtain ⟨i, him, rfl, hS, hW, hB⟩ := hrel
      have d1 : wr.cell? ⟨rb, 1, none⟩ = some (.int .i64 R.idle) := (hT1.out.kept hB.out).c1
      have d2 : wr.cell? ⟨rb, 2, none⟩ = some (.int .i64 R.time) := (hT1.out.kept hB.out).c2
      have d3 : wr.cell? ⟨rb, 3, none⟩ = some (.slice a n c) := by have := (hT1.out.kept hB.out).c3; rw [hn'.out]; exact this
      by_cases hlt : i < n
      · have hz : (i : Int) < (n : Int) := by omega
        have hix : i < R.L.length := by rw [← hn'.out]; exact hlt
        have hi : R.L[i]? = some R.L[i] := List.getElem?_eq_getElem hix
        have hmem : R.L[i] ∈ R.L := List.getElem_mem hix
        have htk : R.L.take (i + 1) = R.L.take i ++ [R.L[i]] := List.take_succ_eq_append_getElem hix
        have hb := hbd.out _ hmem
        obtain ⟨g, c', hv, hg, hC, hgr, _, hcell⟩ := hT1.out.cells hi
        simp only [Value.slice.injEq] at hv
        obtain ⟨rfl, -, rfl⟩ := hv
        generalize R.L[i] = s at *
        have f0 : wr.cell? ⟨g, i * 4, none⟩ = some (.int .u64 s.t) := (hB.out.cell (p := ⟨g, i * 4, none⟩) hg).trans (hcell 0 (by decide))
        have f1 : wr.cell? ⟨g, i * 4 + 1, none⟩ = some (.int .i64 s.e) := (hB.out.cell (p := ⟨g, i * 4 + 1, none⟩) hg).trans (hcell 1 (by decide))
        have f2 : wr.cell? ⟨g, i * 4 + 2, none⟩ = some (.int .i64 s.f) := (hB.out.cell (p := ⟨g, i * 4 + 2, none⟩) hg).trans (hcell 2 (by decide))
        have f3 : wr.cell? ⟨g, i * 4 + 3, none⟩ = some (.int .i64 s.h) := (hB.out.cell (p := ⟨g, i * 4 + 3, none⟩) hg).trans (hcell 3 (by decide))
        have wi : IntKind.i64.wrap ((i : Int) + 1) = (i : Int) + 1 := by rw [IntKind.wrap_i64]; have := hlen64.out; omega
        have ws : IntKind.i64.wrap (R.time - s.h) = R.time - s.h := by rw [IntKind.wrap_i64]; omega
        have htk' : Hid (R.L.take (i + 1) = R.L.take i ++ [s]) := htk
        have hN : Hid (w.heap.size ≤ wr.heap.size) := hB.out.size
        have hl1 : Hid (((R.L.take i).filter (fun s => !old R.idle R.time s)).length + ([s] : List Se).length ≤ 1000000000000) := by
          have h1 := List.length_filter_le (fun s => !old R.idle R.time s) (R.L.take i)
          have h2 := List.length_take_le i R.L
          have := hlen64.out
          show _ + 1 ≤ _
          omega
        have hl2 : Hid ((wordsA ((R.L.take i).filter (old R.idle R.time))).length + ([s.t] : List Int).length ≤ 10000000000000) := by
          have h1 := List.length_filter_le (old R.idle R.time) (R.L.take i)
          have h2 := List.length_take_le i R.L
          have := hlen64.out
          show _ + 1 ≤ _
          unfold wordsA
          rw [List.length_map]
          omega
        cases hpv : old R.idle R.time s with
        | true =>
          have dq : decide (R.time - s.h > R.idle) = true := hpv
          have hL1 : Hid ((R.L.take (i + 1)).filter (fun s => !old R.idle R.time s) = (R.L.take i).filter (fun s => !old R.idle R.time s)) := by show _ = _; rw [htk'.out, List.filter_append]; simp [hpv]
          have hL2 : Hid ((R.L.take (i + 1)).filter (old R.idle R.time) = (R.L.take i).filter (old R.idle R.time) ++ [s]) := by show _ = _; rw [htk'.out, List.filter_append]; simp [hpv]
          clear hpv htk' htk hcell hi hmem hb hgr hC
          go_wp2
          go_region
          go_wp2_with (at_builtin; refine wpList_app_w rfl _ _ rfl w.heap.size u5 (wordsA ((R.L.take i).filter (old R.idle R.time))) [s.t] rfl _ _ _ rfl (ownsRow_kept hW.out (by repeat' with_reducible first | exact Below.refl _ _ | refine Below.drew ?_ | refine Below.drN ?_ _ | refine Below.al ?_ _)) (srcW_one ((blk_new _ _ _).cell 0)) hl2.out (Nat.le_trans hN.out (Below.size (B := wr.heap.size) (w := wr) (by repeat' with_reducible first | exact Below.refl _ _ | refine Below.drew ?_ | refine Below.drN ?_ _ | refine Below.al ?_ _))) ?_; intro v4 w4 hO4 hg4; have hW4 : Hid (OwnsW w4 w.heap.size v4 (wordsA ((R.L.take i).filter (old R.idle R.time)) ++ [s.t])) := hO4; have hB4 : Hid (Below w.heap.size w w4) := own_below (hB.out.trans (Below.mono (by repeat' with_reducible first | exact Below.refl _ _ | refine Below.drew ?_ | refine Below.drN ?_ _ | refine Below.al ?_ _) hN.out)) (ownsRow_kept hW.out (by repeat' with_reducible first | exact Below.refl _ _ | refine Below.drew ?_ | refine Below.drN ?_ _ | refine Below.al ?_ _)) hg4 (Nat.le_trans hN.out (Below.size (B := wr.heap.size) (w := wr) (by repeat' with_reducible first | exact Below.refl _ _ | refine Below.drew ?_ | refine Below.drN ?_ _ | refine Below.al ?_ _))); have hS4 : Hid (OwnsX w4 w.heap.size u6 ((R.L.take i).filter (fun s => !old R.idle R.time s))) := ownsRow_other (ownsRow_kept hS.out (by repeat' with_reducible first | exact Below.refl _ _ | refine Below.drew ?_ | refine Below.drN ?_ _ | refine Below.al ?_ _)) (ownsRow_kept hW.out (by repeat' with_reducible first | exact Below.refl _ _ | refine Below.drew ?_ | refine Below.drN ?_ _ | refine Below.al ?_ _)) (by decide) hg4; clear hO4 hg4)
          go_roundw
          case rel => exact ⟨i + 1, by omega, by go_num, (by rw [hL1.out]; exact hS4), (by rw [hL2.out]; show OwnsW _ _ _ _; rw [wordsA, List.map_append]; exact hW4), hB4⟩
          case measure => simp [intOf]; omega
        | false =>
          have dq : decide (R.time - s.h > R.idle) = false := hpv
          have hL1 : Hid ((R.L.take (i + 1)).filter (fun s => !old R.idle R.time s) = (R.L.take i).filter (fun s => !old R.idle R.time s) ++ [s]) := by show _ = _; rw [htk'.out, List.filter_append]; simp [hpv]
          have hL2 : Hid ((R.L.take (i + 1)).filter (old R.idle R.time) = (R.L.take i).filter (old R.idle R.time)) := by show _ = _; rw [htk'.out, List.filter_append]; simp [hpv]
          clear hpv htk' htk hcell hi hmem hb hgr hC
          go_wp2
          go_region
          go_wp2_with (at_builtin; refine wpList_app_x rfl _ _ rfl w.heap.size u6 ((R.L.take i).filter (fun s => !old R.idle R.time s)) [s] rfl _ _ _ rfl (ownsRow_kept hS.out (by repeat' with_reducible first | exact Below.refl _ _ | refine Below.drew ?_ | refine Below.drN ?_ _ | refine Below.al ?_ _)) (srcX_one (fun j _ => ((blk_new _ _ _).cell j).trans Array.getElem?_toList.symm)) hl1.out (Nat.le_trans hN.out (Below.size (B := wr.heap.size) (w := wr) (by repeat' with_reducible first | exact Below.refl _ _ | refine Below.drew ?_ | refine Below.drN ?_ _ | refine Below.al ?_ _))) ?_; intro v4 w4 hO4 hg4; have hS4 : Hid (OwnsX w4 w.heap.size v4 ((R.L.take i).filter (fun s => !old R.idle R.time s) ++ [s])) := hO4; have hB4 : Hid (Below w.heap.size w w4) := own_below (hB.out.trans (Below.mono (by repeat' with_reducible first | exact Below.refl _ _ | refine Below.drew ?_ | refine Below.drN ?_ _ | refine Below.al ?_ _) hN.out)) (ownsRow_kept hS.out (by repeat' with_reducible first | exact Below.refl _ _ | refine Below.drew ?_ | refine Below.drN ?_ _ | refine Below.al ?_ _)) hg4 (Nat.le_trans hN.out (Below.size (B := wr.heap.size) (w := wr) (by repeat' with_reducible first | exact Below.refl _ _ | refine Below.drew ?_ | refine Below.drN ?_ _ | refine Below.al ?_ _))); have hW4 : Hid (OwnsW w4 w.heap.size u5 (wordsA ((R.L.take i).filter (old R.idle R.time)))) := ownsRow_other (ownsRow_kept hW.out (by repeat' with_reducible first | exact Below.refl _ _ | refine Below.drew ?_ | refine Below.drN ?_ _ | refine Below.al ?_ _)) (ownsRow_kept hS.out (by repeat' with_reducible first | exact Below.refl _ _ | refine Below.drew ?_ | refine Below.drN ?_ _ | refine Below.al ?_ _)) (by decide) hg4; clear hO4 hg4)
          go_roundw
          case rel => exact ⟨i + 1, by omega, by go_num, (by rw [hL1.out]; exact hS4), (by rw [hL2.out]; exact hW4), hB4⟩
          case measure => simp [intOf]; omega
      · have hz : ¬ (i : Int) < (n : Int) := by omega
        have hi : R.L.take i = R.L := List.take_of_length_le (by rw [← hn'.out]; omega)
        rw [hi] at hS hW
        obtain ⟨a5, c5, rfl, _, _, _⟩ := ownsRow_form hS.out
        obtain ⟨a6, c6, rfl, _, _, _⟩ := ownsRow_form hW.out
        have hbt : Hid (Blk wr rb _ 30) := (hT1.out.kept hB.out).blk
        have f4r := hbt.out.fz 3
        have hrlt : Hid (rb < w.heap.size) := hT1.out.blk.lt
        clear hi d1 d2
        go_wp2
        go_ret
        refine ⟨_, rfl, ?_, ⟨.slice a5 (List.filter (fun s => !old R.idle R.time s) R.L).length c5, ?_⟩, ?_⟩
        · refine ownsRow_base (ownsRow_keep hW.out fun b cur h1 h2 h3 => Below.heap_setCell _ _ _ _ (fun e1 => ?_)) hsz.out
          have e2 : b = rb := e1
          have := hrlt.out
          omega
        · have hk : ∀ q, q ≠ rb → q < wr.heap.size → (wr.setCell ⟨rb, 3, none⟩ (.slice a5 (List.filter (fun s => !old R.idle R.time s) R.L).length c5)).heap[q]? = wr.heap[q]? := fun q hq _ => Below.heap_setCell _ _ _ _ hq
          have h0 := hT1.out.kept hB.out
          refine ⟨hbt.out.set 3 _, ?_, ?_, fun g hg => ?_, h0.ou, h0.er, h0.mem, h0.cnt⟩
          · refine ownsRow_base (ownsRow_keep hS.out fun b cur h1 h2 h3 => hk b (fun e2 => ?_) (Array.getElem?_eq_some_iff.1 h3).1) (Nat.zero_le _)
            have := hrlt.out
            omega
          · refine ownsRow_keep h0.urow fun b cur h1 h2 h3 => hk b (fun e2 => ?_) (Array.getElem?_eq_some_iff.1 h3).1
            subst e2
            have e4 := hbt.out
            unfold Blk at e4
            rw [h3] at e4
            injection e4 with e4
            injection e4 with _ e4
            exact absurd e4 (by decide)
          · exact hEE.out g (Nat.le_trans hsz.out (ownsRow_lt hS.out g hg).1)
        · exact hK1.out.trans ((KS.of_below hB.out).trans (KS.set (C := fun k => k = rb) wr rb 3 rfl _)))
end Go.Proofs.Ytmohfblkfdkloaa
