/-
  What is wrong with a tree: tree.Check.
-/
import Derived.Test.YtnjbppfanmmifaaGreatDoorH28
import Derived.Test.YtnjbppfanmmifaaGreatDoorH29
import Derived.Test.YtnjbppfanmmifaaGreatDoorH30
namespace Go.Proofs.YtnjbppfanmmifaaGreatDoor
open Go.RowKit
set_option linter.unusedVariables false

/-- tree.fault. -/
theorem fault_any {D : Nat} {t : Tr} {b : Nb} {w : World} (hN : Nd D w b t) : Calls Tryz.prog 64 #[.agg b.arr] w fun e w' => e = .returned (.int .i64 (alF t)) ∧ Below w.heap.size w w' := by
  cases D with
  | zero => exact absurd hN id
  | succ D =>
    by_cases h2 : b.kind = 2
    · exact fault_k2 hN h2
    by_cases h3 : b.kind = 3
    · exact fault_k3 hN h3
    by_cases h5 : b.kind = 5
    · exact fault_k5 hN h5
    by_cases h6 : b.kind = 6
    · exact fault_k6 hN h6
    exact fault_ko hN h2 h3 h5 h6

/-- A fault's number in a box. -/
def IC (B gw : Nat) (s : Int) (w : World) : Prop := w.heap[gw]? = some (.cells #[.int .i64 s] 27 (0, 0)) ∧ B ≤ w.heap.size
set_option maxHeartbeats 2000000 in
theorem chkc_any (B gw : Nat) (hB : B ≤ gw) (s : Int) (w : World) (b : Nb) (t : Tr) (d D : Nat) (hI : IC B gw s w) (hN : NdS (· < B) D w b t) :
    Calls Tryz.prog 63 (#[.agg b.arr, .int .i64 d] ++ #[.pointer (some ⟨gw, 0, none⟩)]) w fun e w' => e = .returned (.bool (Tr.flt alF t d s).1) ∧ IC B gw (Tr.flt alF t d s).2 w' ∧ Kp (fun k => k = gw) w w' := by
  show Calls Tryz.prog 63 #[.agg b.arr, .int .i64 d, .pointer (some ⟨gw, 0, none⟩)] w _
  have hal := alloc_below w (.cells b.arr 26)
  obtain ⟨a0, a1, a2, a3, a4, a5, a6, a7, a8⟩ := (nbox_new w b).fields
  have kF := fault_any (hN.nd.kept hal)
  have hI' : Hid (IC B gw s w) := hI
  have hal' : Hid (Below w.heap.size w (w.alloc (.cells b.arr 26))) := hal
  have hlt : Hid (gw < w.heap.size) := block_lt hI.1
  have hR1 : Hid ((Tr.flt alF t d s).1 = decide (alF t = 0)) := rfl
  have hR2 : Hid ((Tr.flt alF t d s).2 = alF t) := rfl
  generalize (Tr.flt alF t d s).1 = R1 at *
  generalize (Tr.flt alF t d s).2 = R2 at *
  generalize alF t = A at *
  clear hal hI hN
  by_cases hz : A = 0
  · subst hz
    obtain rfl : R1 = true := by rw [hR1.out]; rfl
    obtain rfl : R2 = 0 := hR2.out
    go_enter Tryz.func63, Tryz.ntmps63
    go_wp2_with (go_at_call 64; refine kF.mono ?_; rintro e w2 ⟨rfl, hb2⟩; have H2 := (hb2.block gw (Nat.lt_of_lt_of_le hlt.out hal'.out.size)).trans ((hal'.out.block gw hlt.out).trans hI'.out.1); have c2 := cell_of_one H2; have z2 := free_of_one H2; have H3 := one_setCell (u := .int .i64 0) H2; have c3 := cell_of_one H3; have hbw := hal'.out.trans (hb2.mono hal'.out.size))
    go_ret
    exact ⟨rfl, ⟨H3, Nat.le_trans hI'.out.2 (Nat.le_trans hbw.size (by simp [World.setCell]))⟩, (Kp.of hbw).trans (kp_set (C := fun k => k = gw) rfl _)⟩
  · obtain rfl : R1 = false := by rw [hR1.out]; exact decide_eq_false hz
    have hz' : (A == 0) = false := by simp [hz]
    obtain rfl : R2 = A := hR2.out
    clear hz
    go_enter Tryz.func63, Tryz.ntmps63
    go_wp2_with (go_at_call 64; refine kF.mono ?_; rintro e w2 ⟨rfl, hb2⟩; have H2 := (hb2.block gw (Nat.lt_of_lt_of_le hlt.out hal'.out.size)).trans ((hal'.out.block gw hlt.out).trans hI'.out.1); have c2 := cell_of_one H2; have z2 := free_of_one H2; have H3 := one_setCell (u := .int .i64 R2) H2; have c3 := cell_of_one H3; have hbw := hal'.out.trans (hb2.mono hal'.out.size))
    go_ret
    exact ⟨rfl, ⟨H3, Nat.le_trans hI'.out.2 (Nat.le_trans hbw.size (by simp [World.setCell]))⟩, (Kp.of hbw).trans (kp_set (C := fun k => k = gw) rfl _)⟩
theorem takes_flt {B gw : Nat} (hB : B ≤ gw) : Takes 63 #[.pointer (some ⟨gw, 0, none⟩)] Int (Tr.flt alF) (IC B gw) (fun _ d t => d + t.deep ≤ 100) (fun k => k = gw) B where
  call := fun s w b t d D hI hJ hN => chkc_any B gw hB s w b t d D hI hN
  enter := enters_of Tryz.func63 (by kernel_rfl) rfl
  keeps := fun s w w' hI hb => ⟨(hb.block gw (block_lt hI.1)).trans hI.1, Nat.le_trans hI.2 hb.size⟩
  room := fun s w hI => ⟨hI.2, fun k hk => by subst hk; exact ⟨hB, block_lt hI.1⟩⟩
  first := fun s d t u hJ hu _ => by
    have : u.deep < t.deep := by
      rcases hu with hu | hu
      · exact Tr.key_deep hu
      · exact Tr.kid_deep hu
    exact ⟨by omega, by omega⟩
  more := fun s d u t' d' hJ _ => hJ
set_option maxHeartbeats 2000000 in
theorem chkd_any (p : Tr → Bool) (hp : ∀ t : Tr, p t = true ↔ t.keys.Nodup) (B : Nat) (w : World) (b : Nb) (t : Tr) (d D : Nat) (hN : NdS (· < B) D w b t) :
    Calls Tryz.prog 65 (#[.agg b.arr, .int .i64 d] ++ #[]) w fun e w' => e = .returned (.bool (p t)) ∧ Below w.heap.size w w' := by
  show Calls Tryz.prog 65 #[.agg b.arr, .int .i64 d] w _
  cases D with
  | zero => exact absurd hN id
  | succ D =>
    have hal := alloc_below w (.cells b.arr 26)
    obtain ⟨a0, a1, a2, a3, a4, a5, a6, a7, a8⟩ := (nbox_new w b).fields
    have kT := gtwice_any b.ak b.lk b.ck t.keys (w.alloc (.cells b.arr 26)) ((hN.nd.kept hal).2.2.2.1) (!p t) (by rw [← hp t]; simp)
    have hal' : Hid (Below w.heap.size w (w.alloc (.cells b.arr 26))) := hal
    generalize p t = v at *
    clear hal hN hp
    cases v with
    | false =>
      go_enter Tryz.func65, Tryz.ntmps65
      go_wp2_with (go_at_call 66; refine kT.mono ?_; rintro e w2 ⟨rfl, hb2⟩)
      go_ret
      exact ⟨rfl, hal'.out.trans (hb2.mono hal'.out.size)⟩
    | true =>
      go_enter Tryz.func65, Tryz.ntmps65
      go_wp2_with (go_at_call 66; refine kT.mono ?_; rintro e w2 ⟨rfl, hb2⟩)
      go_ret
      exact ⟨rfl, hal'.out.trans (hb2.mono hal'.out.size)⟩
theorem takes_twc (p : Tr → Bool) (hp : ∀ t : Tr, p t = true ↔ t.keys.Nodup) (B : Nat) : Takes 65 #[] Unit (Tr.twc p) (fun _ w => B ≤ w.heap.size) (fun _ d t => d + t.deep ≤ 100) (fun _ => False) B where
  call := fun s w b t d D hI hJ hN => (chkd_any p hp B w b t d D hN).mono fun e w' ⟨h1, h2⟩ => ⟨h1, Nat.le_trans hI h2.size, Kp.of h2⟩
  enter := enters_of Tryz.func65 (by kernel_rfl) rfl
  keeps := fun s w w' hI hb => Nat.le_trans hI hb.size
  room := fun s w hI => ⟨hI, fun k hk => hk.elim⟩
  first := fun s d t u hJ hu _ => by
    have : u.deep < t.deep := by
      rcases hu with hu | hu
      · exact Tr.key_deep hu
      · exact Tr.kid_deep hu
    exact ⟨by omega, by omega⟩
  more := fun s d u t' d' hJ _ => hJ

set_option maxHeartbeats 4000000 in
set_option maxRecDepth 100000 in
/-- tree.Check. -/
theorem gcheck_any {D : Nat} {t : Tr} {b : Nb} {w : World} (hN : Nd D w b t) : Calls Tryz.prog 40 #[.agg b.arr] w fun e w' => (∃ er, e = .returned (.int .i64 er) ∧ Tr.ChkIs alF t er) ∧ Below w.heap.size w w' := by
  have hal := alloc_below w (.cells b.arr 26)
  have Q0 : Hid (NBox (w.alloc (.cells b.arr 26)) w.heap.size b) := nbox_new w b
  have B0 : Hid (Below w.heap.size w (w.alloc (.cells b.arr 26))) := hal
  obtain ⟨a0, a1, a2, a3, a4, a5, a6, a7, a8⟩ := (nbox_new w b).fields
  have kM := meas_any (hN.kept hal)
  have hN' : Hid (Nd D w b t) := hN
  clear hal hN
  by_cases hs : t.size ≤ 1024
  · have hm : t.mes = (t.size, t.deep) := if_pos hs
    rw [hm] at kM
    have hs1 : decide ((1024 : Int) < ((t.size : Nat) : Int)) = false := by simp; omega
    have hs' : Hid (t.size ≤ 1024) := hs
    clear hm hs
    by_cases hd : t.deep ≤ 24
    · have hd1 : decide ((24 : Int) < ((t.deep : Nat) : Int)) = false := by simp; omega
      have hd' : Hid (t.deep ≤ 24) := hd
      clear hd
      obtain ⟨p, hp⟩ : ∃ p : Tr → Bool, ∀ t : Tr, p t = true ↔ t.keys.Nodup := ⟨fun t => @decide t.keys.Nodup (Classical.propDecidable _), fun t => by simp⟩
      have kE : Hid (∀ w2, Below w.heap.size w w2 → Calls Tryz.prog 62 #[.agg b.arr, .int .i64 1, .func (.func 63) #[] #[.pointer (some ⟨w2.heap.size, 0, none⟩)]] (w2.alloc (.cells #[.int .i64 0] 27)) fun e w' => e = .returned (.bool (Tr.go (Tr.flt alF) (t.seq 1) 0).1) ∧ w'.heap[w2.heap.size]? = some (.cells #[.int .i64 (t.forms alF)] 27 (0, 0)) ∧ Below w2.heap.size (w2.alloc (.cells #[.int .i64 0] 27)) w') := fun w2 hb => by
        have hb2 := alloc_below w2 (.cells #[.int .i64 0] 27)
        have h := each_any (takes_flt (B := w2.heap.size) (gw := w2.heap.size) (Nat.le_refl _)) D t 1 b 0 (w2.alloc (.cells #[.int .i64 0] 27)) ((hN'.out.kept hb).all.below hb2 fun k hk => hk) ⟨heap_alloc_new w2 _, hb2.size⟩ (by have := hd'.out; omega)
        refine h.mono fun e w' ⟨h1, h2, h3⟩ => ⟨h1, ?_, h3.below hb2.size (fun k hk => Nat.le_of_eq hk.symm)⟩
        rw [Tr.flt_all alF_shaped] at h2
        exact h2.1
      have kT : Hid (∀ w2, Below w.heap.size w w2 → Calls Tryz.prog 62 #[.agg b.arr, .int .i64 1, .func (.func 65) #[] #[]] w2 fun e w' => e = .returned (.bool (Tr.go (Tr.twc p) (t.seq 1) ()).1) ∧ Below w2.heap.size w2 w') := fun w2 hb => by
        have h := each_any (takes_twc p hp w2.heap.size) D t 1 b () w2 (hN'.out.kept hb).all (Nat.le_refl _) (by have := hd'.out; omega)
        exact h.mono fun e w' ⟨h1, h2, h3⟩ => ⟨h1, h3.none⟩
      have hT : Hid ((Tr.go (Tr.twc p) (t.seq 1) ()).1 = true ↔ t.All (fun u => u.keys.Nodup)) := by
        show _ ↔ _
        rw [Tr.twc_all]
        have : (fun u : Tr => p u = true) = fun u => u.keys.Nodup := funext fun u => propext (hp u)
        rw [this]
      generalize (Tr.go (Tr.flt alF) (t.seq 1) 0).1 = R0 at *
      generalize (Tr.go (Tr.twc p) (t.seq 1) ()).1 = R1 at *
      have hF : Hid (∃ A, t.forms alF = A) := ⟨_, rfl⟩
      obtain ⟨A, hA⟩ := hF.out
      rw [hA] at kE
      have hA' : Hid (t.forms alF = A) := hA
      clear hF hA hp
      generalize t.size = S at kM hs1
      generalize t.deep = E at kM hd1
      by_cases hz : A = 0
      · subst hz
        cases R1 with
        | true =>
          go_enter Tryz.func40, Tryz.ntmps40
          go_wp2_with (first
            | (go_at_call 61; refine kM.mono ?_; rintro e w2 ⟨rfl, hb2⟩; clear a0 a1 a2 a3 a4 a5 a6 a7 a8; have Q2 := Q0.out.kept hb2 Q0.out.lt; have Q3 := Q2.kept (alloc_below w2 (.cells #[.int .i64 0] 27)) Q2.lt; obtain ⟨a0, a1, a2, a3, a4, a5, a6, a7, a8⟩ := Q3.fields; have B2 := B0.out.trans (hb2.mono B0.out.size); have k2 := kE.out w2 B2)
            | (go_at_call 62; refine k2.mono ?_; rintro e w4 ⟨rfl, hw4, hb4⟩; clear k2 a0 a1 a2 a3 a4 a5 a6 a7 a8; have c4 := cell_of_one hw4; have Q4 := Q3.kept hb4 Q2.lt; obtain ⟨a0, a1, a2, a3, a4, a5, a6, a7, a8⟩ := Q4.fields; have B4 := B2.trans (((alloc_below w2 (.cells #[.int .i64 0] 27)).trans hb4).mono B2.size); have k3 := kT.out w4 B4)
            | (go_at_call 62; refine k3.mono ?_; rintro e w5 ⟨rfl, hb5⟩))
          go_ret
          exact ⟨⟨0, rfl, .inr (.inr (.inr (.inr ⟨hs'.out, hd'.out, hA'.out, (by simpa using hT.out), rfl⟩)))⟩, B4.trans (hb5.mono B4.size)⟩
        | false =>
          go_enter Tryz.func40, Tryz.ntmps40
          go_wp2_with (first
            | (go_at_call 61; refine kM.mono ?_; rintro e w2 ⟨rfl, hb2⟩; clear a0 a1 a2 a3 a4 a5 a6 a7 a8; have Q2 := Q0.out.kept hb2 Q0.out.lt; have Q3 := Q2.kept (alloc_below w2 (.cells #[.int .i64 0] 27)) Q2.lt; obtain ⟨a0, a1, a2, a3, a4, a5, a6, a7, a8⟩ := Q3.fields; have B2 := B0.out.trans (hb2.mono B0.out.size); have k2 := kE.out w2 B2)
            | (go_at_call 62; refine k2.mono ?_; rintro e w4 ⟨rfl, hw4, hb4⟩; clear k2 a0 a1 a2 a3 a4 a5 a6 a7 a8; have c4 := cell_of_one hw4; have Q4 := Q3.kept hb4 Q2.lt; obtain ⟨a0, a1, a2, a3, a4, a5, a6, a7, a8⟩ := Q4.fields; have B4 := B2.trans (((alloc_below w2 (.cells #[.int .i64 0] 27)).trans hb4).mono B2.size); have k3 := kT.out w4 B4)
            | (go_at_call 62; refine k3.mono ?_; rintro e w5 ⟨rfl, hb5⟩))
          go_ret
          exact ⟨⟨9, rfl, .inr (.inr (.inr (.inl ⟨hs'.out, hd'.out, hA'.out, (by simpa using hT.out), rfl⟩)))⟩, B4.trans (hb5.mono B4.size)⟩
      · have hz1 : (A != 0) = true := by simp [hz]
        have hz2 : (A == 0) = false := by simp [hz]
        have hz' : Hid (A ≠ 0) := hz
        clear hz
        go_enter Tryz.func40, Tryz.ntmps40
        go_wp2_with (first
          | (go_at_call 61; refine kM.mono ?_; rintro e w2 ⟨rfl, hb2⟩; clear a0 a1 a2 a3 a4 a5 a6 a7 a8; have Q2 := Q0.out.kept hb2 Q0.out.lt; have Q3 := Q2.kept (alloc_below w2 (.cells #[.int .i64 0] 27)) Q2.lt; obtain ⟨a0, a1, a2, a3, a4, a5, a6, a7, a8⟩ := Q3.fields; have B2 := B0.out.trans (hb2.mono B0.out.size); have k2 := kE.out w2 B2)
          | (go_at_call 62; refine k2.mono ?_; rintro e w4 ⟨rfl, hw4, hb4⟩; clear k2 a0 a1 a2 a3 a4 a5 a6 a7 a8; have c4 := cell_of_one hw4; have B4 := B2.trans (((alloc_below w2 (.cells #[.int .i64 0] 27)).trans hb4).mono B2.size)))
        go_ret
        exact ⟨⟨A, rfl, .inr (.inr (.inl ⟨hs'.out, hd'.out, by rw [hA'.out]; exact hz'.out, hA'.out.symm⟩))⟩, B4⟩
    · have hd1 : decide ((24 : Int) < ((t.deep : Nat) : Int)) = true := by simp; omega
      have hd' : Hid (24 < t.deep) := by show _ < _; omega
      clear hd
      generalize t.size = S at kM hs1
      generalize t.deep = E at kM hd1
      go_enter Tryz.func40, Tryz.ntmps40
      go_wp2_with (go_at_call 61; refine kM.mono ?_; rintro e w2 ⟨rfl, hb2⟩)
      go_ret
      exact ⟨⟨7, rfl, .inr (.inl ⟨hs'.out, hd'.out, rfl⟩)⟩, B0.out.trans (hb2.mono B0.out.size)⟩
  · have hm : t.mes = (1025, 1025) := if_neg hs
    rw [hm] at kM
    have hs' : Hid (1024 < t.size) := by show _ < _; omega
    clear hm hs
    go_enter Tryz.func40, Tryz.ntmps40
    go_wp2_with (go_at_call 61; refine kM.mono ?_; rintro e w2 ⟨rfl, hb2⟩)
    go_ret
    exact ⟨⟨8, rfl, .inl ⟨hs'.out, rfl⟩⟩, B0.out.trans (hb2.mono B0.out.size)⟩
end Go.Proofs.YtnjbppfanmmifaaGreatDoor
