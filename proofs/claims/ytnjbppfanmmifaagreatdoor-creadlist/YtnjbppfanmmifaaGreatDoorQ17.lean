/-
  The program's reader of CBOR: the bytes of a run, whole.
  The program's reader of CBOR: the bytes of a run, at the end of all.
  The program's reader of CBOR: the bytes of a Bytes or a Text, of all its parts.
  The program's reader of CBOR: the bytes of parts.
-/
import Derived.Test.YtnjbppfanmmifaaGreatDoorQ16
namespace Go.Proofs.YtnjbppfanmmifaaGreatDoor
open Go.RowKit
set_option linter.unusedVariables false
/-- The bytes that are there of a run lie in the reader's. -/
theorem here_bytes {C : CX} {w : World} {q m n b off : Nat} (h : RSt C w q m) (ha : C.a = some ⟨b, off, none⟩) (hq : q ≤ C.zs.length) : Bytes w (some ⟨b, off + q, none⟩) (here C.zs q n) := by
  obtain ⟨h0, h1, h2⟩ := h.2.1.1
  have hl : (here C.zs q n).length ≤ C.zs.length - q := by unfold here; rw [List.length_take, List.length_drop]; omega
  refine ⟨fun c hc => h0 c (List.mem_of_mem_drop (List.mem_of_mem_take hc)), by omega, ?_⟩
  by_cases hz : here C.zs q n = []
  · exact .inl hz
  · refine .inr ⟨b, off + q, rfl, fun i hi => ?_⟩
    rcases h2 with h2 | ⟨b', off', ha', hc⟩
    · exfalso; apply hz; unfold here; rw [h2]; simp
    · rw [ha] at ha'
      cases ha'
      have := hc (q + i) (by omega)
      rw [Nat.add_assoc, this, List.getD_eq_getElem?_getD, List.getD_eq_getElem?_getD]
      unfold here
      rw [List.getElem?_take, if_pos (by unfold here at hi; rw [List.length_take] at hi; omega), List.getElem?_drop]
/-- What a run answers: bytes of the reader's. -/
def RunIs (C : CX) (w w' : World) (m : Nat) (x : Ending) (R : Sum (Int × Nat) (List Int × Nat)) : Prop := match R with
  | .inl f => x = Pn f ∧ Kq C.g w.heap.size w w'
  | .inr (l, r) => (∃ a c, x = .returned (.slice a l.length c) ∧ Bytes w' a l ∧ In (· < C.g) a l.length ∧ l.length ≤ c ∧ c ≤ maxLen ∧ (a = none → c = 0)) ∧ RK C w w' r m
set_option maxHeartbeats 4000000 in
set_option maxRecDepth 100000 in
theorem crun_ne {C : CX} {w : World} {q m : Nat} (h : RSt C w q m) (pl : Nat) (mj lo : Int) (n : Nat) (cut : Bool) (hn : n ≤ 4096) (hq : q ≤ C.zs.length) (h0 : 0 < C.zs.length) (hne : C.c ≠ q) : Calls Tryz.prog 165 #[.pointer (some ⟨C.g, 0, none⟩), .agg #[.int .i64 (pl : Nat), .int .u8 mj, .int .u8 lo, .int .u64 (n : Nat), .bool cut]] w fun x w' => RunIs C w w' m x (runA C.zs mj q n) := by
  obtain ⟨b, off, ha, ⟨hbg, hc⟩, _⟩ := (show RSt C w q m → ∃ b off, C.a = some ⟨b, off, none⟩ ∧ (b < C.g ∧ True) ∧ True from fun h => by
    rcases h.2.1.1.2.2 with hz | ⟨b, off, ha, _⟩
    · rw [hz] at h0; simp at h0
    · exact ⟨b, off, ha, ⟨h.2.1.2 h0 _ ha, trivial⟩, trivial⟩) h
  clear hc
  have hcc := h.2.2.1
  have hmx := hcc.2.1
  unfold maxLen at hmx
  have h46 := h.2.2.2.1
  obtain ⟨E, hE⟩ : ∃ E, E = q + n := ⟨_, rfl⟩
  obtain ⟨K, hK⟩ : ∃ K, K = min E C.zs.length := ⟨_, rfl⟩
  have hqK : q ≤ K := by omega
  have hKn : K ≤ C.zs.length := by omega
  have hHr : Hid (here C.zs q n = here C.zs q (K - q)) := by
    show _ = _
    unfold here
    by_cases hh : E ≤ C.zs.length
    · rw [show K - q = n by omega]
    · rw [List.take_of_length_le (by rw [List.length_drop]; omega), List.take_of_length_le (by rw [List.length_drop]; omega)]
  have hHl : Hid ((here C.zs q n).length = K - q) := by show _ = _; rw [hHr.out, here_len (by omega)]
  have wn : IntKind.i64.wrap ((n : Nat) : Int) = (n : Int) := by rw [IntKind.wrap_i64]; omega
  have wE : IntKind.i64.wrap ((q : Int) + (n : Int)) = (E : Int) := by rw [IntKind.wrap_i64]; omega
  have hmin : min (E : Int) (C.zs.length : Int) = (K : Int) := by omega
  have s1 : (q : Int) ≤ (K : Int) := by omega
  have s2 : (K : Int) ≤ (C.c : Int) := by omega
  have s3 : q ≤ K := hqK
  have s4 : K ≤ C.c := by omega
  have hg := h.lt
  have hEq : Hid (E = q + n) := hE
  have hNN : Hid (E ≤ 8192) := by show _ ≤ _; omega
  have hR : Hid (∀ wx, Below w.heap.size w wx → RK C w wx q m) := fun wx hx => h.rk.below hx
  have hR0 : Hid (RK C w w q m) := h.rk
  have kN := cneeds_yes C
  have kNo : Hid (∀ wx, RSt C wx q m → Calls Tryz.prog 85 #[.pointer (some ⟨C.g, 0, none⟩), .bool false] wx fun e w' => e = .panicked [{ v := .iface 61 (.agg #[.int .i64 3, .int .i64 (C.zs.length : Nat)]), recovered := false }] ∧ w' = wx) := fun wx hx => cneeds_no hx
  have c0 : Hid (∀ {wx}, RSt C wx q m → wx.cell? ⟨C.g, 0, none⟩ = some (.slice C.a C.zs.length C.c)) := fun {wx} hx => Blk.cell hx.1 0
  have c1 : Hid (∀ {wx}, RSt C wx q m → wx.cell? ⟨C.g, 1, none⟩ = some (.int .i64 (q : Nat))) := fun {wx} hx => Blk.cell hx.1 1
  have f1 : Hid (∀ {wx}, RSt C wx q m → wx.frozen? ⟨C.g, 1, none⟩ = false) := fun {wx} hx => Blk.fz hx.1 1
  have hBy : Hid (∀ wx, RSt C wx q m → Bytes wx (some ⟨b, off + q, none⟩) (here C.zs q n)) := fun wx hx => here_bytes hx ha hq
  have kC : Hid (∀ wx, RSt C wx q m → Calls Tryz.prog 196 #[.pointer (some ⟨C.g, 0, none⟩), .slice (some ⟨b, off + q, none⟩) (K - q) (C.c - q), .int .i64 (E : Nat)] wx fun x w' => ((whyL (here C.zs q n) ≠ 0 ∧ (q + atL (here C.zs q n) < C.zs.length ∨ E = q + atL (here C.zs q n))) ∧ x = .panicked [{ v := .iface 61 (.agg #[.int .i64 6, .int .i64 (q + atL (here C.zs q n) : Nat)]), recovered := false }] ∨ ¬ (whyL (here C.zs q n) ≠ 0 ∧ (q + atL (here C.zs q n) < C.zs.length ∨ E = q + atL (here C.zs q n))) ∧ x = .returned (.tuple #[])) ∧ Below wx.heap.size wx w') := fun wx hx => ccheck_any hx _ _ _ _ E hHl.out (here_bytes hx ha hq) (by omega) (by omega) (by omega)
  have s5 : ¬ C.c = q := hne
  have hRs : Hid (∀ w', RK C w w' E m → E ≤ C.zs.length → (∃ a c, Ending.returned (.slice (some ⟨b, off + q, none⟩) (K - q) (C.c - q)) = .returned (.slice a (here C.zs q n).length c) ∧ Bytes w' a (here C.zs q n) ∧ In (· < C.g) a (here C.zs q n).length ∧ (here C.zs q n).length ≤ c ∧ c ≤ maxLen ∧ (a = none → c = 0)) ∧ RK C w w' (q + n) m) := fun w' hk hE' => by
    refine ⟨⟨_, _, by rw [hHl.out], ?_, fun _ x hx => by cases hx; exact hbg, by rw [hHl.out]; omega, by unfold maxLen; omega, fun hx => by cases hx⟩, by rw [← hE]; exact hk⟩
    have := hk.1
    have hb := here_bytes (q := E) (n := n) (m := m) (b := b) (off := off) (w := w') (C := C) hk.1 ha hE'
    obtain ⟨h0, h1, h2⟩ := hk.1.2.1.1
    have hh : RSt C (w'.setCell ⟨C.g, 1, none⟩ (.int .i64 (q : Nat))) q m := hk.1.at_ q
    have hb2 := here_bytes (n := n) hh ha hq
    exact hb2.stays (S := (· < C.g)) (fun _ x hx => by cases hx; exact hbg) fun k hk' => ((Kq.set C.g w'.heap.size w' 1 _).block k (by have := hk.1.lt; omega) (by omega)).symm
  have hdr : Hid (runA C.zs mj q n = if mj = 3 ∧ whyL (here C.zs q n) ≠ 0 ∧ (q + atL (here C.zs q n) < C.zs.length ∨ q + n = q + atL (here C.zs q n)) then .inl (6, q + atL (here C.zs q n)) else if C.zs.length < q + n then .inl (3, C.zs.length) else .inr (here C.zs q n, q + n)) := rfl
  have hbx := blk_new w #[.int .i64 (pl : Nat), .int .u8 mj, .int .u8 lo, .int .u64 (n : Nat), .bool cut] 94
  obtain ⟨x0, x1, x2, x3, x4⟩ := hbox w pl n mj lo cut
  have hW : Hid (Below w.heap.size w (w.alloc (.cells #[.int .i64 (pl : Nat), .int .u8 mj, .int .u8 lo, .int .u64 (n : Nat), .bool cut] 94))) := alloc_below w _
  have d0 := c0.out (hR.out _ hW.out).1
  have d1 := c1.out (hR.out _ hW.out).1
  rw [ha] at d0
  have ha' : Hid (C.a = some ⟨b, off, none⟩) := ha
  have g0 := f1.out (hR.out _ hW.out).1
  have hgW : C.g < (w.alloc (.cells #[.int .i64 (pl : Nat), .int .u8 mj, .int .u8 lo, .int .u64 (n : Nat), .bool cut] 94)).heap.size := Nat.lt_of_lt_of_le hg hW.out.size
  have hRE : Hid (∀ wx, RK C w wx q m → RK C w (wx.setCell ⟨C.g, 1, none⟩ (.int .i64 (E : Int))) E m) := fun wx hx => hx.at_ E
  rw [hdr.out]
  clear hdr h hE hK hqK hKn hmx hcc h46 hne hbx hBy
  have ha := ha'
  by_cases h3 : mj = 3
  · subst h3
    by_cases hcd : whyL (here C.zs q n) ≠ 0 ∧ (q + atL (here C.zs q n) < C.zs.length ∨ q + n = q + atL (here C.zs q n))
    · rw [if_pos ⟨rfl, hcd⟩]
      have hcond : Hid (whyL (here C.zs q n) ≠ 0 ∧ (q + atL (here C.zs q n) < C.zs.length ∨ E = q + atL (here C.zs q n))) := by rw [hEq.out]; exact hcd
      clear hcd
      unfold RunIs
      simp only
      generalize hN : C.zs.length = N at *
      clear hN
      go_enter Tryz.func165, Tryz.ntmps165
      go_wp2_with fail
      go_region
      go_wp2_with fail
      go_region
      go_wp2_with (go_at_call 196; refine (kC.out _ (hR.out _ hW.out.drew.drew).1).mono ?_; rintro x w2 ⟨hx, hb2⟩; obtain rfl : x = .panicked [{ v := .iface 61 (.agg #[.int .i64 6, .int .i64 (q + atL (here C.zs q n) : Nat)]), recovered := false }] := by (rcases hx with ⟨_, hx⟩ | ⟨hx, _⟩; exact hx; exact absurd hcond.out hx))
      exact ⟨rfl, rfl, (hR.out _ (hW.out.drew.drew.trans (hb2.mono (by simp)))).2.1⟩
    · rw [if_neg (fun z => hcd z.2)]
      have hcond : Hid (¬ (whyL (here C.zs q n) ≠ 0 ∧ (q + atL (here C.zs q n) < C.zs.length ∨ E = q + atL (here C.zs q n)))) := by rw [hEq.out]; exact hcd
      clear hcd
      by_cases hE' : C.zs.length < q + n
      · rw [if_pos hE']
        have g5 : decide ((E : Int) ≤ (C.zs.length : Int)) = false := by have := hEq.out; simp; omega
        have g5' : decide (E ≤ C.zs.length) = false := by have := hEq.out; simp; omega
        clear hE' hRs
        unfold RunIs
        simp only
        generalize hN : C.zs.length = N at *
        clear hN
        go_enter Tryz.func165, Tryz.ntmps165
        go_wp2_with fail
        go_region
        go_wp2_with fail
        go_region
        go_wp2_with (first | (go_at_call 196; refine (kC.out _ (hR.out _ hW.out.drew.drew).1).mono ?_; rintro x w2 ⟨hx, hb2⟩; obtain rfl : x = .returned (.tuple #[]) := hx.elim (fun z => absurd z.1 hcond.out) (fun z => z.2); have hB2 : Hid (Below w.heap.size w w2) := hW.out.drew.drew.trans (hb2.mono (by simp)); have d0 := c0.out (hR.out _ hB2.out).1; have d1 := c1.out (hR.out _ hB2.out).1; have g1 := f1.out (hR.out _ hB2.out).1; rw [ha.out] at d0; clear hb2 hx) | (go_at_call 85; refine (kNo.out _ (hR.out _ hB2.out).1).mono ?_; rintro x w3 ⟨rfl, rfl⟩))
        exact ⟨rfl, rfl, (hR.out _ hB2.out).2.1⟩
      · rw [if_neg hE']
        have hEn : Hid (E ≤ C.zs.length) := by have := hEq.out; show _ ≤ _; omega
        have g5 : decide ((E : Int) ≤ (C.zs.length : Int)) = true := by have := hEq.out; simp; omega
        have g5' : decide (E ≤ C.zs.length) = true := by have := hEq.out; simp; omega
        clear hE'
        unfold RunIs
        simp only
        generalize hN : C.zs.length = N at *
        clear hN
        go_enter Tryz.func165, Tryz.ntmps165
        go_wp2_with fail
        go_region
        go_wp2_with fail
        go_region
        go_wp2_with (first | (go_at_call 196; refine (kC.out _ (hR.out _ hW.out.drew.drew).1).mono ?_; rintro x w2 ⟨hx, hb2⟩; obtain rfl : x = .returned (.tuple #[]) := hx.elim (fun z => absurd z.1 hcond.out) (fun z => z.2); have hB2 : Hid (Below w.heap.size w w2) := hW.out.drew.drew.trans (hb2.mono (by simp)); have d0 := c0.out (hR.out _ hB2.out).1; have d1 := c1.out (hR.out _ hB2.out).1; have g1 := f1.out (hR.out _ hB2.out).1; rw [ha.out] at d0; clear hb2 hx) | (go_at_call 85; refine (kN _).mono ?_; rintro x w3 ⟨rfl, hw3⟩; obtain rfl := hw3.symm))
        go_ret
        exact hRs.out _ (hRE.out _ (hR.out _ hB2.out)) hEn.out
  · have e3 : (mj == 3) = false := by simpa using h3
    rw [if_neg (fun z => h3 z.1)]
    clear h3
    by_cases hE' : C.zs.length < q + n
    · rw [if_pos hE']
      have g5 : decide ((E : Int) ≤ (C.zs.length : Int)) = false := by have := hEq.out; simp; omega
      have g5' : decide (E ≤ C.zs.length) = false := by have := hEq.out; simp; omega
      clear hE' hRs
      unfold RunIs
      simp only
      generalize hN : C.zs.length = N at *
      clear hN
      go_enter Tryz.func165, Tryz.ntmps165
      go_wp2_with fail
      go_region
      go_wp2_with fail
      go_region
      go_wp2_with (go_at_call 85; refine (kNo.out _ (hR.out _ hW.out.drew.drew).1).mono ?_; rintro x w3 ⟨rfl, rfl⟩)
      exact ⟨rfl, rfl, (hR.out _ hW.out.drew.drew).2.1⟩
    · rw [if_neg hE']
      have hEn : Hid (E ≤ C.zs.length) := by have := hEq.out; show _ ≤ _; omega
      have g5 : decide ((E : Int) ≤ (C.zs.length : Int)) = true := by have := hEq.out; simp; omega
      have g5' : decide (E ≤ C.zs.length) = true := by have := hEq.out; simp; omega
      clear hE'
      unfold RunIs
      simp only
      generalize hN : C.zs.length = N at *
      clear hN
      go_enter Tryz.func165, Tryz.ntmps165
      go_wp2_with fail
      go_region
      go_wp2_with fail
      go_region
      go_wp2_with (go_at_call 85; refine (kN _).mono ?_; rintro x w3 ⟨rfl, hw3⟩; obtain rfl := hw3.symm)
      go_ret
      exact hRs.out _ (((hRE.out _ hR0.out).alloc _).drew.drew) hEn.out
end Go.Proofs.YtnjbppfanmmifaaGreatDoor
namespace Go.Proofs.YtnjbppfanmmifaaGreatDoor
open Go.RowKit
set_option linter.unusedVariables false
theorem here_end {zs : List Int} {q n : Nat} (h : zs.length ≤ q) : here zs q n = [] := by unfold here; rw [List.drop_of_length_le h]; simp
set_option maxHeartbeats 4000000 in
set_option maxRecDepth 100000 in
theorem crun_eq {C : CX} {w : World} {q m : Nat} (h : RSt C w q m) (pl : Nat) (mj lo : Int) (n : Nat) (cut : Bool) (hn : n ≤ 4096) (hq : q ≤ C.zs.length) (h0 : 0 < C.zs.length) (hce : C.c = q) : Calls Tryz.prog 165 #[.pointer (some ⟨C.g, 0, none⟩), .agg #[.int .i64 (pl : Nat), .int .u8 mj, .int .u8 lo, .int .u64 (n : Nat), .bool cut]] w fun x w' => RunIs C w w' m x (runA C.zs mj q n) := by
  have hcc := h.2.2.1
  have h46 := h.2.2.2.1
  have hqn : C.zs.length = q := by omega
  have hh : here C.zs q n = [] := here_end (by omega)
  have hw0 : whyL ([] : List Int) = 0 := rfl
  obtain ⟨b, off, ha, hbg⟩ : ∃ b off, C.a = some ⟨b, off, none⟩ ∧ b < C.g := by
    rcases h.2.1.1.2.2 with hz | ⟨b, off, ha, _⟩
    · rw [hz] at h0; simp at h0
    · exact ⟨b, off, ha, h.2.1.2 h0 _ ha⟩
  have hdr : runA C.zs mj q n = if q < q + n then .inl (3, C.zs.length) else .inr ([], q + n) := by
    unfold runA
    rw [hh, if_neg (fun z => z.2.1 hw0), hqn]
  obtain ⟨E, hE⟩ : ∃ E, E = q + n := ⟨_, rfl⟩
  have wn : IntKind.i64.wrap ((n : Nat) : Int) = (n : Int) := by rw [IntKind.wrap_i64]; omega
  have wE : IntKind.i64.wrap ((q : Int) + (n : Int)) = (E : Int) := by rw [IntKind.wrap_i64]; omega
  have hmin : min (E : Int) (q : Int) = (q : Int) := by omega
  have hg := h.lt
  have hR : Hid (∀ wx, Below w.heap.size w wx → RK C w wx q m) := fun wx hx => h.rk.below hx
  have hR0 : Hid (RK C w w q m) := h.rk
  have kN := cneeds_yes C
  have kNo : Hid (∀ wx, RSt C wx q m → Calls Tryz.prog 85 #[.pointer (some ⟨C.g, 0, none⟩), .bool false] wx fun e w' => e = .panicked [{ v := .iface 61 (.agg #[.int .i64 3, .int .i64 (q : Nat)]), recovered := false }] ∧ w' = wx) := fun wx hx => by have := cneeds_no hx; rw [hqn] at this; exact this
  have c0 : Hid (∀ {wx}, RSt C wx q m → wx.cell? ⟨C.g, 0, none⟩ = some (.slice (some ⟨b, off, none⟩) q q)) := fun {wx} hx => by have := Blk.cell hx.1 0; rw [hqn, hce, ha] at this; exact this
  have c1 : Hid (∀ {wx}, RSt C wx q m → wx.cell? ⟨C.g, 1, none⟩ = some (.int .i64 (q : Nat))) := fun {wx} hx => Blk.cell hx.1 1
  have f1 : Hid (∀ {wx}, RSt C wx q m → wx.frozen? ⟨C.g, 1, none⟩ = false) := fun {wx} hx => Blk.fz hx.1 1
  have kC : Hid (∀ (a' : Option Addr) (c' : Nat) wx, RSt C wx q m → Calls Tryz.prog 196 #[.pointer (some ⟨C.g, 0, none⟩), .slice a' 0 c', .int .i64 (E : Nat)] wx fun x w' => x = .returned (.tuple #[]) ∧ Below wx.heap.size wx w') := fun a' c' wx hx => (ccheck_any hx a' 0 c' [] E rfl ⟨by simp, by simp, .inl rfl⟩ (Nat.zero_le _) (by omega) (by omega)).mono fun x w' ⟨h1, h2⟩ => ⟨h1.elim (fun z => absurd rfl z.1.1) (fun z => z.2), h2⟩
  have hRE : Hid (∀ wx, RK C w wx q m → RK C w (wx.setCell ⟨C.g, 1, none⟩ (.int .i64 (E : Int))) E m) := fun wx hx => hx.at_ E
  obtain ⟨x0, x1, x2, x3, x4⟩ := hbox w pl n mj lo cut
  have hW : Hid (Below w.heap.size w (w.alloc (.cells #[.int .i64 (pl : Nat), .int .u8 mj, .int .u8 lo, .int .u64 (n : Nat), .bool cut] 94))) := alloc_below w _
  have d0 := c0.out (hR.out _ hW.out).1
  have d1 := c1.out (hR.out _ hW.out).1
  have g0 := f1.out (hR.out _ hW.out).1
  have hgW : C.g < (w.alloc (.cells #[.int .i64 (pl : Nat), .int .u8 mj, .int .u8 lo, .int .u64 (n : Nat), .bool cut] 94)).heap.size := Nat.lt_of_lt_of_le hg hW.out.size
  have e0 := c0.out hR0.out.1
  have e1 := c1.out hR0.out.1
  have ef := f1.out hR0.out.1
  rw [hdr, ← hE, hqn]
  have hqq : (q : Int) ≤ (q : Int) := Int.le_refl _
  have hfin : Hid (∀ (w' : World) (a' : Option Addr) (c' : Nat), c' ≤ q → (a' = none → c' = 0) → RK C w w' E m → (∃ a c, Ending.returned (.slice a' 0 c') = .returned (.slice a ([] : List Int).length c) ∧ Bytes w' a [] ∧ In (· < C.g) a ([] : List Int).length ∧ ([] : List Int).length ≤ c ∧ c ≤ maxLen ∧ (a = none → c = 0)) ∧ RK C w w' E m) := fun w' a' c' h1 h2 h3 => ⟨⟨a', c', rfl, ⟨by simp, by simp, .inl rfl⟩, (fun z => by simp at z), Nat.zero_le _, by unfold maxLen; omega, h2⟩, h3⟩
  clear h hh hce hcc h46 hqn hdr hw0 ha h0 hq hn
  by_cases h3 : mj = 3
  · subst h3
    by_cases hE' : q < E
    · rw [if_pos hE']
      have g5 : decide ((E : Int) ≤ (q : Int)) = false := by simp; omega
      have g5' : decide (E ≤ q) = false := by simp; omega
      clear hE' hE
      unfold RunIs
      simp only
      go_enter Tryz.func165, Tryz.ntmps165
      go_wp2_with fail
      go_region
      go_wp2_with fail
      go_region
      go_wp2_with (first | (go_at_call 196; refine (kC.out _ _ _ (hR.out _ hW.out.drew.drew).1).mono ?_; rintro x w2 ⟨rfl, hb2⟩; have hB2 : Hid (Below w.heap.size w w2) := hW.out.drew.drew.trans (hb2.mono (by simp)); have d0 := c0.out (hR.out _ hB2.out).1; have d1 := c1.out (hR.out _ hB2.out).1; have g1 := f1.out (hR.out _ hB2.out).1; clear hb2) | (go_at_call 85; refine (kNo.out _ (hR.out _ hB2.out).1).mono ?_; rintro x w3 ⟨rfl, rfl⟩))
      exact ⟨rfl, rfl, (hR.out _ hB2.out).2.1⟩
    · rw [if_neg hE']
      have g5 : decide ((E : Int) ≤ (q : Int)) = true := by simp; omega
      have g5' : decide (E ≤ q) = true := by simp; omega
      clear hE' hE
      unfold RunIs
      simp only
      go_enter Tryz.func165, Tryz.ntmps165
      go_wp2_with fail
      go_region
      go_wp2_with fail
      go_region
      go_wp2_with (first | (go_at_call 196; refine (kC.out _ _ _ (hR.out _ hW.out.drew.drew).1).mono ?_; rintro x w2 ⟨rfl, hb2⟩; have hB2 : Hid (Below w.heap.size w w2) := hW.out.drew.drew.trans (hb2.mono (by simp)); have d0 := c0.out (hR.out _ hB2.out).1; have d1 := c1.out (hR.out _ hB2.out).1; have g1 := f1.out (hR.out _ hB2.out).1; clear hb2) | (go_at_call 85; refine (kN _).mono ?_; rintro x w3 ⟨rfl, hw3⟩; obtain rfl := hw3.symm))
      go_ret
      exact hfin.out _ _ _ (Nat.zero_le _) (fun _ => rfl) (hRE.out _ (hR.out _ hB2.out))
  · have e3 : (mj == 3) = false := by simpa using h3
    clear h3
    by_cases hE' : q < E
    · rw [if_pos hE']
      have g5 : decide ((E : Int) ≤ (q : Int)) = false := by simp; omega
      have g5' : decide (E ≤ q) = false := by simp; omega
      clear hE' hE
      unfold RunIs
      simp only
      go_enter Tryz.func165, Tryz.ntmps165
      go_wp2_with fail
      go_region
      go_wp2_with fail
      go_region
      go_wp2_with (go_at_call 85; refine (kNo.out _ (hR.out _ hW.out.drew.drew).1).mono ?_; rintro x w3 ⟨rfl, rfl⟩)
      exact ⟨rfl, rfl, (hR.out _ hW.out.drew.drew).2.1⟩
    · rw [if_neg hE']
      have g5 : decide ((E : Int) ≤ (q : Int)) = true := by simp; omega
      have g5' : decide (E ≤ q) = true := by simp; omega
      clear hE' hE
      unfold RunIs
      simp only
      go_enter Tryz.func165, Tryz.ntmps165
      go_wp2_with fail
      go_region
      go_wp2_with fail
      go_region
      go_wp2_with (go_at_call 85; refine (kN _).mono ?_; rintro x w3 ⟨rfl, hw3⟩; obtain rfl := hw3.symm)
      go_ret
      exact hfin.out _ _ _ (Nat.zero_le _) (fun _ => rfl) (((hRE.out _ hR0.out).alloc _).drew.drew)
/-- THE BYTES OF A RUN. -/
theorem crun_any {C : CX} {w : World} {q m : Nat} (h : RSt C w q m) (hd : Hd) (hn : hd.n ≤ 4096) (hq : q ≤ C.zs.length) (h0 : 0 < C.zs.length) : Calls Tryz.prog 165 #[.pointer (some ⟨C.g, 0, none⟩), .agg hd.arr] w fun x w' => RunIs C w w' m x (runA C.zs hd.mj q hd.n) := by
  by_cases hc : C.c = q
  · exact crun_eq h hd.pl hd.mj hd.lo hd.n hd.cut hn hq h0 hc
  · exact crun_ne h hd.pl hd.mj hd.lo hd.n hd.cut hn hq h0 hc
end Go.Proofs.YtnjbppfanmmifaaGreatDoor
namespace Go.Proofs.YtnjbppfanmmifaaGreatDoor
open Go.RowKit
set_option linter.unusedVariables false
theorem RK.grown {C : CX} {w X Y : World} {p m : Nat} {o : Option Nat} (h : RK C w X p m) (hg : X.grownBy Y o) (ho : ∀ k, o = some k → w.heap.size ≤ k) : RK C w Y p m := by
  obtain ⟨h1, h2, h3⟩ := h
  have hlt := h1.lt
  have bl : ∀ k, k < X.heap.size → k < w.heap.size → Y.heap[k]? = X.heap[k]? := fun k hk hw => hg.block k hk fun e => by have := ho k e.symm; omega
  refine ⟨h1.on ⟨hg.os, hg.tape, hg.output, hg.size, fun k hk => bl k (by omega) (by omega)⟩ ((bl C.g hlt h3).trans h1.1), ⟨hg.os.trans h2.os, hg.tape.trans h2.tape, hg.output.trans h2.output, Nat.le_trans h2.size hg.size, fun k hk hne => ?_⟩, h3⟩
  rw [bl k (by have := h2.size; omega) hk, h2.block k hk hne]
theorem OwnsB.base {w : World} {base base' : Nat} {v : Value} {zs : List Int} (h : OwnsB w base v zs) (hB : base' ≤ base) : OwnsB w base' v zs := by
  obtain ⟨⟨hl, hv⟩, hz⟩ := h
  refine ⟨⟨hl, ?_⟩, hz⟩
  rcases hv with ⟨rfl, hn⟩ | ⟨g, cap, cur, rfl, hb, hr⟩
  · exact .inl ⟨rfl, hn⟩
  · exact .inr ⟨g, cap, cur, rfl, by omega, hr⟩
theorem OwnsB.own {w : World} {base : Nat} {v : Value} {zs : List Int} (h : OwnsB w base v zs) (k : Nat) (hk : v.ownBlock = some k) : base ≤ k ∧ k < w.heap.size := World.ownsRow.lt h.1 k hk
theorem OwnsB.kq {w w' : World} {base g : Nat} {v : Value} {zs : List Int} (h : OwnsB w base v zs) (hq : Kq g w.heap.size w w') (hg : g < base) : OwnsB w' base v zs := by
  obtain ⟨⟨hl, hv⟩, hz⟩ := h
  refine ⟨⟨hl, ?_⟩, hz⟩
  rcases hv with ⟨rfl, hn⟩ | ⟨g', cap, cur, rfl, hb, hh, hr⟩
  · exact .inl ⟨rfl, hn⟩
  · exact .inr ⟨g', cap, cur, rfl, hb, by rw [hq.block g' (Array.getElem?_eq_some_iff.1 hh).1 (by omega)]; exact hh, hr⟩
/-- What comes of all bytes: new ones. -/
def AllIs (C : CX) (w w' : World) (m : Nat) (x : Ending) (R : Sum (Int × Nat) (List Int × Nat)) : Prop := match R with
  | .inl f => x = Pn f ∧ Kq C.g w.heap.size w w'
  | .inr (l, r) => (∃ v, x = .returned v ∧ OwnsB w' w.heap.size v l) ∧ RK C w w' r m
/-- A fault's panic. -/
theorem pn_eq (f : Int × Nat) : Pn f = .panicked [{ v := .iface 61 (.agg #[.int .i64 f.1, .int .i64 (f.2 : Nat)]), recovered := false }] := rfl
set_option maxHeartbeats 4000000 in
set_option maxRecDepth 100000 in
theorem call_arg {C : CX} {w : World} {q m : Nat} (h : RSt C w q m) (hd : Hd) (hl : hd.lo ≤ 27) (hn : hd.n ≤ 4096) (hq : q ≤ C.zs.length) (h0 : 0 < C.zs.length) : Calls Tryz.prog 126 #[.pointer (some ⟨C.g, 0, none⟩), .agg hd.arr] w fun x w' => AllIs C w w' m x (runA C.zs hd.mj q hd.n) := by
  have kH : Hid (∀ wx, Calls Tryz.prog 123 #[.agg hd.arr] wx fun e w' => e = .returned (.bool true) ∧ Below wx.heap.size wx w') := fun wx => by have := chasa_any hd wx; rw [show decide (hd.lo ≤ 27) = true from by simpa using hl] at this; exact this
  have kR : Hid (∀ wx, RSt C wx q m → Calls Tryz.prog 165 #[.pointer (some ⟨C.g, 0, none⟩), .agg hd.arr] wx fun x w' => RunIs C wx w' m x (runA C.zs hd.mj q hd.n)) := fun wx hx => crun_any hx hd hn hq h0
  have hlen : Hid (∀ l r, runA C.zs hd.mj q hd.n = .inr (l, r) → l.length ≤ 4096) := fun l r e => by have := (run_ok e).2.2.2.1; omega
  have hR : Hid (∀ wx, Below w.heap.size w wx → RK C w wx q m) := fun wx hx => h.rk.below hx
  have hB := blk_new w hd.arr 94
  have hW : Hid (Below w.heap.size w (w.alloc (.cells hd.arr 94))) := alloc_below w _
  have hBx : Hid (∀ wx, Below (w.alloc (.cells hd.arr 94)).heap.size (w.alloc (.cells hd.arr 94)) wx → Blk wx w.heap.size hd.arr 94) := fun wx hx => Blk.kept hB hx hB.lt
  obtain ⟨pl, mj, lo, n, cut⟩ := hd
  unfold Hd.arr at *
  simp only at *
  obtain ⟨x0, x1, x2, x3, x4⟩ := hbox w pl n mj lo cut
  generalize hRR : runA C.zs mj q n = R at *
  clear hRR h hB hl hn hq h0
  cases R with
  | inl f =>
    unfold AllIs
    unfold RunIs at kR
    simp only at kR ⊢
    rw [pn_eq] at kR
    go_enter Tryz.func126, Tryz.ntmps126
    go_wp2_with (first
      | (go_at_call 123; refine (kH.out _).mono ?_; rintro e w2 ⟨rfl, hb2⟩; have B2 := hBx.out _ hb2; have b0 := B2.cell 0; have b1 := B2.cell 1; have b2 := B2.cell 2; have b3 := B2.cell 3; have b4 := B2.cell 4; simp at b0 b1 b2 b3 b4; have hB2 : Hid (Below w.heap.size w w2) := hW.out.trans (hb2.mono hW.out.size); clear hb2 B2)
      | (go_at_call 165; refine (kR.out _ (hR.out _ hB2.out).1).mono ?_; rintro e w3 ⟨rfl, hk3⟩))
    exact ⟨rfl, rfl, (hR.out _ hB2.out).2.1.next hk3⟩
  | inr lr =>
    obtain ⟨l, r⟩ := lr
    have hll : Hid (l.length ≤ 4096) := hlen.out l r rfl
    unfold AllIs
    unfold RunIs at kR
    simp only at kR ⊢
    clear hlen
    go_enter Tryz.func126, Tryz.ntmps126
    go_wp2_with (first
      | (go_at_call 123; refine (kH.out _).mono ?_; rintro e w2 ⟨rfl, hb2⟩; have B2 := hBx.out _ hb2; have b0 := B2.cell 0; have b1 := B2.cell 1; have b2 := B2.cell 2; have b3 := B2.cell 3; have b4 := B2.cell 4; simp at b0 b1 b2 b3 b4; have hB2 : Hid (Below w.heap.size w w2) := hW.out.trans (hb2.mono hW.out.size); clear hb2 B2)
      | (go_at_call 165; refine (kR.out _ (hR.out _ hB2.out).1).mono ?_; rintro e w3 ⟨⟨ar, cr, rfl, hby, hin, hlc, hcm, hnn⟩, hk3⟩; have hK3 : Hid (RK C w w3 r m) := (hR.out _ hB2.out).next hk3; have hBy : Hid (Bytes w3 ar l) := hby; have hNn : Hid (ar = none → cr = 0) := hnn; clear hk3 hby hnn hin hlc hcm)
      | (at_builtin; refine wpList_append_bytes rfl _ (.tmp 11) rfl w3.heap.size (.slice none 0 0) [] l rfl (ownsB_nil _ _) ar l.length cr rfl rfl hNn.out hBy.out (by have := hll.out; simp; omega) (Nat.le_refl _) ?_; intro v4 w4 ho4 hg4; rw [List.nil_append] at ho4; have hO4 : Hid (OwnsB w4 w3.heap.size v4 l) := ho4; have hG4 : Hid (w3.grownBy w4 none) := hg4; clear ho4 hg4))
    go_ret
    exact ⟨⟨v4, rfl, hO4.out.base hK3.out.2.1.size⟩, hK3.out.grown hG4.out (fun k hk => by cases hk)⟩
end Go.Proofs.YtnjbppfanmmifaaGreatDoor
namespace Go.Proofs.YtnjbppfanmmifaaGreatDoor
open Go.RowKit
set_option linter.unusedVariables false
/-- Where the reader stands, read off the memory. -/
def pAt (C : CX) (w : World) : Nat := match w.cell? ⟨C.g, 1, none⟩ with
  | some (.int _ x) => x.toNat
  | _ => 0
theorem pAt_of {C : CX} {w : World} {p m : Nat} (h : RSt C w p m) : pAt C w = p := by
  unfold pAt
  rw [show w.cell? ⟨C.g, 1, none⟩ = some (.int .i64 (p : Nat)) from Blk.cell h.1 1]
  simp
/-- What is left of the parts to be read. -/
def PL (C : CX) (w wr : World) (m pl : Nat) (mj lo : Int) (n : Nat) (cut : Bool) (v : Value) (R : Sum (Int × Nat) (List Int × Nat)) : Prop := ∃ (k p : Nat) (out : List Int), OwnsB wr (w.heap.size + 1) v out ∧ out.length ≤ 4096 ∧ RK C w wr p m ∧ Blk wr w.heap.size #[.int .i64 (pl : Nat), .int .u8 mj, .int .u8 lo, .int .u64 (n : Nat), .bool cut] 94 ∧ prtF k C.zs mj pl p out = R ∧ p ≤ C.zs.length ∧ C.zs.length - p < k
set_option maxHeartbeats 8000000 in
set_option maxRecDepth 100000 in
theorem call_parts {C : CX} {w : World} {q m : Nat} (h : RSt C w q m) (hd : Hd) (hl : ¬ hd.lo ≤ 27) (hq : q ≤ C.zs.length) (h0 : 0 < C.zs.length) : Calls Tryz.prog 126 #[.pointer (some ⟨C.g, 0, none⟩), .agg hd.arr] w fun x w' => AllIs C w w' m x (prtF 5000 C.zs hd.mj hd.pl q []) := by
  have kH : Hid (∀ wx, Calls Tryz.prog 123 #[.agg hd.arr] wx fun e w' => e = .returned (.bool false) ∧ Below wx.heap.size wx w') := fun wx => by have := chasa_any hd wx; rw [show decide (hd.lo ≤ 27) = false from by simpa using hl] at this; exact this
  have h46 : Hid (C.zs.length ≤ 4096) := h.2.2.2.1
  have h00 : Hid (0 < C.zs.length) := h0
  have hg : Hid (C.g < w.heap.size) := h.lt
  have kN := cneeds_yes C
  have hR : Hid (∀ wx, Below w.heap.size w wx → RK C w wx q m) := fun wx hx => h.rk.below hx
  have hB := blk_new w hd.arr 94
  have hW : Hid (Below w.heap.size w (w.alloc (.cells hd.arr 94))) := alloc_below w _
  have hBx : Hid (∀ wx, Below (w.alloc (.cells hd.arr 94)).heap.size (w.alloc (.cells hd.arr 94)) wx → Blk wx w.heap.size hd.arr 94) := fun wx hx => Blk.kept hB hx hB.lt
  obtain ⟨pl, mj, lo, n, cut⟩ := hd
  unfold Hd.arr at *
  simp only at *
  obtain ⟨x0, x1, x2, x3, x4⟩ := hbox w pl n mj lo cut
  obtain ⟨R, hRR⟩ : ∃ R, R = prtF 5000 C.zs mj pl q [] := ⟨_, rfl⟩
  rw [← hRR]
  have hP0 : Hid (∀ wx, Below (w.alloc (.cells #[.int .i64 (pl : Nat), .int .u8 mj, .int .u8 lo, .int .u64 (n : Nat), .bool cut] 94)).heap.size (w.alloc (.cells #[.int .i64 (pl : Nat), .int .u8 mj, .int .u8 lo, .int .u64 (n : Nat), .bool cut] 94)) wx → PL C w wx m pl mj lo n cut (.slice none 0 0) R) := fun wx hx => ⟨5000, q, [], ownsB_nil _ _, by simp, hR.out _ (hW.out.trans (hx.mono hW.out.size)), hBx.out _ hx, hRR.symm, hq, by have := h46.out; omega⟩
  clear hRR h hB hl hq h0
  go_enter Tryz.func126, Tryz.ntmps126
  go_wp2_with (go_at_call 123; refine (kH.out _).mono ?_; rintro e w2 ⟨rfl, hb2⟩; have hP1 : Hid (Unit → PL C w w2 m pl mj lo n cut (.slice none 0 0) R) := fun _ => hP0.out _ hb2; clear hb2)
  go_loopw [5, 6] (fun s5 _ wr => ∃ v : Value, s5 = v ∧ Hid (PL C w wr m pl mj lo n cut v R)) (fun _ _ wr => C.zs.length + 1 - pAt C wr)
  case atStart => exact ⟨_, rfl, hP1.out ()⟩
  case round =>
    obtain ⟨v, hv0, hP⟩ := hrel
    obtain rfl := hv0.symm
    obtain ⟨k, p, out, hO', hol', hK', hX', hF', hp', hk'⟩ := hP.out
    have hO : Hid (OwnsB wr (w.heap.size + 1) v out) := hO'
    have hol : Hid (out.length ≤ 4096) := hol'
    have hK : Hid (RK C w wr p m) := hK'
    have hS : Hid (RSt C wr p m) := hK'.1
    have hX : Hid (Blk wr w.heap.size #[.int .i64 (pl : Nat), .int .u8 mj, .int .u8 lo, .int .u64 (n : Nat), .bool cut] 94) := hX'
    have hp : Hid (p ≤ C.zs.length) := hp'
    have hk : Hid (C.zs.length - p < k) := hk'
    have hF : Hid (prtF k C.zs mj pl p out = R) := hF'
    have hpA : Hid (pAt C wr = p) := pAt_of hK'.1
    clear hO' hol' hK' hX' hp' hF' hP hP0 hP1
    obtain ⟨k, rfl⟩ : ∃ k', k = k' + 1 := ⟨k - 1, by omega⟩
    clear hk'
    by_cases hlt : p < C.zs.length
    · by_cases h255 : C.zs[p] = 255
      · have kE : Hid (∀ wx, RSt C wx p m → Calls Tryz.prog 166 #[.pointer (some ⟨C.g, 0, none⟩)] wx fun e w' => e = .returned (.bool true) ∧ RSt C w' (p + 1) m ∧ Kq C.g wx.heap.size wx w') := fun wx hx => cended_yes hx hlt h255
        have hR2 : Hid (R = .inr (out, p + 1)) := by
          show _ = _
          rw [← hF.out]
          simp only [prtF]
          cases hh : hdA C.zs p with
          | none => have := hd_none.1 hh; omega
          | some hq => simp only; rw [if_pos (by rw [List.getD_eq_getElem?_getD, List.getElem?_eq_getElem hlt]; exact h255)]
        clear h255 hlt
        go_wp2_with (go_at_call 166; refine (kE.out _ hS.out).mono ?_; rintro e w3 ⟨rfl, hs3, hq3⟩; have hK3 : Hid (RK C w w3 (p + 1) m) := hK.out.next ⟨hs3, hq3, hS.out.lt⟩; have hO3 : Hid (OwnsB w3 (w.heap.size + 1) v out) := hO.out.kq hq3 (by have := hg.out; omega); clear hs3 hq3)
        go_ret
        show AllIs C w w3 m (.returned v) R
        rw [hR2.out]
        exact ⟨⟨v, rfl, hO3.out.base (by omega)⟩, hK3.out⟩
      · have kE : Hid (∀ wx, RSt C wx p m → Calls Tryz.prog 166 #[.pointer (some ⟨C.g, 0, none⟩)] wx fun e w' => e = .returned (.bool false) ∧ RSt C w' p m ∧ Below wx.heap.size wx w') := fun wx hx => cended_no hx hlt h255
        cases hh : hdA C.zs p with
        | none => exact absurd (hd_none.1 hh) (by omega)
        | some hq2 =>
          obtain ⟨⟨pl2, mj2, lo2, n2, cut2⟩, q2⟩ := hq2
          obtain ⟨i0, i1, i2, i3, i4⟩ := hd_inv hh
          clear i4
          simp only at i1 i2 i3
          have hF2 : Hid (R = if mj2 ≠ mj ∨ ¬ lo2 ≤ 27 then .inl (5, p) else if cut2 = true then .inl (3, C.zs.length) else if 4096 - out.length < n2 then .inl (8, pl) else match runA C.zs mj q2 n2 with | .inl f => .inl f | .inr (l, r) => prtF k C.zs mj pl r (out ++ l)) := by
            show _ = _
            rw [← hF.out]
            simp only [prtF]
            rw [hh]
            simp only
            rw [if_neg (by rw [List.getD_eq_getElem?_getD, List.getElem?_eq_getElem hlt]; exact h255)]
            rfl
          have kD : Hid (∀ wx, RSt C wx p m → Calls Tryz.prog 82 #[.pointer (some ⟨C.g, 0, none⟩)] wx fun e w' => e = .returned (.agg #[.int .i64 (pl2 : Nat), .int .u8 mj2, .int .u8 lo2, .int .u64 (n2 : Nat), .bool cut2]) ∧ RK C wx w' q2 m) := fun wx hx => (chead_any hx).mono fun e w' hy => by
            rcases hy with ⟨hy, _⟩ | ⟨hd', q', hy, he, hk⟩
            · rw [hh] at hy; cases hy
            · rw [hh] at hy; cases hy; exact ⟨he, hk⟩
          have kH2 : Hid (∀ wx, Calls Tryz.prog 123 #[.agg #[.int .i64 (pl2 : Nat), .int .u8 mj2, .int .u8 lo2, .int .u64 (n2 : Nat), .bool cut2]] wx fun e w' => e = .returned (.bool (decide (lo2 ≤ 27))) ∧ Below wx.heap.size wx w') := fun wx => chasa_any ⟨pl2, mj2, lo2, n2, cut2⟩ wx
          have hpl : Hid (pl2 = p) := i1
          have hpq : Hid (p < q2) := i2
          have hcq : Hid (cut2 = false → q2 ≤ C.zs.length) := i3
          have n64 := (hd_word hS.out.2.1.1.1 hh).1
          simp only at n64
          clear hh i1 i2 i3 h255 hlt hF
          by_cases hm : mj2 = mj
          · obtain rfl := hm.symm
            clear hm
            by_cases hlo : lo2 ≤ 27
            · have eh : decide (lo2 ≤ 27) = true := by simpa using hlo
              rw [eh] at kH2
              cases cut2 with
              | true =>
                have hR3 : Hid (R = .inl (3, C.zs.length)) := by show _ = _; rw [hF2.out, if_neg (by simp [hlo]), if_pos rfl]
                have kNo : Hid (∀ wx, RSt C wx q2 m → Calls Tryz.prog 85 #[.pointer (some ⟨C.g, 0, none⟩), .bool false] wx fun e w' => e = .panicked [{ v := .iface 61 (.agg #[.int .i64 3, .int .i64 (C.zs.length : Nat)]), recovered := false }] ∧ w' = wx) := fun wx hx => cneeds_no hx
                clear hF2 hlo eh
                go_wp2_with (first | (go_at_call 166; refine (kE.out _ hS.out).mono ?_; rintro e w3 ⟨rfl, hs3, hb3⟩; have SL : Hid (RSt C w3 p m) := hs3; have RL : Hid (RK C w w3 p m) := hK.out.below hb3; have OL : Hid (OwnsB w3 (w.heap.size + 1) v out) := hO.out.below hb3; have BL : Hid (Blk w3 w.heap.size #[.int .i64 (pl : Nat), .int .u8 mj, .int .u8 lo, .int .u64 (n : Nat), .bool cut] 94) := Blk.kept hX.out hb3 hX.out.lt; clear hs3 hb3) | (go_at_call 82; refine (kD.out _ SL.out).mono ?_; rintro e w4 hx; obtain ⟨rfl, hk4⟩ := hx; have hK4 : Hid (RK C w w4 q2 m) := RL.out.next hk4; have hO4 : Hid (OwnsB w4 (w.heap.size + 1) v out) := OL.out.kq hk4.2.1 (by have := hg.out; omega); have hB4 : Hid (Blk w4 w.heap.size #[.int .i64 (pl : Nat), .int .u8 mj, .int .u8 lo, .int .u64 (n : Nat), .bool cut] 94) := Blk.kq BL.out hk4.2.1 BL.out.lt (by have := hg.out; omega); have hb0 := hB4.out.cell 0; have hb1 := hB4.out.cell 1; simp at hb0 hb1; have hl4 : w.heap.size < w4.heap.size := hB4.out.lt; obtain ⟨y0, y1, y2, y3, y4⟩ := hbox w4 pl2 n2 mj lo2 true; clear hk4) | (go_at_call 123; refine (kH2.out _).mono ?_; rintro e w5 ⟨rfl, hb5⟩; have hW5 : Hid (Below (w4.alloc (.cells #[.int .i64 (pl2 : Nat), .int .u8 mj, .int .u8 lo2, .int .u64 (n2 : Nat), .bool true] 94)).heap.size (w4.alloc (.cells #[.int .i64 (pl2 : Nat), .int .u8 mj, .int .u8 lo2, .int .u64 (n2 : Nat), .bool true] 94)) w5) := hb5; have B5 := Blk.kept (blk_new w4 #[.int .i64 (pl2 : Nat), .int .u8 mj, .int .u8 lo2, .int .u64 (n2 : Nat), .bool true] 94) hb5 (by simp); have z0 := B5.cell 0; have z1 := B5.cell 1; have z2 := B5.cell 2; have z3 := B5.cell 3; have z4 := B5.cell 4; simp at z0 z1 z2 z3 z4; have A5 := Blk.kept (Blk.kept hB4.out (alloc_below w4 (.cells #[.int .i64 (pl2 : Nat), .int .u8 mj, .int .u8 lo2, .int .u64 (n2 : Nat), .bool true] 94)) hB4.out.lt) hb5 (by simp; omega); have ha0 := A5.cell 0; have ha1 := A5.cell 1; simp at ha0 ha1; have hK5 : Hid (RK C w w5 q2 m) := (hK4.out.alloc _).below hb5; have hO5 : Hid (OwnsB w5 (w.heap.size + 1) v out) := (hO4.out.alloc _).below hb5; have hA5 : Hid (Blk w5 w.heap.size #[.int .i64 (pl : Nat), .int .u8 mj, .int .u8 lo, .int .u64 (n : Nat), .bool cut] 94) := A5; clear hb5 B5 A5 hW5) | (go_at_call 85; refine (kNo.out _ hK5.out.1).mono ?_; rintro e w6 ⟨rfl, rfl⟩))
                show _ ∧ AllIs C w _ m _ R
                rw [hR3.out]
                exact ⟨rfl, rfl, hK5.out.2.1⟩
              | false =>
                have hq2 : Hid (q2 ≤ C.zs.length) := hcq.out rfl
                by_cases hbig : 4096 - out.length < n2
                · have hR3 : Hid (R = .inl (8, pl)) := by show _ = _; rw [hF2.out, if_neg (by simp [hlo]), if_neg (by simp), if_pos hbig]
                  obtain ⟨a3, cv, hv, hv2, hv3, hv4, hv5⟩ := hO.out.shape
                  obtain rfl := hv.symm
                  have hlo' := hol.out
                  have w1 : IntKind.i64.wrap (4096 - (out.length : Int)) = 4096 - (out.length : Int) := by rw [IntKind.wrap_i64]; omega
                  have w2' : IntKind.u64.wrap (4096 - (out.length : Int)) = 4096 - (out.length : Int) := by rw [IntKind.wrap_u64]; omega
                  have gb : decide (4096 - (out.length : Int) < (n2 : Int)) = true := by simp; omega
                  clear hF2 hlo eh hbig hlo' hv hv2 hv3 hv4 hv5
                  go_wp2_with (first | (go_at_call 166; refine (kE.out _ hS.out).mono ?_; rintro e w3 ⟨rfl, hs3, hb3⟩; have SL : Hid (RSt C w3 p m) := hs3; have RL : Hid (RK C w w3 p m) := hK.out.below hb3; have OL : Hid (OwnsB w3 (w.heap.size + 1) (.slice a3 out.length cv) out) := hO.out.below hb3; have BL : Hid (Blk w3 w.heap.size #[.int .i64 (pl : Nat), .int .u8 mj, .int .u8 lo, .int .u64 (n : Nat), .bool cut] 94) := Blk.kept hX.out hb3 hX.out.lt; clear hs3 hb3) | (go_at_call 82; refine (kD.out _ SL.out).mono ?_; rintro e w4 hx; obtain ⟨rfl, hk4⟩ := hx; have hK4 : Hid (RK C w w4 q2 m) := RL.out.next hk4; have hO4 : Hid (OwnsB w4 (w.heap.size + 1) (.slice a3 out.length cv) out) := OL.out.kq hk4.2.1 (by have := hg.out; omega); have hB4 : Hid (Blk w4 w.heap.size #[.int .i64 (pl : Nat), .int .u8 mj, .int .u8 lo, .int .u64 (n : Nat), .bool cut] 94) := Blk.kq BL.out hk4.2.1 BL.out.lt (by have := hg.out; omega); have hb0 := hB4.out.cell 0; have hb1 := hB4.out.cell 1; simp at hb0 hb1; have hl4 : w.heap.size < w4.heap.size := hB4.out.lt; obtain ⟨y0, y1, y2, y3, y4⟩ := hbox w4 pl2 n2 mj lo2 false; clear hk4) | (go_at_call 123; refine (kH2.out _).mono ?_; rintro e w5 ⟨rfl, hb5⟩; have hW5 : Hid (Below (w4.alloc (.cells #[.int .i64 (pl2 : Nat), .int .u8 mj, .int .u8 lo2, .int .u64 (n2 : Nat), .bool false] 94)).heap.size (w4.alloc (.cells #[.int .i64 (pl2 : Nat), .int .u8 mj, .int .u8 lo2, .int .u64 (n2 : Nat), .bool false] 94)) w5) := hb5; have B5 := Blk.kept (blk_new w4 #[.int .i64 (pl2 : Nat), .int .u8 mj, .int .u8 lo2, .int .u64 (n2 : Nat), .bool false] 94) hb5 (by simp); have z0 := B5.cell 0; have z1 := B5.cell 1; have z2 := B5.cell 2; have z3 := B5.cell 3; have z4 := B5.cell 4; simp at z0 z1 z2 z3 z4; have A5 := Blk.kept (Blk.kept hB4.out (alloc_below w4 (.cells #[.int .i64 (pl2 : Nat), .int .u8 mj, .int .u8 lo2, .int .u64 (n2 : Nat), .bool false] 94)) hB4.out.lt) hb5 (by simp; omega); have ha0 := A5.cell 0; have ha1 := A5.cell 1; simp at ha0 ha1; have hK5 : Hid (RK C w w5 q2 m) := (hK4.out.alloc _).below hb5; have hO5 : Hid (OwnsB w5 (w.heap.size + 1) (.slice a3 out.length cv) out) := (hO4.out.alloc _).below hb5; have hA5 : Hid (Blk w5 w.heap.size #[.int .i64 (pl : Nat), .int .u8 mj, .int .u8 lo, .int .u64 (n : Nat), .bool cut] 94) := A5; clear hb5 B5 A5 hW5) | (go_at_call 85; refine (kN _).mono ?_; rintro e w6 ⟨rfl, hw6⟩; obtain rfl := hw6.symm))
                  show _ ∧ AllIs C w w5 m _ R
                  rw [hR3.out]
                  exact ⟨rfl, rfl, hK5.out.2.1⟩
                · have kR : Hid (∀ wx, RSt C wx q2 m → Calls Tryz.prog 165 #[.pointer (some ⟨C.g, 0, none⟩), .agg #[.int .i64 (pl2 : Nat), .int .u8 mj, .int .u8 lo2, .int .u64 (n2 : Nat), .bool false]] wx fun x w' => RunIs C wx w' m x (runA C.zs mj q2 n2)) := fun wx hx => crun_any hx ⟨pl2, mj, lo2, n2, false⟩ (show n2 ≤ 4096 by omega) hq2.out h00.out
                  have hR3 : Hid (R = match runA C.zs mj q2 n2 with | .inl f => .inl f | .inr (l, r) => prtF k C.zs mj pl r (out ++ l)) := by show _ = _; rw [hF2.out, if_neg (by simp [hlo]), if_neg (by simp), if_neg hbig]
                  have hlr : Hid (∀ l r, runA C.zs mj q2 n2 = .inr (l, r) → q2 ≤ r ∧ r ≤ C.zs.length ∧ l.length ≤ 4096 - out.length) := fun l r e => by obtain ⟨y1, y2, y3, y4, _⟩ := run_ok e; exact ⟨by omega, y2, by omega⟩
                  obtain ⟨a3, cv, hv, hv2, hv3, hv4, hv5⟩ := hO.out.shape
                  obtain rfl := hv.symm
                  have hlo' := hol.out
                  have w1 : IntKind.i64.wrap (4096 - (out.length : Int)) = 4096 - (out.length : Int) := by rw [IntKind.wrap_i64]; omega
                  have w2' : IntKind.u64.wrap (4096 - (out.length : Int)) = 4096 - (out.length : Int) := by rw [IntKind.wrap_u64]; omega
                  have gb : decide (4096 - (out.length : Int) < (n2 : Int)) = false := by simp; omega
                  clear hF2 hlo eh hbig hlo' hv hv2 hv3 hv4 hv5
                  generalize hrr : runA C.zs mj q2 n2 = RR at *
                  clear hrr
                  cases RR with
                  | inl f =>
                    unfold RunIs at kR
                    simp only at kR
                    rw [pn_eq] at kR
                    go_wp2_with (first | (go_at_call 166; refine (kE.out _ hS.out).mono ?_; rintro e w3 ⟨rfl, hs3, hb3⟩; have SL : Hid (RSt C w3 p m) := hs3; have RL : Hid (RK C w w3 p m) := hK.out.below hb3; have OL : Hid (OwnsB w3 (w.heap.size + 1) (.slice a3 out.length cv) out) := hO.out.below hb3; have BL : Hid (Blk w3 w.heap.size #[.int .i64 (pl : Nat), .int .u8 mj, .int .u8 lo, .int .u64 (n : Nat), .bool cut] 94) := Blk.kept hX.out hb3 hX.out.lt; clear hs3 hb3) | (go_at_call 82; refine (kD.out _ SL.out).mono ?_; rintro e w4 hx; obtain ⟨rfl, hk4⟩ := hx; have hK4 : Hid (RK C w w4 q2 m) := RL.out.next hk4; have hO4 : Hid (OwnsB w4 (w.heap.size + 1) (.slice a3 out.length cv) out) := OL.out.kq hk4.2.1 (by have := hg.out; omega); have hB4 : Hid (Blk w4 w.heap.size #[.int .i64 (pl : Nat), .int .u8 mj, .int .u8 lo, .int .u64 (n : Nat), .bool cut] 94) := Blk.kq BL.out hk4.2.1 BL.out.lt (by have := hg.out; omega); have hb0 := hB4.out.cell 0; have hb1 := hB4.out.cell 1; simp at hb0 hb1; have hl4 : w.heap.size < w4.heap.size := hB4.out.lt; obtain ⟨y0, y1, y2, y3, y4⟩ := hbox w4 pl2 n2 mj lo2 false; clear hk4) | (go_at_call 123; refine (kH2.out _).mono ?_; rintro e w5 ⟨rfl, hb5⟩; have hW5 : Hid (Below (w4.alloc (.cells #[.int .i64 (pl2 : Nat), .int .u8 mj, .int .u8 lo2, .int .u64 (n2 : Nat), .bool false] 94)).heap.size (w4.alloc (.cells #[.int .i64 (pl2 : Nat), .int .u8 mj, .int .u8 lo2, .int .u64 (n2 : Nat), .bool false] 94)) w5) := hb5; have B5 := Blk.kept (blk_new w4 #[.int .i64 (pl2 : Nat), .int .u8 mj, .int .u8 lo2, .int .u64 (n2 : Nat), .bool false] 94) hb5 (by simp); have z0 := B5.cell 0; have z1 := B5.cell 1; have z2 := B5.cell 2; have z3 := B5.cell 3; have z4 := B5.cell 4; simp at z0 z1 z2 z3 z4; have A5 := Blk.kept (Blk.kept hB4.out (alloc_below w4 (.cells #[.int .i64 (pl2 : Nat), .int .u8 mj, .int .u8 lo2, .int .u64 (n2 : Nat), .bool false] 94)) hB4.out.lt) hb5 (by simp; omega); have ha0 := A5.cell 0; have ha1 := A5.cell 1; simp at ha0 ha1; have hK5 : Hid (RK C w w5 q2 m) := (hK4.out.alloc _).below hb5; have hO5 : Hid (OwnsB w5 (w.heap.size + 1) (.slice a3 out.length cv) out) := (hO4.out.alloc _).below hb5; have hA5 : Hid (Blk w5 w.heap.size #[.int .i64 (pl : Nat), .int .u8 mj, .int .u8 lo, .int .u64 (n : Nat), .bool cut] 94) := A5; clear hb5 B5 A5 hW5) | (go_at_call 85; refine (kN _).mono ?_; rintro e w6 ⟨rfl, hw6⟩; obtain rfl := hw6.symm) | (go_at_call 165; refine (kR.out _ hK5.out.1).mono ?_; rintro e w7 ⟨rfl, hk7⟩))
                    show _ ∧ AllIs C w w7 m _ R
                    rw [hR3.out]
                    exact ⟨rfl, rfl, hK5.out.2.1.next hk7⟩
                  | inr lr =>
                    obtain ⟨l, r⟩ := lr
                    obtain ⟨l1, l2, l3⟩ := hlr.out l r rfl
                    have hL1 : Hid (q2 ≤ r ∧ r ≤ C.zs.length ∧ l.length ≤ 4096 - out.length) := ⟨l1, l2, l3⟩
                    unfold RunIs at kR
                    simp only at kR
                    clear hlr l1 l2 l3
                    go_wp2_with (first | (go_at_call 166; refine (kE.out _ hS.out).mono ?_; rintro e w3 ⟨rfl, hs3, hb3⟩; have SL : Hid (RSt C w3 p m) := hs3; have RL : Hid (RK C w w3 p m) := hK.out.below hb3; have OL : Hid (OwnsB w3 (w.heap.size + 1) (.slice a3 out.length cv) out) := hO.out.below hb3; have BL : Hid (Blk w3 w.heap.size #[.int .i64 (pl : Nat), .int .u8 mj, .int .u8 lo, .int .u64 (n : Nat), .bool cut] 94) := Blk.kept hX.out hb3 hX.out.lt; clear hs3 hb3) | (go_at_call 82; refine (kD.out _ SL.out).mono ?_; rintro e w4 hx; obtain ⟨rfl, hk4⟩ := hx; have hK4 : Hid (RK C w w4 q2 m) := RL.out.next hk4; have hO4 : Hid (OwnsB w4 (w.heap.size + 1) (.slice a3 out.length cv) out) := OL.out.kq hk4.2.1 (by have := hg.out; omega); have hB4 : Hid (Blk w4 w.heap.size #[.int .i64 (pl : Nat), .int .u8 mj, .int .u8 lo, .int .u64 (n : Nat), .bool cut] 94) := Blk.kq BL.out hk4.2.1 BL.out.lt (by have := hg.out; omega); have hb0 := hB4.out.cell 0; have hb1 := hB4.out.cell 1; simp at hb0 hb1; have hl4 : w.heap.size < w4.heap.size := hB4.out.lt; obtain ⟨y0, y1, y2, y3, y4⟩ := hbox w4 pl2 n2 mj lo2 false; clear hk4) | (go_at_call 123; refine (kH2.out _).mono ?_; rintro e w5 ⟨rfl, hb5⟩; have hW5 : Hid (Below (w4.alloc (.cells #[.int .i64 (pl2 : Nat), .int .u8 mj, .int .u8 lo2, .int .u64 (n2 : Nat), .bool false] 94)).heap.size (w4.alloc (.cells #[.int .i64 (pl2 : Nat), .int .u8 mj, .int .u8 lo2, .int .u64 (n2 : Nat), .bool false] 94)) w5) := hb5; have B5 := Blk.kept (blk_new w4 #[.int .i64 (pl2 : Nat), .int .u8 mj, .int .u8 lo2, .int .u64 (n2 : Nat), .bool false] 94) hb5 (by simp); have z0 := B5.cell 0; have z1 := B5.cell 1; have z2 := B5.cell 2; have z3 := B5.cell 3; have z4 := B5.cell 4; simp at z0 z1 z2 z3 z4; have A5 := Blk.kept (Blk.kept hB4.out (alloc_below w4 (.cells #[.int .i64 (pl2 : Nat), .int .u8 mj, .int .u8 lo2, .int .u64 (n2 : Nat), .bool false] 94)) hB4.out.lt) hb5 (by simp; omega); have ha0 := A5.cell 0; have ha1 := A5.cell 1; simp at ha0 ha1; have hK5 : Hid (RK C w w5 q2 m) := (hK4.out.alloc _).below hb5; have hO5 : Hid (OwnsB w5 (w.heap.size + 1) (.slice a3 out.length cv) out) := (hO4.out.alloc _).below hb5; have hA5 : Hid (Blk w5 w.heap.size #[.int .i64 (pl : Nat), .int .u8 mj, .int .u8 lo, .int .u64 (n : Nat), .bool cut] 94) := A5; clear hb5 B5 A5 hW5) | (go_at_call 85; refine (kN _).mono ?_; rintro e w6 ⟨rfl, hw6⟩; obtain rfl := hw6.symm) | (go_at_call 165; refine (kR.out _ hK5.out.1).mono ?_; rintro e w7 ⟨⟨ar, cr, rfl, hby, hin, hlc, hcm, hnn⟩, hk7⟩; have hK7 : Hid (RK C w w7 r m) := hK5.out.next hk7; have hO7 : Hid (OwnsB w7 (w.heap.size + 1) (.slice a3 out.length cv) out) := hO5.out.kq hk7.2.1 (by have := hg.out; omega); have hA7 : Hid (Blk w7 w.heap.size #[.int .i64 (pl : Nat), .int .u8 mj, .int .u8 lo, .int .u64 (n : Nat), .bool cut] 94) := Blk.kq hA5.out hk7.2.1 hA5.out.lt (by have := hg.out; omega); have hBy : Hid (Bytes w7 ar l) := hby; have hNn : Hid (ar = none → cr = 0) := hnn; clear hk7 hby hnn hin hlc hcm) | (at_builtin; refine wpList_append_bytes rfl _ (.tmp 51) rfl (w.heap.size + 1) (.slice a3 out.length cv) out l rfl hO7.out ar l.length cr rfl rfl hNn.out hBy.out (by have := hol.out; have := hL1.out; omega) (Nat.succ_le_of_lt hA7.out.lt) ?_; intro v8 w8 ho8 hg8; have hO8 : Hid (OwnsB w8 (w.heap.size + 1) v8 (out ++ l)) := ho8; have hK8 : Hid (RK C w w8 r m) := hK7.out.grown hg8 (fun k hk => by have := (hO7.out.own k hk).1; omega); have hA8 : Hid (Blk w8 w.heap.size #[.int .i64 (pl : Nat), .int .u8 mj, .int .u8 lo, .int .u64 (n : Nat), .bool cut] 94) := (hg8.block w.heap.size hA7.out.lt (fun e => by have := (hO7.out.own _ e.symm).1; omega)).trans hA7.out; clear ho8 hg8))
                    go_roundw
                    case rel => exact ⟨v8, rfl, k, r, out ++ l, hO8.out, by have := hol.out; have := hL1.out; rw [List.length_append]; omega, hK8.out, hA8.out, by rw [hR3.out], hL1.out.2.1, by have := hk.out; have := hL1.out; have := hpq.out; omega⟩
                    case measure => rw [pAt_of hK8.out.1]; have := hpA.out; have := hL1.out; have := hpq.out; omega
            · have eh : decide (lo2 ≤ 27) = false := by simpa using hlo
              rw [eh] at kH2
              have hR3 : Hid (R = .inl (5, p)) := by show _ = _; rw [hF2.out, if_pos (.inr hlo)]
              clear hF2 hlo eh
              go_wp2_with (first | (go_at_call 166; refine (kE.out _ hS.out).mono ?_; rintro e w3 ⟨rfl, hs3, hb3⟩; have SL : Hid (RSt C w3 p m) := hs3; have RL : Hid (RK C w w3 p m) := hK.out.below hb3; have OL : Hid (OwnsB w3 (w.heap.size + 1) v out) := hO.out.below hb3; have BL : Hid (Blk w3 w.heap.size #[.int .i64 (pl : Nat), .int .u8 mj, .int .u8 lo, .int .u64 (n : Nat), .bool cut] 94) := Blk.kept hX.out hb3 hX.out.lt; clear hs3 hb3) | (go_at_call 82; refine (kD.out _ SL.out).mono ?_; rintro e w4 hx; obtain ⟨rfl, hk4⟩ := hx; have hK4 : Hid (RK C w w4 q2 m) := RL.out.next hk4; have hO4 : Hid (OwnsB w4 (w.heap.size + 1) v out) := OL.out.kq hk4.2.1 (by have := hg.out; omega); have hB4 : Hid (Blk w4 w.heap.size #[.int .i64 (pl : Nat), .int .u8 mj, .int .u8 lo, .int .u64 (n : Nat), .bool cut] 94) := Blk.kq BL.out hk4.2.1 BL.out.lt (by have := hg.out; omega); have hb0 := hB4.out.cell 0; have hb1 := hB4.out.cell 1; simp at hb0 hb1; have hl4 : w.heap.size < w4.heap.size := hB4.out.lt; obtain ⟨y0, y1, y2, y3, y4⟩ := hbox w4 pl2 n2 mj lo2 cut2; clear hk4) | (go_at_call 123; refine (kH2.out _).mono ?_; rintro e w5 ⟨rfl, hb5⟩; have hW5 : Hid (Below (w4.alloc (.cells #[.int .i64 (pl2 : Nat), .int .u8 mj, .int .u8 lo2, .int .u64 (n2 : Nat), .bool cut2] 94)).heap.size (w4.alloc (.cells #[.int .i64 (pl2 : Nat), .int .u8 mj, .int .u8 lo2, .int .u64 (n2 : Nat), .bool cut2] 94)) w5) := hb5; have B5 := Blk.kept (blk_new w4 #[.int .i64 (pl2 : Nat), .int .u8 mj, .int .u8 lo2, .int .u64 (n2 : Nat), .bool cut2] 94) hb5 (by simp); have z0 := B5.cell 0; have z1 := B5.cell 1; have z2 := B5.cell 2; have z3 := B5.cell 3; have z4 := B5.cell 4; simp at z0 z1 z2 z3 z4; have A5 := Blk.kept (Blk.kept hB4.out (alloc_below w4 (.cells #[.int .i64 (pl2 : Nat), .int .u8 mj, .int .u8 lo2, .int .u64 (n2 : Nat), .bool cut2] 94)) hB4.out.lt) hb5 (by simp; omega); have ha0 := A5.cell 0; have ha1 := A5.cell 1; simp at ha0 ha1; have hK5 : Hid (RK C w w5 q2 m) := (hK4.out.alloc _).below hb5; have hO5 : Hid (OwnsB w5 (w.heap.size + 1) v out) := (hO4.out.alloc _).below hb5; have hA5 : Hid (Blk w5 w.heap.size #[.int .i64 (pl : Nat), .int .u8 mj, .int .u8 lo, .int .u64 (n : Nat), .bool cut] 94) := A5; clear hb5 B5 A5 hW5))
              show _ ∧ AllIs C w w5 m _ R
              rw [hR3.out, ← hpl.out]
              exact ⟨rfl, rfl, hK5.out.2.1⟩
          · have em : (mj2 != mj) = true := by simpa using hm
            have hR3 : Hid (R = .inl (5, p)) := by show _ = _; rw [hF2.out, if_pos (.inl hm)]
            clear hF2 hm
            go_wp2_with (first | (go_at_call 166; refine (kE.out _ hS.out).mono ?_; rintro e w3 ⟨rfl, hs3, hb3⟩; have SL : Hid (RSt C w3 p m) := hs3; have RL : Hid (RK C w w3 p m) := hK.out.below hb3; have OL : Hid (OwnsB w3 (w.heap.size + 1) v out) := hO.out.below hb3; have BL : Hid (Blk w3 w.heap.size #[.int .i64 (pl : Nat), .int .u8 mj, .int .u8 lo, .int .u64 (n : Nat), .bool cut] 94) := Blk.kept hX.out hb3 hX.out.lt; clear hs3 hb3) | (go_at_call 82; refine (kD.out _ SL.out).mono ?_; rintro e w4 hx; obtain ⟨rfl, hk4⟩ := hx; have hK4 : Hid (RK C w w4 q2 m) := RL.out.next hk4; have hO4 : Hid (OwnsB w4 (w.heap.size + 1) v out) := OL.out.kq hk4.2.1 (by have := hg.out; omega); have hB4 : Hid (Blk w4 w.heap.size #[.int .i64 (pl : Nat), .int .u8 mj, .int .u8 lo, .int .u64 (n : Nat), .bool cut] 94) := Blk.kq BL.out hk4.2.1 BL.out.lt (by have := hg.out; omega); have hb0 := hB4.out.cell 0; have hb1 := hB4.out.cell 1; simp at hb0 hb1; have hl4 : w.heap.size < w4.heap.size := hB4.out.lt; obtain ⟨y0, y1, y2, y3, y4⟩ := hbox w4 pl2 n2 mj2 lo2 cut2; clear hk4))
            show _ ∧ AllIs C w _ m _ R
            rw [hR3.out, ← hpl.out]
            exact ⟨rfl, rfl, (hK4.out.alloc _).2.1⟩
    · have kE : Hid (∀ wx, RSt C wx p m → Calls Tryz.prog 166 #[.pointer (some ⟨C.g, 0, none⟩)] wx fun e w' => e = .panicked [{ v := .iface 61 (.agg #[.int .i64 3, .int .i64 (C.zs.length : Nat)]), recovered := false }] ∧ Kq C.g wx.heap.size wx w') := fun wx hx => cended_none hx (by omega)
      have hR3 : Hid (R = .inl (3, C.zs.length)) := by
        show _ = _
        rw [← hF.out]
        simp only [prtF]
        rw [hd_none.2 (by omega)]
      clear hlt
      go_wp2_with (go_at_call 166; refine (kE.out _ hS.out).mono ?_; rintro e w3 ⟨rfl, hq3⟩)
      show _ ∧ AllIs C w w3 m _ R
      rw [hR3.out]
      exact ⟨rfl, rfl, hK.out.2.1.next hq3⟩
/-- ALL BYTES. -/
theorem call_any {C : CX} {w : World} {q m : Nat} (h : RSt C w q m) (hd : Hd) (hn : hd.n ≤ 4096) (hq : q ≤ C.zs.length) (h0 : 0 < C.zs.length) : Calls Tryz.prog 126 #[.pointer (some ⟨C.g, 0, none⟩), .agg hd.arr] w fun x w' => AllIs C w w' m x (allA C.zs hd q) := by
  unfold allA
  by_cases hl : hd.lo ≤ 27
  · rw [if_pos hl]; exact call_arg h hd hl hn hq h0
  · rw [if_neg hl]; exact call_parts h hd hl hq h0
end Go.Proofs.YtnjbppfanmmifaaGreatDoor
