/-
  The document's side: Parse, the walk.
-/
import Derived.Test.YtcnfgmhcbelgoaaDoorYparse
namespace Go.Proofs.YtcnfgmhcbelgoaaDoor
open Go.RowKit
set_option linter.unusedVariables false

theorem or_cases {a b c : Bool} (h : (a || b) = c) : (a = true → c = true) ∧ (a = false → b = c) := by cases a <;> cases b <;> cases c <;> simp_all
theorem whole_yes {l : List Int} {st : St} (h : isR l st 48 = true) : wholeR l st = ([48], mayR l st 48) := by
  unfold wholeR mayR
  rw [if_pos h, if_pos h]
theorem whole_no {l : List Int} {st : St} (h : isR l st 48 = false) : wholeR l st = digR l st ∧ mayR l st 48 = st := by
  unfold wholeR mayR
  rw [if_neg (by rw [h]; simp), if_neg (by rw [h]; simp)]
  exact ⟨rfl, rfl⟩
theorem part_yes {l : List Int} {st : St} (h : isR l st 46 = true) : partR l st = digR l (mayR l st 46) := by
  unfold partR mayR
  rw [if_pos h, if_pos h]
theorem part_no {l : List Int} {st : St} (h : isR l st 46 = false) : partR l st = ([], st) ∧ mayR l st 46 = st := by
  unfold partR mayR
  rw [if_neg (by rw [h]; simp), if_neg (by rw [h]; simp)]
  exact ⟨rfl, rfl⟩
theorem exp_no {l : List Int} {st : St} (h : (isR l st 101 || isR l st 69) = false) : expR l st = (0, st) := by
  unfold expR
  rw [if_neg (by rw [← Bool.or_eq_true, h]; simp)]
theorem exp_yes {l : List Int} {st : St} (h : (isR l st 101 || isR l st 69) = true) : expR l st = ((if isR l (onR st) 45 = true then -((powY (digR l (signR l (onR st))).1 : Nat) : Int) else ((powY (digR l (signR l (onR st))).1 : Nat) : Int)), (digR l (signR l (onR st))).2) := by
  unfold expR
  rw [if_pos (by rw [← Bool.or_eq_true]; exact h)]
set_option maxRecDepth 100000 in
set_option maxHeartbeats 4000000 in
theorem yparse_any (s : ByteArray) (w : World) : Calls Tryd.prog 13 #[.string s] w fun e w' => e = .returned (.tuple #[.agg #[.bool (parseA s).1.1, .string (parseA s).1.2.1, .int .i64 (parseA s).1.2.2], .agg #[.int .i64 (parseA s).2.1, .int .i64 (parseA s).2.2]]) ∧ Below w.heap.size w w' := by
  by_cases hbig : 4096 < s.size
  · have hR : parseA s = (noN, 11, 0) := by unfold parseA; rw [if_pos hbig]
    rw [hR]
    have d1 : decide (4096 < ((s.size : Nat) : Int)) = true := by simp; omega
    clear hR hbig
    unfold noN noS
    go_enter Tryd.func13, Tryd.ntmps13
    go_wp2
    refine bodyPost_ret (v := .tuple #[.agg #[.bool false, .string ⟨#[]⟩, .int .i64 0], .agg #[.int .i64 11, .int .i64 0]]) (by simp [results, Tryd.results13, go_sem]) rfl ⟨rfl, ?_⟩
    exact ((Below.refl _ _).alloc (Nat.le_refl _) _).alloc (by simp) _
  have hs : s.size ≤ 4096 := by omega
  have hlen := bs_len s
  have d1 : decide (4096 < ((s.size : Nat) : Int)) = false := by simp; omega
  have hR : parseA s = readR (bs s) := by unfold parseA; rw [if_neg hbig, read_same (by omega), bs_len]
  rw [hR]
  unfold readR
  clear hR hbig
  have hp0 : Hid (PS w (((w.alloc (.cells #[.bool false, .string ⟨#[]⟩, .int .i64 0] 23)).alloc (.cells #[.int .i64 0, .int .i64 0] 32)).alloc (.cells #[.string s, .int .i64 0, .int .i64 0, .int .i64 0] 57)) s st0) := ps0 w s
  have q0 : st0.1 ≤ (bs s).length := Nat.zero_le _
  have q1 := may_le (l := bs s) (c := 45) q0
  have q1m := may_le (l := bs s) (c := 48) q1
  have q2 := whole_le q1
  have q2m := may_le (l := bs s) (c := 46) q2.1
  have q3 := part_le q2.1
  have q4 := exp_le q3.1
  have k1 : Hid (∀ wx, PS w wx s st0 → Calls Tryd.prog 32 #[.pointer (some ⟨w.heap.size + 2, 0, none⟩), .int .u8 45] wx fun e w' => e = .returned (.bool (isR (bs s) st0 45)) ∧ PS w w' s (mayR (bs s) st0 45)) := fun wx h => may_ps h 45 q0 hs
  generalize isR (bs s) st0 45 = N0 at *
  generalize mayR (bs s) st0 45 = s1 at *
  have k2 : Hid (∀ wx, PS w wx s s1 → Calls Tryd.prog 32 #[.pointer (some ⟨w.heap.size + 2, 0, none⟩), .int .u8 48] wx fun e w' => e = .returned (.bool (isR (bs s) s1 48)) ∧ PS w w' s (mayR (bs s) s1 48)) := fun wx h => may_ps h 48 q1 hs
  have k3 : Hid (∀ wx, PS w wx s s1 → Calls Tryd.prog 33 #[.pointer (some ⟨w.heap.size + 2, 0, none⟩)] wx fun e w' => e = .returned (.string (strOfNums (digR (bs s) s1).1)) ∧ PS w w' s (digR (bs s) s1).2) := fun wx h => dig_ps h q1 hs
  have w1y : Hid (isR (bs s) s1 48 = true → wholeR (bs s) s1 = ([48], mayR (bs s) s1 48)) := whole_yes
  have w1n : Hid (isR (bs s) s1 48 = false → wholeR (bs s) s1 = digR (bs s) s1 ∧ mayR (bs s) s1 48 = s1) := whole_no
  generalize wholeR (bs s) s1 = WW at *
  generalize isR (bs s) s1 48 = B48 at *
  generalize mayR (bs s) s1 48 = s1m at *
  generalize digR (bs s) s1 = DW at *
  obtain ⟨W, s2⟩ := WW
  dsimp only at *
  have k4 : Hid (∀ wx, PS w wx s s2 → Calls Tryd.prog 32 #[.pointer (some ⟨w.heap.size + 2, 0, none⟩), .int .u8 46] wx fun e w' => e = .returned (.bool (isR (bs s) s2 46)) ∧ PS w w' s (mayR (bs s) s2 46)) := fun wx h => may_ps h 46 q2.1 hs
  have k5 : Hid (∀ wx, PS w wx s (mayR (bs s) s2 46) → Calls Tryd.prog 33 #[.pointer (some ⟨w.heap.size + 2, 0, none⟩)] wx fun e w' => e = .returned (.string (strOfNums (digR (bs s) (mayR (bs s) s2 46)).1)) ∧ PS w w' s (digR (bs s) (mayR (bs s) s2 46)).2) := fun wx h => dig_ps h q2m hs
  have w2y : Hid (isR (bs s) s2 46 = true → partR (bs s) s2 = digR (bs s) (mayR (bs s) s2 46)) := part_yes
  have w2n : Hid (isR (bs s) s2 46 = false → partR (bs s) s2 = ([], s2) ∧ mayR (bs s) s2 46 = s2) := part_no
  generalize partR (bs s) s2 = PP at *
  generalize isR (bs s) s2 46 = B46 at *
  generalize digR (bs s) (mayR (bs s) s2 46) = DP at *
  generalize mayR (bs s) s2 46 = s2m at *
  obtain ⟨Pt, s3⟩ := PP
  dsimp only at *
  have k6 : Hid (∀ wx, PS w wx s s3 → Calls Tryd.prog 34 #[.pointer (some ⟨w.heap.size + 2, 0, none⟩), .int .u8 101] wx fun e w' => e = .returned (.bool (isR (bs s) s3 101)) ∧ PS w w' s s3) := fun wx h => is_ps h 101
  have k7 : Hid (∀ wx, PS w wx s s3 → Calls Tryd.prog 34 #[.pointer (some ⟨w.heap.size + 2, 0, none⟩), .int .u8 69] wx fun e w' => e = .returned (.bool (isR (bs s) s3 69)) ∧ PS w w' s s3) := fun wx h => is_ps h 69
  have w3n : Hid ((isR (bs s) s3 101 || isR (bs s) s3 69) = false → expR (bs s) s3 = (0, s3)) := exp_no
  have w3y : Hid ((isR (bs s) s3 101 || isR (bs s) s3 69) = true → expR (bs s) s3 = ((if isR (bs s) (onR s3) 45 = true then -((powY (digR (bs s) (signR (bs s) (onR s3))).1 : Nat) : Int) else ((powY (digR (bs s) (signR (bs s) (onR s3))).1 : Nat) : Int)), (digR (bs s) (signR (bs s) (onR s3))).2)) := exp_yes
  have hon : Hid ((isR (bs s) s3 101 || isR (bs s) s3 69) = true → (onR s3).1 ≤ (bs s).length) := fun h => by
    rcases Bool.or_eq_true _ _ ▸ h with h1 | h1
    · exact on_le h1
    · exact on_le h1
  have k8 : Hid (∀ wx, PS w wx s (onR s3) → Calls Tryd.prog 34 #[.pointer (some ⟨w.heap.size + 2, 0, none⟩), .int .u8 45] wx fun e w' => e = .returned (.bool (isR (bs s) (onR s3) 45)) ∧ PS w w' s (onR s3)) := fun wx h => is_ps h 45
  have k9 : Hid (∀ wx, PS w wx s (onR s3) → Calls Tryd.prog 34 #[.pointer (some ⟨w.heap.size + 2, 0, none⟩), .int .u8 43] wx fun e w' => e = .returned (.bool (isR (bs s) (onR s3) 43)) ∧ PS w w' s (onR s3)) := fun wx h => is_ps h 43
  obtain ⟨k3', y3, f3⟩ := s3
  obtain ⟨bE, hbE⟩ : ∃ b, (isR (bs s) (k3', y3, f3) 101 || isR (bs s) (k3', y3, f3) 69) = b := ⟨_, rfl⟩
  rw [hbE] at w3n w3y hon
  have hor : Hid ((isR (bs s) (k3', y3, f3) 101 = true → bE = true) ∧ (isR (bs s) (k3', y3, f3) 101 = false → isR (bs s) (k3', y3, f3) 69 = bE)) := or_cases hbE
  clear hbE
  generalize isR (bs s) (k3', y3, f3) 101 = B101 at *
  generalize isR (bs s) (k3', y3, f3) 69 = B69 at *
  have hdg : Hid (∀ st : St, st.1 ≤ (bs s).length → ∀ wx, PS w wx s st → Calls Tryd.prog 33 #[.pointer (some ⟨w.heap.size + 2, 0, none⟩)] wx fun e w' => e = .returned (.string (strOfNums (digR (bs s) st).1)) ∧ PS w w' s (digR (bs s) st).2) := fun st h wx hp => dig_ps hp h hs
  have hex : Hid (∀ st : St, st.1 ≤ (bs s).length → ∀ wx, Calls Tryd.prog 35 #[.string (strOfNums (digR (bs s) st).1)] wx fun e w' => e = .returned (.int .i64 ((powY (digR (bs s) st).1 : Nat) : Int)) ∧ w' = wx) := fun st h wx => by
    have h1 := dig_digs (bs s) st
    have h2 := (dig_le h).2
    have h3 := yexp_any (strOfNums (digR (bs s) st).1) wx (by rw [bs_str (digs_bytes h1)]; exact h1) (by rw [strOfNums_size]; omega)
    rw [bs_str (digs_bytes h1)] at h3
    exact h3
  have hsg : Hid (isR (bs s) (onR (k3', y3, f3)) 45 = true → signR (bs s) (onR (k3', y3, f3)) = onR (onR (k3', y3, f3))) := fun h => by unfold signR; rw [if_pos (.inl h)]
  have hsg2 : Hid (isR (bs s) (onR (k3', y3, f3)) 43 = true → signR (bs s) (onR (k3', y3, f3)) = onR (onR (k3', y3, f3))) := fun h => by unfold signR; rw [if_pos (.inr h)]
  have hsg3 : Hid (isR (bs s) (onR (k3', y3, f3)) 45 = false → isR (bs s) (onR (k3', y3, f3)) 43 = false → signR (bs s) (onR (k3', y3, f3)) = onR (k3', y3, f3)) := fun h h1 => by unfold signR; rw [if_neg (by rw [h, h1]; simp)]
  have hsl : Hid ((onR (k3', y3, f3)).1 ≤ (bs s).length → (signR (bs s) (onR (k3', y3, f3))).1 ≤ (bs s).length) := fun h => sign_le h
  generalize expR (bs s) (k3', y3, f3) = EE at *
  obtain ⟨E, s4⟩ := EE
  dsimp only at *
  have hq2 : Hid (W.length ≤ (bs s).length ∧ Digs W) := q2.2
  have hq3 : Hid (Pt.length ≤ (bs s).length ∧ Digs Pt) := q3.2
  have hq4 : Hid (s4.1 ≤ (bs s).length ∧ -1000000 ≤ E ∧ E ≤ 1000000) := q4
  have hk3 : k3' ≤ 4096 := by have := q3.1; omega
  have hlen' : Hid ((bs s).length = s.size) := hlen
  have hs' : Hid (s.size ≤ 4096) := hs
  have hsw : Hid (s.size ≤ 4096) := hs
  clear q0 q1 q1m q2 q2m q3 q4 hlen hs
  obtain ⟨SW, hSW⟩ : ∃ x, strOfNums W = x := ⟨_, rfl⟩
  obtain ⟨SP, hSP⟩ : ∃ x, strOfNums Pt = x := ⟨_, rfl⟩
  have hSW' : Hid (strOfNums W = SW) := hSW
  have hSP' : Hid (strOfNums Pt = SP) := hSP
  clear hSW hSP
  obtain ⟨FR, hFR⟩ : ∃ x, finR N0 W Pt E (lastR (bs s) s4) = x := ⟨_, rfl⟩
  rw [hFR]
  have hFR' : Hid (finR N0 W Pt E (lastR (bs s) s4) = FR) := hFR
  clear hFR
  go_enter Tryd.func13, Tryd.ntmps13
  go_wp2_with fail
  refine (k1.out _ hp0.out).mono ?_
  rintro e w1 ⟨rfl, p1⟩
  go_wp2_with fail
  refine (k2.out _ p1).mono ?_
  rintro e w2 ⟨rfl, p2⟩
  have p2' : Hid (PS w w2 s s1m) := p2
  clear p1 p2 k1 k2 hp0
  go_upto_if 20 with fail
  go_cut [6] (fun v wx => v = .string SW ∧ Hid (PS w wx s s2))
  case first =>
    cases B48 with
    | true =>
      have h1 := w1y.out rfl
      have h2 : W = [48] ∧ s2 = s1m := by injection h1 with a b; exact ⟨a, b⟩
      have h3 : SW = ⟨#[48]⟩ := by rw [← hSW'.out, h2.1]; rfl
      have h4 : Hid (PS w w2 s s2) := by rw [h2.2]; exact p2'
      subst h3
      clear h1 h2
      go_wp2_with fail
      go_meet
      exact ⟨rfl, h4⟩
    | false =>
      have h1 := w1n.out rfl
      have h2 : PS w w2 s s1 := by rw [← h1.2]; exact p2'.out
      have k3'' := k3.out _ h2
      rw [← h1.1] at k3''
      dsimp only at k3''
      rw [hSW'.out] at k3''
      clear h1 h2 k3
      go_wp2_with fail
      refine k3''.mono ?_
      rintro e w3 ⟨rfl, p3⟩
      have p3' : Hid (PS w w3 s s2) := p3
      clear p3
      go_wp2_with fail
      go_meet
      exact ⟨rfl, p3'⟩
  case rest =>
  obtain ⟨rfl, p3⟩ := hcut
  clear p2' w1y w1n k3
  go_wp2_with fail
  refine (k4.out _ p3.out).mono ?_
  rintro e w4 ⟨rfl, p4⟩
  have p4' : Hid (PS w w4 s s2m) := p4
  clear p4 p3 k4
  go_upto_if 22 with fail
  go_cut [7] (fun v wx => v = .string SP ∧ Hid (PS w wx s (k3', y3, f3)))
  case first =>
    cases B46 with
    | true =>
      have h1 := w2y.out rfl
      have k5' := k5.out _ p4'.out
      rw [← h1] at k5'
      dsimp only at k5'
      rw [hSP'.out] at k5'
      clear h1
      go_wp2_with fail
      refine k5'.mono ?_
      rintro e w5 ⟨rfl, p5⟩
      have p5' : Hid (PS w w5 s (k3', y3, f3)) := p5
      clear p5
      go_wp2_with fail
      go_meet
      exact ⟨rfl, p5'⟩
    | false =>
      have h1 := w2n.out rfl
      have h2 : Pt = [] ∧ (k3', y3, f3) = s2 := by obtain ⟨a, -⟩ := h1; injection a with a b; exact ⟨a, b⟩
      have h3 : SP = ⟨#[]⟩ := by rw [← hSP'.out, h2.1]; rfl
      have h4 : Hid (PS w w4 s (k3', y3, f3)) := by rw [h2.2, ← h1.2]; exact p4'
      subst h3
      clear h1 h2
      go_wp2_with fail
      go_meet
      exact ⟨rfl, h4⟩
  case rest =>
  obtain ⟨rfl, p5⟩ := hcut
  clear p4' w2y w2n k5
  go_upto_region 13 with fail
  go_cut [27] (fun v wx => v = .bool bE ∧ Hid (PS w wx s (k3', y3, f3)))
  case first =>
    have k6' := k6.out _ p5.out
    clear k6
    cases B101 with
    | true =>
      have h1 := hor.out.1 rfl
      subst h1
      go_wp2_with fail
      refine k6'.mono ?_
      rintro e w6 ⟨rfl, p6⟩
      have p6' : Hid (PS w w6 s (k3', y3, f3)) := p6
      clear p6
      go_wp2_with fail
      go_meet
      exact ⟨rfl, p6'⟩
    | false =>
      have h1 := hor.out.2 rfl
      subst h1
      go_wp2_with fail
      refine k6'.mono ?_
      rintro e w6 ⟨rfl, p6⟩
      have k7' := k7.out _ p6
      clear p6 k7 k6'
      go_wp2_with fail
      refine k7'.mono ?_
      rintro e w7 ⟨rfl, p7⟩
      have p7' : Hid (PS w w7 s (k3', y3, f3)) := p7
      clear p7
      go_wp2_with fail
      go_meet
      exact ⟨rfl, p7'⟩
  case rest =>
  obtain ⟨rfl, p6⟩ := hcut
  clear p5 k6 k7 hor
  go_upto_if 27 with fail
  go_cut [8] (fun v wx => v = .int .i64 E ∧ Hid (PS w wx s s4))
  case first =>
    cases bE with
    | false =>
      have h1 := w3n.out rfl
      have h2 : E = 0 ∧ s4 = (k3', y3, f3) := by injection h1 with a b; exact ⟨a, b⟩
      have h4 : Hid (PS w wc s s4) := by rw [h2.2]; exact p6
      have h5 : Hid (E = 0) := h2.1
      clear h1 h2
      go_wp2_with fail
      go_meet
      exact ⟨by rw [h5.out], h4⟩
    | true =>
      have h1 := w3y.out rfl
      have hon' := hon.out rfl
      have hsl' := hsl.out hon'
      obtain ⟨h1a, h1b⟩ : E = (if isR (bs s) (onR (k3', y3, f3)) 45 = true then -((powY (digR (bs s) (signR (bs s) (onR (k3', y3, f3)))).1 : Nat) : Int) else ((powY (digR (bs s) (signR (bs s) (onR (k3', y3, f3)))).1 : Nat) : Int)) ∧ s4 = (digR (bs s) (signR (bs s) (onR (k3', y3, f3)))).2 := by injection h1 with a b; exact ⟨a, b⟩
      have hE : Hid (E = (if isR (bs s) (onR (k3', y3, f3)) 45 = true then -((powY (digR (bs s) (signR (bs s) (onR (k3', y3, f3)))).1 : Nat) : Int) else ((powY (digR (bs s) (signR (bs s) (onR (k3', y3, f3)))).1 : Nat) : Int))) := h1a
      have hpl := powY_le (digR (bs s) (signR (bs s) (onR (k3', y3, f3)))).1
      have kdg := hdg.out _ hsl'
      have kex := hex.out _ hsl'
      rw [← h1b] at kdg
      have c1 := p6.out.2.2.1.c1
      have z1 := p6.out.2.2.1.fz 1
      dsimp only at c1
      obtain ⟨K1, hK1⟩ : ∃ K, k3' + 1 = K := ⟨_, rfl⟩
      obtain ⟨K2, hK2⟩ : ∃ K, K1 + 1 = K := ⟨_, rfl⟩
      have wk : IntKind.i64.wrap (((k3' : Nat) : Int) + 1) = ((K1 : Nat) : Int) := by rw [IntKind.wrap_i64] <;> omega
      have wk2 : IntKind.i64.wrap (((K1 : Nat) : Int) + 1) = ((K2 : Nat) : Int) := by rw [IntKind.wrap_i64] <;> omega
      have on1 : onR (k3', y3, f3) = (K1, y3, f3) := by rw [← hK1]; rfl
      have on2 : onR (K1, y3, f3) = (K2, y3, f3) := by rw [← hK2]; rfl
      clear hK1 hK2
      rw [on1] at hE kdg kex k8 k9 hsg hsg2 hsg3 hpl
      rw [on2] at hsg hsg2
      have pg : Hid (PS w (wc.setCell ⟨w.heap.size + 2, 1, none⟩ (.int .i64 ((K1 : Nat) : Int))) s (K1, y3, f3)) := p6.out.goes K1
      clear on2
      have k8' := k8.out _ pg.out
      have k9' : Hid _ := k9.out
      generalize signR (bs s) (K1, y3, f3) = sg at *
      generalize powY (digR (bs s) sg).1 = pw at *
      generalize strOfNums (digR (bs s) sg).1 = ds at *
      clear h1 h1a h1b hon hsl hon' hsl' hdg hex w3y w3n k8 k9 hk3 on1
      have wn : IntKind.i64.wrap (-((pw : Nat) : Int)) = -((pw : Nat) : Int) := by rw [IntKind.wrap_i64] <;> omega
      clear hpl
      have hkdg : Hid (∀ (wx : World), PS w wx s sg → Calls Tryd.prog 33 #[.pointer (some ⟨w.heap.size + 2, 0, none⟩)] wx fun e w' => e = .returned (.string ds) ∧ PS w w' s s4) := kdg
      clear kdg
      cases h45 : isR (bs s) (K1, y3, f3) 45 with
      | true =>
        rw [h45] at k8' hE
        have hsgv : (K2, y3, f3) = sg := (hsg.out h45).symm
        have hE' : Hid (E = -((pw : Nat) : Int)) := by have := hE.out; rwa [if_pos rfl] at this
        clear hE hsg hsg2 hsg3 k9' h45
        go_wp2_with fail
        refine k8'.mono ?_
        rintro e w6 ⟨rfl, q6⟩
        have q6' : PS w w6 s (K1, y3, f3) := q6
        have cc1 := q6'.2.2.1.c1
        have zz1 := q6'.2.2.1.fz 1
        dsimp only at cc1
        have q7 : PS w (w6.setCell ⟨w.heap.size + 2, 1, none⟩ (.int .i64 ((K2 : Nat) : Int))) s sg := by rw [← hsgv]; exact q6'.goes K2
        have kd := hkdg.out _ q7
        clear q7 q6 hsgv hkdg
        go_wp2_with fail
        refine kd.mono ?_
        rintro e w8 ⟨rfl, p8⟩
        have p8' : Hid (PS w w8 s s4) := p8
        clear p8
        go_wp2_with fail
        refine (kex _).mono ?_
        rintro e w9 ⟨rfl, hw9⟩
        obtain rfl : w8 = w9 := hw9.symm
        go_wp2_with fail
        go_meet
        exact ⟨by rw [hE'.out], p8'⟩
      | false =>
        rw [h45] at k8' hE
        have hE' : Hid (E = ((pw : Nat) : Int)) := by have := hE.out; rwa [if_neg (by simp)] at this
        cases h43 : isR (bs s) (K1, y3, f3) 43 with
        | true =>
          have hsgv : (K2, y3, f3) = sg := (hsg2.out h43).symm
          rw [h43] at k9'
          clear hE hsg hsg2 hsg3 h45 h43
          go_wp2_with fail
          refine k8'.mono ?_
          rintro e w6 ⟨rfl, q6⟩
          have k9a := k9'.out _ q6
          clear q6
          go_wp2_with fail
          refine k9a.mono ?_
          rintro e w7 ⟨rfl, q7⟩
          have q7' : PS w w7 s (K1, y3, f3) := q7
          have cc1 := q7'.2.2.1.c1
          have zz1 := q7'.2.2.1.fz 1
          dsimp only at cc1
          have q8 : PS w (w7.setCell ⟨w.heap.size + 2, 1, none⟩ (.int .i64 ((K2 : Nat) : Int))) s sg := by rw [← hsgv]; exact q7'.goes K2
          have kd := hkdg.out _ q8
          clear q8 q7 hsgv hkdg k9a k9'
          go_wp2_with fail
          refine kd.mono ?_
          rintro e w8 ⟨rfl, p8⟩
          have p8' : Hid (PS w w8 s s4) := p8
          clear p8
          go_wp2_with fail
          refine (kex _).mono ?_
          rintro e w9 ⟨rfl, hw9⟩
          obtain rfl : w8 = w9 := hw9.symm
          go_wp2_with fail
          go_meet
          exact ⟨by rw [hE'.out], p8'⟩
        | false =>
          have hsgv : (K1, y3, f3) = sg := (hsg3.out h45 h43).symm
          rw [h43] at k9'
          clear hE hsg hsg2 hsg3 h45 h43
          go_wp2_with fail
          refine k8'.mono ?_
          rintro e w6 ⟨rfl, q6⟩
          have k9a := k9'.out _ q6
          clear q6
          go_wp2_with fail
          refine k9a.mono ?_
          rintro e w7 ⟨rfl, q7⟩
          have q8 : PS w w7 s sg := by rw [← hsgv]; exact q7
          have kd := hkdg.out _ q8
          clear q8 q7 hsgv hkdg k9a k9'
          go_wp2_with fail
          refine kd.mono ?_
          rintro e w8 ⟨rfl, p8⟩
          have p8' : Hid (PS w w8 s s4) := p8
          clear p8
          go_wp2_with fail
          refine (kex _).mono ?_
          rintro e w9 ⟨rfl, hw9⟩
          obtain rfl : w8 = w9 := hw9.symm
          go_wp2_with fail
          go_meet
          exact ⟨by rw [hE'.out], p8'⟩
  case rest =>
  obtain ⟨rfl, p7⟩ := hcut
  clear p6 w3y w3n hon k8 k9 hdg hex hsg hsg2 hsg3 hsl
  obtain ⟨s5, hs5⟩ : ∃ x, lastR (bs s) s4 = x := ⟨_, rfl⟩
  have hF5 : Hid (finR N0 W Pt E s5 = FR) := by rw [← hs5]; exact hFR'
  have hl5 : Hid ((s4.1 < (bs s).length → wrongR (bs s) s4 = s5) ∧ (¬ s4.1 < (bs s).length → s4 = s5)) := by
    unfold lastR at hs5
    refine ⟨fun h => ?_, fun h => ?_⟩
    · rwa [if_pos h] at hs5
    · rwa [if_neg h] at hs5
  clear hFR' hs5
  rw [hlen'.out] at hl5
  have hq4' : Hid (s4.1 ≤ s.size ∧ -1000000 ≤ E ∧ E ≤ 1000000) := by rw [← hlen'.out]; exact hq4
  have kw := wrong_ps p7.out
  obtain ⟨k4', y4, f4⟩ := s4
  dsimp only at hl5 hq4'
  have c4 := p7.out.2.2.1.c1
  dsimp only at c4
  go_upto_if 50 with fail
  go_cut [] (fun wx => Hid (PS w wx s s5))
  case first =>
    by_cases hk : k4' < s.size
    · have h1 := hl5.out.1 hk
      rw [h1] at kw
      have hd : decide (((k4' : Nat) : Int) < ((s.size : Nat) : Int)) = true := by simp; omega
      go_wp2_with fail
      refine kw.mono ?_
      rintro e w8 ⟨⟨u, rfl⟩, p8⟩
      have p8' : Hid (PS w w8 s s5) := p8
      clear p8
      go_wp2_with fail
      go_meet
      exact p8'
    · have h1 := hl5.out.2 hk
      have hd : decide (((k4' : Nat) : Int) < ((s.size : Nat) : Int)) = false := by simp; omega
      have p8' : Hid (PS w wc s s5) := by rw [← h1]; exact p7
      clear h1
      go_wp2_with fail
      go_meet
      exact p8'
  case rest =>
  have p8 : Hid (PS w wc s s5) := hcut
  clear hcut p7 kw hl5 c4
  obtain ⟨k5', y5, f5⟩ := s5
  have hN := p8.out.1
  have hF := p8.out.2.1
  have hRd := p8.out.2.2.1
  have hB := p8.out.2.2.2
  have kO := ok_ps p8.out
  dsimp only at kO
  by_cases hy : y5 = 0
  · have hy' : (y5 == 0) = true := by simpa using hy
    rw [hy'] at kO
    obtain ⟨x', hx'⟩ : ∃ x, E - ((Pt.length : Nat) : Int) = x := ⟨_, rfl⟩
    have hfin := hF5.out
    unfold finR at hfin
    rw [if_neg (by show ¬ y5 ≠ 0; simpa using hy), hx', str_cat, hSW'.out, hSP'.out] at hfin
    have hsz1 : SW.size ≤ 4096 := by have := hq2.out.1; rw [← hSW'.out, strOfNums_size]; have h1 := hlen'.out; have h2 := hs'.out; omega
    have hsz2 : SP.size = Pt.length := by rw [← hSP'.out, strOfNums_size]
    have hsz3 : Pt.length ≤ 4096 := by have := hq3.out.1; have h1 := hlen'.out; have h2 := hs'.out; omega
    have hqe := hq4'.out
    have hfit : ¬ 9223372036854775807 < SW.size + SP.size := by omega
    have wx' : IntKind.i64.wrap (E - ((SP.size : Nat) : Int)) = x' := by rw [IntKind.wrap_i64] <;> omega
    have kM := ymake_any N0 (SW ++ SP) x'
    clear hx' hy hsz1 hsz2 hsz3 hqe hq2 hq3 hq4 hq4' hSW' hSP' hs' hlen' hsw hF5 p8 hy'
    generalize makeA N0 (SW ++ SP) x' = M at *
    obtain ⟨⟨mb, ms, mx⟩, me⟩ := M
    dsimp only at kM hfin
    by_cases hm : me = 0
    · rw [if_neg (by simpa using hm)] at hfin
      subst hfin
      have hm' : (me != 0) = false := by simpa using hm
      clear hm
      go_wp2_with fail
      refine kO.mono ?_
      rintro e w9 ⟨rfl, hw9⟩
      obtain rfl : wc = w9 := hw9.symm
      go_wp2_with fail
      refine (kM _).mono ?_
      rintro e wm ⟨rfl, bm⟩
      have hN2 := hN.keep bm hN.lt
      have hF2 := hF.keep bm hF.lt
      have hB2 := hB.trans (bm.mono hB.size)
      have hN3 := hN2.keep (alloc_below wm (.cells #[.bool mb, .string ms, .int .i64 mx] 23)) hN2.lt
      have hF3 := hF2.keep (alloc_below wm (.cells #[.bool mb, .string ms, .int .i64 mx] 23)) hF2.lt
      have hB3 := hB2.alloc hB2.size (.cells #[.bool mb, .string ms, .int .i64 mx] 23)
      obtain ⟨n0, n1, n2⟩ := hN3.at
      have z0 := hN3.fz 0
      have z1 := hN3.fz 1
      have z2 := hN3.fz 2
      have g0 := hF3.c0
      have g1 := hF3.c1
      have y0 := hF3.fz 0
      have y1 := hF3.fz 1
      go_wp2
      refine bodyPost_ret (v := .tuple #[.agg #[.bool mb, .string ms, .int .i64 mx], .agg #[.int .i64 0, .int .i64 0]]) (by simp [results, Tryd.results13, go_sem, *]) rfl ⟨rfl, ?_⟩
      exact ((((hB3.setCell (Nat.le_refl _) _).setCell (Nat.le_refl _) _).setCell (Nat.le_refl _) _).setCell (by simp) _).setCell (by simp) _
    · rw [if_pos (by simpa using hm)] at hfin
      subst hfin
      have hm' : (me != 0) = true := by simpa using hm
      clear hm
      go_wp2_with fail
      refine kO.mono ?_
      rintro e w9 ⟨rfl, hw9⟩
      obtain rfl : wc = w9 := hw9.symm
      go_wp2_with fail
      refine (kM _).mono ?_
      rintro e wm ⟨rfl, bm⟩
      have hN2 := hN.keep bm hN.lt
      have hF2 := hF.keep bm hF.lt
      have hB2 := hB.trans (bm.mono hB.size)
      have hN3 := hN2.keep (alloc_below wm (.cells #[.bool mb, .string ms, .int .i64 mx] 23)) hN2.lt
      have hF3 := hF2.keep (alloc_below wm (.cells #[.bool mb, .string ms, .int .i64 mx] 23)) hF2.lt
      have hB3 := hB2.alloc hB2.size (.cells #[.bool mb, .string ms, .int .i64 mx] 23)
      obtain ⟨n0, n1, n2⟩ := hN3.at
      have z0 := hN3.fz 0
      have z1 := hN3.fz 1
      have z2 := hN3.fz 2
      have g0 := hF3.c0
      have g1 := hF3.c1
      have y0 := hF3.fz 0
      have y1 := hF3.fz 1
      go_wp2
      refine bodyPost_ret (v := .tuple #[.agg #[.bool false, .string ⟨#[]⟩, .int .i64 0], .agg #[.int .i64 11, .int .i64 0]]) (by simp [results, Tryd.results13, go_sem, *]) rfl ⟨rfl, ?_⟩
      exact ((((hB3.setCell (Nat.le_refl _) _).setCell (Nat.le_refl _) _).setCell (Nat.le_refl _) _).setCell (by simp) _).setCell (by simp) _
  · have hy' : (y5 == 0) = false := by simpa using hy
    rw [hy'] at kO
    have hfin : FR = (noN, y5, f5) := by
      rw [← hF5.out]
      unfold finR
      rw [if_pos (show y5 ≠ 0 from hy)]
    subst hfin
    obtain ⟨n0, n1, n2⟩ := hN.at
    have z0 := hN.fz 0
    have z1 := hN.fz 1
    have z2 := hN.fz 2
    have g0 := hF.c0
    have g1 := hF.c1
    have y0 := hF.fz 0
    have y1 := hF.fz 1
    have r2 := hRd.c2
    have r3 := hRd.c3
    dsimp only at r2 r3
    clear hy hF5 hq2 hq3 hq4 hq4' hSW' hSP' hs' hlen' hsw p8
    go_wp2_with fail
    refine kO.mono ?_
    rintro e w9 ⟨rfl, hw9⟩
    obtain rfl : wc = w9 := hw9.symm
    go_wp2_with fail
    go_region
    all_goals
      go_wp2
      refine bodyPost_ret (v := .tuple #[.agg #[.bool false, .string ⟨#[]⟩, .int .i64 0], .agg #[.int .i64 y5, .int .i64 f5]]) (by simp [results, Tryd.results13, go_sem, *]) rfl ⟨rfl, ?_⟩
      exact (((((hB.setCell (Nat.le_refl _) _).setCell (Nat.le_refl _) _).setCell (Nat.le_refl _) _).setCell (by simp) _).setCell (by simp) _).drew
end Go.Proofs.YtcnfgmhcbelgoaaDoor
