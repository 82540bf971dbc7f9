/-
  A datagram delivered.
-/
import Derived.Test.YtfipdldoklkciaaLkq
import Derived.Test.YtfipdldoklkciaaLkh
namespace Go.Proofs.Ytfipdldoklkciaa
open Go.RowKit
set_option linter.unusedVariables false
/-- What becomes of a link whose end n hears these bytes: the error, the link. -/
def delR (L : Lk) (n : Int) (zs : List Int) : Int × Lk :=
  if upE zs ≠ 0 then (upE zs, L)
  else if (upG zs).tok ≠ L.tok ∨ (upG zs).kind ≠ (if n = 0 then 1 else 2) then (12, L)
  else if (upG zs).ep ≠ L.ep then (17, L)
  else if n = 0 then (dataE L.r (upG zs).seq (upG zs).zs.length, { L with r := dataS L.r (upG zs).seq (upG zs).zs })
  else (ackE L.s (upG zs).ack (upG zs).cred, { L with s := ackS L.s (upG zs).ack (upG zs).bits (upG zs).cred })
theorem outM_zero {zs : List Int} (h : upE zs = 0) : outM zs = upG zs := by unfold outM; rw [if_pos h]
def delS (L : Lk) (n i : Int) : Int × Lk := match (netL L n)[i.toNat]? with
  | some g => if canE L n i = 0 then delR (netS L n ((netL L n).eraseIdx i.toNat)) n g.zs else (canE L n i, L)
  | none => (canE L n i, L)
theorem del_no {w : World} {B : Nat} {q : Qb} {L : Lk} (n i : Int) (h : Lm w B q L) (hE : canE L n i ≠ 0) :
    Calls Try.prog 28 #[.pointer (some ⟨q.lb, 0, none⟩), .int .i64 n, .int .i64 i] w fun e w' => e = .returned (.int .i64 (canE L n i)) ∧ Hid (Below w.heap.size w w') := by
  have k0 := can_any n i h
  have d0 : (canE L n i != 0) = true := by simpa using hE
  clear h hE
  generalize canE L n i = x at *
  go_enter Try.func28, Try.ntmps28
  go_wp2_with (go_at_call 68; refine k0.mono ?_; rintro e w1 ⟨rfl, hb1⟩; clear k0)
  go_ret
  exact ⟨rfl, hb1⟩
theorem Below.drN {w x : World} (h : Below w.heap.size w x) (k : Nat) : Below w.heap.size w (x.drewN k) := h.trans ⟨rfl, rfl, rfl, Nat.le_refl _, fun _ _ => rfl⟩
theorem field_g (g : Gr) (w : World) : (Instr.field 59 (.agg #[.slice g.a g.n g.c, .bool g.sp]) 0).run Try.prog w = .ok (.slice g.a g.n g.c) w := by kernel_rfl
theorem Lm.ck {w : World} {B : Nat} {q : Qb} {L : Lk} (h : Lm w B q L) : w.cell? ⟨q.lb, 519, none⟩ = some (.int .i64 1) ∧ w.cell? ⟨q.lb, 520, none⟩ = some (.func (.func 56) #[.pointer (some ⟨q.lb, 0, none⟩)] #[]) ∧ w.cell? ⟨q.lb, 1034, none⟩ = some (.int .i64 2) ∧ w.cell? ⟨q.lb, 1035, none⟩ = some (.func (.func 57) #[.pointer (some ⟨q.lb, 0, none⟩)] #[]) := by
  obtain ⟨cs, hb, hc⟩ := h.lk
  exact ⟨(hb.cell 519).trans hc.k0, (hb.cell 520).trans hc.e0, (hb.cell 1034).trans hc.k1, (hb.cell 1035).trans hc.e1⟩
set_option maxHeartbeats 2000000 in
set_option maxRecDepth 100000 in
theorem del0a {w : World} {B : Nat} {q : Qb} {L : Lk} (i : Nat) (g : Gr) (h : Lm w B q L) (hE : canE L 0 (i : Nat) = 0) (hg : L.n0[i]? = some g) (h0 : upE g.zs = 0) :
    Calls Try.prog 28 #[.pointer (some ⟨q.lb, 0, none⟩), .int .i64 0, .int .i64 (i : Nat)] w fun e w' => e = .returned (.int .i64 (delR { L with n0 := L.n0.eraseIdx i } 0 g.zs).1) ∧ Hid (Lm w' B q (delR { L with n0 := L.n0.eraseIdx i } 0 g.zs).2) ∧ Hid (K4 q w w') := by
  have k0 := can_any 0 (i : Nat) h
  rw [hE] at k0
  have fg := field_g g
  have d0 : (upE g.zs != 0) = false := by simpa using h0
  have hL : Hid (Lm w B q L) := h
  have hg' : Hid (L.n0[i]? = some g) := hg
  clear h hE hg
  generalize hR : delR { L with n0 := L.n0.eraseIdx i } 0 g.zs = R at *
  have hR' : Hid (delR { L with n0 := L.n0.eraseIdx i } 0 g.zs = R) := hR
  clear hR
  go_enter Try.func28, Try.ntmps28
  go_wp2_with (first | (go_at_call 68; refine k0.mono ?_; rintro e w1 ⟨rfl, hb1⟩; clear k0) | (go_at_call 69; refine (lout0 (hL.out.kept hb1.out) hg'.out).mono ?_; rintro e w2 ⟨rfl, hL2, hK2, hG2⟩) | (go_at_call 13; refine (unpack_any g.a g.n g.c g.zs w2 hG2.out.len hG2.out.by_ hG2.out.le hG2.out.mx).mono ?_; rintro e w3 ⟨hU, hb3⟩; obtain ⟨a3, n3, c3, rfl, hS3⟩ := hU.out; unfold mval))
  have hL3 : Hid (Lm w3 B q { L with n0 := L.n0.eraseIdx i }) := hL2.out.kept hb3.out
  have hK3 : Hid (K4 q w w3) := ((K4.of_below hb1.out).trans hK2.out).trans (K4.of_below hb3.out)
  generalize hL1 : ({ L with n0 := L.n0.eraseIdx i } : Lk) = L1 at *
  have hL1' : Hid (L1.r = L.r ∧ L1.s = L.s) := by rw [← hL1]; exact ⟨rfl, rfl⟩
  clear hU hb3 hL2 hK2 hG2 hb1 hL hg' hL1
  generalize hm : outM g.zs = m at *
  have hm' : Hid (outM g.zs = m) := hm
  clear hm
  have c1 := hL3.out.cell.2.1
  have c3' := hL3.out.cell.2.2.2.1
  have hlt := hL3.out.lt
  obtain ⟨ck, ce, _, _⟩ := hL3.out.ck
  have dm : Hid (upG g.zs = m) := (outM_zero h0).symm.trans hm'.out
  by_cases h1 : m.tok = L1.tok
  · have d1 : (m.tok != L1.tok) = false := by simpa using h1
    by_cases h2 : m.kind = 1
    · have d2 : (m.kind != 1) = false := by simpa using h2
      by_cases h3 : m.ep = L1.ep
      · have d3 : (m.ep != L1.ep) = false := by simpa using h3
        have hF0 : R = (dataE L1.r m.seq m.zs.length, { L1 with r := dataS L1.r m.seq m.zs }) := by
          rw [← hR'.out]
          unfold delR
          rw [if_neg (fun k => k h0), dm.out, if_neg (by rintro (k | k); exact k h1; exact k h2), if_neg (fun k => k h3), if_pos rfl]
        have hF : Hid (R = (dataE L1.r m.seq m.zs.length, { L1 with r := dataS L1.r m.seq m.zs })) := hF0
        clear hF0
        have kE : Hid (∀ x, Below w3.heap.size w3 x → Calls Try.prog 56 #[.pointer (some ⟨q.lb, 0, none⟩), .agg #[.int .i64 m.kind, .int .u64 m.tok, .int .i64 m.ep, .int .i64 m.seq, .int .i64 m.ack, .int .u64 m.bits, .int .i64 m.cred, .int .i64 m.fmt, .slice a3 n3 c3]] x fun e w' => e = .returned (.int .i64 R.1) ∧ Hid (Lm w' B q R.2) ∧ Hid (K4 q w w')) := fun x hx =>
          (hear_data m a3 n3 c3 (hL3.out.kept hx) hS3.out.len hS3.out.nil (hS3.out.by_.kept hx)).mono (by
            rintro e w' ⟨rfl, h5, h6⟩
            rw [hF.out]
            refine ⟨by rw [← hS3.out.len], h5, (hK3.out.trans (K4.of_below hx)).trans h6.out⟩)
        clear h0 h1 h2 h3 dm hm' hR' hF
        go_wp2
        (try (go_quiet (fail)))
        go_wp2
        go_region
        go_wp2
        go_region_with (go_at_call 56; refine (kE.out _ (by repeat' with_reducible first | exact Below.refl _ _ | refine Below.drew ?_ | refine Below.drN ?_ _ | refine Below.al ?_ _)).mono ?_; rintro e w4 ⟨rfl, hL4, hK4⟩)
        all_goals go_wp2
        all_goals go_ret
        all_goals exact ⟨rfl, hL4, hK4⟩
      · have d3 : (m.ep != L1.ep) = true := by simpa using h3
        have hF0 : R = (17, L1) := by
          rw [← hR'.out]
          unfold delR
          rw [if_neg (fun k => k h0), dm.out, if_neg (by rintro (k | k); exact k h1; exact k h2), if_pos h3]
        have hF : Hid (R = (17, L1)) := hF0
        clear hF0
        clear h0 h1 h2 h3 dm hm' hR'
        go_wp2
        (try (go_quiet (fail)))
        go_wp2
        go_region
        go_wp2
        go_ret
        rw [hF.out]
        refine ⟨rfl, ?_, ?_⟩
        · exact hL3.out.kept (by repeat' with_reducible first | exact Below.refl _ _ | refine Below.drew ?_ | refine Below.drN ?_ _ | refine Below.al ?_ _)
        · exact hK3.out.trans (K4.of_below (by repeat' with_reducible first | exact Below.refl _ _ | refine Below.drew ?_ | refine Below.drN ?_ _ | refine Below.al ?_ _))
    · have d2 : (m.kind != 1) = true := by simpa using h2
      have hF0 : R = (12, L1) := by
        rw [← hR'.out]
        unfold delR
        rw [if_neg (fun k => k h0), dm.out, if_pos (.inr h2)]
      have hF : Hid (R = (12, L1)) := hF0
      clear hF0
      clear h0 h1 h2 dm hm' hR'
      go_wp2
      (try (go_quiet (fail)))
      go_wp2
      go_ret
      rw [hF.out]
      refine ⟨rfl, ?_, ?_⟩
      · exact hL3.out.kept (by repeat' with_reducible first | exact Below.refl _ _ | refine Below.drew ?_ | refine Below.drN ?_ _ | refine Below.al ?_ _)
      · exact hK3.out.trans (K4.of_below (by repeat' with_reducible first | exact Below.refl _ _ | refine Below.drew ?_ | refine Below.drN ?_ _ | refine Below.al ?_ _))
  · have d1 : (m.tok != L1.tok) = true := by simpa using h1
    have hF0 : R = (12, L1) := by
      rw [← hR'.out]
      unfold delR
      rw [if_neg (fun k => k h0), dm.out, if_pos (.inl h1)]
    have hF : Hid (R = (12, L1)) := hF0
    clear hF0
    clear h0 h1 dm hm' hR'
    go_wp2
    (try (go_quiet (fail)))
    go_wp2
    go_ret
    rw [hF.out]
    refine ⟨rfl, ?_, ?_⟩
    · exact hL3.out.kept (by repeat' with_reducible first | exact Below.refl _ _ | refine Below.drew ?_ | refine Below.drN ?_ _ | refine Below.al ?_ _)
    · exact hK3.out.trans (K4.of_below (by repeat' with_reducible first | exact Below.refl _ _ | refine Below.drew ?_ | refine Below.drN ?_ _ | refine Below.al ?_ _))
set_option maxHeartbeats 2000000 in
set_option maxRecDepth 100000 in
theorem del0b {w : World} {B : Nat} {q : Qb} {L : Lk} (i : Nat) (g : Gr) (h : Lm w B q L) (hE : canE L 0 (i : Nat) = 0) (hg : L.n0[i]? = some g) (h0 : upE g.zs ≠ 0) :
    Calls Try.prog 28 #[.pointer (some ⟨q.lb, 0, none⟩), .int .i64 0, .int .i64 (i : Nat)] w fun e w' => e = .returned (.int .i64 (delR { L with n0 := L.n0.eraseIdx i } 0 g.zs).1) ∧ Hid (Lm w' B q (delR { L with n0 := L.n0.eraseIdx i } 0 g.zs).2) ∧ Hid (K4 q w w') := by
  have k0 := can_any 0 (i : Nat) h
  rw [hE] at k0
  have fg := field_g g
  have d0 : (upE g.zs != 0) = true := by simpa using h0
  have hL : Hid (Lm w B q L) := h
  have hg' : Hid (L.n0[i]? = some g) := hg
  clear h hE hg
  generalize hR : delR { L with n0 := L.n0.eraseIdx i } 0 g.zs = R at *
  have hR' : Hid (delR { L with n0 := L.n0.eraseIdx i } 0 g.zs = R) := hR
  clear hR
  go_enter Try.func28, Try.ntmps28
  go_wp2_with (first | (go_at_call 68; refine k0.mono ?_; rintro e w1 ⟨rfl, hb1⟩; clear k0) | (go_at_call 69; refine (lout0 (hL.out.kept hb1.out) hg'.out).mono ?_; rintro e w2 ⟨rfl, hL2, hK2, hG2⟩) | (go_at_call 13; refine (unpack_any g.a g.n g.c g.zs w2 hG2.out.len hG2.out.by_ hG2.out.le hG2.out.mx).mono ?_; rintro e w3 ⟨hU, hb3⟩; obtain ⟨a3, n3, c3, rfl, hS3⟩ := hU.out; unfold mval))
  have hL3 : Hid (Lm w3 B q { L with n0 := L.n0.eraseIdx i }) := hL2.out.kept hb3.out
  have hK3 : Hid (K4 q w w3) := ((K4.of_below hb1.out).trans hK2.out).trans (K4.of_below hb3.out)
  generalize hL1 : ({ L with n0 := L.n0.eraseIdx i } : Lk) = L1 at *
  have hL1' : Hid (L1.r = L.r ∧ L1.s = L.s) := by rw [← hL1]; exact ⟨rfl, rfl⟩
  clear hU hb3 hL2 hK2 hG2 hb1 hL hg' hL1
  generalize hm : outM g.zs = m at *
  have hm' : Hid (outM g.zs = m) := hm
  clear hm
  have c1 := hL3.out.cell.2.1
  have c3' := hL3.out.cell.2.2.2.1
  have hlt := hL3.out.lt
  obtain ⟨ck, ce, _, _⟩ := hL3.out.ck
  have hF0 : R = (upE g.zs, L1) := by
    rw [← hR'.out]
    unfold delR
    rw [if_pos h0]
  have hF : Hid (R = (upE g.zs, L1)) := hF0
  clear hF0
  clear h0 hm' hR'
  generalize upE g.zs = x at *
  go_wp2
  go_ret
  rw [hF.out]
  refine ⟨rfl, ?_, ?_⟩
  · exact hL3.out.kept (by repeat' with_reducible first | exact Below.refl _ _ | refine Below.drew ?_ | refine Below.drN ?_ _ | refine Below.al ?_ _)
  · exact hK3.out.trans (K4.of_below (by repeat' with_reducible first | exact Below.refl _ _ | refine Below.drew ?_ | refine Below.drN ?_ _ | refine Below.al ?_ _))
theorem del0 {w : World} {B : Nat} {q : Qb} {L : Lk} (i : Nat) (g : Gr) (h : Lm w B q L) (hE : canE L 0 (i : Nat) = 0) (hg : L.n0[i]? = some g) :
    Calls Try.prog 28 #[.pointer (some ⟨q.lb, 0, none⟩), .int .i64 0, .int .i64 (i : Nat)] w fun e w' => e = .returned (.int .i64 (delR { L with n0 := L.n0.eraseIdx i } 0 g.zs).1) ∧ Hid (Lm w' B q (delR { L with n0 := L.n0.eraseIdx i } 0 g.zs).2) ∧ Hid (K4 q w w') := by
  by_cases h0 : upE g.zs = 0
  · exact del0a i g h hE hg h0
  · exact del0b i g h hE hg h0
set_option maxHeartbeats 2000000 in
set_option maxRecDepth 100000 in
theorem del1a {w : World} {B : Nat} {q : Qb} {L : Lk} (i : Nat) (g : Gr) (h : Lm w B q L) (hE : canE L 1 (i : Nat) = 0) (hg : L.n1[i]? = some g) (h0 : upE g.zs = 0) :
    Calls Try.prog 28 #[.pointer (some ⟨q.lb, 0, none⟩), .int .i64 1, .int .i64 (i : Nat)] w fun e w' => e = .returned (.int .i64 (delR { L with n1 := L.n1.eraseIdx i } 1 g.zs).1) ∧ Hid (Lm w' B q (delR { L with n1 := L.n1.eraseIdx i } 1 g.zs).2) ∧ Hid (K4 q w w') := by
  have k0 := can_any 1 (i : Nat) h
  rw [hE] at k0
  have fg := field_g g
  have d0 : (upE g.zs != 0) = false := by simpa using h0
  have hL : Hid (Lm w B q L) := h
  have hg' : Hid (L.n1[i]? = some g) := hg
  clear h hE hg
  generalize hR : delR { L with n1 := L.n1.eraseIdx i } 1 g.zs = R at *
  have hR' : Hid (delR { L with n1 := L.n1.eraseIdx i } 1 g.zs = R) := hR
  clear hR
  go_enter Try.func28, Try.ntmps28
  go_wp2_with (first | (go_at_call 68; refine k0.mono ?_; rintro e w1 ⟨rfl, hb1⟩; clear k0) | (go_at_call 69; refine (lout1 (hL.out.kept hb1.out) hg'.out).mono ?_; rintro e w2 ⟨rfl, hL2, hK2, hG2⟩) | (go_at_call 13; refine (unpack_any g.a g.n g.c g.zs w2 hG2.out.len hG2.out.by_ hG2.out.le hG2.out.mx).mono ?_; rintro e w3 ⟨hU, hb3⟩; obtain ⟨a3, n3, c3, rfl, hS3⟩ := hU.out; unfold mval))
  have hL3 : Hid (Lm w3 B q { L with n1 := L.n1.eraseIdx i }) := hL2.out.kept hb3.out
  have hK3 : Hid (K4 q w w3) := ((K4.of_below hb1.out).trans hK2.out).trans (K4.of_below hb3.out)
  generalize hL1 : ({ L with n1 := L.n1.eraseIdx i } : Lk) = L1 at *
  have hL1' : Hid (L1.r = L.r ∧ L1.s = L.s) := by rw [← hL1]; exact ⟨rfl, rfl⟩
  clear hU hb3 hL2 hK2 hG2 hb1 hL hg' hL1
  generalize hm : outM g.zs = m at *
  have hm' : Hid (outM g.zs = m) := hm
  clear hm
  have c1 := hL3.out.cell.2.1
  have c3' := hL3.out.cell.2.2.2.1
  have hlt := hL3.out.lt
  obtain ⟨_, _, ck, ce⟩ := hL3.out.ck
  have dm : Hid (upG g.zs = m) := (outM_zero h0).symm.trans hm'.out
  by_cases h1 : m.tok = L1.tok
  · have d1 : (m.tok != L1.tok) = false := by simpa using h1
    by_cases h2 : m.kind = 2
    · have d2 : (m.kind != 2) = false := by simpa using h2
      by_cases h3 : m.ep = L1.ep
      · have d3 : (m.ep != L1.ep) = false := by simpa using h3
        have hF0 : R = (ackE L1.s m.ack m.cred, { L1 with s := ackS L1.s m.ack m.bits m.cred }) := by
          rw [← hR'.out]
          unfold delR
          rw [if_neg (fun k => k h0), dm.out, if_neg (by rintro (k | k); exact k h1; exact k h2), if_neg (fun k => k h3), if_neg (by decide)]
        have hF : Hid (R = (ackE L1.s m.ack m.cred, { L1 with s := ackS L1.s m.ack m.bits m.cred })) := hF0
        clear hF0
        have kE : Hid (∀ x, Below w3.heap.size w3 x → Calls Try.prog 57 #[.pointer (some ⟨q.lb, 0, none⟩), .agg #[.int .i64 m.kind, .int .u64 m.tok, .int .i64 m.ep, .int .i64 m.seq, .int .i64 m.ack, .int .u64 m.bits, .int .i64 m.cred, .int .i64 m.fmt, .slice a3 n3 c3]] x fun e w' => e = .returned (.int .i64 R.1) ∧ Hid (Lm w' B q R.2) ∧ Hid (K4 q w w')) := fun x hx =>
          (hear_ack m a3 n3 c3 (hL3.out.kept hx)).mono (by
            rintro e w' ⟨rfl, h5, h6⟩
            rw [hF.out]
            refine ⟨rfl, h5, (hK3.out.trans (K4.of_below hx)).trans h6.out⟩)
        clear h0 h1 h2 h3 dm hm' hR' hF
        go_wp2
        (try (go_quiet (fail)))
        go_wp2
        go_region
        go_wp2
        go_region_with (go_at_call 57; refine (kE.out _ (by repeat' with_reducible first | exact Below.refl _ _ | refine Below.drew ?_ | refine Below.drN ?_ _ | refine Below.al ?_ _)).mono ?_; rintro e w4 ⟨rfl, hL4, hK4⟩)
        all_goals go_wp2
        all_goals go_ret
        all_goals exact ⟨rfl, hL4, hK4⟩
      · have d3 : (m.ep != L1.ep) = true := by simpa using h3
        have hF0 : R = (17, L1) := by
          rw [← hR'.out]
          unfold delR
          rw [if_neg (fun k => k h0), dm.out, if_neg (by rintro (k | k); exact k h1; exact k h2), if_pos h3]
        have hF : Hid (R = (17, L1)) := hF0
        clear hF0
        clear h0 h1 h2 h3 dm hm' hR'
        go_wp2
        (try (go_quiet (fail)))
        go_wp2
        go_region
        go_wp2
        go_ret
        rw [hF.out]
        refine ⟨rfl, ?_, ?_⟩
        · exact hL3.out.kept (by repeat' with_reducible first | exact Below.refl _ _ | refine Below.drew ?_ | refine Below.drN ?_ _ | refine Below.al ?_ _)
        · exact hK3.out.trans (K4.of_below (by repeat' with_reducible first | exact Below.refl _ _ | refine Below.drew ?_ | refine Below.drN ?_ _ | refine Below.al ?_ _))
    · have d2 : (m.kind != 2) = true := by simpa using h2
      have hF0 : R = (12, L1) := by
        rw [← hR'.out]
        unfold delR
        rw [if_neg (fun k => k h0), dm.out, if_pos (.inr h2)]
      have hF : Hid (R = (12, L1)) := hF0
      clear hF0
      clear h0 h1 h2 dm hm' hR'
      go_wp2
      (try (go_quiet (fail)))
      go_wp2
      go_ret
      rw [hF.out]
      refine ⟨rfl, ?_, ?_⟩
      · exact hL3.out.kept (by repeat' with_reducible first | exact Below.refl _ _ | refine Below.drew ?_ | refine Below.drN ?_ _ | refine Below.al ?_ _)
      · exact hK3.out.trans (K4.of_below (by repeat' with_reducible first | exact Below.refl _ _ | refine Below.drew ?_ | refine Below.drN ?_ _ | refine Below.al ?_ _))
  · have d1 : (m.tok != L1.tok) = true := by simpa using h1
    have hF0 : R = (12, L1) := by
      rw [← hR'.out]
      unfold delR
      rw [if_neg (fun k => k h0), dm.out, if_pos (.inl h1)]
    have hF : Hid (R = (12, L1)) := hF0
    clear hF0
    clear h0 h1 dm hm' hR'
    go_wp2
    (try (go_quiet (fail)))
    go_wp2
    go_ret
    rw [hF.out]
    refine ⟨rfl, ?_, ?_⟩
    · exact hL3.out.kept (by repeat' with_reducible first | exact Below.refl _ _ | refine Below.drew ?_ | refine Below.drN ?_ _ | refine Below.al ?_ _)
    · exact hK3.out.trans (K4.of_below (by repeat' with_reducible first | exact Below.refl _ _ | refine Below.drew ?_ | refine Below.drN ?_ _ | refine Below.al ?_ _))
set_option maxHeartbeats 2000000 in
set_option maxRecDepth 100000 in
theorem del1b {w : World} {B : Nat} {q : Qb} {L : Lk} (i : Nat) (g : Gr) (h : Lm w B q L) (hE : canE L 1 (i : Nat) = 0) (hg : L.n1[i]? = some g) (h0 : upE g.zs ≠ 0) :
    Calls Try.prog 28 #[.pointer (some ⟨q.lb, 0, none⟩), .int .i64 1, .int .i64 (i : Nat)] w fun e w' => e = .returned (.int .i64 (delR { L with n1 := L.n1.eraseIdx i } 1 g.zs).1) ∧ Hid (Lm w' B q (delR { L with n1 := L.n1.eraseIdx i } 1 g.zs).2) ∧ Hid (K4 q w w') := by
  have k0 := can_any 1 (i : Nat) h
  rw [hE] at k0
  have fg := field_g g
  have d0 : (upE g.zs != 0) = true := by simpa using h0
  have hL : Hid (Lm w B q L) := h
  have hg' : Hid (L.n1[i]? = some g) := hg
  clear h hE hg
  generalize hR : delR { L with n1 := L.n1.eraseIdx i } 1 g.zs = R at *
  have hR' : Hid (delR { L with n1 := L.n1.eraseIdx i } 1 g.zs = R) := hR
  clear hR
  go_enter Try.func28, Try.ntmps28
  go_wp2_with (first | (go_at_call 68; refine k0.mono ?_; rintro e w1 ⟨rfl, hb1⟩; clear k0) | (go_at_call 69; refine (lout1 (hL.out.kept hb1.out) hg'.out).mono ?_; rintro e w2 ⟨rfl, hL2, hK2, hG2⟩) | (go_at_call 13; refine (unpack_any g.a g.n g.c g.zs w2 hG2.out.len hG2.out.by_ hG2.out.le hG2.out.mx).mono ?_; rintro e w3 ⟨hU, hb3⟩; obtain ⟨a3, n3, c3, rfl, hS3⟩ := hU.out; unfold mval))
  have hL3 : Hid (Lm w3 B q { L with n1 := L.n1.eraseIdx i }) := hL2.out.kept hb3.out
  have hK3 : Hid (K4 q w w3) := ((K4.of_below hb1.out).trans hK2.out).trans (K4.of_below hb3.out)
  generalize hL1 : ({ L with n1 := L.n1.eraseIdx i } : Lk) = L1 at *
  have hL1' : Hid (L1.r = L.r ∧ L1.s = L.s) := by rw [← hL1]; exact ⟨rfl, rfl⟩
  clear hU hb3 hL2 hK2 hG2 hb1 hL hg' hL1
  generalize hm : outM g.zs = m at *
  have hm' : Hid (outM g.zs = m) := hm
  clear hm
  have c1 := hL3.out.cell.2.1
  have c3' := hL3.out.cell.2.2.2.1
  have hlt := hL3.out.lt
  obtain ⟨_, _, ck, ce⟩ := hL3.out.ck
  have hF0 : R = (upE g.zs, L1) := by
    rw [← hR'.out]
    unfold delR
    rw [if_pos h0]
  have hF : Hid (R = (upE g.zs, L1)) := hF0
  clear hF0
  clear h0 hm' hR'
  generalize upE g.zs = x at *
  go_wp2
  go_ret
  rw [hF.out]
  refine ⟨rfl, ?_, ?_⟩
  · exact hL3.out.kept (by repeat' with_reducible first | exact Below.refl _ _ | refine Below.drew ?_ | refine Below.drN ?_ _ | refine Below.al ?_ _)
  · exact hK3.out.trans (K4.of_below (by repeat' with_reducible first | exact Below.refl _ _ | refine Below.drew ?_ | refine Below.drN ?_ _ | refine Below.al ?_ _))
theorem del1 {w : World} {B : Nat} {q : Qb} {L : Lk} (i : Nat) (g : Gr) (h : Lm w B q L) (hE : canE L 1 (i : Nat) = 0) (hg : L.n1[i]? = some g) :
    Calls Try.prog 28 #[.pointer (some ⟨q.lb, 0, none⟩), .int .i64 1, .int .i64 (i : Nat)] w fun e w' => e = .returned (.int .i64 (delR { L with n1 := L.n1.eraseIdx i } 1 g.zs).1) ∧ Hid (Lm w' B q (delR { L with n1 := L.n1.eraseIdx i } 1 g.zs).2) ∧ Hid (K4 q w w') := by
  by_cases h0 : upE g.zs = 0
  · exact del1a i g h hE hg h0
  · exact del1b i g h hE hg h0
end Go.Proofs.Ytfipdldoklkciaa
