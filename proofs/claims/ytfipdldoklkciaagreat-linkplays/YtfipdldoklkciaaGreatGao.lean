/-
  Texts Lkr, Lku, Lkv, Lkx.
-/
import Derived.Test.YtfipdldoklkciaaGreatGam
import Derived.Test.YtfipdldoklkciaaGreatGan
import Derived.Test.YtfipdldoklkciaaGreatGal
import Derived.Lib.SlBytesConst
import Derived.Lib.SmallJoins
import Derived.Test.YtfipdldoklkciaaGreatGaj
import Derived.Deep.Slices
import Derived.Deep.Strs
import Derived.ChangeReads
import Derived.SizedLaws
namespace Go.Proofs.YtfipdldoklkciaaGreat
open Go.RowKit
set_option linter.unusedVariables false
/-- What becomes of a link whose end n hears these bytes: the error, the link. -/
def delR (L : Lk) (n : Int) (zs : List Int) : Int × Lk :=
  if upE zs ≠ 0 then (upE zs, L)
  else if (upG zs).tok ≠ L.tok ∨ (upG zs).kind ≠ (if n = 0 then 1 else 2) then (12, L)
  else if (upG zs).ep ≠ L.ep then (17, L)
  else if n = 0 then (dataE L.r (upG zs).seq (upG zs).zs.length, { L with r := dataS L.r (upG zs).seq (upG zs).zs })
  else (ackE L.s (upG zs).ack (upG zs).cred, { L with s := ackS L.s (upG zs).ack (upG zs).bits (upG zs).cred })
theorem outM_zero {zs : List Int} (h : upE zs = 0) : outM zs = upG zs := by unfold outM; rw [if_pos h]
def delS (L : Lk) (n i : Int) : Int × Lk := match (netL L n)[i.toNat]? with
  | some g => if canE L n i = 0 then delR (netS L n ((netL L n).eraseIdx i.toNat)) n g.zs else (canE L n i, L)
  | none => (canE L n i, L)
theorem del_no {w : World} {B : Nat} {q : Qb} {L : Lk} (n i : Int) (h : Lm w B q L) (hE : canE L n i ≠ 0) :
    Calls Tryz.prog 25 #[.pointer (some ⟨q.lb, 0, none⟩), .int .i64 n, .int .i64 i] w fun e w' => e = .returned (.int .i64 (canE L n i)) ∧ Hid (Below w.heap.size w w') := by
  have k0 := can_any n i h
  have d0 : (canE L n i != 0) = true := by simpa using hE
  clear h hE
  generalize canE L n i = x at *
  go_enter Tryz.func25, Tryz.ntmps25
  go_wp2_with (go_at_call 55; refine k0.mono ?_; rintro e w1 ⟨rfl, hb1⟩; clear k0)
  go_ret
  exact ⟨rfl, hb1⟩
theorem Below.drN {w x : World} (h : Below w.heap.size w x) (k : Nat) : Below w.heap.size w (x.drewN k) := h.trans ⟨rfl, rfl, rfl, Nat.le_refl _, fun _ _ => rfl⟩
theorem field_g (g : Gr) (w : World) : (Instr.field 61 (.agg #[.slice g.a g.n g.c, .bool g.sp]) 0).run Tryz.prog w = .ok (.slice g.a g.n g.c) w := by kernel_rfl
theorem Lm.ck {w : World} {B : Nat} {q : Qb} {L : Lk} (h : Lm w B q L) : w.cell? ⟨q.lb, 519, none⟩ = some (.int .i64 1) ∧ w.cell? ⟨q.lb, 520, none⟩ = some (.func (.func 19) #[.pointer (some ⟨q.lb, 0, none⟩)] #[]) ∧ w.cell? ⟨q.lb, 1034, none⟩ = some (.int .i64 2) ∧ w.cell? ⟨q.lb, 1035, none⟩ = some (.func (.func 20) #[.pointer (some ⟨q.lb, 0, none⟩)] #[]) := by
  obtain ⟨cs, hb, hc⟩ := h.lk
  exact ⟨(hb.cell 519).trans hc.k0, (hb.cell 520).trans hc.e0, (hb.cell 1034).trans hc.k1, (hb.cell 1035).trans hc.e1⟩
set_option maxHeartbeats 2000000 in
set_option maxRecDepth 100000 in
theorem del0a {w : World} {B : Nat} {q : Qb} {L : Lk} (i : Nat) (g : Gr) (h : Lm w B q L) (hE : canE L 0 (i : Nat) = 0) (hg : L.n0[i]? = some g) (h0 : upE g.zs = 0) :
    Calls Tryz.prog 25 #[.pointer (some ⟨q.lb, 0, none⟩), .int .i64 0, .int .i64 (i : Nat)] w fun e w' => e = .returned (.int .i64 (delR { L with n0 := L.n0.eraseIdx i } 0 g.zs).1) ∧ Hid (Lm w' B q (delR { L with n0 := L.n0.eraseIdx i } 0 g.zs).2) ∧ Hid (K4 q w w') := by
  have k0 := can_any 0 (i : Nat) h
  rw [hE] at k0
  have fg := field_g g
  have d0 : (upE g.zs != 0) = false := by simpa using h0
  have hL : Hid (Lm w B q L) := h
  have hg' : Hid (L.n0[i]? = some g) := hg
  clear h hE hg
  generalize hR : delR { L with n0 := L.n0.eraseIdx i } 0 g.zs = R at *
  have hR' : Hid (delR { L with n0 := L.n0.eraseIdx i } 0 g.zs = R) := hR
  clear hR
  go_enter Tryz.func25, Tryz.ntmps25
  go_wp2_with (first | (go_at_call 55; refine k0.mono ?_; rintro e w1 ⟨rfl, hb1⟩; clear k0) | (go_at_call 57; refine (lout0 (hL.out.kept hb1.out) hg'.out).mono ?_; rintro e w2 ⟨rfl, hL2, hK2, hG2⟩) | (go_at_call 56; refine (unpack_any g.a g.n g.c g.zs w2 hG2.out.len hG2.out.by_ hG2.out.le hG2.out.mx).mono ?_; rintro e w3 ⟨hU, hb3⟩; obtain ⟨a3, n3, c3, rfl, hS3⟩ := hU.out; unfold mval))
  have hL3 : Hid (Lm w3 B q { L with n0 := L.n0.eraseIdx i }) := hL2.out.kept hb3.out
  have hK3 : Hid (K4 q w w3) := ((K4.of_below hb1.out).trans hK2.out).trans (K4.of_below hb3.out)
  generalize hL1 : ({ L with n0 := L.n0.eraseIdx i } : Lk) = L1 at *
  have hL1' : Hid (L1.r = L.r ∧ L1.s = L.s) := by rw [← hL1]; exact ⟨rfl, rfl⟩
  clear hU hb3 hL2 hK2 hG2 hb1 hL hg' hL1
  generalize hm : outM g.zs = m at *
  have hm' : Hid (outM g.zs = m) := hm
  clear hm
  have c1 := hL3.out.cell.2.1
  have c3' := hL3.out.cell.2.2.2.1
  have hlt := hL3.out.lt
  obtain ⟨ck, ce, _, _⟩ := hL3.out.ck
  have dm : Hid (upG g.zs = m) := (outM_zero h0).symm.trans hm'.out
  by_cases h1 : m.tok = L1.tok
  · have d1 : (m.tok != L1.tok) = false := by simpa using h1
    by_cases h2 : m.kind = 1
    · have d2 : (m.kind != 1) = false := by simpa using h2
      by_cases h3 : m.ep = L1.ep
      · have d3 : (m.ep != L1.ep) = false := by simpa using h3
        have hF0 : R = (dataE L1.r m.seq m.zs.length, { L1 with r := dataS L1.r m.seq m.zs }) := by
          rw [← hR'.out]
          unfold delR
          rw [if_neg (fun k => k h0), dm.out, if_neg (by rintro (k | k); exact k h1; exact k h2), if_neg (fun k => k h3), if_pos rfl]
        have hF : Hid (R = (dataE L1.r m.seq m.zs.length, { L1 with r := dataS L1.r m.seq m.zs })) := hF0
        clear hF0
        have kE : Hid (∀ x, Below w3.heap.size w3 x → Calls Tryz.prog 19 #[.pointer (some ⟨q.lb, 0, none⟩), .agg #[.int .i64 m.kind, .int .u64 m.tok, .int .i64 m.ep, .int .i64 m.seq, .int .i64 m.ack, .int .u64 m.bits, .int .i64 m.cred, .int .i64 m.fmt, .slice a3 n3 c3]] x fun e w' => e = .returned (.int .i64 R.1) ∧ Hid (Lm w' B q R.2) ∧ Hid (K4 q w w')) := fun x hx =>
          (hear_data m a3 n3 c3 (hL3.out.kept hx) hS3.out.len hS3.out.nil (hS3.out.by_.kept hx)).mono (by
            rintro e w' ⟨rfl, h5, h6⟩
            rw [hF.out]
            refine ⟨by rw [← hS3.out.len], h5, (hK3.out.trans (K4.of_below hx)).trans h6.out⟩)
        clear h0 h1 h2 h3 dm hm' hR' hF
        go_wp2
        (try (go_quiet (fail)))
        go_wp2
        go_region
        go_wp2
        go_region_with (go_at_call 19; refine (kE.out _ (by repeat' with_reducible first | exact Below.refl _ _ | refine Below.drew ?_ | refine Below.drN ?_ _ | refine Below.al ?_ _)).mono ?_; rintro e w4 ⟨rfl, hL4, hK4⟩)
        all_goals go_wp2
        all_goals go_ret
        all_goals exact ⟨rfl, hL4, hK4⟩
      · have d3 : (m.ep != L1.ep) = true := by simpa using h3
        have hF0 : R = (17, L1) := by
          rw [← hR'.out]
          unfold delR
          rw [if_neg (fun k => k h0), dm.out, if_neg (by rintro (k | k); exact k h1; exact k h2), if_pos h3]
        have hF : Hid (R = (17, L1)) := hF0
        clear hF0
        clear h0 h1 h2 h3 dm hm' hR'
        go_wp2
        (try (go_quiet (fail)))
        go_wp2
        go_region
        go_wp2
        go_ret
        rw [hF.out]
        refine ⟨rfl, ?_, ?_⟩
        · exact hL3.out.kept (by repeat' with_reducible first | exact Below.refl _ _ | refine Below.drew ?_ | refine Below.drN ?_ _ | refine Below.al ?_ _)
        · exact hK3.out.trans (K4.of_below (by repeat' with_reducible first | exact Below.refl _ _ | refine Below.drew ?_ | refine Below.drN ?_ _ | refine Below.al ?_ _))
    · have d2 : (m.kind != 1) = true := by simpa using h2
      have hF0 : R = (12, L1) := by
        rw [← hR'.out]
        unfold delR
        rw [if_neg (fun k => k h0), dm.out, if_pos (.inr h2)]
      have hF : Hid (R = (12, L1)) := hF0
      clear hF0
      clear h0 h1 h2 dm hm' hR'
      go_wp2
      (try (go_quiet (fail)))
      go_wp2
      go_ret
      rw [hF.out]
      refine ⟨rfl, ?_, ?_⟩
      · exact hL3.out.kept (by repeat' with_reducible first | exact Below.refl _ _ | refine Below.drew ?_ | refine Below.drN ?_ _ | refine Below.al ?_ _)
      · exact hK3.out.trans (K4.of_below (by repeat' with_reducible first | exact Below.refl _ _ | refine Below.drew ?_ | refine Below.drN ?_ _ | refine Below.al ?_ _))
  · have d1 : (m.tok != L1.tok) = true := by simpa using h1
    have hF0 : R = (12, L1) := by
      rw [← hR'.out]
      unfold delR
      rw [if_neg (fun k => k h0), dm.out, if_pos (.inl h1)]
    have hF : Hid (R = (12, L1)) := hF0
    clear hF0
    clear h0 h1 dm hm' hR'
    go_wp2
    (try (go_quiet (fail)))
    go_wp2
    go_ret
    rw [hF.out]
    refine ⟨rfl, ?_, ?_⟩
    · exact hL3.out.kept (by repeat' with_reducible first | exact Below.refl _ _ | refine Below.drew ?_ | refine Below.drN ?_ _ | refine Below.al ?_ _)
    · exact hK3.out.trans (K4.of_below (by repeat' with_reducible first | exact Below.refl _ _ | refine Below.drew ?_ | refine Below.drN ?_ _ | refine Below.al ?_ _))
set_option maxHeartbeats 2000000 in
set_option maxRecDepth 100000 in
theorem del0b {w : World} {B : Nat} {q : Qb} {L : Lk} (i : Nat) (g : Gr) (h : Lm w B q L) (hE : canE L 0 (i : Nat) = 0) (hg : L.n0[i]? = some g) (h0 : upE g.zs ≠ 0) :
    Calls Tryz.prog 25 #[.pointer (some ⟨q.lb, 0, none⟩), .int .i64 0, .int .i64 (i : Nat)] w fun e w' => e = .returned (.int .i64 (delR { L with n0 := L.n0.eraseIdx i } 0 g.zs).1) ∧ Hid (Lm w' B q (delR { L with n0 := L.n0.eraseIdx i } 0 g.zs).2) ∧ Hid (K4 q w w') := by
  have k0 := can_any 0 (i : Nat) h
  rw [hE] at k0
  have fg := field_g g
  have d0 : (upE g.zs != 0) = true := by simpa using h0
  have hL : Hid (Lm w B q L) := h
  have hg' : Hid (L.n0[i]? = some g) := hg
  clear h hE hg
  generalize hR : delR { L with n0 := L.n0.eraseIdx i } 0 g.zs = R at *
  have hR' : Hid (delR { L with n0 := L.n0.eraseIdx i } 0 g.zs = R) := hR
  clear hR
  go_enter Tryz.func25, Tryz.ntmps25
  go_wp2_with (first | (go_at_call 55; refine k0.mono ?_; rintro e w1 ⟨rfl, hb1⟩; clear k0) | (go_at_call 57; refine (lout0 (hL.out.kept hb1.out) hg'.out).mono ?_; rintro e w2 ⟨rfl, hL2, hK2, hG2⟩) | (go_at_call 56; refine (unpack_any g.a g.n g.c g.zs w2 hG2.out.len hG2.out.by_ hG2.out.le hG2.out.mx).mono ?_; rintro e w3 ⟨hU, hb3⟩; obtain ⟨a3, n3, c3, rfl, hS3⟩ := hU.out; unfold mval))
  have hL3 : Hid (Lm w3 B q { L with n0 := L.n0.eraseIdx i }) := hL2.out.kept hb3.out
  have hK3 : Hid (K4 q w w3) := ((K4.of_below hb1.out).trans hK2.out).trans (K4.of_below hb3.out)
  generalize hL1 : ({ L with n0 := L.n0.eraseIdx i } : Lk) = L1 at *
  have hL1' : Hid (L1.r = L.r ∧ L1.s = L.s) := by rw [← hL1]; exact ⟨rfl, rfl⟩
  clear hU hb3 hL2 hK2 hG2 hb1 hL hg' hL1
  generalize hm : outM g.zs = m at *
  have hm' : Hid (outM g.zs = m) := hm
  clear hm
  have c1 := hL3.out.cell.2.1
  have c3' := hL3.out.cell.2.2.2.1
  have hlt := hL3.out.lt
  obtain ⟨ck, ce, _, _⟩ := hL3.out.ck
  have hF0 : R = (upE g.zs, L1) := by
    rw [← hR'.out]
    unfold delR
    rw [if_pos h0]
  have hF : Hid (R = (upE g.zs, L1)) := hF0
  clear hF0
  clear h0 hm' hR'
  generalize upE g.zs = x at *
  go_wp2
  go_ret
  rw [hF.out]
  refine ⟨rfl, ?_, ?_⟩
  · exact hL3.out.kept (by repeat' with_reducible first | exact Below.refl _ _ | refine Below.drew ?_ | refine Below.drN ?_ _ | refine Below.al ?_ _)
  · exact hK3.out.trans (K4.of_below (by repeat' with_reducible first | exact Below.refl _ _ | refine Below.drew ?_ | refine Below.drN ?_ _ | refine Below.al ?_ _))
theorem del0 {w : World} {B : Nat} {q : Qb} {L : Lk} (i : Nat) (g : Gr) (h : Lm w B q L) (hE : canE L 0 (i : Nat) = 0) (hg : L.n0[i]? = some g) :
    Calls Tryz.prog 25 #[.pointer (some ⟨q.lb, 0, none⟩), .int .i64 0, .int .i64 (i : Nat)] w fun e w' => e = .returned (.int .i64 (delR { L with n0 := L.n0.eraseIdx i } 0 g.zs).1) ∧ Hid (Lm w' B q (delR { L with n0 := L.n0.eraseIdx i } 0 g.zs).2) ∧ Hid (K4 q w w') := by
  by_cases h0 : upE g.zs = 0
  · exact del0a i g h hE hg h0
  · exact del0b i g h hE hg h0
set_option maxHeartbeats 2000000 in
set_option maxRecDepth 100000 in
theorem del1a {w : World} {B : Nat} {q : Qb} {L : Lk} (i : Nat) (g : Gr) (h : Lm w B q L) (hE : canE L 1 (i : Nat) = 0) (hg : L.n1[i]? = some g) (h0 : upE g.zs = 0) :
    Calls Tryz.prog 25 #[.pointer (some ⟨q.lb, 0, none⟩), .int .i64 1, .int .i64 (i : Nat)] w fun e w' => e = .returned (.int .i64 (delR { L with n1 := L.n1.eraseIdx i } 1 g.zs).1) ∧ Hid (Lm w' B q (delR { L with n1 := L.n1.eraseIdx i } 1 g.zs).2) ∧ Hid (K4 q w w') := by
  have k0 := can_any 1 (i : Nat) h
  rw [hE] at k0
  have fg := field_g g
  have d0 : (upE g.zs != 0) = false := by simpa using h0
  have hL : Hid (Lm w B q L) := h
  have hg' : Hid (L.n1[i]? = some g) := hg
  clear h hE hg
  generalize hR : delR { L with n1 := L.n1.eraseIdx i } 1 g.zs = R at *
  have hR' : Hid (delR { L with n1 := L.n1.eraseIdx i } 1 g.zs = R) := hR
  clear hR
  go_enter Tryz.func25, Tryz.ntmps25
  go_wp2_with (first | (go_at_call 55; refine k0.mono ?_; rintro e w1 ⟨rfl, hb1⟩; clear k0) | (go_at_call 57; refine (lout1 (hL.out.kept hb1.out) hg'.out).mono ?_; rintro e w2 ⟨rfl, hL2, hK2, hG2⟩) | (go_at_call 56; refine (unpack_any g.a g.n g.c g.zs w2 hG2.out.len hG2.out.by_ hG2.out.le hG2.out.mx).mono ?_; rintro e w3 ⟨hU, hb3⟩; obtain ⟨a3, n3, c3, rfl, hS3⟩ := hU.out; unfold mval))
  have hL3 : Hid (Lm w3 B q { L with n1 := L.n1.eraseIdx i }) := hL2.out.kept hb3.out
  have hK3 : Hid (K4 q w w3) := ((K4.of_below hb1.out).trans hK2.out).trans (K4.of_below hb3.out)
  generalize hL1 : ({ L with n1 := L.n1.eraseIdx i } : Lk) = L1 at *
  have hL1' : Hid (L1.r = L.r ∧ L1.s = L.s) := by rw [← hL1]; exact ⟨rfl, rfl⟩
  clear hU hb3 hL2 hK2 hG2 hb1 hL hg' hL1
  generalize hm : outM g.zs = m at *
  have hm' : Hid (outM g.zs = m) := hm
  clear hm
  have c1 := hL3.out.cell.2.1
  have c3' := hL3.out.cell.2.2.2.1
  have hlt := hL3.out.lt
  obtain ⟨_, _, ck, ce⟩ := hL3.out.ck
  have dm : Hid (upG g.zs = m) := (outM_zero h0).symm.trans hm'.out
  by_cases h1 : m.tok = L1.tok
  · have d1 : (m.tok != L1.tok) = false := by simpa using h1
    by_cases h2 : m.kind = 2
    · have d2 : (m.kind != 2) = false := by simpa using h2
      by_cases h3 : m.ep = L1.ep
      · have d3 : (m.ep != L1.ep) = false := by simpa using h3
        have hF0 : R = (ackE L1.s m.ack m.cred, { L1 with s := ackS L1.s m.ack m.bits m.cred }) := by
          rw [← hR'.out]
          unfold delR
          rw [if_neg (fun k => k h0), dm.out, if_neg (by rintro (k | k); exact k h1; exact k h2), if_neg (fun k => k h3), if_neg (by decide)]
        have hF : Hid (R = (ackE L1.s m.ack m.cred, { L1 with s := ackS L1.s m.ack m.bits m.cred })) := hF0
        clear hF0
        have kE : Hid (∀ x, Below w3.heap.size w3 x → Calls Tryz.prog 20 #[.pointer (some ⟨q.lb, 0, none⟩), .agg #[.int .i64 m.kind, .int .u64 m.tok, .int .i64 m.ep, .int .i64 m.seq, .int .i64 m.ack, .int .u64 m.bits, .int .i64 m.cred, .int .i64 m.fmt, .slice a3 n3 c3]] x fun e w' => e = .returned (.int .i64 R.1) ∧ Hid (Lm w' B q R.2) ∧ Hid (K4 q w w')) := fun x hx =>
          (hear_ack m a3 n3 c3 (hL3.out.kept hx)).mono (by
            rintro e w' ⟨rfl, h5, h6⟩
            rw [hF.out]
            refine ⟨rfl, h5, (hK3.out.trans (K4.of_below hx)).trans h6.out⟩)
        clear h0 h1 h2 h3 dm hm' hR' hF
        go_wp2
        (try (go_quiet (fail)))
        go_wp2
        go_region
        go_wp2
        go_region_with (go_at_call 20; refine (kE.out _ (by repeat' with_reducible first | exact Below.refl _ _ | refine Below.drew ?_ | refine Below.drN ?_ _ | refine Below.al ?_ _)).mono ?_; rintro e w4 ⟨rfl, hL4, hK4⟩)
        all_goals go_wp2
        all_goals go_ret
        all_goals exact ⟨rfl, hL4, hK4⟩
      · have d3 : (m.ep != L1.ep) = true := by simpa using h3
        have hF0 : R = (17, L1) := by
          rw [← hR'.out]
          unfold delR
          rw [if_neg (fun k => k h0), dm.out, if_neg (by rintro (k | k); exact k h1; exact k h2), if_pos h3]
        have hF : Hid (R = (17, L1)) := hF0
        clear hF0
        clear h0 h1 h2 h3 dm hm' hR'
        go_wp2
        (try (go_quiet (fail)))
        go_wp2
        go_region
        go_wp2
        go_ret
        rw [hF.out]
        refine ⟨rfl, ?_, ?_⟩
        · exact hL3.out.kept (by repeat' with_reducible first | exact Below.refl _ _ | refine Below.drew ?_ | refine Below.drN ?_ _ | refine Below.al ?_ _)
        · exact hK3.out.trans (K4.of_below (by repeat' with_reducible first | exact Below.refl _ _ | refine Below.drew ?_ | refine Below.drN ?_ _ | refine Below.al ?_ _))
    · have d2 : (m.kind != 2) = true := by simpa using h2
      have hF0 : R = (12, L1) := by
        rw [← hR'.out]
        unfold delR
        rw [if_neg (fun k => k h0), dm.out, if_pos (.inr h2)]
      have hF : Hid (R = (12, L1)) := hF0
      clear hF0
      clear h0 h1 h2 dm hm' hR'
      go_wp2
      (try (go_quiet (fail)))
      go_wp2
      go_ret
      rw [hF.out]
      refine ⟨rfl, ?_, ?_⟩
      · exact hL3.out.kept (by repeat' with_reducible first | exact Below.refl _ _ | refine Below.drew ?_ | refine Below.drN ?_ _ | refine Below.al ?_ _)
      · exact hK3.out.trans (K4.of_below (by repeat' with_reducible first | exact Below.refl _ _ | refine Below.drew ?_ | refine Below.drN ?_ _ | refine Below.al ?_ _))
  · have d1 : (m.tok != L1.tok) = true := by simpa using h1
    have hF0 : R = (12, L1) := by
      rw [← hR'.out]
      unfold delR
      rw [if_neg (fun k => k h0), dm.out, if_pos (.inl h1)]
    have hF : Hid (R = (12, L1)) := hF0
    clear hF0
    clear h0 h1 dm hm' hR'
    go_wp2
    (try (go_quiet (fail)))
    go_wp2
    go_ret
    rw [hF.out]
    refine ⟨rfl, ?_, ?_⟩
    · exact hL3.out.kept (by repeat' with_reducible first | exact Below.refl _ _ | refine Below.drew ?_ | refine Below.drN ?_ _ | refine Below.al ?_ _)
    · exact hK3.out.trans (K4.of_below (by repeat' with_reducible first | exact Below.refl _ _ | refine Below.drew ?_ | refine Below.drN ?_ _ | refine Below.al ?_ _))
set_option maxHeartbeats 2000000 in
set_option maxRecDepth 100000 in
theorem del1b {w : World} {B : Nat} {q : Qb} {L : Lk} (i : Nat) (g : Gr) (h : Lm w B q L) (hE : canE L 1 (i : Nat) = 0) (hg : L.n1[i]? = some g) (h0 : upE g.zs ≠ 0) :
    Calls Tryz.prog 25 #[.pointer (some ⟨q.lb, 0, none⟩), .int .i64 1, .int .i64 (i : Nat)] w fun e w' => e = .returned (.int .i64 (delR { L with n1 := L.n1.eraseIdx i } 1 g.zs).1) ∧ Hid (Lm w' B q (delR { L with n1 := L.n1.eraseIdx i } 1 g.zs).2) ∧ Hid (K4 q w w') := by
  have k0 := can_any 1 (i : Nat) h
  rw [hE] at k0
  have fg := field_g g
  have d0 : (upE g.zs != 0) = true := by simpa using h0
  have hL : Hid (Lm w B q L) := h
  have hg' : Hid (L.n1[i]? = some g) := hg
  clear h hE hg
  generalize hR : delR { L with n1 := L.n1.eraseIdx i } 1 g.zs = R at *
  have hR' : Hid (delR { L with n1 := L.n1.eraseIdx i } 1 g.zs = R) := hR
  clear hR
  go_enter Tryz.func25, Tryz.ntmps25
  go_wp2_with (first | (go_at_call 55; refine k0.mono ?_; rintro e w1 ⟨rfl, hb1⟩; clear k0) | (go_at_call 57; refine (lout1 (hL.out.kept hb1.out) hg'.out).mono ?_; rintro e w2 ⟨rfl, hL2, hK2, hG2⟩) | (go_at_call 56; refine (unpack_any g.a g.n g.c g.zs w2 hG2.out.len hG2.out.by_ hG2.out.le hG2.out.mx).mono ?_; rintro e w3 ⟨hU, hb3⟩; obtain ⟨a3, n3, c3, rfl, hS3⟩ := hU.out; unfold mval))
  have hL3 : Hid (Lm w3 B q { L with n1 := L.n1.eraseIdx i }) := hL2.out.kept hb3.out
  have hK3 : Hid (K4 q w w3) := ((K4.of_below hb1.out).trans hK2.out).trans (K4.of_below hb3.out)
  generalize hL1 : ({ L with n1 := L.n1.eraseIdx i } : Lk) = L1 at *
  have hL1' : Hid (L1.r = L.r ∧ L1.s = L.s) := by rw [← hL1]; exact ⟨rfl, rfl⟩
  clear hU hb3 hL2 hK2 hG2 hb1 hL hg' hL1
  generalize hm : outM g.zs = m at *
  have hm' : Hid (outM g.zs = m) := hm
  clear hm
  have c1 := hL3.out.cell.2.1
  have c3' := hL3.out.cell.2.2.2.1
  have hlt := hL3.out.lt
  obtain ⟨_, _, ck, ce⟩ := hL3.out.ck
  have hF0 : R = (upE g.zs, L1) := by
    rw [← hR'.out]
    unfold delR
    rw [if_pos h0]
  have hF : Hid (R = (upE g.zs, L1)) := hF0
  clear hF0
  clear h0 hm' hR'
  generalize upE g.zs = x at *
  go_wp2
  go_ret
  rw [hF.out]
  refine ⟨rfl, ?_, ?_⟩
  · exact hL3.out.kept (by repeat' with_reducible first | exact Below.refl _ _ | refine Below.drew ?_ | refine Below.drN ?_ _ | refine Below.al ?_ _)
  · exact hK3.out.trans (K4.of_below (by repeat' with_reducible first | exact Below.refl _ _ | refine Below.drew ?_ | refine Below.drN ?_ _ | refine Below.al ?_ _))
theorem del1 {w : World} {B : Nat} {q : Qb} {L : Lk} (i : Nat) (g : Gr) (h : Lm w B q L) (hE : canE L 1 (i : Nat) = 0) (hg : L.n1[i]? = some g) :
    Calls Tryz.prog 25 #[.pointer (some ⟨q.lb, 0, none⟩), .int .i64 1, .int .i64 (i : Nat)] w fun e w' => e = .returned (.int .i64 (delR { L with n1 := L.n1.eraseIdx i } 1 g.zs).1) ∧ Hid (Lm w' B q (delR { L with n1 := L.n1.eraseIdx i } 1 g.zs).2) ∧ Hid (K4 q w w') := by
  by_cases h0 : upE g.zs = 0
  · exact del1a i g h hE hg h0
  · exact del1b i g h hE hg h0
end Go.Proofs.YtfipdldoklkciaaGreat
namespace Go.Proofs.YtfipdldoklkciaaGreat
open Go.RowKit
set_option linter.unusedVariables false
def aL1 : Lk := l0 7 4
def aL2 (en : Ent) : Lk := { aL1 with s := addA aL1.s en }
def aL3 (en : Ent) (g1 g2 : Gr) : Lk := { tk1 (aL2 en) with n0 := [g1], n1 := [g2] }
def aL4 (en : Ent) (g1 g2 : Gr) : Lk := { aL3 en g1 g2 with n0 := [], r := putA (r0 4) 1 [97] }
theorem a_due (en : Ent) (h1 : en.zs = [97]) (h2 : en.time = 0) (h3 : en.wait = 1) (h4 : en.there = false) : dueN (aL2 en) = [(1, [97])] := by
  have t1 : tellB 1 en = true := by simp [tellB, h2, h4]
  unfold dueN
  show dueL (addA (s0 4 4) en) (0 + 1) 1 = _
  simp [dueL, addA, s0, t1, h1]
theorem a_lok (en : Ent) (h1 : en.zs = [97]) : Lok (aL2 en) := by
  refine ⟨by show (0 : Int) ≤ 7; decide, by show (7 : Int) < _; decide, by show (0 : Int) ≤ 0; decide, by show (0 : Int) ≤ _; decide, by show (1 : Int) ≤ 1; decide, fun z e he => ?_⟩
  have he : (if z = 1 then some en else none) = some e := he
  split at he
  · obtain rfl := Option.some.inj he
    rw [h1]; decide
  · cases he
theorem a_del (en : Ent) (g1 g2 : Gr) (h1 : en.zs = [97]) (hg : g1.zs = pkB (tellM (aL2 en) (mdata 1 [97]))) : delR { aL3 en g1 g2 with n0 := (aL3 en g1 g2).n0.eraseIdx 0 } 0 g1.zs = (0, aL4 en g1 g2) := by
  obtain ⟨p1, p2⟩ := pk_data (a_lok en h1) (by show (1 : Int) ≤ _; decide) (show (0 : Int) ≤ 1 by decide) (show (1 : Int) ≤ 4611686018427387904 by decide) (show ([97] : List Int).length ≤ 1100 by decide) (by simp)
  obtain ⟨u1, u2, _⟩ := up_pk p1 p2
  unfold delR
  rw [hg, u1, u2, if_neg (by decide), if_neg (by rintro (k | k); exact k rfl; exact k rfl), if_neg (fun k => k rfl), if_pos rfl]
  rfl
theorem a_grs (en : Ent) (gs : List Gr) (h1 : en.zs = [97]) (h2 : en.time = 0) (h3 : en.wait = 1) (h4 : en.there = false) (h : grs (aL2 en) (dueN (aL2 en)) gs) : ∃ g, gs = [g] ∧ g.zs = pkB (tellM (aL2 en) (mdata 1 [97])) := by
  rw [a_due en h1 h2 h3 h4] at h
  unfold grs at h
  match gs with
  | [] => simp at h
  | [g] => simp at h; exact ⟨g, rfl, h.1⟩
  | a :: b :: l => simp at h
theorem a_tick {w' : World} {B : Nat} {q : Qb} (en : Ent) (h1 : en.zs = [97]) (h2 : en.time = 0) (h3 : en.wait = 1) (h4 : en.there = false) (h : TkR w' B q (aL2 en)) : ∃ g1 g2, g1.zs = pkB (tellM (aL2 en) (mdata 1 [97])) ∧ Lm w' B q (aL3 en g1 g2) := by
  obtain ⟨gs, g, k1, _, _, k4⟩ := h.2 (by show (0 : Int) < _; decide)
  obtain ⟨g1, rfl, e1⟩ := a_grs en gs h1 h2 h3 h4 k1
  exact ⟨g1, g, e1, k4⟩
theorem a_send : sendE aL1 1 = 0 := by kernel_rfl
set_option maxHeartbeats 2000000 in
set_option maxRecDepth 100000 in
theorem alive_any (w : World) : Calls Tryz.prog 6 #[] w fun e w' => e = .returned (.bool true) ∧ Hid (Below w.heap.size w w') := by
  have kc := fun (w : World) (C : Array Value) (n c : Nat) => Lib.run_convert_bytes_const (P := Tryz.prog) w 42 5 C n c Tryz.underlying42 Tryz.underlying5
  generalize hB : w.heap.size = B at *
  have hN : Hid (w.heap.size = B) := hB
  clear hB
  go_enter Tryz.func6, Tryz.ntmps6
  go_wp2_with fail
  refine (knew_yes 4 7 w (by decide) (by decide) (by decide) (by decide)).mono ?_
  rintro e w1 ⟨q, rfl, hL1, hB1⟩
  rw [hN.out] at hL1 hB1
  have hL1' : Hid (Lm w1 B q aL1) := hL1
  have hz1 : Hid (B ≤ w1.heap.size) := hL1'.out.B_le
  clear hL1
  go_wp2_with fail
  refine (send_any (some ⟨w1.heap.size, 0, none⟩) 1 1 [97] (hL1'.out.kept (Below.al (Below.refl _ _) (.cells #[.int .u8 97] 5 (1, 2)))) (by have := hz1.out; simp; omega) rfl (by simp) (one_mark _ _ (by decide) (by decide))).mono ?_
  rintro e w2 ⟨rfl, hS2, hK2⟩
  obtain ⟨en, e1, e2, e3, e4, hL2⟩ := hS2.out.2 a_send
  have hL2' : Hid (Lm w2 B q (aL2 en)) := hL2
  have hz2 : Hid (B ≤ w2.heap.size) := hL2.B_le
  have hB2 : Hid (Below B w w2) := hK2.out.below (hB1.out.alloc hz1.out _) (by have := hz1.out; simp; omega) (hL1'.out.kept (Below.al (Below.refl _ _) _))
  have he : Hid (en.zs = [97] ∧ en.time = 0 ∧ en.wait = 1 ∧ en.there = false) := ⟨e1, e2, e3, e4⟩
  have es := a_send
  rw [es]
  clear es hS2 hK2 hL2 hB1 hL1' hz1 e1 e2 e3 e4
  go_wp2_with fail
  refine (tick_any hL2'.out (by show (1 : Int) ≤ _; decide) (by show (0 : Int) ≤ _; decide)).mono ?_
  rintro e w3 ⟨rfl, hT3, hK3⟩
  obtain ⟨g1, g2, hg, hL3⟩ := a_tick en he.out.1 he.out.2.1 he.out.2.2.1 he.out.2.2.2 hT3.out
  have hL3' : Hid (Lm w3 B q (aL3 en g1 g2)) := hL3
  have hB3 : Hid (Below B w w3) := hK3.out.below hB2.out hz2.out hL2'.out
  have hz3 : Hid (B ≤ w3.heap.size) := hL3.B_le
  have hd : Hid (delR { aL3 en g1 g2 with n0 := (aL3 en g1 g2).n0.eraseIdx 0 } 0 g1.zs = (0, aL4 en g1 g2)) := a_del en g1 g2 he.out.1 hg
  have hx0 : Hid (canE (aL3 en g1 g2) 0 (0 : Nat) = 0) := rfl
  have hx1 : Hid ((aL3 en g1 g2).n0[0]? = some g1) := rfl
  have hw0 : Hid ((aL3 en g1 g2).n0.length = 1) := rfl
  have hw1 : Hid ((aL3 en g1 g2).n1.length = 1) := rfl
  clear hg hT3 hK3 hL3 hB2 hL2' hz2
  have k0 := way0 hL3'.out
  rw [hw0.out] at k0
  go_wp2_with fail
  refine k0.mono ?_
  rintro e w4 ⟨rfl, hb4⟩
  have k1 := way1 (hL3'.out.kept hb4.out)
  rw [hw1.out] at k1
  clear k0
  go_wp2_with fail
  refine k1.mono ?_
  rintro e w5 ⟨rfl, hb5⟩
  have hL5 : Hid (Lm w5 B q (aL3 en g1 g2)) := (hL3'.out.kept hb4.out).kept hb5.out
  have hB5 : Hid (Below B w w5) := (hB3.out.trans (hb4.out.mono hz3.out)).trans (hb5.out.mono (Nat.le_trans hz3.out hb4.out.size))
  have hz5 : Hid (B ≤ w5.heap.size) := hL5.out.B_le
  clear k1 hb4 hb5 hL3' hB3 hz3
  have k6 := del0 0 g1 hL5.out hx0.out hx1.out
  rw [hd.out] at k6
  go_wp2_with fail
  refine k6.mono ?_
  rintro e w6 ⟨rfl, hL6, hK6⟩
  have hL6' : Hid (Lm w6 B q (aL4 en g1 g2)) := hL6
  have hB6 : Hid (Below B w w6) := hK6.out.below hB5.out hz5.out hL5.out
  have hz6 : Hid (B ≤ w6.heap.size) := hL6.out.B_le
  clear k6 hL6 hK6 hL5 hB5 hz5
  go_wp2_with fail
  refine (poll_any hL6'.out (by show (0 : Int) < _; decide)).mono ?_
  rintro e w7 ⟨hP7, hL7, hK7⟩
  obtain ⟨a, n, c, rfl, hS7⟩ := hP7.out
  have hL7' : Hid (Lm w7 B q { aL4 en g1 g2 with r := takeA (putA (r0 4) 1 [97]) }) := hL7
  have hB7 : Hid (Below B w w7) := hK7.out.below hB6.out hz6.out hL6'.out
  have hz7 : Hid (B ≤ w7.heap.size) := hL7.out.B_le
  have hS7' : Hid (Sl w7 w6.heap.size a n c [97]) := hS7
  have hi : ((aL4 en g1 g2).r.L ((aL4 en g1 g2).r.tk + 1)).isSome = true := rfl
  rw [hi]
  have hcs := conv_str hS7'.out.by_ n c hS7'.out.len
  have hstr : ((strOfNums [97]).toList == [97]) = true := by rw [ByteArray.toList_eq, strOfNums_data]; decide
  clear hi hP7 hL7 hK7 hB6 hz6 hL6' hS7
  have k8 := sent_any hL7'.out
  have k9 := got_any hL7'.out
  have s1 : Hid ((aL4 en g1 g2).s.nxt - 1 = 1) := rfl
  have s2 : Hid ((takeA (putA (r0 4) 1 [97])).tk = 1) := rfl
  rw [show ({ aL4 en g1 g2 with r := takeA (putA (r0 4) 1 [97]) } : Lk).s.nxt - 1 = 1 from s1.out] at k8
  rw [show ({ aL4 en g1 g2 with r := takeA (putA (r0 4) 1 [97]) } : Lk).r.tk = 1 from s2.out] at k9
  go_wp2_with (first | (go_at_call 12; refine k8.mono ?_; rintro e w8 ⟨rfl, hw8⟩; obtain rfl := hw8.symm; clear k8) | (go_at_call 13; refine k9.mono ?_; rintro e w9 ⟨rfl, hw9⟩; obtain rfl := hw9.symm; clear k9))
  go_ret
  all_goals trace_state
  all_goals exact ⟨rfl, hB7⟩
end Go.Proofs.YtfipdldoklkciaaGreat
namespace Go.Proofs.YtfipdldoklkciaaGreat
open Go.RowKit Go.ChangeShapes Go.WideShapes
set_option linter.unusedVariables false
set_option linter.unusedSimpArgs false
/-- A message's load as it is read. -/
structure MsgV (w : World) (m : Mg) (a : Option Addr) (n c : Nat) : Prop where
  ok : Mok m
  by_ : Bytes w a m.zs
  len : m.zs.length = n
  le : n ≤ c
  mx : c ≤ 9223372036854775807
  nil : a = none → c = 0
  few : n ≤ 140737488351232
theorem MsgV.kept {w w' : World} {m : Mg} {a : Option Addr} {n c : Nat} (h : MsgV w m a n c) (hb : Below w.heap.size w w') : MsgV w' m a n c := ⟨h.ok, h.by_.kept hb, h.len, h.le, h.mx, h.nil, h.few⟩
theorem wf_u64 {n : Int} (h : (Lit.int .u64 n).wf = true) : 0 ≤ n ∧ n < 18446744073709551616 := by
  simp [Lit.wf, show IntKind.u64.min = 0 from by decide, show IntKind.u64.max = 18446744073709551615 from by decide] at h
  omega
def mcells (m : Mg) (a : Option Addr) (n c : Nat) : List Value := [.int .i64 m.kind, .int .u64 m.tok, .int .i64 m.ep, .int .i64 m.seq, .int .i64 m.ack, .int .u64 m.bits, .int .i64 m.cred, .int .i64 m.fmt, .slice a n c]
section
variable {H : Type} {enc : TypeId × Value → H} {w : World}
theorem mbytes_one : Tryz.prog.bytesOf 5 = 1 := by kernel_rfl
theorem open_bytesw {fuel : Nat} {cs : List Value} {x : DataW H × List MemPlace} (h : DataW.trod enc Tryz.prog w 0 (fun _ => true) true fuel 42 cs = some x) (hw : ∀ n ∈ x.1.weights Tryz.prog 42, n ≤ reachBytes) :
    ∃ a n cap zs, cs = [.slice a n cap] ∧ List.length zs = n ∧ n ≤ cap ∧ cap ≤ 9223372036854775807 ∧ (a = none → cap = 0) ∧ n ≤ 140737488351232 ∧ Bytes w a zs := by
  rcases open_ints Tryz.underlying42 Tryz.underlying5 (by kernel_rfl) h with ⟨hcs, hx⟩ | ⟨a, l, c, zs, hcs, _, hl, hm, hz, hx, hcell, hwz⟩
  · exact ⟨none, 0, 0, [], hcs, rfl, Nat.le_refl _, by decide, fun _ => rfl, by decide, ⟨by simp, by simp, .inl rfl⟩⟩
  · have hz' : zs.length = c := by simpa using hz
    have hlen : (zs.take l).length = l := by rw [List.length_take]; omega
    have hr : IsRow .u8 w (some a) l c zs := .inr ⟨a, rfl, hl, hm, hz', hcell, hwz⟩
    have hb := bytes_of_row hr
    have hs : l ≤ 140737488351232 := by
      have h1 : (lits .u8 (zs.take l) (H := H)).length + (lits .u8 (zs.drop l) (H := H)).length = c := by
        simp only [lits, List.length_map, List.length_take, List.length_drop]; omega
      have h2 := hw (((lits .u8 (zs.take l) (H := H)).length + (lits .u8 (zs.drop l) (H := H)).length) * Tryz.prog.bytesOf 5) (by rw [hx]; simp [DataW.weights, Tryz.underlying42])
      rw [h1, mbytes_one] at h2
      unfold reachBytes at h2
      omega
    exact ⟨some a, l, c, zs.take l, hcs, hlen, by omega, by unfold maxLen at hm; omega, (fun h => by cases h), hs, hb.2⟩
set_option maxRecDepth 100000 in
theorem open_msg {fuel : Nat} {cs : List Value} {x : DataW H × List MemPlace} (h : DataW.trod enc Tryz.prog w 0 (fun _ => true) true fuel 100 cs = some x) (hw : ∀ n ∈ x.1.weights Tryz.prog 100, n ≤ reachBytes) :
    ∃ m a n c, cs = mcells m a n c ∧ MsgV w m a n c := by
  obtain ⟨fs, hfs, hty⟩ : ∃ fs : Array Field, Tryz.prog.underlying 100 = some (.struct fs) ∧ fs.toList.map (fun f => (f.type, f.offset)) = [(3, 0), (22, 1), (3, 2), (3, 3), (3, 4), (22, 5), (3, 6), (3, 7), (42, 8)] := ⟨_, Tryz.underlying100, rfl⟩
  obtain ⟨xs, n, rfl, hx, hlen, hxl, hf⟩ := DataW.trod_struct hfs h
  rw [show Tryz.prog.cellsOf 100 = 9 by kernel_rfl] at hlen
  have h9 : fs.size = 9 := by have := congrArg List.length hty; simpa using this
  match cs, hlen with
  | [c0, c1, c2, c3, c4, c5, c6, c7, c8], _ =>
  have hF : ∀ i (hi : i < 9), ∃ y, DataW.trod enc Tryz.prog w 0 (fun _ => true) true n (([(3, 0), (22, 1), (3, 2), (3, 3), (3, 4), (22, 5), (3, 6), (3, 7), (42, 8)] : List (TypeId × Nat)).getD i (0, 0)).1
      ((([c0, c1, c2, c3, c4, c5, c6, c7, c8] : List Value).drop (([(3, 0), (22, 1), (3, 2), (3, 3), (3, 4), (22, 5), (3, 6), (3, 7), (42, 8)] : List (TypeId × Nat)).getD i (0, 0)).2).take (Tryz.prog.cellsOf (([(3, 0), (22, 1), (3, 2), (3, 3), (3, 4), (22, 5), (3, 6), (3, 7), (42, 8)] : List (TypeId × Nat)).getD i (0, 0)).1)) = some y ∧
      ∀ n ∈ y.1.weights Tryz.prog (([(3, 0), (22, 1), (3, 2), (3, 3), (3, 4), (22, 5), (3, 6), (3, 7), (42, 8)] : List (TypeId × Nat)).getD i (0, 0)).1, n ≤ reachBytes := by
    intro i hi
    have hif : i < fs.size := by omega
    have e := hf i fs[i] (Array.getElem?_eq_getElem hif)
    have hy : xs[i]? = some (xs[i]'(by omega)) := List.getElem?_eq_getElem (by omega)
    have ht : ([(3, 0), (22, 1), (3, 2), (3, 3), (3, 4), (22, 5), (3, 6), (3, 7), (42, 8)] : List (TypeId × Nat)).getD i (0, 0) = (fs[i].type, fs[i].offset) := by
      rw [← hty, List.getD_eq_getElem?_getD, List.getElem?_map, Array.getElem?_toList, Array.getElem?_eq_getElem hif]
      rfl
    rw [ht]
    refine ⟨_, e.trans hy, fun n hn => hw n ?_⟩
    rw [hx]
    simp only [DataW.weights, hfs]
    exact DataW.weights_mem_each (j := i) (t := fs[i].type) (d := (xs[i]'(by omega)).1) (by rw [List.getElem?_map, Array.getElem?_toList, Array.getElem?_eq_getElem hif]; rfl) (by rw [List.getElem?_map, hy]; rfl) n hn
  have k0 : Tryz.prog.cellsOf 42 = 1 := by kernel_rfl
  have k1 : Tryz.prog.cellsOf 3 = 1 := by kernel_rfl
  have k2 : Tryz.prog.cellsOf 22 = 1 := by kernel_rfl
  obtain ⟨y0, e0, g0⟩ := hF 0 (by omega)
  obtain ⟨y1, e1, g1⟩ := hF 1 (by omega)
  obtain ⟨y2, e2, g2⟩ := hF 2 (by omega)
  obtain ⟨y3, e3, g3⟩ := hF 3 (by omega)
  obtain ⟨y4, e4, g4⟩ := hF 4 (by omega)
  obtain ⟨y5, e5, g5⟩ := hF 5 (by omega)
  obtain ⟨y6, e6, g6⟩ := hF 6 (by omega)
  obtain ⟨y7, e7, g7⟩ := hF 7 (by omega)
  obtain ⟨y8, e8, g8⟩ := hF 8 (by omega)
  clear hF hf
  simp only [List.getD_cons_zero, List.getD_cons_succ, k0, k1, k2, List.drop_zero, List.drop_succ_cons, List.take_succ_cons, List.take_zero] at e0 e1 e2 e3 e4 e5 e6 e7 e8
  simp only [List.getD_cons_zero, List.getD_cons_succ] at g8
  obtain ⟨z0, q0, _, w0⟩ := DataW.trod_int Tryz.underlying3 e0
  obtain ⟨z1, q1, _, w1⟩ := DataW.trod_int Tryz.underlying22 e1
  obtain ⟨z2, q2, _, w2⟩ := DataW.trod_int Tryz.underlying3 e2
  obtain ⟨z3, q3, _, w3⟩ := DataW.trod_int Tryz.underlying3 e3
  obtain ⟨z4, q4, _, w4⟩ := DataW.trod_int Tryz.underlying3 e4
  obtain ⟨z5, q5, _, w5⟩ := DataW.trod_int Tryz.underlying22 e5
  obtain ⟨z6, q6, _, w6⟩ := DataW.trod_int Tryz.underlying3 e6
  obtain ⟨z7, q7, _, w7⟩ := DataW.trod_int Tryz.underlying3 e7
  obtain ⟨a, l, c, zs, q8, b1, b2, b3, b4, b5, b6⟩ := open_bytesw e8 g8
  simp only [List.cons.injEq, and_true] at q0 q1 q2 q3 q4 q5 q6 q7 q8
  subst q0 q1 q2 q3 q4 q5 q6 q7 q8
  have u1 := wf_u64 w1
  have u5 := wf_u64 w5
  refine ⟨⟨z0, z1, z2, z3, z4, z5, z6, z7, zs⟩, a, l, c, rfl, ⟨u1.1, u1.2, u5.1, u5.2, fun x hx => ?_⟩, b6, b1, b2, b3, b4, b5⟩
  exact b6.1 x hx
set_option maxRecDepth 100000 in
theorem open_msg_arg {r : Reach} {b0 : Nat} {v : Value} {d : DataW H} {p : List MemPlace} (hv : Value.okWide Tryz.prog w r b0 100 v) (h : DataW.Trod enc Tryz.prog w 0 (fun _ => true) true 100 v d p) (hw : ∀ n ∈ d.weights Tryz.prog 100, n ≤ reachBytes) :
    ∃ m a n c, v = mval m a n c ∧ MsgV w m a n c := by
  obtain ⟨fs, hfs⟩ : ∃ fs : Array Field, Tryz.prog.underlying 100 = some (.struct fs) := ⟨_, Tryz.underlying100⟩
  obtain ⟨cs, rfl, _⟩ := okWide_struct hfs hv
  obtain ⟨fuel, hf⟩ := h
  obtain ⟨m, a, n, c, hcs, hn⟩ := open_msg hf hw
  refine ⟨m, a, n, c, ?_, hn⟩
  have h1 : cs.toList = mcells m a n c := by rw [← hcs]; simp [Value.cells]
  have : cs = (mcells m a n c).toArray := by rw [← h1, Array.toArray_toList]
  rw [this]
  rfl
end
end Go.Proofs.YtfipdldoklkciaaGreat
namespace Go.Proofs.YtfipdldoklkciaaGreat
open Go.RowKit
set_option linter.unusedVariables false
/-- A pointer to no link, or to one that nobody made. -/
def Un (w : World) (p : Value) : Prop := p = .pointer none ∨ ∃ lb, p = .pointer (some ⟨lb, 0, none⟩) ∧ w.cell? ⟨lb, 0, none⟩ = some (.bool false) ∧ lb < w.heap.size
theorem Un.kept {w w' : World} {p : Value} (h : Un w p) (hb : Below w.heap.size w w') : Un w' p := by
  rcases h with h | ⟨lb, h1, h2, h3⟩
  · exact .inl h
  · exact .inr ⟨lb, h1, (hb.cell (p := ⟨lb, 0, none⟩) h3).trans h2, Nat.lt_of_lt_of_le h3 hb.size⟩
theorem kmade_un {w : World} {p : Value} (h : Un w p) : Calls Tryz.prog 41 #[p] w fun e w' => e = .returned (.bool false) ∧ w' = w := by
  rcases h with rfl | ⟨lb, rfl, h, _⟩
  · exact kmade_nil w
  · exact kmade_no lb w h
theorem bl_refl (w : World) : Hid (Below w.heap.size w w) := Below.refl _ _
theorem un_send {w : World} {p : Value} (a : Option Addr) (n c : Nat) (h : Un w p) : Calls Tryz.prog 23 #[p, .slice a n c] w fun e w' => e = .returned (.int .i64 2) ∧ Hid (Below w.heap.size w w') := by
  have k0 := kmade_un h
  clear h
  go_enter Tryz.func23, Tryz.ntmps23
  go_wp2_with (go_at_call 41; refine k0.mono ?_; rintro e w1 ⟨rfl, hw1⟩; obtain rfl := hw1.symm; clear hw1)
  go_ret
  refine ⟨rfl, ?_⟩
  show Below _ _ _
  repeat' with_reducible first | exact Below.refl _ _ | refine Below.drew ?_ | refine Below.drN ?_ _ | refine Below.al ?_ _
theorem un_poll {w : World} {p : Value}  (h : Un w p) : Calls Tryz.prog 26 #[p] w fun e w' => e = .returned (.tuple #[.slice none 0 0, .bool false]) ∧ Hid (Below w.heap.size w w') := by
  have k0 := kmade_un h
  clear h
  go_enter Tryz.func26, Tryz.ntmps26
  go_wp2_with (go_at_call 41; refine k0.mono ?_; rintro e w1 ⟨rfl, hw1⟩; obtain rfl := hw1.symm; clear hw1)
  go_ret2
  refine ⟨rfl, ?_⟩
  show Below _ _ _
  repeat' with_reducible first | exact Below.refl _ _ | refine Below.drew ?_ | refine Below.drN ?_ _ | refine Below.al ?_ _
theorem un_tick {w : World} {p : Value}  (h : Un w p) : Calls Tryz.prog 24 #[p] w fun e w' => e = .returned (.tuple #[]) ∧ Hid (Below w.heap.size w w') := by
  have k0 := kmade_un h
  clear h
  go_enter Tryz.func24, Tryz.ntmps24
  go_wp2_with (go_at_call 41; refine k0.mono ?_; rintro e w1 ⟨rfl, hw1⟩; obtain rfl := hw1.symm; clear hw1)
  refine bodyPost_ret (v := .tuple #[]) (results_none rfl _ _ _) rfl ⟨rfl, ?_⟩
  
  show Below _ _ _
  repeat' with_reducible first | exact Below.refl _ _ | refine Below.drew ?_ | refine Below.drN ?_ _ | refine Below.al ?_ _
theorem un_rec {w : World} {p : Value}  (h : Un w p) : Calls Tryz.prog 31 #[p] w fun e w' => e = .returned (.tuple #[]) ∧ Hid (Below w.heap.size w w') := by
  have k0 := kmade_un h
  clear h
  go_enter Tryz.func31, Tryz.ntmps31
  go_wp2_with (go_at_call 41; refine k0.mono ?_; rintro e w1 ⟨rfl, hw1⟩; obtain rfl := hw1.symm; clear hw1)
  refine bodyPost_ret (v := .tuple #[]) (results_none rfl _ _ _) rfl ⟨rfl, ?_⟩
  
  show Below _ _ _
  repeat' with_reducible first | exact Below.refl _ _ | refine Below.drew ?_ | refine Below.drN ?_ _ | refine Below.al ?_ _
theorem un_can {w : World} {p : Value} (net i : Int) (h : Un w p) : Calls Tryz.prog 55 #[p, .int .i64 net, .int .i64 i] w fun e w' => e = .returned (.int .i64 2) ∧ Hid (Below w.heap.size w w') := by
  have k0 := kmade_un h
  clear h
  go_enter Tryz.func55, Tryz.ntmps55
  go_wp2_with (go_at_call 41; refine k0.mono ?_; rintro e w1 ⟨rfl, hw1⟩; obtain rfl := hw1.symm; clear hw1)
  go_ret
  refine ⟨rfl, ?_⟩
  show Below _ _ _
  repeat' with_reducible first | exact Below.refl _ _ | refine Below.drew ?_ | refine Below.drN ?_ _ | refine Below.al ?_ _
theorem un_forge {w : World} {p : Value} (net : Int) (a : Option Addr) (n c : Nat) (h : Un w p) : Calls Tryz.prog 30 #[p, .int .i64 net, .slice a n c] w fun e w' => e = .returned (.int .i64 2) ∧ Hid (Below w.heap.size w w') := by
  have k0 := kmade_un h
  clear h
  go_enter Tryz.func30, Tryz.ntmps30
  go_wp2_with (go_at_call 41; refine k0.mono ?_; rintro e w1 ⟨rfl, hw1⟩; obtain rfl := hw1.symm; clear hw1)
  go_ret
  refine ⟨rfl, ?_⟩
  show Below _ _ _
  repeat' with_reducible first | exact Below.refl _ _ | refine Below.drew ?_ | refine Below.drN ?_ _ | refine Below.al ?_ _
theorem un_way {w : World} {p : Value} (net : Int) (h : Un w p) : Calls Tryz.prog 10 #[p, .int .i64 net] w fun e w' => e = .returned (.int .i64 0) ∧ Hid (Below w.heap.size w w') := by
  have k0 := kmade_un h
  clear h
  go_enter Tryz.func10, Tryz.ntmps10
  go_wp2_with (go_at_call 41; refine k0.mono ?_; rintro e w1 ⟨rfl, hw1⟩; obtain rfl := hw1.symm; clear hw1)
  go_ret
  refine ⟨rfl, ?_⟩
  show Below _ _ _
  repeat' with_reducible first | exact Below.refl _ _ | refine Below.drew ?_ | refine Below.drN ?_ _ | refine Below.al ?_ _
theorem un_sent {w : World} {p : Value}  (h : Un w p) : Calls Tryz.prog 12 #[p] w fun e w' => e = .returned (.int .i64 0) ∧ Hid (Below w.heap.size w w') := by
  have k0 := kmade_un h
  clear h
  go_enter Tryz.func12, Tryz.ntmps12
  go_wp2_with (go_at_call 41; refine k0.mono ?_; rintro e w1 ⟨rfl, hw1⟩; obtain rfl := hw1.symm; clear hw1)
  go_ret
  refine ⟨rfl, ?_⟩
  show Below _ _ _
  repeat' with_reducible first | exact Below.refl _ _ | refine Below.drew ?_ | refine Below.drN ?_ _ | refine Below.al ?_ _
theorem un_got {w : World} {p : Value}  (h : Un w p) : Calls Tryz.prog 13 #[p] w fun e w' => e = .returned (.int .i64 0) ∧ Hid (Below w.heap.size w w') := by
  have k0 := kmade_un h
  clear h
  go_enter Tryz.func13, Tryz.ntmps13
  go_wp2_with (go_at_call 41; refine k0.mono ?_; rintro e w1 ⟨rfl, hw1⟩; obtain rfl := hw1.symm; clear hw1)
  go_ret
  refine ⟨rfl, ?_⟩
  show Below _ _ _
  repeat' with_reducible first | exact Below.refl _ _ | refine Below.drew ?_ | refine Below.drN ?_ _ | refine Below.al ?_ _
theorem un_held {w : World} {p : Value}  (h : Un w p) : Calls Tryz.prog 14 #[p] w fun e w' => e = .returned (.int .i64 0) ∧ Hid (Below w.heap.size w w') := by
  have k0 := kmade_un h
  clear h
  go_enter Tryz.func14, Tryz.ntmps14
  go_wp2_with (go_at_call 41; refine k0.mono ?_; rintro e w1 ⟨rfl, hw1⟩; obtain rfl := hw1.symm; clear hw1)
  go_ret
  refine ⟨rfl, ?_⟩
  show Below _ _ _
  repeat' with_reducible first | exact Below.refl _ _ | refine Below.drew ?_ | refine Below.drN ?_ _ | refine Below.al ?_ _
theorem un_del {w : World} {p : Value} (net i : Int) (h : Un w p) : Calls Tryz.prog 25 #[p, .int .i64 net, .int .i64 i] w fun e w' => e = .returned (.int .i64 2) ∧ Hid (Below w.heap.size w w') := by
  have k0 := un_can net i h
  clear h
  go_enter Tryz.func25, Tryz.ntmps25
  go_wp2_with (go_at_call 55; refine k0.mono ?_; rintro e w1 ⟨rfl, hb1⟩; clear k0)
  go_ret
  exact ⟨rfl, hb1⟩
theorem un_drop {w : World} {p : Value} (net i : Int) (h : Un w p) : Calls Tryz.prog 27 #[p, .int .i64 net, .int .i64 i] w fun e w' => e = .returned (.int .i64 2) ∧ Hid (Below w.heap.size w w') := by
  have k0 := un_can net i h
  clear h
  go_enter Tryz.func27, Tryz.ntmps27
  go_wp2_with (go_at_call 55; refine k0.mono ?_; rintro e w1 ⟨rfl, hb1⟩; clear k0)
  go_ret
  exact ⟨rfl, hb1⟩
theorem un_twice {w : World} {p : Value} (net i : Int) (h : Un w p) : Calls Tryz.prog 28 #[p, .int .i64 net, .int .i64 i] w fun e w' => e = .returned (.int .i64 2) ∧ Hid (Below w.heap.size w w') := by
  have k0 := un_can net i h
  clear h
  go_enter Tryz.func28, Tryz.ntmps28
  go_wp2_with (go_at_call 55; refine k0.mono ?_; rintro e w1 ⟨rfl, hb1⟩; clear k0)
  go_ret
  exact ⟨rfl, hb1⟩
theorem un_turn {w : World} {p : Value} (net i at_ by_ : Int) (h : Un w p) : Calls Tryz.prog 29 #[p, .int .i64 net, .int .i64 i, .int .i64 at_, .int .u32 by_] w fun e w' => e = .returned (.int .i64 2) ∧ Hid (Below w.heap.size w w') := by
  have k0 := un_can net i h
  clear h
  go_enter Tryz.func29, Tryz.ntmps29
  go_wp2_with (go_at_call 55; refine k0.mono ?_; rintro e w1 ⟨rfl, hb1⟩; clear k0)
  go_ret
  exact ⟨rfl, hb1⟩
set_option maxRecDepth 100000 in
theorem undo0 {w : World} {p : Value} (net i at_ by_ : Int) (a : Option Addr) (n c : Nat) (h : Un w p) :
    Calls Tryz.prog 7 #[p, .agg #[.int .i64 0, .int .i64 net, .int .i64 i, .int .i64 at_, .int .u32 by_, .slice a n c]] w fun e w' => e = .returned (.tuple #[.slice none 0 0, .bool false, .int .i64 2]) ∧ Hid (Below w.heap.size w w') := by
  have k0 : Hid (∀ x, Below w.heap.size w x → Un x p) := fun x hx => h.kept hx
  clear h
  go_enter Tryz.func7, Tryz.ntmps7
  go_wp2_with (go_at_call 23; refine (un_send _ _ _ (k0.out _ (by repeat' with_reducible first | exact Below.refl _ _ | refine Below.drew ?_ | refine Below.drN ?_ _ | refine Below.al ?_ _))).mono ?_; rintro e w1 ⟨rfl, hb1⟩; have hB : Hid (Below w.heap.size w w1) := (show Below w.heap.size w _ from (by repeat' with_reducible first | exact Below.refl _ _ | refine Below.drew ?_ | refine Below.drN ?_ _ | refine Below.al ?_ _)).trans (hb1.out.mono (Below.size (by repeat' with_reducible first | exact Below.refl _ _ | refine Below.drew ?_ | refine Below.drN ?_ _ | refine Below.al ?_ _))); clear hb1 k0)
  refine bodyPost_ret (v := .tuple #[.slice none 0 0, .bool false, .int .i64 2]) (by simp [results, Tryz.results7, go_sem]) rfl ⟨rfl, hB⟩
set_option maxRecDepth 100000 in
theorem undo1 {w : World} {p : Value} (net i at_ by_ : Int) (a : Option Addr) (n c : Nat) (h : Un w p) :
    Calls Tryz.prog 7 #[p, .agg #[.int .i64 1, .int .i64 net, .int .i64 i, .int .i64 at_, .int .u32 by_, .slice a n c]] w fun e w' => e = .returned (.tuple #[.slice none 0 0, .bool false, .int .i64 0]) ∧ Hid (Below w.heap.size w w') := by
  have k0 : Hid (∀ x, Below w.heap.size w x → Un x p) := fun x hx => h.kept hx
  clear h
  go_enter Tryz.func7, Tryz.ntmps7
  go_wp2_with (go_at_call 26; refine (un_poll (k0.out _ (by repeat' with_reducible first | exact Below.refl _ _ | refine Below.drew ?_ | refine Below.drN ?_ _ | refine Below.al ?_ _))).mono ?_; rintro e w1 ⟨rfl, hb1⟩; have hB : Hid (Below w.heap.size w w1) := (show Below w.heap.size w _ from (by repeat' with_reducible first | exact Below.refl _ _ | refine Below.drew ?_ | refine Below.drN ?_ _ | refine Below.al ?_ _)).trans (hb1.out.mono (Below.size (by repeat' with_reducible first | exact Below.refl _ _ | refine Below.drew ?_ | refine Below.drN ?_ _ | refine Below.al ?_ _))); clear hb1 k0)
  refine bodyPost_ret (v := .tuple #[.slice none 0 0, .bool false, .int .i64 0]) (by simp [results, Tryz.results7, go_sem]) rfl ⟨rfl, hB⟩
set_option maxRecDepth 100000 in
theorem undo2 {w : World} {p : Value} (net i at_ by_ : Int) (a : Option Addr) (n c : Nat) (h : Un w p) :
    Calls Tryz.prog 7 #[p, .agg #[.int .i64 2, .int .i64 net, .int .i64 i, .int .i64 at_, .int .u32 by_, .slice a n c]] w fun e w' => e = .returned (.tuple #[.slice none 0 0, .bool false, .int .i64 0]) ∧ Hid (Below w.heap.size w w') := by
  have k0 : Hid (∀ x, Below w.heap.size w x → Un x p) := fun x hx => h.kept hx
  clear h
  go_enter Tryz.func7, Tryz.ntmps7
  go_wp2_with (go_at_call 24; refine (un_tick (k0.out _ (by repeat' with_reducible first | exact Below.refl _ _ | refine Below.drew ?_ | refine Below.drN ?_ _ | refine Below.al ?_ _))).mono ?_; rintro e w1 ⟨rfl, hb1⟩; have hB : Hid (Below w.heap.size w w1) := (show Below w.heap.size w _ from (by repeat' with_reducible first | exact Below.refl _ _ | refine Below.drew ?_ | refine Below.drN ?_ _ | refine Below.al ?_ _)).trans (hb1.out.mono (Below.size (by repeat' with_reducible first | exact Below.refl _ _ | refine Below.drew ?_ | refine Below.drN ?_ _ | refine Below.al ?_ _))); clear hb1 k0)
  refine bodyPost_ret (v := .tuple #[.slice none 0 0, .bool false, .int .i64 0]) (by simp [results, Tryz.results7, go_sem]) rfl ⟨rfl, hB⟩
set_option maxRecDepth 100000 in
theorem undo3 {w : World} {p : Value} (net i at_ by_ : Int) (a : Option Addr) (n c : Nat) (h : Un w p) :
    Calls Tryz.prog 7 #[p, .agg #[.int .i64 3, .int .i64 net, .int .i64 i, .int .i64 at_, .int .u32 by_, .slice a n c]] w fun e w' => e = .returned (.tuple #[.slice none 0 0, .bool false, .int .i64 2]) ∧ Hid (Below w.heap.size w w') := by
  have k0 : Hid (∀ x, Below w.heap.size w x → Un x p) := fun x hx => h.kept hx
  clear h
  go_enter Tryz.func7, Tryz.ntmps7
  go_wp2_with (go_at_call 25; refine (un_del _ _ (k0.out _ (by repeat' with_reducible first | exact Below.refl _ _ | refine Below.drew ?_ | refine Below.drN ?_ _ | refine Below.al ?_ _))).mono ?_; rintro e w1 ⟨rfl, hb1⟩; have hB : Hid (Below w.heap.size w w1) := (show Below w.heap.size w _ from (by repeat' with_reducible first | exact Below.refl _ _ | refine Below.drew ?_ | refine Below.drN ?_ _ | refine Below.al ?_ _)).trans (hb1.out.mono (Below.size (by repeat' with_reducible first | exact Below.refl _ _ | refine Below.drew ?_ | refine Below.drN ?_ _ | refine Below.al ?_ _))); clear hb1 k0)
  refine bodyPost_ret (v := .tuple #[.slice none 0 0, .bool false, .int .i64 2]) (by simp [results, Tryz.results7, go_sem]) rfl ⟨rfl, hB⟩
set_option maxRecDepth 100000 in
theorem undo4 {w : World} {p : Value} (net i at_ by_ : Int) (a : Option Addr) (n c : Nat) (h : Un w p) :
    Calls Tryz.prog 7 #[p, .agg #[.int .i64 4, .int .i64 net, .int .i64 i, .int .i64 at_, .int .u32 by_, .slice a n c]] w fun e w' => e = .returned (.tuple #[.slice none 0 0, .bool false, .int .i64 2]) ∧ Hid (Below w.heap.size w w') := by
  have k0 : Hid (∀ x, Below w.heap.size w x → Un x p) := fun x hx => h.kept hx
  clear h
  go_enter Tryz.func7, Tryz.ntmps7
  go_wp2_with (go_at_call 27; refine (un_drop _ _ (k0.out _ (by repeat' with_reducible first | exact Below.refl _ _ | refine Below.drew ?_ | refine Below.drN ?_ _ | refine Below.al ?_ _))).mono ?_; rintro e w1 ⟨rfl, hb1⟩; have hB : Hid (Below w.heap.size w w1) := (show Below w.heap.size w _ from (by repeat' with_reducible first | exact Below.refl _ _ | refine Below.drew ?_ | refine Below.drN ?_ _ | refine Below.al ?_ _)).trans (hb1.out.mono (Below.size (by repeat' with_reducible first | exact Below.refl _ _ | refine Below.drew ?_ | refine Below.drN ?_ _ | refine Below.al ?_ _))); clear hb1 k0)
  refine bodyPost_ret (v := .tuple #[.slice none 0 0, .bool false, .int .i64 2]) (by simp [results, Tryz.results7, go_sem]) rfl ⟨rfl, hB⟩
set_option maxRecDepth 100000 in
theorem undo5 {w : World} {p : Value} (net i at_ by_ : Int) (a : Option Addr) (n c : Nat) (h : Un w p) :
    Calls Tryz.prog 7 #[p, .agg #[.int .i64 5, .int .i64 net, .int .i64 i, .int .i64 at_, .int .u32 by_, .slice a n c]] w fun e w' => e = .returned (.tuple #[.slice none 0 0, .bool false, .int .i64 2]) ∧ Hid (Below w.heap.size w w') := by
  have k0 : Hid (∀ x, Below w.heap.size w x → Un x p) := fun x hx => h.kept hx
  clear h
  go_enter Tryz.func7, Tryz.ntmps7
  go_wp2_with (go_at_call 28; refine (un_twice _ _ (k0.out _ (by repeat' with_reducible first | exact Below.refl _ _ | refine Below.drew ?_ | refine Below.drN ?_ _ | refine Below.al ?_ _))).mono ?_; rintro e w1 ⟨rfl, hb1⟩; have hB : Hid (Below w.heap.size w w1) := (show Below w.heap.size w _ from (by repeat' with_reducible first | exact Below.refl _ _ | refine Below.drew ?_ | refine Below.drN ?_ _ | refine Below.al ?_ _)).trans (hb1.out.mono (Below.size (by repeat' with_reducible first | exact Below.refl _ _ | refine Below.drew ?_ | refine Below.drN ?_ _ | refine Below.al ?_ _))); clear hb1 k0)
  refine bodyPost_ret (v := .tuple #[.slice none 0 0, .bool false, .int .i64 2]) (by simp [results, Tryz.results7, go_sem]) rfl ⟨rfl, hB⟩
set_option maxRecDepth 100000 in
theorem undo6 {w : World} {p : Value} (net i at_ by_ : Int) (a : Option Addr) (n c : Nat) (h : Un w p) :
    Calls Tryz.prog 7 #[p, .agg #[.int .i64 6, .int .i64 net, .int .i64 i, .int .i64 at_, .int .u32 by_, .slice a n c]] w fun e w' => e = .returned (.tuple #[.slice none 0 0, .bool false, .int .i64 2]) ∧ Hid (Below w.heap.size w w') := by
  have k0 : Hid (∀ x, Below w.heap.size w x → Un x p) := fun x hx => h.kept hx
  clear h
  go_enter Tryz.func7, Tryz.ntmps7
  go_wp2_with (go_at_call 29; refine (un_turn _ _ _ _ (k0.out _ (by repeat' with_reducible first | exact Below.refl _ _ | refine Below.drew ?_ | refine Below.drN ?_ _ | refine Below.al ?_ _))).mono ?_; rintro e w1 ⟨rfl, hb1⟩; have hB : Hid (Below w.heap.size w w1) := (show Below w.heap.size w _ from (by repeat' with_reducible first | exact Below.refl _ _ | refine Below.drew ?_ | refine Below.drN ?_ _ | refine Below.al ?_ _)).trans (hb1.out.mono (Below.size (by repeat' with_reducible first | exact Below.refl _ _ | refine Below.drew ?_ | refine Below.drN ?_ _ | refine Below.al ?_ _))); clear hb1 k0)
  refine bodyPost_ret (v := .tuple #[.slice none 0 0, .bool false, .int .i64 2]) (by simp [results, Tryz.results7, go_sem]) rfl ⟨rfl, hB⟩
set_option maxRecDepth 100000 in
theorem undo7 {w : World} {p : Value} (net i at_ by_ : Int) (a : Option Addr) (n c : Nat) (h : Un w p) :
    Calls Tryz.prog 7 #[p, .agg #[.int .i64 7, .int .i64 net, .int .i64 i, .int .i64 at_, .int .u32 by_, .slice a n c]] w fun e w' => e = .returned (.tuple #[.slice none 0 0, .bool false, .int .i64 2]) ∧ Hid (Below w.heap.size w w') := by
  have k0 : Hid (∀ x, Below w.heap.size w x → Un x p) := fun x hx => h.kept hx
  clear h
  go_enter Tryz.func7, Tryz.ntmps7
  go_wp2_with (go_at_call 30; refine (un_forge _ _ _ _ (k0.out _ (by repeat' with_reducible first | exact Below.refl _ _ | refine Below.drew ?_ | refine Below.drN ?_ _ | refine Below.al ?_ _))).mono ?_; rintro e w1 ⟨rfl, hb1⟩; have hB : Hid (Below w.heap.size w w1) := (show Below w.heap.size w _ from (by repeat' with_reducible first | exact Below.refl _ _ | refine Below.drew ?_ | refine Below.drN ?_ _ | refine Below.al ?_ _)).trans (hb1.out.mono (Below.size (by repeat' with_reducible first | exact Below.refl _ _ | refine Below.drew ?_ | refine Below.drN ?_ _ | refine Below.al ?_ _))); clear hb1 k0)
  refine bodyPost_ret (v := .tuple #[.slice none 0 0, .bool false, .int .i64 2]) (by simp [results, Tryz.results7, go_sem]) rfl ⟨rfl, hB⟩
set_option maxRecDepth 100000 in
theorem undo8 {w : World} {p : Value} (net i at_ by_ : Int) (a : Option Addr) (n c : Nat) (h : Un w p) :
    Calls Tryz.prog 7 #[p, .agg #[.int .i64 8, .int .i64 net, .int .i64 i, .int .i64 at_, .int .u32 by_, .slice a n c]] w fun e w' => e = .returned (.tuple #[.slice none 0 0, .bool false, .int .i64 0]) ∧ Hid (Below w.heap.size w w') := by
  have k0 : Hid (∀ x, Below w.heap.size w x → Un x p) := fun x hx => h.kept hx
  clear h
  go_enter Tryz.func7, Tryz.ntmps7
  go_wp2_with (go_at_call 31; refine (un_rec (k0.out _ (by repeat' with_reducible first | exact Below.refl _ _ | refine Below.drew ?_ | refine Below.drN ?_ _ | refine Below.al ?_ _))).mono ?_; rintro e w1 ⟨rfl, hb1⟩; have hB : Hid (Below w.heap.size w w1) := (show Below w.heap.size w _ from (by repeat' with_reducible first | exact Below.refl _ _ | refine Below.drew ?_ | refine Below.drN ?_ _ | refine Below.al ?_ _)).trans (hb1.out.mono (Below.size (by repeat' with_reducible first | exact Below.refl _ _ | refine Below.drew ?_ | refine Below.drN ?_ _ | refine Below.al ?_ _))); clear hb1 k0)
  refine bodyPost_ret (v := .tuple #[.slice none 0 0, .bool false, .int .i64 0]) (by simp [results, Tryz.results7, go_sem]) rfl ⟨rfl, hB⟩
end Go.Proofs.YtfipdldoklkciaaGreat
