/-
  A tick.
-/
import Derived.Test.YtfipdldoklkciaaLkn
namespace Go.Proofs.Ytfipdldoklkciaa
open Go.RowKit
set_option linter.unusedVariables false
def mdata (seq : Int) (zs : List Int) : Mg := ⟨1, 0, 0, seq, 0, 0, 0, 0, zs⟩
def mack (ack bits cred : Int) : Mg := ⟨2, 0, 0, 0, ack, bits, cred, 0, []⟩
theorem OwnsT.k4 {q : Qb} {w w' : World} {base : Nat} {v : Value} {L : List (Int × Value × List Int)} (h : OwnsT w base v L) (k : K4 q w w') (h1 : q.lb < base) (h2 : q.sb < base) (h3 : q.mb < base) (h4 : q.rb < base) : OwnsT w' base v L :=
  h.keep fun b cur e hb h5 _ => k.block b (Array.getElem?_eq_some_iff.1 h5).1 (by omega) (by omega) (by omega) (by omega)
theorem dueL_in (s : St) (now : Int) : ∀ (k : Nat) (p : Int × List Int), p ∈ dueL s now k → ∃ e, s.L p.1 = some e ∧ e.zs = p.2 ∧ s.base ≤ p.1 ∧ p.1 < s.base + (k : Int)
  | 0, p, h => by simp [dueL] at h
  | k + 1, p, h => by
    unfold dueL at h
    rcases List.mem_append.1 h with h | h
    · obtain ⟨e, h1, h2, h3, h4⟩ := dueL_in s now k p h
      exact ⟨e, h1, h2, h3, by omega⟩
    · split at h
      · rename_i e he
        split at h
        · simp at h
          subst h
          exact ⟨e, he, rfl, by simp; omega, by simp; omega⟩
        · simp at h
      · simp at h
theorem pk_data {L : Lk} {seq : Int} {zs : List Int} (h0 : Lok L) (he : L.ep ≤ 4611686018427387904) (h1 : 0 ≤ seq) (h2 : seq ≤ 4611686018427387904) (hz : zs.length ≤ 1100) (hb : ∀ c ∈ zs, 0 ≤ c ∧ c < 256) : pkE (tellM L (mdata seq zs)) = 0 ∧ Mok (tellM L (mdata seq zs)) := by
  have ho : Mok (tellM L (mdata seq zs)) := ⟨h0.t1, h0.t2, Int.le_refl _, by show (0 : Int) < _; decide, hb⟩
  have hm : mayM (tellM L (mdata seq zs)) = true := mayM_iff.2 ⟨by show (1 : Int) ≤ 1 ∧ (1 : Int) ≤ 7; decide, by show (0 : Int) ≤ 0 ∧ (0 : Int) ≤ 2; decide, ⟨by have := h0.e1; show 0 ≤ L.ep; omega, he⟩, ⟨h1, h2⟩, by show (0 : Int) ≤ 0 ∧ (0 : Int) ≤ _; decide, by show (0 : Int) ≤ 0 ∧ (0 : Int) ≤ _; decide⟩
  have hl := hdr_len hm ho
  refine ⟨?_, ho⟩
  unfold pkE
  rw [if_neg (by rw [hm]; decide), if_neg (by show ¬ 1200 < _ + zs.length; omega)]
theorem pk_ack {L : Lk} {ack bits cred : Int} (h0 : Lok L) (he : L.ep ≤ 4611686018427387904) (h1 : 0 ≤ ack) (h2 : ack ≤ 4611686018427387904) (h3 : 0 ≤ cred) (h4 : cred ≤ 4611686018427387904) (h5 : 0 ≤ bits) (h6 : bits < 18446744073709551616) : pkE (tellM L (mack ack bits cred)) = 0 ∧ Mok (tellM L (mack ack bits cred)) := by
  have ho : Mok (tellM L (mack ack bits cred)) := ⟨h0.t1, h0.t2, h5, h6, fun c hc => by cases hc⟩
  have hm : mayM (tellM L (mack ack bits cred)) = true := mayM_iff.2 ⟨by show (1 : Int) ≤ 2 ∧ (2 : Int) ≤ 7; decide, by show (0 : Int) ≤ 0 ∧ (0 : Int) ≤ 2; decide, ⟨by have := h0.e1; show 0 ≤ L.ep; omega, he⟩, by show (0 : Int) ≤ 0 ∧ (0 : Int) ≤ _; decide, ⟨h1, h2⟩, ⟨h3, h4⟩⟩
  have hl := hdr_len hm ho
  refine ⟨?_, ho⟩
  unfold pkE
  rw [if_neg (by rw [hm]; decide), if_neg (by show ¬ 1200 < _ + 0; omega)]
/-- A link behind its tick's Due. -/
def tk1 (L : Lk) : Lk := { L with now := L.now + 1, s := dueA L.s (L.now + 1) }
def dueN (L : Lk) : List (Int × List Int) := dueL L.s (L.now + 1) (L.s.nxt - L.s.base).toNat
def grs (L : Lk) (D : List (Int × List Int)) (gs : List Gr) : Prop := gs.map (fun g => (g.zs, g.sp)) = D.map fun p => (pkB (tellM L (mdata p.1 p.2)), false)
def TkR (w' : World) (B : Nat) (q : Qb) (L : Lk) : Prop := (1099511627776 ≤ L.now → Lm w' B q L) ∧ (L.now < 1099511627776 → ∃ gs g, grs L (dueN L) gs ∧ g.zs = pkB (tellM L (mack (ackN L.r) (ackB L.r) (L.r.tk + L.r.win))) ∧ g.sp = false ∧ Lm w' B q { tk1 L with n0 := gs.foldl putG L.n0, n1 := putG L.n1 g })
theorem tick_end {w : World} {B : Nat} {q : Qb} {L : Lk} (h : Lm w B q L) (hn : 1099511627776 ≤ L.now) :
    Calls Try.prog 27 #[.pointer (some ⟨q.lb, 0, none⟩)] w fun e w' => e = .returned (.tuple #[]) ∧ w' = w := by
  have k0 := kmade h
  have c2 := h.cell.2.2.1
  have d0 : decide (L.now ≥ 1099511627776) = true := by simpa using hn
  clear h hn
  go_enter Try.func27, Try.ntmps27
  go_wp2_with (go_at_call 58; refine k0.mono ?_; rintro e w1 ⟨rfl, hw1⟩; obtain rfl := hw1.symm; clear hw1)
  refine bodyPost_ret (v := .tuple #[]) (results_none rfl _ _ _) rfl ⟨rfl, rfl⟩
set_option maxHeartbeats 4000000 in
theorem tick_go {w : World} {B : Nat} {q : Qb} {L : Lk} (h : Lm w B q L) (hn : L.now < 1099511627776) (he : L.ep ≤ 4611686018427387904) (ht : L.r.tk ≤ 4611686018427380000) :
    Calls Try.prog 27 #[.pointer (some ⟨q.lb, 0, none⟩)] w fun e w' => e = .returned (.tuple #[]) ∧ Hid (TkR w' B q L) ∧ Hid (K4 q w w') := by
  have k0 := kmade h
  have c2 := h.cell.2.2.1
  have f2 := h.fz 2
  have d0 : decide (L.now ≥ 1099511627776) = false := by simpa using hn
  have hw : IntKind.i64.wrap (L.now + 1) = L.now + 1 := by have := h.ok.n1; rw [IntKind.wrap_i64]; omega
  have hL1 : Hid (Lm (w.setCell ⟨q.lb, 2, none⟩ (.int .i64 (L.now + 1))) B q { L with now := L.now + 1 }) := h.setNow _ (by have := h.ok.n1; omega) (by omega)
  have hK1 : Hid (K4 q w (w.setCell ⟨q.lb, 2, none⟩ (.int .i64 (L.now + 1)))) := K4.of_l (K2.set w 2 _)
  have hn' : Hid (L.now < 1099511627776 ∧ 0 ≤ L.now) := ⟨hn, h.ok.n1⟩
  have he' : Hid (L.ep ≤ 4611686018427387904 ∧ L.r.tk ≤ 4611686018427380000) := ⟨he, ht⟩
  have hok : Hid (Lok L) := h.ok
  have hsok : Hid (Ok L.s) := h.sd.ok
  have hrok : Hid (Rok L.r) := h.rv.ok
  clear h hn he ht
  go_enter Try.func27, Try.ntmps27
  go_wp2_with fail
  refine k0.mono ?_
  rintro e w1 ⟨rfl, hw1⟩
  obtain rfl := hw1.symm
  clear hw1 k0
  go_wp2_with fail
  generalize (w.setCell ⟨q.lb, 2, none⟩ (.int .i64 (L.now + 1))) = W1 at *
  have d4 := hL1.out.cell.2.2.2.2.1
  have d2 := hL1.out.cell.2.2.1
  have kD : Hid (Calls Try.prog 65 #[.pointer (some ⟨q.sb, 0, none⟩), .int .i64 (L.now + 1)] W1.drew fun e w' => ∃ a n c TL, e = .returned (.slice a n c) ∧ n = TL.length ∧ n ≤ c ∧ c ≤ 9223372036854775807 ∧ Hid (OwnsT w' W1.heap.size (.slice a n c) TL) ∧ Hid (plainT TL = dueN L) ∧ Hid (Lm w' B q (tk1 L)) ∧ Hid (q.lb < W1.heap.size ∧ q.sb < W1.heap.size ∧ q.mb < W1.heap.size ∧ q.rb < W1.heap.size) ∧ Hid (K4 q w w')) := by
    have h1 := hL1.out.drew
    refine (due_ok (L.now + 1) h1.sd (by have := hn'.out; simp [timeB]; omega)).mono ?_
    rintro e w' ⟨v, TL, rfl, h2, h3, h4, h5, h6⟩
    obtain ⟨a, n, c, rfl, h7, h8, h9⟩ := h2.out.form
    refine ⟨a, n, c, TL, rfl, h7, h8, h9, h2, h3, ?_, ⟨h1.lt, h5.out.1, h5.out.2.1, h1.rv.lt⟩, (hK1.out.drew).trans (K4.of_s h6.out)⟩
    exact h1.turnS h4.out h6.out ((sub_due L.s (L.now + 1)).few hok.out.few)
  clear hL1 hK1 c2 f2
  go_region_with (go_at_call 65; refine kD.out.mono ?_; rintro e w2 ⟨a, n, c, TL, rfl, hlen, hlc, hcm, hT, hP, hL2, hlt, hK2⟩; clear kD)
  all_goals
    simp only [List.getElem_toArray, List.getElem_cons_succ, List.getElem_cons_zero, Act.put, List.setIfInBounds_toArray, List.set_cons_zero, List.set_cons_succ]
    have hlen' : Hid (n = TL.length) := hlen
    clear hlen d4 d2 hw
    go_wp2_with fail
    go_loopw [34] (fun s34 wr => ∃ (i : Nat) (gs : List Gr), i ≤ TL.length ∧ s34 = .int .i64 (i : Nat) ∧ Hid (gs.map (fun g => (g.zs, g.sp)) = ((plainT TL).take i).map fun p => (pkB (tellM L (mdata p.1 p.2)), false)) ∧ Hid (Lm wr B q { tk1 L with n0 := gs.foldl putG L.n0 }) ∧ Hid (OwnsT wr W1.heap.size (.slice a TL.length c) TL) ∧ Hid (K4 q w wr)) (fun i _ => TL.length - (intOf i).toNat)
    case atStart => exact ⟨0, [], Nat.zero_le _, rfl, rfl, hL2, by have := hlen'.out; subst this; exact hT, hK2⟩
    case round =>
      obtain ⟨i, gs, hi, rfl, hgs, hLr, hTr, hKr⟩ := hrel
      clear hT hL2 hK2
      by_cases hlt2 : i < TL.length
      · have hd : decide ((i : Int) < (TL.length : Int)) = true := by simp; omega
        have hx : TL[i]? = some TL[i] := List.getElem?_eq_getElem hlt2
        generalize TL[i] = p at hx
        obtain ⟨seq, pv, pz⟩ := p
        obtain ⟨gb, cap, hv, hgb1, hgb2, hc⟩ := hTr.out.cells hx
        have ho := hTr.out.2 _ (List.mem_of_getElem? hx)
        obtain ⟨pa, pc, hpv, hpn, ⟨hpl, hpm⟩, hpb, hpat⟩ := ho.shape
        have hpv' : pv = .slice pa pz.length pc := hpv
        subst hpv'
        have hin : (seq, pz) ∈ dueN L := by
          rw [← hP.out]
          exact List.mem_map.2 ⟨_, List.mem_of_getElem? hx, rfl⟩
        obtain ⟨e0, he0, he1, he2, he3⟩ := dueL_in _ _ _ _ hin
        have he2 : L.s.base ≤ seq := he2
        have he3 : seq < L.s.base + ((L.s.nxt - L.s.base).toNat : Int) := he3
        have hpk := pk_data (zs := pz) hok.out he'.out.1 (seq := seq) (by have := hsok.out.b1; omega) (by have := hsok.out.b2; have := hsok.out.l1; have := hsok.out.l2; omega) (by have := hok.out.few _ _ he0; rw [he1] at this; exact this) hpb.1
        have hal : Hid (Below wr.heap.size wr (wr.alloc (.cells #[.int .i64 1, .int .u64 0, .int .i64 0, .int .i64 seq, .int .i64 0, .int .u64 0, .int .i64 0, .int .i64 0, .slice pa pz.length pc] 25))) := (Below.refl _ _).alloc (Nat.le_refl _) _
        have kt : Hid (Calls Try.prog 66 #[.pointer (some ⟨q.lb, 0, none⟩), .int .i64 0, .agg #[.int .i64 1, .int .u64 0, .int .i64 0, .int .i64 seq, .int .i64 0, .int .u64 0, .int .i64 0, .int .i64 0, .slice pa pz.length pc]] (wr.alloc (.cells #[.int .i64 1, .int .u64 0, .int .i64 0, .int .i64 seq, .int .i64 0, .int .u64 0, .int .i64 0, .int .i64 0, .slice pa pz.length pc] 25)) fun e w' => e = .returned (.tuple #[]) ∧ Hid (∃ g : Gr, g.zs = pkB (tellM L (mdata seq pz)) ∧ g.sp = false ∧ Lm w' B q { tk1 L with n0 := putG (gs.foldl putG L.n0) g }) ∧ Hid (K4 q (wr.alloc (.cells #[.int .i64 1, .int .u64 0, .int .i64 0, .int .i64 seq, .int .i64 0, .int .u64 0, .int .i64 0, .int .i64 0, .slice pa pz.length pc] 25)) w')) :=
          tell0 (mdata seq pz) pa pz.length pc (hLr.out.kept hal.out) hpk.1 hpk.2 rfl hpn (hpb.kept hal.out)
        have e0 : wr.cell? ⟨gb, i * 9, none⟩ = some (.int .i64 1) := hc 0 (by decide)
        have e1 : wr.cell? ⟨gb, i * 9 + 1, none⟩ = some (.int .u64 0) := hc 1 (by decide)
        have e2 : wr.cell? ⟨gb, i * 9 + 2, none⟩ = some (.int .i64 0) := hc 2 (by decide)
        have e3 : wr.cell? ⟨gb, i * 9 + 3, none⟩ = some (.int .i64 seq) := hc 3 (by decide)
        have e4 : wr.cell? ⟨gb, i * 9 + 4, none⟩ = some (.int .i64 0) := hc 4 (by decide)
        have e5 : wr.cell? ⟨gb, i * 9 + 5, none⟩ = some (.int .u64 0) := hc 5 (by decide)
        have e6 : wr.cell? ⟨gb, i * 9 + 6, none⟩ = some (.int .i64 0) := hc 6 (by decide)
        have e7 : wr.cell? ⟨gb, i * 9 + 7, none⟩ = some (.int .i64 0) := hc 7 (by decide)
        have e8 : wr.cell? ⟨gb, i * 9 + 8, none⟩ = some (.slice pa pz.length pc) := hc 8 (by decide)
        have hva : a = some ⟨gb, 0, none⟩ := by cases hv; rfl
        subst hva
        have hnl : n = TL.length := hlen'.out
        subst hnl
        have hx' : Hid (TL[i]? = some (seq, .slice pa pz.length pc, pz)) := hx
        generalize hNN : TL.length = N at *
        have hNN' : Hid (TL.length = N) := hNN
        clear hc hin he0 he1 hpk ho hpv hpn hpl hpm hpb hpat hv hx hNN hgb1 hgb2 he2 he3
        go_wp2_with (go_at_call 66; refine kt.out.mono ?_; rintro e w3 ⟨rfl, hL3, hK3⟩; clear kt)
        obtain ⟨g, hg1, hg2, hL3'⟩ := hL3.out
        refine ⟨⟨i + 1, gs ++ [g], by omega, by simp, ?_, ?_, ?_, (hKr.out.trans (K4.of_below hal.out)).trans hK3.out⟩, by simp [intOf]; omega⟩
        · show _ = _
          have h1 : (plainT TL)[i]? = some (seq, pz) := by unfold plainT; rw [List.getElem?_map, hx'.out]; rfl
          have h2 : i < (plainT TL).length := (List.getElem?_eq_some_iff.1 h1).1
          rw [List.take_succ_eq_append_getElem h2, List.map_append, List.map_append, hgs.out, (List.getElem?_eq_some_iff.1 h1).2]
          simp [hg1, hg2]
        · rw [List.foldl_append]
          exact hL3'
        · exact (hTr.out.kept hal.out).k4 hK3.out hlt.out.1 hlt.out.2.1 hlt.out.2.2.1 hlt.out.2.2.2
      · have hd : decide ((i : Int) < (TL.length : Int)) = false := by simp; omega
        obtain rfl : i = TL.length := by omega
        have hnl : n = TL.length := hlen'.out
        subst hnl
        have hG : Hid (grs L (dueN L) gs) := by
          show _ = _
          rw [hgs.out, List.take_of_length_le (by simp [plainT]), hP.out]
        have hrv := hLr.out.rv
        have hrv : Rv wr q.rb L.r := hrv
        have k4 := ack_k hrv
        have hb := hrv.ok
        have hN1 : Hid (0 ≤ ackN L.r ∧ ackN L.r ≤ 4611686018427387904 ∧ 0 ≤ L.r.tk + L.r.win ∧ L.r.tk + L.r.win ≤ 4611686018427387904) := by
          have h1 := rdy_le hb
          have h2 : ackN L.r = L.r.tk + (rdy L.r : Int) := rfl
          have h3 := hb.t1
          have h4 := hb.w2
          have h5 := hb.w1
          have h6 := he'.out.2
          show _ ∧ _ ∧ _ ∧ _
          omega
        have hN2 := ackB_bnd L.r
        have hpk := pk_ack hok.out he'.out.1 hN1.out.1 hN1.out.2.1 hN1.out.2.2.1 hN1.out.2.2.2 hN2.1 hN2.2
        have kt : Hid (∀ x, Below wr.heap.size wr x → Calls Try.prog 66 #[.pointer (some ⟨q.lb, 0, none⟩), .int .i64 1, .agg #[.int .i64 2, .int .u64 0, .int .i64 0, .int .i64 0, .int .i64 (ackN L.r), .int .u64 (ackB L.r), .int .i64 (L.r.tk + L.r.win), .int .i64 0, .slice none 0 0]] x fun e w' => e = .returned (.tuple #[]) ∧ Hid (∃ g : Gr, g.zs = pkB (tellM L (mack (ackN L.r) (ackB L.r) (L.r.tk + L.r.win))) ∧ g.sp = false ∧ Lm w' B q { tk1 L with n0 := gs.foldl putG L.n0, n1 := putG L.n1 g }) ∧ Hid (K4 q x w')) := fun x hx =>
          tell1 (mack (ackN L.r) (ackB L.r) (L.r.tk + L.r.win)) none 0 0 (hLr.out.kept hx) hpk.1 hpk.2 rfl (fun _ => rfl) ⟨by simp [mack], by simp [mack], .inl rfl⟩
        have d5 := hLr.out.cell.2.2.2.2.2
        clear hrv hb hN1 hN2 hpk
        generalize TL.length = N at *
        generalize hq1 : ackN L.r = x1 at *
        have q1 : Hid (ackN L.r = x1) := hq1
        clear hq1
        generalize hq2 : ackB L.r = x2 at *
        have q2 : Hid (ackB L.r = x2) := hq2
        clear hq2
        generalize hq3 : L.r.tk + L.r.win = x3 at *
        have q3 : Hid (L.r.tk + L.r.win = x3) := hq3
        clear hq3
        go_wp2_with (first | (go_at_call 67; refine k4.mono ?_; rintro e w3 ⟨rfl, hb3⟩; clear k4) | (go_at_call 66; refine (kt.out _ hb3.out).mono ?_; rintro e w4 ⟨rfl, hL4, hK4⟩; clear kt))
        refine bodyPost_end (results_none rfl _ _ _) rfl ?_
        obtain ⟨g, hg1, hg2, hg3⟩ := hL4.out
        exact ⟨rfl, ⟨fun h => absurd h (by have := hn'.out; omega), fun _ => ⟨gs, g, hG.out, (by rw [q1.out, q2.out, q3.out]; exact hg1), hg2, hg3⟩⟩, (hKr.out.trans (K4.of_below hb3.out)).trans hK4.out⟩
theorem tick_any {w : World} {B : Nat} {q : Qb} {L : Lk} (h : Lm w B q L) (he : L.ep ≤ 4611686018427387904) (ht : L.r.tk ≤ 4611686018427380000) :
    Calls Try.prog 27 #[.pointer (some ⟨q.lb, 0, none⟩)] w fun e w' => e = .returned (.tuple #[]) ∧ Hid (TkR w' B q L) ∧ Hid (K4 q w w') := by
  by_cases hn : L.now < 1099511627776
  · exact tick_go h hn he ht
  · refine (tick_end h (by omega)).mono ?_
    rintro e w' ⟨rfl, rfl⟩
    exact ⟨rfl, ⟨fun _ => h, fun h2 => absurd h2 hn⟩, K4.refl _ _⟩
end Go.Proofs.Ytfipdldoklkciaa
