/-
  What the sender and the acks know stays true, whatever is done.
-/
import Derived.Test.YtfipdldoklkciaaLqa
namespace Go.Proofs.Ytfipdldoklkciaa
open Go.RowKit
set_option linter.unusedVariables false
theorem due_back {s : St} {now z : Int} {e' : Ent} (h : (dueA s now).L z = some e') : ∃ e, s.L z = some e ∧ (e' = e ∨ e' = dueE now e) := by
  have h : (if z < s.nxt then (s.L z).map (dueE now) else s.L z) = some e' := h
  split at h
  · cases hL : s.L z with
    | none => rw [hL] at h; cases h
    | some e =>
      rw [hL] at h
      obtain rfl := Option.some.inj h
      exact ⟨e, rfl, .inr rfl⟩
  · exact ⟨e', h, .inl rfl⟩
theorem due_there (now : Int) (e : Ent) : (dueE now e).there = e.there := by unfold dueE; split <;> rfl
theorem due_time (now : Int) (e : Ent) (hw : e.wait ≤ 64) (ht : e.time ≤ now + 64) : (dueE now e).time ≤ now + 64 := by
  unfold dueE
  split
  · show now + e.wait ≤ now + 64; omega
  · exact ht
theorem Sv.due {r : Rc} {now : Int} {s : St} (h : Sv r now s) (ho : Ok s) : Sv r (now + 1) (dueA s (now + 1)) := by
  refine ⟨h.bs, fun z e' he ht => ?_, fun z e' he => ?_⟩
  · obtain ⟨e, h1, h2⟩ := due_back he
    refine h.th z e h1 ?_
    rcases h2 with rfl | rfl
    · exact ht
    · rw [due_there] at ht; exact ht
  · obtain ⟨e, h1, h2⟩ := due_back he
    have h3 := h.tm z e h1
    rcases h2 with rfl | rfl
    · omega
    · exact due_time _ e (ho.ent z e h1).2.2.2.2.2 (by omega)
theorem Sv.res {r : Rc} {now : Int} {s : St} (h : Sv r now s) {ack : Int} (hk : ∀ z, 1 ≤ z → z ≤ ack → hasR r z) (c : Int) : Sv r now (resA s ack c now) := by
  have h1 := h.fin hk
  refine ⟨h1.bs, fun z e' he ht => ?_, fun z e' he => ?_⟩
  · have he : (if z < s.nxt then ((finA s ack).L z).map (ren now) else (finA s ack).L z) = some e' := he
    split at he
    · cases hL : (finA s ack).L z with
      | none => rw [hL] at he; cases he
      | some e =>
        rw [hL] at he
        obtain rfl := Option.some.inj he
        cases ht
    · exact h1.th z e' he ht
  · have he : (if z < s.nxt then ((finA s ack).L z).map (ren now) else (finA s ack).L z) = some e' := he
    split at he
    · cases hL : (finA s ack).L z with
      | none => rw [hL] at he; cases he
      | some e =>
        rw [hL] at he
        obtain rfl := Option.some.inj he
        show now ≤ now + 64
        omega
    · exact h1.tm z e' he
theorem lv_nets {L L' : Lk} (h : Lv L) (n : Int) (G : List Gr) (e : L' = netS L n G) (hG : n ≠ 0 → ∀ g, g ∈ G → upE g.zs = 0 → (upG g.zs).tok = L.tok → Tr L.r (upG g.zs).ack (upG g.zs).bits) : Lv L' := by
  subst e
  by_cases hn : n = 0
  · have e : netS L n G = { L with n0 := G } := by unfold netS; rw [if_pos hn]
    rw [e]
    exact ⟨h.bs, h.th, h.tm, h.ak⟩
  · have e : netS L n G = { L with n1 := G } := by unfold netS; rw [if_neg hn]
    rw [e]
    exact ⟨h.bs, h.th, h.tm, hG hn⟩
theorem lv_old {L : Lk} (h : Lv L) {n : Int} (hn : n ≠ 0) {g : Gr} (hg : g ∈ netL L n) : upE g.zs = 0 → (upG g.zs).tok = L.tok → Tr L.r (upG g.zs).ack (upG g.zs).bits := by
  unfold netL at hg
  rw [if_neg hn] at hg
  exact h.ak g hg
theorem lv_data {L : Lk} (h : Lv L) (s : Int) (zs : List Int) : Lv { L with r := dataS L.r s zs } :=
  Lv.of (L := { L with r := dataS L.r s zs }) (h.sv.mono fun z hz => has_data hz s zs) (fun g hg h1 h2 => (h.ak g hg h1 h2).mono fun z hz => has_data hz s zs)
theorem lv_take {L : Lk} (h : Lv L) : Lv { L with r := takeS L.r } :=
  Lv.of (L := { L with r := takeS L.r }) (h.sv.mono fun z hz => has_take hz) (fun g hg h1 h2 => (h.ak g hg h1 h2).mono fun z hz => has_take hz)
theorem lv_del {L : Lk} (h : Lv L) (n i : Int) : Lv (delS L n i).2 := by
  unfold delS
  split
  · rename_i g hg
    split
    · have hgm := List.mem_of_getElem? hg
      have h1 := lv_nets h n ((netL L n).eraseIdx i.toNat) rfl (fun hn x hx => lv_old h hn (mem_erase hx))
      have ht : (netS L n ((netL L n).eraseIdx i.toNat)).tok = L.tok := by unfold netS; split <;> rfl
      have hr : (netS L n ((netL L n).eraseIdx i.toNat)).r = L.r := by unfold netS; split <;> rfl
      have ho : n ≠ 0 → upE g.zs = 0 → (upG g.zs).tok = L.tok → Tr L.r (upG g.zs).ack (upG g.zs).bits := fun hn => lv_old h hn hgm
      rw [← ht, ← hr] at ho
      generalize netS L n ((netL L n).eraseIdx i.toNat) = L1 at *
      rcases del_case L1 n g.zs with e | ⟨u0, ut, ⟨hn, e⟩ | ⟨hn, e⟩⟩
      · rw [e]; exact h1
      · rw [e]; exact lv_data h1 _ _
      · rw [e]
        have hs := h1.sv.ack (ho hn u0 ut) (upG g.zs).cred
        clear e
        generalize ackS L1.s (upG g.zs).ack (upG g.zs).bits (upG g.zs).cred = s2 at *
        exact Lv.of (L := { L1 with s := s2 }) hs h1.ak
    · exact h
  · exact h
theorem lv_tick {L L' : Lk} {win : Int} {S : List (List Int)} {k : Nat} (p : Lp L) (hI : Inv L win S k) (hk : k ≤ 1000000000000000) (h : Lv L) (ht : TickS L L') : Lv L' := by
  by_cases hn : 1099511627776 ≤ L.now
  · rw [ht.1 hn]; exact h
  · obtain ⟨gs, g, hgs, hg1, hg2, e⟩ := ht.2 (by omega)
    subst e
    refine Lv.of (L := { tk1 L with n0 := gs.foldl putG L.n0, n1 := putG L.n1 g }) (h.sv.due p.so) (fun x hx h1 h2 => ?_)
    rcases put_mem hx with hx | hx
    · exact h.ak x hx h1 h2
    · subst hx
      have hep := hI.ep
      have hct := hI.ct
      have htk := hI.tk
      have t1 := p.ro.t1
      have w1 := p.ro.w1
      have w2 := p.ro.w2
      have r1 := rdy_le p.ro
      have b1 := bF_bnd (ackF L.r) 64
      obtain ⟨q1, q2⟩ := pk_ack (ack := ackN L.r) (bits := ackB L.r) (cred := L.r.tk + L.r.win) p.ok (by omega) (by unfold ackN; omega) (by unfold ackN; omega) (by omega) (by omega) b1.1 b1.2
      obtain ⟨u1, u2, _⟩ := up_pk q1 q2
      rw [hg1, u2]
      exact tr_now p.ro
theorem lv_turn {L L' : Lk} {win : Int} {S : List (List Int)} {k : Nat} (p : Lp L) (hI : Inv L win S k) (h : Lv L) {n i x : Int} {y : Nat} (hy : y < 4294967296) (ht : TurnS L L' n i x y) : Lv L' := by
  by_cases hE : turnE L n i = 0
  · obtain ⟨g, g', hg, hs, _, e1, e2, e3⟩ := ht.2 hE
    have hgm := List.mem_of_getElem? hg
    have hb := p.gb g (net_in hgm)
    refine lv_nets h n _ e3 (fun hn z hz => ?_)
    rcases set_mem hz with hz | hz
    · exact lv_old h hn hz
    · subst hz
      have hw : wfB g.zs = true := ((hI.old hgm).2 hn).1 hs
      by_cases hy0 : y = 0
      · subst hy0
        have ez : z.zs = g.zs := by rw [e1]; exact turn_none hb _
        rw [ez]
        exact lv_old h hn hgm
      · have h4 : upE z.zs = 4 := by rw [e1]; exact turn_bad hb hw x hy hy0
        intro q
        rw [h4] at q
        cases q
  · rw [ht.1 hE]; exact h
theorem lv_forge {L L' : Lk} (h : Lv L) {n : Int} {zs : List Int} (ht : ForgeS L L' n zs) : Lv L' := by
  by_cases hE : forgeE L n zs = 0
  · obtain ⟨g, e1, e2, e3⟩ := ht.2 hE
    have ho : ownB L zs = false := by
      unfold forgeE at hE
      split at hE
      · cases hE
      split at hE
      · cases hE
      split at hE
      · cases hE
      · rename_i q; simpa using q
    refine lv_nets h n _ e3 (fun hn z hz => ?_)
    rcases put_mem hz with hz | hz
    · exact lv_old h hn hz
    · subst hz
      intro q1 q2
      rw [e1] at q1 q2
      have : ownB L zs = true := decide_eq_true ⟨q1, q2⟩
      rw [ho] at this
      cases this
  · rw [ht.1 hE]; exact h
theorem lv_step {L L' : Lk} {x : Ac} {b : List Int} {ok : Bool} {e : Int} {win : Int} {S : List (List Int)} {k : Nat} (p : Lp L) (hI : Inv L win S k) (h : Lv L) (hk : k ≤ 1000000000000000) (hy : x.by_.toNat < 4294967296) (d : DoS L x L' b ok e) : Lv L' := by
  cases d with
  | send hk0 hs =>
    by_cases hE : sendE L x.zs.length = 0
    · obtain ⟨en, e1, e2, e3, e4, rfl⟩ := hs.2 hE
      refine ⟨h.bs, fun z e he ht => ?_, fun z e he => ?_, h.ak⟩
      · have he : (if z = L.s.nxt then some en else L.s.L z) = some e := he
        split at he
        · obtain rfl := Option.some.inj he
          rw [e4] at ht; cases ht
        · exact h.th z e he ht
      · have he : (if z = L.s.nxt then some en else L.s.L z) = some e := he
        split at he
        · obtain rfl := Option.some.inj he
          show en.time ≤ L.now + 64
          rw [e2]
          omega
        · exact h.tm z e he
    · rw [hs.1 hE]; exact h
  | poll hk1 => exact lv_take h
  | tick hk2 ht => exact lv_tick p hI hk h ht
  | del hk3 => exact lv_del h x.net x.i
  | drop hk4 =>
    unfold dropS
    split
    · exact lv_nets h x.net _ rfl (fun hn z hz => lv_old h hn (mem_erase hz))
    · exact h
  | twice hk5 =>
    unfold twiceS
    split
    · rename_i g hg
      split
      · exact lv_nets h x.net _ rfl (fun hn z hz => by
          rcases put_mem hz with hz | hz
          · exact lv_old h hn hz
          · subst hz; exact lv_old h hn (List.mem_of_getElem? hg))
      · exact h
    · exact h
  | turn hk6 ht => exact lv_turn p hI h hy ht
  | forge hk7 ht => exact lv_forge h ht
  | again hk8 =>
    have hs : Sv L.r L.now (recS L) := by
      unfold recS
      split
      · exact h.sv.res (tr_now p.ro).1 _
      · exact h.sv
    exact Lv.of (L := { L with ep := L.ep + 1, s := recS L }) hs h.ak
  | none hk9 => exact h
end Go.Proofs.Ytfipdldoklkciaa
