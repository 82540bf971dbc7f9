/-
  What always holds of a link: whatever the network does, what it holds, and what is on its way, are loads that were sent.
-/
import Derived.Test.YtfipdldoklkciaaLle
namespace Go.Proofs.Ytfipdldoklkciaa
open Go.RowKit
set_option linter.unusedVariables false
/-- What a link in memory is, plainly. -/
structure Lp (L : Lk) : Prop where
  ok : Lok L
  so : Ok L.s
  ro : Rok L.r
  gb : ∀ g, g ∈ L.n0 ∨ g ∈ L.n1 → ∀ c ∈ g.zs, 0 ≤ c ∧ c < 256
  eb : ∀ z e, L.s.L z = some e → ∀ c ∈ e.zs, 0 ≤ c ∧ c < 256
  f0 : L.n0.length ≤ 256
  f1 : L.n1.length ≤ 256
theorem Lm.p {w : World} {B : Nat} {q : Qb} {L : Lk} (h : Lm w B q L) : Lp L := by
  obtain ⟨cs, hb, hc⟩ := h.lk
  exact ⟨h.ok, h.sd.ok, h.rv.ok, fun g hg => (h.gr g hg).by_.1, fun z e he => (h.sd.ld z e he).by_.1, hc.n0.few, hc.n1.few⟩
def wfG (g : Gr) : Prop := g.sp = false → wfB g.zs = true
theorem get_more {S : List (List Int)} {i : Nat} {l : List Int} (h : S[i]? = some l) (m : List Int) : (S ++ [m])[i]? = some l := by
  rw [List.getElem?_append_left (List.getElem?_eq_some_iff.1 h).1]
  exact h
/-- A datagram of this token tells a load that was sent. -/
def D0 (tok : Int) (S : List (List Int)) (g : Gr) : Prop := upE g.zs = 0 → (upG g.zs).tok = tok → 1 ≤ (upG g.zs).seq → S[((upG g.zs).seq - 1).toNat]? = some (upG g.zs).zs
/-- A datagram of this token tells no more credit. -/
def D1 (tok c : Int) (g : Gr) : Prop := upE g.zs = 0 → (upG g.zs).tok = tok → (upG g.zs).cred ≤ c
/-- WHAT ALWAYS HOLDS, WHERE THE LOADS S WERE TAKEN IN k CALLS. -/
structure Inv (L : Lk) (win : Int) (S : List (List Int)) (k : Nat) : Prop where
  sw : L.s.win = win
  rw : L.r.win = win
  nx : L.s.nxt = (S.length : Int) + 1
  lm : L.s.lim ≤ L.r.tk + win
  sl : ∀ z e, L.s.L z = some e → S[(z - 1).toNat]? = some e.zs
  rl : ∀ z l, L.r.L z = some l → S[(z - 1).toNat]? = some l
  tk : L.r.tk ≤ S.length
  n0 : ∀ g, g ∈ L.n0 → wfG g ∧ D0 L.tok S g
  n1 : ∀ g, g ∈ L.n1 → wfG g ∧ D1 L.tok (L.r.tk + win) g
  ep : L.ep ≤ (k : Int) + 1
  ct : S.length ≤ k
theorem inv_start (tok win : Int) : Inv (l0 tok win) win [] 0 := by
  refine ⟨rfl, rfl, rfl, ?_, ?_, ?_, Int.le_refl _, ?_, ?_, Int.le_refl _, Nat.le_refl _⟩
  · show win ≤ 0 + win; omega
  · intro z e h; cases h
  · intro z e h; cases h
  · intro g h; cases h
  · intro g h; cases h
theorem D0.more {tok : Int} {S : List (List Int)} {g : Gr} (h : D0 tok S g) (l : List Int) : D0 tok (S ++ [l]) g := fun h1 h2 h3 => get_more (h h1 h2 h3) l
theorem D1.mono {tok c c' : Int} {g : Gr} (h : D1 tok c g) (hc : c ≤ c') : D1 tok c' g := fun h1 h2 => Int.le_trans (h h1 h2) hc
theorem wf_pk {m : Mg} (h : pkE m = 0) : wfB (pkB m) = true := by
  obtain ⟨_, h2⟩ := pk_may h
  exact (frame_wf h2).1
theorem fold_mem {x : Gr} : ∀ (gs G : List Gr), x ∈ gs.foldl putG G → x ∈ G ∨ x ∈ gs
  | [], G, h => .inl h
  | g :: gs, G, h => by
    rcases fold_mem gs (putG G g) h with h | h
    · rcases put_mem h with h | h
      · exact .inl h
      · subst h; exact .inr (by simp)
    · exact .inr (by simp [h])
theorem grs_mem {L : Lk} {D : List (Int × List Int)} {gs : List Gr} (h : grs L D gs) {g : Gr} (hg : g ∈ gs) : ∃ p ∈ D, g.zs = pkB (tellM L (mdata p.1 p.2)) ∧ g.sp = false := by
  have h1 : (g.zs, g.sp) ∈ gs.map (fun g => (g.zs, g.sp)) := List.mem_map.2 ⟨g, hg, rfl⟩
  unfold grs at h
  rw [h] at h1
  obtain ⟨p, hp, e⟩ := List.mem_map.1 h1
  simp only [Prod.mk.injEq] at e
  exact ⟨p, hp, e.1.symm, e.2.symm⟩
theorem wf_low {zs : List Int} (hb : ∀ c ∈ zs, 0 ≤ c ∧ c < 256) (h : wfB zs = true) : 8 ≤ zs.length ∧ zs.length ≤ 1208 := by
  obtain ⟨e, hl⟩ := wf_frame hb h
  have := congrArg List.length e
  rw [frame_len] at this
  omega
theorem turn_bad {zs : List Int} (hb : ∀ c ∈ zs, 0 ≤ c ∧ c < 256) (h : wfB zs = true) (x : Int) {y : Nat} (hy : y < 4294967296) (h0 : y ≠ 0) : upE (turnL zs (x % ((zs.length : Int) - 3)).toNat y) = 4 := by
  obtain ⟨e, hl⟩ := wf_frame hb h
  obtain ⟨l1, l2⟩ := wf_low hb h
  have hm1 := Int.emod_nonneg x (show (zs.length : Int) - 3 ≠ 0 by omega)
  have hm2 := Int.emod_lt_of_pos x (show 0 < (zs.length : Int) - 3 by omega)
  have hbl : ∀ c ∈ loadAt zs, 0 ≤ c ∧ c < 256 := fun c hc => hb c (List.mem_of_mem_drop (List.mem_of_mem_take hc))
  have hle : zs.length = (loadAt zs).length + 8 := by
    have := congrArg List.length e
    rwa [frame_len] at this
  have h1 := turn_frame (loadAt zs) hl hbl (x % ((zs.length : Int) - 3)).toNat y (by omega) hy h0
  rw [← e] at h1
  unfold upE
  rw [if_pos h1]
theorem lim_ack (s : St) (ack bits c m : Int) (h1 : s.lim ≤ m) (h2 : c ≤ m) : (ackS s ack bits c).lim ≤ m ∧ (ackS s ack bits c).win = s.win ∧ (ackS s ack bits c).nxt = s.nxt := by
  have bey : ∀ (s : St) z, (beyA s z).lim = s.lim ∧ (beyA s z).win = s.win ∧ (beyA s z).nxt = s.nxt := fun s z => by unfold beyA; split <;> exact ⟨rfl, rfl, rfl⟩
  have bit : ∀ (s : St) i, (bitsA s ack bits i).lim = s.lim ∧ (bitsA s ack bits i).win = s.win ∧ (bitsA s ack bits i).nxt = s.nxt := fun s i => by
    induction i with
    | zero => exact ⟨rfl, rfl, rfl⟩
    | succ i ih =>
      rw [bitsA]
      split
      · obtain ⟨a, b, c⟩ := bey (bitsA s ack bits i) (ack + 2 + (i : Int))
        exact ⟨a.trans ih.1, b.trans ih.2.1, c.trans ih.2.2⟩
      · exact ih
  have pop : ∀ k (s : St), (popsF k s).lim = s.lim ∧ (popsF k s).win = s.win ∧ (popsF k s).nxt = s.nxt := fun k => by
    induction k with
    | zero => exact fun s => ⟨rfl, rfl, rfl⟩
    | succ k ih =>
      intro s
      rw [popsF]
      split
      · split
        · obtain ⟨a, b, c⟩ := ih (finA s s.base)
          exact ⟨a, b, c⟩
        · exact ⟨rfl, rfl, rfl⟩
      · exact ⟨rfl, rfl, rfl⟩
  unfold ackS
  split
  · obtain ⟨a1, a2, a3⟩ := bit (finA s ack) 64
    obtain ⟨b1, b2, b3⟩ := pop 64 (bitsA (finA s ack) ack bits 64)
    refine ⟨?_, b2.trans a2, b3.trans a3⟩
    show max (popsF 64 (bitsA (finA s ack) ack bits 64)).lim c ≤ m
    rw [b1, a1]
    show max s.lim c ≤ m
    omega
  · exact ⟨h1, rfl, rfl⟩
theorem rec_lim (L : Lk) (h : Ok L.s) (m : Int) (h1 : L.s.lim ≤ m) (h2 : L.r.tk + L.r.win ≤ m) : (recS L).lim ≤ m ∧ (recS L).win = L.s.win ∧ (recS L).nxt = L.s.nxt := by
  unfold recS
  split
  · refine ⟨?_, rfl, rfl⟩
    show max (L.r.tk + L.r.win) (L.s.nxt - 1) ≤ m
    have := h.l1
    omega
  · exact ⟨h1, rfl, rfl⟩
theorem Inv.sub {L L' : Lk} {win : Int} {S : List (List Int)} {k : Nat} (h : Inv L win S k) (hs : Sub L'.s L.s) : ∀ z e, L'.s.L z = some e → S[(z - 1).toNat]? = some e.zs := fun z e he => by
  obtain ⟨e0, h1, h2⟩ := hs z e he
  rw [← h2]
  exact h.sl z e0 h1
/-- The loads taken, behind an act. -/
def nxS (S : List (List Int)) (x : Ac) (e : Int) : List (List Int) := if x.kind = 0 ∧ e = 0 then S ++ [x.zs] else S
theorem nxS_no {S : List (List Int)} {x : Ac} {e : Int} (h : x.kind ≠ 0) : nxS S x e = S := by unfold nxS; rw [if_neg (fun k => h k.1)]
theorem Inv.up {L : Lk} {win : Int} {S : List (List Int)} {k : Nat} (h : Inv L win S k) : Inv L win S (k + 1) :=
  ⟨h.sw, h.rw, h.nx, h.lm, h.sl, h.rl, h.tk, h.n0, h.n1, by have := h.ep; omega, by have := h.ct; omega⟩
/-- The nets alone have turned. -/
theorem Inv.nets {L L' : Lk} {win : Int} {S : List (List Int)} {k : Nat} (h : Inv L win S k) (n : Int) (G : List Gr) (e : L' = netS L n G) (hG : ∀ g, g ∈ G → (n = 0 → wfG g ∧ D0 L.tok S g) ∧ (n ≠ 0 → wfG g ∧ D1 L.tok (L.r.tk + win) g)) : Inv L' win S (k + 1) ∧ L'.r = L.r := by
  subst e
  by_cases hn : n = 0
  · have e : netS L n G = { L with n0 := G } := by unfold netS; rw [if_pos hn]
    rw [e]
    exact ⟨⟨h.sw, h.rw, h.nx, h.lm, h.sl, h.rl, h.tk, fun g hg => (hG g hg).1 hn, h.n1, by have := h.ep; show L.ep ≤ _; omega, by have := h.ct; omega⟩, rfl⟩
  · have e : netS L n G = { L with n1 := G } := by unfold netS; rw [if_neg hn]
    rw [e]
    exact ⟨⟨h.sw, h.rw, h.nx, h.lm, h.sl, h.rl, h.tk, h.n0, fun g hg => (hG g hg).2 hn, by have := h.ep; show L.ep ≤ _; omega, by have := h.ct; omega⟩, rfl⟩
theorem Inv.old {L : Lk} {win : Int} {S : List (List Int)} {k : Nat} (h : Inv L win S k) {n : Int} {g : Gr} (hg : g ∈ netL L n) : (n = 0 → wfG g ∧ D0 L.tok S g) ∧ (n ≠ 0 → wfG g ∧ D1 L.tok (L.r.tk + win) g) := by
  refine ⟨fun hn => ?_, fun hn => ?_⟩
  · unfold netL at hg; rw [if_pos hn] at hg; exact h.n0 g hg
  · unfold netL at hg; rw [if_neg hn] at hg; exact h.n1 g hg
theorem net_in {L : Lk} {n : Int} {g : Gr} (hg : g ∈ netL L n) : g ∈ L.n0 ∨ g ∈ L.n1 := by
  unfold netL at hg
  split at hg
  · exact .inl hg
  · exact .inr hg
theorem del_case (L : Lk) (n : Int) (zs : List Int) : (delR L n zs).2 = L ∨ (upE zs = 0 ∧ (upG zs).tok = L.tok ∧ ((n = 0 ∧ (delR L n zs).2 = { L with r := dataS L.r (upG zs).seq (upG zs).zs }) ∨ (n ≠ 0 ∧ (delR L n zs).2 = { L with s := ackS L.s (upG zs).ack (upG zs).bits (upG zs).cred }))) := by
  unfold delR
  by_cases h1 : upE zs = 0
  · rw [if_neg (fun k => k h1)]
    by_cases h2 : (upG zs).tok ≠ L.tok ∨ (upG zs).kind ≠ (if n = 0 then 1 else 2)
    · rw [if_pos h2]; exact .inl rfl
    · rw [if_neg h2]
      by_cases h3 : (upG zs).ep ≠ L.ep
      · rw [if_pos h3]; exact .inl rfl
      · rw [if_neg h3]
        refine .inr ⟨h1, Classical.not_not.1 (fun z => h2 (.inl z)), ?_⟩
        by_cases hn : n = 0
        · rw [if_pos hn]; exact .inl ⟨hn, rfl⟩
        · rw [if_neg hn]; exact .inr ⟨hn, rfl⟩
  · rw [if_pos h1]; exact .inl rfl
theorem inv_del {L : Lk} {win : Int} {S : List (List Int)} {k : Nat} (p : Lp L) (h : Inv L win S k) (n i : Int) : Inv (delS L n i).2 win S (k + 1) ∧ (delS L n i).2.r.tk = L.r.tk := by
  unfold delS
  split
  · rename_i g hg
    have hgm := List.mem_of_getElem? hg
    split
    · rename_i hE
      obtain ⟨h1, hr⟩ := h.nets n ((netL L n).eraseIdx i.toNat) rfl (fun x hx => h.old (mem_erase hx))
      have ht : (netS L n ((netL L n).eraseIdx i.toNat)).tok = L.tok := by unfold netS; split <;> rfl
      have hs : (netS L n ((netL L n).eraseIdx i.toNat)).s = L.s := by unfold netS; split <;> rfl
      generalize netS L n ((netL L n).eraseIdx i.toNat) = L1 at *
      have ho := h.old hgm
      rw [← ht, ← hr] at ho
      rw [← hr]
      have ro : Rok L1.r := by rw [hr]; exact p.ro
      clear h hr hs ht p hE
      rcases del_case L1 n g.zs with e | ⟨u0, ut, ⟨hn, e⟩ | ⟨hn, e⟩⟩
      · rw [e]; exact ⟨h1, rfl⟩
      · rw [e]
        refine ⟨⟨h1.sw, (dataS_win _ _ _).trans h1.rw, h1.nx, by show L1.s.lim ≤ (dataS L1.r _ _).tk + win; rw [dataS_tk]; exact h1.lm, h1.sl, fun z l hl => ?_, by show (dataS L1.r _ _).tk ≤ _; rw [dataS_tk]; exact h1.tk, h1.n0, by show ∀ g, g ∈ L1.n1 → _ ∧ D1 L1.tok ((dataS L1.r _ _).tk + win) g; rw [dataS_tk]; exact h1.n1, h1.ep, h1.ct⟩, dataS_tk _ _ _⟩
        have hl : (dataS L1.r (upG g.zs).seq (upG g.zs).zs).L z = some l := hl
        unfold dataS at hl
        split at hl
        · rename_i hd
          have hl : (if z = (upG g.zs).seq then some (upG g.zs).zs else L1.r.L z) = some l := hl
          split at hl
          · rename_i hz
            obtain rfl := Option.some.inj hl
            rw [hz]
            exact ((ho.1 hn).2) u0 ut (dataE_ok hd).1
          · exact h1.rl z l hl
        · exact h1.rl z l hl
      · rw [e]
        obtain ⟨a1, a2, a3⟩ := lim_ack L1.s (upG g.zs).ack (upG g.zs).bits (upG g.zs).cred (L1.r.tk + win) h1.lm ((ho.2 hn).2 u0 ut)
        have hsb := sub_ackS L1.s (upG g.zs).ack (upG g.zs).bits (upG g.zs).cred
        clear e
        generalize ackS L1.s (upG g.zs).ack (upG g.zs).bits (upG g.zs).cred = s2 at *
        refine ⟨⟨a2.trans h1.sw, h1.rw, a3.trans h1.nx, a1, h1.sub hsb, h1.rl, h1.tk, h1.n0, h1.n1, h1.ep, h1.ct⟩, rfl⟩
    · exact ⟨h.up, rfl⟩
  · exact ⟨h.up, rfl⟩
theorem inv_tick {L L' : Lk} {win : Int} {S : List (List Int)} {k : Nat} (p : Lp L) (h : Inv L win S k) (hk : k ≤ 1000000000000000) (ht : TickS L L') : Inv L' win S (k + 1) ∧ L'.r.tk = L.r.tk := by
  by_cases hn : 1099511627776 ≤ L.now
  · rw [ht.1 hn]
    exact ⟨h.up, rfl⟩
  · obtain ⟨gs, g, hgs, hg1, hg2, e⟩ := ht.2 (by omega)
    subst e
    have hep := h.ep
    have hct := h.ct
    have htk := h.tk
    have t1 := p.ro.t1
    have w1 := p.ro.w1
    have w2 := p.ro.w2
    have hsub : Sub (dueA L.s (L.now + 1)) L.s := sub_due _ _
    refine ⟨⟨h.sw, h.rw, h.nx, h.lm, fun z e he => ?_, h.rl, h.tk, fun x hx => ?_, fun x hx => ?_, by show L.ep ≤ _; omega, by omega⟩, rfl⟩
    · obtain ⟨e0, h1, h2⟩ := hsub z e he
      rw [← h2]
      exact h.sl z e0 h1
    · rcases fold_mem gs L.n0 hx with hx | hx
      · exact h.n0 x hx
      · obtain ⟨d, hd, e1, e2⟩ := grs_mem hgs hx
        obtain ⟨e, he, hez, hb1, hb2⟩ := dueL_in _ _ _ d hd
        have o1 := p.so.b1
        have o2 := p.so.l1
        have o3 := p.so.l2
        have o4 := p.so.b2
        obtain ⟨q1, q2⟩ := pk_data (zs := d.2) (seq := d.1) p.ok (by omega) (by omega) (by omega) (by rw [← hez]; exact p.ok.few _ _ he) (by rw [← hez]; exact p.eb _ _ he)
        obtain ⟨u1, u2, _⟩ := up_pk q1 q2
        refine ⟨fun _ => by rw [e1]; exact wf_pk q1, fun _ _ _ => ?_⟩
        rw [e1, u2]
        show S[(d.1 - 1).toNat]? = some d.2
        rw [← hez]
        exact h.sl _ _ he
    · have hx : x ∈ putG L.n1 g := hx
      rcases put_mem hx with hx | hx
      · exact h.n1 x hx
      · subst hx
        have r1 := rdy_le p.ro
        have b1 := bF_bnd (ackF L.r) 64
        obtain ⟨q1, q2⟩ := pk_ack (ack := ackN L.r) (bits := ackB L.r) (cred := L.r.tk + L.r.win) p.ok (by omega) (by unfold ackN; omega) (by unfold ackN; omega) (by omega) (by omega) b1.1 b1.2
        obtain ⟨u1, u2, _⟩ := up_pk q1 q2
        refine ⟨fun _ => by rw [hg1]; exact wf_pk q1, fun _ _ => ?_⟩
        rw [hg1, u2]
        show L.r.tk + L.r.win ≤ L.r.tk + win
        rw [h.rw]
        exact Int.le_refl _
theorem inv_turn {L L' : Lk} {win : Int} {S : List (List Int)} {k : Nat} (p : Lp L) (h : Inv L win S k) {n i x : Int} {y : Nat} (hy : y < 4294967296) (ht : TurnS L L' n i x y) : Inv L' win S (k + 1) ∧ L'.r.tk = L.r.tk := by
  by_cases hE : turnE L n i = 0
  · obtain ⟨g, g', hg, hs, _, e1, e2, e3⟩ := ht.2 hE
    have hgm := List.mem_of_getElem? hg
    have hb := p.gb g (net_in hgm)
    obtain ⟨a, b⟩ := h.nets (L' := L') n _ e3 (fun z hz => by
      rcases set_mem hz with hz | hz
      · exact h.old hz
      · subst hz
        have ho := h.old hgm
        by_cases hy0 : y = 0
        · subst hy0
          have ez : z.zs = g.zs := by rw [e1]; exact turn_none hb _
          have es : z.sp = g.sp := by rw [e2, hs]; rfl
          unfold wfG D0 D1 at ho ⊢
          rw [ez, es]
          exact ho
        · have hw : wfB g.zs = true := by
            by_cases hn : n = 0
            · exact (ho.1 hn).1 hs
            · exact (ho.2 hn).1 hs
          have h4 : upE z.zs = 4 := by rw [e1]; exact turn_bad hb hw x hy hy0
          have hsp : z.sp = true := by rw [e2]; simpa using hy0
          exact ⟨fun _ => ⟨fun q => by rw [hsp] at q; (cases q), fun q => by rw [h4] at q; (cases q)⟩, fun _ => ⟨fun q => by rw [hsp] at q; (cases q), fun q => by rw [h4] at q; (cases q)⟩⟩)
    exact ⟨a, by rw [b]⟩
  · rw [ht.1 hE]
    exact ⟨h.up, rfl⟩
theorem inv_forge {L L' : Lk} {win : Int} {S : List (List Int)} {k : Nat} (h : Inv L win S k) {n : Int} {zs : List Int} (ht : ForgeS L L' n zs) : Inv L' win S (k + 1) ∧ L'.r.tk = L.r.tk := by
  by_cases hE : forgeE L n zs = 0
  · obtain ⟨g, e1, e2, e3⟩ := ht.2 hE
    have ho : ownB L zs = false := by
      unfold forgeE at hE
      split at hE
      · cases hE
      split at hE
      · cases hE
      split at hE
      · cases hE
      · rename_i q; simpa using q
    obtain ⟨a, b⟩ := h.nets (L' := L') n _ e3 (fun z hz => by
      rcases put_mem hz with hz | hz
      · exact h.old hz
      · subst hz
        have hno : upE z.zs = 0 → (upG z.zs).tok = L.tok → False := fun q1 q2 => by
          rw [e1] at q1 q2
          have : ownB L zs = true := decide_eq_true ⟨q1, q2⟩
          rw [ho] at this
          cases this
        exact ⟨fun _ => ⟨fun q => by rw [e2] at q; (cases q), fun q1 q2 => (hno q1 q2).elim⟩, fun _ => ⟨fun q => by rw [e2] at q; (cases q), fun q1 q2 => (hno q1 q2).elim⟩⟩)
    exact ⟨a, by rw [b]⟩
  · rw [ht.1 hE]
    exact ⟨h.up, rfl⟩
/-- WHATEVER IS DONE, IT HOLDS; and what is answered is the next load that was taken. -/
theorem inv_step {L L' : Lk} {x : Ac} {b : List Int} {ok : Bool} {e : Int} {win : Int} {S : List (List Int)} {k : Nat} (p : Lp L) (p' : Lp L') (h : Inv L win S k) (hk : k ≤ 1000000000000000) (hy : x.by_.toNat < 4294967296) (d : DoS L x L' b ok e) :
    Inv L' win (nxS S x e) (k + 1) ∧ ((x.kind = 1 ∧ ok = true ∧ L'.r.tk = L.r.tk + 1 ∧ S[L.r.tk.toNat]? = some b) ∨ (ok = false ∧ L'.r.tk = L.r.tk)) := by
  cases d with
  | send hk0 hs =>
    by_cases hE : sendE L x.zs.length = 0
    · obtain ⟨en, e1, e2, e3, e4, rfl⟩ := hs.2 hE
      have eS : nxS S x (sendE L x.zs.length) = S ++ [x.zs] := by unfold nxS; rw [if_pos ⟨hk0, hE⟩]
      rw [eS]
      have hnx := h.nx
      refine ⟨⟨h.sw, h.rw, ?_, h.lm, fun z e he => ?_, fun z l hl => get_more (h.rl z l hl) _, ?_, fun g hg => ⟨(h.n0 g hg).1, (h.n0 g hg).2.more _⟩, h.n1, by have := h.ep; show L.ep ≤ _; omega, ?_⟩, .inr ⟨rfl, rfl⟩⟩
      · show L.s.nxt + 1 = _
        rw [List.length_append, hnx]
        simp
      · have he : (if z = L.s.nxt then some en else L.s.L z) = some e := he
        split at he
        · rename_i hz
          obtain rfl := Option.some.inj he
          rw [hz, hnx, e1, show ((S.length : Int) + 1 - 1).toNat = S.length by omega]
          exact List.getElem?_concat_length
        · exact get_more (h.sl z e he) _
      · have := h.tk
        rw [List.length_append]
        show L.r.tk ≤ _
        simp
        omega
      · have := h.ct
        rw [List.length_append]
        simp
        omega
    · rw [hs.1 hE]
      have eS : nxS S x (sendE L x.zs.length) = S := by unfold nxS; rw [if_neg (fun q => hE q.2)]
      rw [eS]
      exact ⟨h.up, .inr ⟨rfl, rfl⟩⟩
  | poll hk1 =>
    rw [nxS_no (by omega)]
    cases hL : L.r.L (L.r.tk + 1) with
    | none =>
      have e1 : takeS L.r = L.r := by unfold takeS; rw [hL]; rfl
      have e2 : ({ L with r := takeS L.r } : Lk) = L := by rw [e1]
      rw [e2]
      exact ⟨h.up, .inr ⟨rfl, rfl⟩⟩
    | some l =>
      have e1 : takeS L.r = takeA L.r := by unfold takeS; rw [hL]; rfl
      rw [e1]
      have hlt := h.rl _ _ hL
      have t1 := p.ro.t1
      rw [show (L.r.tk + 1 - 1).toNat = L.r.tk.toNat by omega] at hlt
      have hlen := (List.getElem?_eq_some_iff.1 hlt).1
      refine ⟨⟨h.sw, h.rw, h.nx, ?_, h.sl, fun z l' hl' => ?_, ?_, h.n0, fun g hg => ⟨(h.n1 g hg).1, (h.n1 g hg).2.mono ?_⟩, by have := h.ep; show L.ep ≤ _; omega, by have := h.ct; omega⟩, .inl ⟨hk1, rfl, rfl, hlt⟩⟩
      · have := h.lm
        show L.s.lim ≤ L.r.tk + 1 + win
        omega
      · have hl' : (if z = L.r.tk + 1 then none else L.r.L z) = some l' := hl'
        split at hl'
        · cases hl'
        · exact h.rl z l' hl'
      · show L.r.tk + 1 ≤ _
        omega
      · show L.r.tk + win ≤ L.r.tk + 1 + win
        omega
  | tick hk2 ht =>
    rw [nxS_no (by omega)]
    obtain ⟨a, b⟩ := inv_tick p h hk ht
    exact ⟨a, .inr ⟨rfl, b⟩⟩
  | del hk3 =>
    rw [nxS_no (by omega)]
    obtain ⟨a, b⟩ := inv_del p h x.net x.i
    exact ⟨a, .inr ⟨rfl, b⟩⟩
  | drop hk4 =>
    rw [nxS_no (by omega)]
    unfold dropS
    split
    · obtain ⟨a, b⟩ := h.nets x.net ((netL L x.net).eraseIdx x.i.toNat) rfl (fun z hz => h.old (mem_erase hz))
      exact ⟨a, .inr ⟨rfl, by rw [b]⟩⟩
    · exact ⟨h.up, .inr ⟨rfl, rfl⟩⟩
  | twice hk5 =>
    rw [nxS_no (by omega)]
    unfold twiceS
    split
    · rename_i g hg
      split
      · obtain ⟨a, b⟩ := h.nets x.net (putG (netL L x.net) g) rfl (fun z hz => by
          rcases put_mem hz with hz | hz
          · exact h.old hz
          · subst hz; exact h.old (List.mem_of_getElem? hg))
        exact ⟨a, .inr ⟨rfl, by rw [b]⟩⟩
      · exact ⟨h.up, .inr ⟨rfl, rfl⟩⟩
    · exact ⟨h.up, .inr ⟨rfl, rfl⟩⟩
  | turn hk6 ht =>
    rw [nxS_no (by omega)]
    obtain ⟨a, b⟩ := inv_turn p h hy ht
    exact ⟨a, .inr ⟨rfl, b⟩⟩
  | forge hk7 ht =>
    rw [nxS_no (by omega)]
    obtain ⟨a, b⟩ := inv_forge h ht
    exact ⟨a, .inr ⟨rfl, b⟩⟩
  | again hk8 =>
    rw [nxS_no (by omega)]
    have hr := h.rw
    obtain ⟨a1, a2, a3⟩ := rec_lim L p.so (L.r.tk + win) h.lm (by rw [hr]; exact Int.le_refl _)
    exact ⟨⟨a2.trans h.sw, h.rw, a3.trans h.nx, a1, h.sub (sub_rec L), h.rl, h.tk, h.n0, h.n1, by have := h.ep; show L.ep + 1 ≤ _; omega, by have := h.ct; omega⟩, .inr ⟨rfl, rfl⟩⟩
  | none hk9 =>
    rw [nxS_no (by omega)]
    exact ⟨h.up, .inr ⟨rfl, rfl⟩⟩
theorem Inv.k {L : Lk} {win : Int} {S : List (List Int)} {k : Nat} (p : Lp L) (h : Inv L win S k) (hk : k ≤ 1000000000000000) (hn : ∀ g, g ∈ L.n0 ∨ g ∈ L.n1 → g.zs.length = g.n) : DoK L := by
  have h1 := h.ep
  have h2 := h.tk
  have h3 := h.ct
  refine ⟨by omega, by omega, fun g hg hs => ?_⟩
  have hw : wfB g.zs = true := by
    rcases hg with hg | hg
    · exact (h.n0 g hg).1 hs
    · exact (h.n1 g hg).1 hs
  have := wf_low (p.gb g hg) hw
  have := hn g hg
  omega
end Go.Proofs.Ytfipdldoklkciaa
