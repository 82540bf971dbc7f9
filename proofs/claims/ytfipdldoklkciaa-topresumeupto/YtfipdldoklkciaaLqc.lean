/-
  What a fair round brings over.
-/
import Derived.Test.YtfipdldoklkciaaLqb
namespace Go.Proofs.Ytfipdldoklkciaa
open Go.RowKit
set_option linter.unusedVariables false
/-- What is not had waits, until T at the most. -/
def Wait (L : Lk) (T : Int) : Prop := ∀ z e, L.s.L z = some e → ¬ hasR L.r z → L.now < e.time ∧ e.time ≤ T
/-- A datagram that brings z. -/
def Own (L : Lk) (z : Int) (g : Gr) : Prop := upE g.zs = 0 ∧ (upG g.zs).tok = L.tok ∧ (upG g.zs).kind = 1 ∧ (upG g.zs).ep = L.ep ∧ (upG g.zs).seq = z ∧ (upG g.zs).zs.length ≤ 1200
/-- .. or is on its way. -/
def Pend (L : Lk) (T : Int) : Prop := ∀ z e, L.s.L z = some e → ¬ hasR L.r z → (L.now < e.time ∧ e.time ≤ T) ∨ ∃ g, g ∈ L.n0 ∧ Own L z g
theorem Pend.wait {L : Lk} {T : Int} (h : Pend L T) (h0 : L.n0 = []) : Wait L T := fun z e h1 h2 => by
  rcases h z e h1 h2 with h3 | ⟨g, hg, _⟩
  · exact h3
  · rw [h0] at hg; cases hg
theorem due_in {s : St} {now z : Int} {e : Ent} (h1 : s.L z = some e) (h2 : tellB now e = true) : ∀ k : Nat, s.base ≤ z → z < s.base + (k : Int) → (z, e.zs) ∈ dueL s now k
  | 0, a, b => by omega
  | k + 1, a, b => by
    unfold dueL
    by_cases hz : z < s.base + (k : Int)
    · exact List.mem_append_left _ (due_in h1 h2 k a hz)
    · have e1 : s.base + (k : Int) = z := by omega
      rw [e1, h1]
      refine List.mem_append_right _ ?_
      show (z, e.zs) ∈ (if tellB now e = true then [(z, e.zs)] else [])
      rw [if_pos h2]
      simp
theorem fold_all {x : Gr} : ∀ (gs G : List Gr), G.length + gs.length ≤ 256 → x ∈ G ∨ x ∈ gs → x ∈ gs.foldl putG G
  | [], G, _, h => by
    rcases h with h | h
    · exact h
    · cases h
  | g :: gs, G, hl, h => by
    simp only [List.length_cons] at hl
    have e : putG G g = G ++ [g] := by unfold putG; rw [if_pos (by omega)]
    show x ∈ gs.foldl putG (putG G g)
    rw [e]
    refine fold_all gs (G ++ [g]) (by simp; omega) ?_
    rcases h with h | h
    · exact .inl (by simp [h])
    · rcases List.mem_cons.1 h with h | h
      · exact .inl (by simp [h])
      · exact .inr h
theorem grs_get {L : Lk} {D : List (Int × List Int)} {gs : List Gr} (h : grs L D gs) {d : Int × List Int} (hd : d ∈ D) : ∃ g ∈ gs, g.zs = pkB (tellM L (mdata d.1 d.2)) := by
  unfold grs at h
  have h1 : (pkB (tellM L (mdata d.1 d.2)), false) ∈ gs.map (fun g => (g.zs, g.sp)) := by
    rw [h]
    exact List.mem_map.2 ⟨d, hd, rfl⟩
  obtain ⟨g, hg, e⟩ := List.mem_map.1 h1
  simp only [Prod.mk.injEq] at e
  exact ⟨g, hg, e.1⟩
theorem grs_len {L : Lk} {D : List (Int × List Int)} {gs : List Gr} (h : grs L D gs) : gs.length = D.length := by
  have := congrArg List.length h
  simpa using this
/-- THE FIRST TICK: all that is not had waits anew. -/
theorem tick_first {L L' : Lk} (p : Lp L) (h : Lv L) (hn : L.now < 1099511627776) (ht : TickS L L') : Wait L' (L.now + 65) ∧ L'.now = L.now + 1 := by
  obtain ⟨gs, g, hgs, hg1, hg2, e⟩ := ht.2 hn
  subst e
  refine ⟨fun z e' he hno => ?_, rfl⟩
  have he : (dueA L.s (L.now + 1)).L z = some e' := he
  have hno : ¬ hasR L.r z := hno
  have hlt := (p.so.inn z)
  have h0 : (if z < L.s.nxt then (L.s.L z).map (dueE (L.now + 1)) else L.s.L z) = some e' := he
  have hz : z < L.s.nxt := by
    rcases Int.lt_or_le z L.s.nxt with h1 | h1
    · exact h1
    · rw [if_neg (by omega)] at h0
      exact ((hlt.1 (by rw [h0]; rfl)).2)
  rw [if_pos hz] at h0
  cases hL : L.s.L z with
  | none => rw [hL] at h0; cases h0
  | some e =>
    rw [hL] at h0
    have h0 : dueE (L.now + 1) e = e' := Option.some.inj h0
    have h1 := h.tm z e hL
    have h2 : e.there = false := by
      cases hx : e.there with
      | false => rfl
      | true => exact absurd (h.th z e hL hx) hno
    have h3 := (p.so.ent z e hL).2.2.2.2
    rw [← h0]
    show L.now + 1 < (dueE (L.now + 1) e).time ∧ (dueE (L.now + 1) e).time ≤ L.now + 65
    unfold dueE
    by_cases hd : e.time ≤ L.now + 1
    · rw [if_pos (by unfold tellB; rw [h2]; simpa using hd)]
      show L.now + 1 < L.now + 1 + e.wait ∧ L.now + 1 + e.wait ≤ L.now + 65
      omega
    · rw [if_neg (by unfold tellB; simp; intro _; omega)]
      omega
/-- A LATER TICK, THE NETS EMPTY: whose time has come is on its way. -/
theorem tick_next {L L' : Lk} {win T : Int} {S : List (List Int)} {k : Nat} (p : Lp L) (hI : Inv L win S k) (hk : k ≤ 1000000000000000) (h : Lv L) (hw : Wait L T) (h0 : L.n0 = []) (hn : L.now < 1099511627776) (ht : TickS L L') : Pend L' T ∧ L'.now = L.now + 1 := by
  obtain ⟨gs, g, hgs, hg1, hg2, e⟩ := ht.2 hn
  subst e
  refine ⟨fun z e' he hno => ?_, rfl⟩
  have he : (if z < L.s.nxt then (L.s.L z).map (dueE (L.now + 1)) else L.s.L z) = some e' := he
  have hno : ¬ hasR L.r z := hno
  have hlt := (p.so.inn z)
  have hz : z < L.s.nxt := by
    rcases Int.lt_or_le z L.s.nxt with h1 | h1
    · exact h1
    · rw [if_neg (by omega)] at he
      exact ((hlt.1 (by rw [he]; rfl)).2)
  rw [if_pos hz] at he
  cases hL : L.s.L z with
  | none => rw [hL] at he; cases he
  | some e =>
    rw [hL] at he
    have he : dueE (L.now + 1) e = e' := Option.some.inj he
    obtain ⟨w1, w2⟩ := hw z e hL hno
    have h2 : e.there = false := by
      cases hx : e.there with
      | false => rfl
      | true => exact absurd (h.th z e hL hx) hno
    have hbz : L.s.base ≤ z := (hlt.1 (by rw [hL]; rfl)).1
    by_cases hd : e.time ≤ L.now + 1
    · refine .inr ?_
      have htb : tellB (L.now + 1) e = true := by unfold tellB; rw [h2]; simpa using hd
      have hm : (z, e.zs) ∈ dueN L := due_in hL htb _ hbz (by omega)
      obtain ⟨x, hx, hxz⟩ := grs_get hgs hm
      have hlen : gs.length ≤ 256 := by
        rw [grs_len hgs]
        unfold dueN
        have := dueL_len L.s (L.now + 1) (L.s.nxt - L.s.base).toNat
        have := p.so.few
        have := p.so.w2
        omega
      have hin : x ∈ gs.foldl putG L.n0 := fold_all gs L.n0 (by rw [h0]; simpa using hlen) (.inr hx)
      have o1 := p.so.b1
      have o2 := p.so.l1
      have o3 := p.so.l2
      have hep := hI.ep
      obtain ⟨q1, q2⟩ := pk_data (zs := e.zs) (seq := z) p.ok (by omega) (by omega) (by omega) (p.ok.few _ _ hL) (p.eb _ _ hL)
      obtain ⟨u1, u2, _⟩ := up_pk q1 q2
      refine ⟨x, hin, by rw [hxz]; exact u1, ?_⟩
      rw [hxz, u2]
      exact ⟨rfl, rfl, rfl, rfl, by show e.zs.length ≤ 1200; have := p.ok.few _ _ hL; omega⟩
    · refine .inl ?_
      rw [← he]
      unfold dueE
      rw [if_neg (by unfold tellB; simp; intro _; omega)]
      show L.now + 1 < e.time ∧ e.time ≤ T
      omega
/-- The first on its way to the receiver is delivered. -/
theorem pend_del {L : Lk} {win T : Int} {S : List (List Int)} {k : Nat} (p : Lp L) (hI : Inv L win S k) (h : Pend L T) {g : Gr} {G : List Gr} (h0 : L.n0 = g :: G) :
    Pend (delS L 0 0).2 T ∧ (delS L 0 0).2.n0 = G ∧ (delS L 0 0).2.n1 = L.n1 ∧ (delS L 0 0).2.now = L.now ∧ (delS L 0 0).2.ep = L.ep ∧ (delS L 0 0).2.s = L.s := by
  have hlt : 0 < L.n0.length := by rw [h0]; simp
  have hg : L.n0[0]? = some g := by rw [h0]; rfl
  have eG : L.n0.eraseIdx 0 = G := by rw [h0]; rfl
  have e : delS L 0 0 = delR { L with n0 := G } 0 g.zs := by
    unfold delS
    rw [show (netL L 0)[(0 : Int).toNat]? = some g from hg]
    show (if canE L 0 ((0 : Nat) : Int) = 0 then delR (netS L 0 (L.n0.eraseIdx 0)) 0 g.zs else _) = _
    have hc : canE L 0 ((0 : Nat) : Int) = 0 := by
      unfold canE
      rw [if_neg (by decide), if_neg]
      show ¬ (((0 : Nat) : Int) < 0 ∨ (L.n0.length : Int) ≤ ((0 : Nat) : Int))
      omega
    rw [if_pos hc, eG]
    rfl
  rw [e]
  -- what is brought is had
  have key : ∀ z e, L.s.L z = some e → Own L z g → hasR (delR { L with n0 := G } 0 g.zs).2.r z := fun z e hL ho => by
    obtain ⟨o1, o2, o3, o4, o5, o6⟩ := ho
    have hz := (p.so.inn z).1 (by rw [hL]; rfl)
    have b1 := p.so.b1
    have l1 := p.so.l1
    have lm := hI.lm
    have rw_ := hI.rw
    have e2 : delR { L with n0 := G } 0 g.zs = (dataE L.r (upG g.zs).seq (upG g.zs).zs.length, { L with n0 := G, r := dataS L.r (upG g.zs).seq (upG g.zs).zs }) := by
      unfold delR
      rw [if_neg (fun k => k o1), if_neg (by rintro (k | k); exact k o2; exact k o3), if_neg (fun k => k o4), if_pos rfl]
    rw [e2, o5]
    show hasR (dataS L.r z (upG g.zs).zs) z
    by_cases hh : hasR L.r z
    · exact has_data hh _ _
    · refine has_new ?_
      unfold dataE
      rw [if_neg (by omega), if_neg (by omega), if_neg (by intro k; exact hh k), if_neg (by omega)]
  have rest : (delR { L with n0 := G } 0 g.zs).2.n0 = G ∧ (delR { L with n0 := G } 0 g.zs).2.n1 = L.n1 ∧ (delR { L with n0 := G } 0 g.zs).2.now = L.now ∧ (delR { L with n0 := G } 0 g.zs).2.ep = L.ep ∧ (delR { L with n0 := G } 0 g.zs).2.s = L.s ∧ (delR { L with n0 := G } 0 g.zs).2.tok = L.tok ∧ ∀ z, hasR L.r z → hasR (delR { L with n0 := G } 0 g.zs).2.r z := by
    rcases del_case { L with n0 := G } 0 g.zs with e3 | ⟨_, _, ⟨_, e3⟩ | ⟨hx, _⟩⟩
    · rw [e3]; exact ⟨rfl, rfl, rfl, rfl, rfl, rfl, fun z hz => hz⟩
    · rw [e3]; exact ⟨rfl, rfl, rfl, rfl, rfl, rfl, fun z hz => has_data hz _ _⟩
    · exact absurd rfl hx
  obtain ⟨r1, r2, r3, r4, r5, r6, r7⟩ := rest
  generalize (delR { L with n0 := G } 0 g.zs).2 = L2 at *
  refine ⟨fun z en he hno => ?_, r1, r2, r3, r4, r5⟩
  rw [r5] at he
  rcases h z en he (fun hh => hno (r7 z hh)) with h3 | ⟨x, hx, ho⟩
  · exact .inl (by rw [r3]; exact h3)
  · rw [h0] at hx
    rcases List.mem_cons.1 hx with hx | hx
    · subst hx
      exact absurd (key z en he ho) hno
    · refine .inr ⟨x, by rw [r1]; exact hx, ?_⟩
      obtain ⟨o1, o2, o3, o4, o5, o6⟩ := ho
      exact ⟨o1, by rw [r6]; exact o2, o3, by rw [r4]; exact o4, o5, o6⟩
theorem ack_time (s : St) (ack bits c : Int) {z : Int} {e' : Ent} (h : (ackS s ack bits c).L z = some e') : ∃ e, s.L z = some e ∧ e.time = e'.time := by
  have fin : ∀ (s : St) k z e', (finA s k).L z = some e' → s.L z = some e' := fun s k z e' h => by
    have h : (if z ≤ k then none else s.L z) = some e' := h
    split at h
    · cases h
    · exact h
  have bit : ∀ (s : St) n z e', (bitsA s ack bits n).L z = some e' → ∃ e, s.L z = some e ∧ e.time = e'.time := fun s n => by
    induction n with
    | zero => exact fun z e' h => ⟨e', h, rfl⟩
    | succ n ih =>
      intro z e' h
      rw [bitsA] at h
      split at h
      · unfold beyA at h
        split at h
        · rename_i e0 he0
          have h : (if z = ack + 2 + (n : Int) then some { e0 with there := true } else (bitsA s ack bits n).L z) = some e' := h
          split at h
          · rename_i hz
            obtain rfl := Option.some.inj h
            obtain ⟨e1, g1, g2⟩ := ih _ _ he0
            exact ⟨e1, by rw [hz]; exact g1, g2⟩
          · exact ih z e' h
        · exact ih z e' h
      · exact ih z e' h
  have pop : ∀ n (s : St) z e', (popsF n s).L z = some e' → s.L z = some e' := fun n => by
    induction n with
    | zero => exact fun s z e' h => h
    | succ n ih =>
      intro s z e' h
      rw [popsF] at h
      split at h
      · split at h
        · exact fin _ _ _ _ (ih _ z e' h)
        · exact h
      · exact h
  unfold ackS at h
  split at h
  · have h : (popsF 64 (bitsA (finA s ack) ack bits 64)).L z = some e' := h
    obtain ⟨e1, g1, g2⟩ := bit (finA s ack) 64 z e' (pop 64 _ z e' h)
    exact ⟨e1, fin _ _ _ _ g1, g2⟩
  · exact ⟨e', h, rfl⟩
/-- The first on its way to the sender is delivered. -/
theorem wait_del {L : Lk} {T : Int} (p : Lp L) (h : Wait L T) {g : Gr} {G : List Gr} (h1 : L.n1 = g :: G) :
    Wait (delS L 1 0).2 T ∧ (delS L 1 0).2.n1 = G ∧ (delS L 1 0).2.n0 = L.n0 ∧ (delS L 1 0).2.now = L.now ∧ (delS L 1 0).2.ep = L.ep ∧ (delS L 1 0).2.r = L.r ∧ (delS L 1 0).2.s.nxt = L.s.nxt := by
  have hg : L.n1[0]? = some g := by rw [h1]; rfl
  have hlt : 0 < L.n1.length := by rw [h1]; simp
  have eG : L.n1.eraseIdx 0 = G := by rw [h1]; rfl
  have e : delS L 1 0 = delR { L with n1 := G } 1 g.zs := by
    unfold delS
    rw [show (netL L 1)[(0 : Int).toNat]? = some g from hg]
    show (if canE L 1 ((0 : Nat) : Int) = 0 then delR (netS L 1 (L.n1.eraseIdx 0)) 1 g.zs else _) = _
    have hc : canE L 1 ((0 : Nat) : Int) = 0 := by
      unfold canE
      rw [if_neg (by decide), if_neg]
      show ¬ (((0 : Nat) : Int) < 0 ∨ (L.n1.length : Int) ≤ ((0 : Nat) : Int))
      omega
    rw [if_pos hc, eG]
    rfl
  rw [e]
  rcases del_case { L with n1 := G } 1 g.zs with e3 | ⟨_, _, ⟨hx, _⟩ | ⟨_, e3⟩⟩
  · rw [e3]; exact ⟨h, rfl, rfl, rfl, rfl, rfl, rfl⟩
  · cases hx
  · rw [e3]
    have ht := fun z e' => ack_time L.s (upG g.zs).ack (upG g.zs).bits (upG g.zs).cred (z := z) (e' := e')
    have hn := (lim_ack L.s (upG g.zs).ack (upG g.zs).bits (upG g.zs).cred (max L.s.lim (upG g.zs).cred) (by omega) (by omega)).2.2
    clear e3
    generalize ackS L.s (upG g.zs).ack (upG g.zs).bits (upG g.zs).cred = s2 at *
    refine ⟨fun z e' he hno => ?_, rfl, rfl, rfl, rfl, rfl, hn⟩
    obtain ⟨e1, g1, g2⟩ := ht z e' he
    have := h z e1 g1 hno
    rw [← g2]
    exact this
theorem wait_take {L : Lk} {T : Int} (h : Wait L T) : Wait { L with r := takeS L.r } T := fun z e he hno => h z e he (fun hh => hno (has_take hh))
/-- All is had once the time is over. -/
theorem all_had {L : Lk} {T : Int} (p : Lp L) (h : Lv L) (hw : Wait L T) (hT : T ≤ L.now) : ∀ z, 1 ≤ z → z < L.s.nxt → hasR L.r z := fun z h1 h2 => by
  by_cases hb : z < L.s.base
  · exact h.bs z h1 hb
  · have hs := (p.so.inn z).2 ⟨by omega, h2⟩
    obtain ⟨e, he⟩ := Option.isSome_iff_exists.1 hs
    by_cases hh : hasR L.r z
    · exact hh
    · have := hw z e he hh
      omega
theorem take_rem {L : Lk} (p : Lp L) (ha : ∀ z, 1 ≤ z → z < L.s.nxt → hasR L.r z) {m : Nat} (hm : L.s.nxt - 1 ≤ L.r.tk + (m : Nat)) : L.s.nxt - 1 ≤ (takeS L.r).tk + ((m - 1 : Nat) : Int) := by
  by_cases h1 : L.s.nxt - 1 ≤ L.r.tk
  · have := (takeS_tk L.r).1
    omega
  · have t1 := p.ro.t1
    have h2 := ha (L.r.tk + 1) (by omega) (by omega)
    have h3 : (L.r.L (L.r.tk + 1)).isSome = true := by
      rcases h2 with h2 | h2
      · omega
      · exact h2
    have e : takeS L.r = takeA L.r := by unfold takeS; rw [if_pos h3]
    rw [e]
    show L.s.nxt - 1 ≤ L.r.tk + 1 + ((m - 1 : Nat) : Int)
    omega
/-- What holds of a link at the start of a fair round that is not the first, T being when all is over. -/
structure Fair (L : Lk) (T : Int) : Prop where
  lv : Lv L
  wt : Wait L T
  n0 : L.n0 = []
  n1 : L.n1 = []
  all : T ≤ L.now → L.s.nxt - 1 ≤ L.r.tk
end Go.Proofs.Ytfipdldoklkciaa
