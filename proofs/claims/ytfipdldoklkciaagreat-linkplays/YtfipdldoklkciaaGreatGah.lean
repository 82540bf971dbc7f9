/-
  Texts Lrp, Lrb, Lrc, Lrd.
-/
import Derived.Test.YtfipdldoklkciaaGreatGag
namespace Go.Proofs.YtfipdldoklkciaaGreat
set_option linter.unusedVariables false
/-- BOTH HOLD THE SAME. -/
structure Dr (s : St) (d : Ds) : Prop where
  win : s.win = d.win
  lim : s.lim = d.lim
  base : s.base = d.base
  nxt : s.nxt = d.base + (d.L.length : Int)
  at' : ∀ (i : Nat) e, d.L[i]? = some e → ∃ p, s.L (d.base + (i : Int)) = some p ∧ p.zs = e.zs ∧ p.there = e.there ∧ p.time = e.time ∧ p.wait = e.wait
def pushD (d : Ds) (e : De) : Ds := { d with L := d.L ++ [e] }
theorem dr_push {s : St} {d : Ds} (h : Dr s d) {p : Ent} {e : De} (h1 : p.zs = e.zs) (h2 : p.there = e.there) (h3 : p.time = e.time) (h4 : p.wait = e.wait) : Dr (addA s p) (pushD d e) := by
  have hb := h.base
  have hn := h.nxt
  refine ⟨h.win, h.lim, h.base, ?_, fun i x hi => ?_⟩
  · show s.nxt + 1 = d.base + ((d.L ++ [e]).length : Int)
    rw [List.length_append]
    simp
    omega
  · show ∃ q, (if d.base + (i : Int) = s.nxt then some p else s.L (d.base + (i : Int))) = some q ∧ _
    have hi' : (d.L ++ [e])[i]? = some x := hi
    by_cases hlt : i < d.L.length
    · rw [if_neg (by omega)]
      rw [List.getElem?_append_left hlt] at hi'
      exact h.at' i x hi'
    · have hl := (List.getElem?_eq_some_iff.1 hi').1
      rw [List.length_append] at hl
      simp at hl
      have : i = d.L.length := by omega
      subst this
      rw [List.getElem?_append_right (Nat.le_refl _)] at hi'
      simp at hi'
      subst hi'
      rw [if_pos hn.symm]
      exact ⟨p, rfl, h1, h2, h3, h4⟩
/-- A change of each load that both make alike. -/
theorem dr_map {s : St} {d : Ds} (h : Dr s d) (f : Int → Ent → Ent) (g : Int → De → De) (hfg : ∀ z p e, p.zs = e.zs → p.there = e.there → p.time = e.time → p.wait = e.wait → (f z p).zs = (g z e).zs ∧ (f z p).there = (g z e).there ∧ (f z p).time = (g z e).time ∧ (f z p).wait = (g z e).wait) {L : Int → Option Ent} (hL : ∀ i : Nat, i < d.L.length → L (d.base + (i : Int)) = (s.L (d.base + (i : Int))).map (f (d.base + (i : Int)))) :
    Dr { s with L := L } { d with L := d.L.mapIdx fun i e => g (d.base + (i : Int)) e } := by
  refine ⟨h.win, h.lim, h.base, ?_, fun i x hi => ?_⟩
  · show s.nxt = d.base + ((d.L.mapIdx _).length : Int)
    rw [List.length_mapIdx]
    exact h.nxt
  · have hi' : (d.L.mapIdx fun i e => g (d.base + (i : Int)) e)[i]? = some x := hi
    rw [List.getElem?_mapIdx] at hi'
    cases he : d.L[i]? with
    | none => rw [he] at hi'; cases hi'
    | some e =>
      rw [he] at hi'
      simp at hi'
      subst hi'
      obtain ⟨p, hp, h1, h2, h3, h4⟩ := h.at' i e he
      refine ⟨f (d.base + (i : Int)) p, ?_, hfg _ _ _ h1 h2 h3 h4⟩
      show L (d.base + (i : Int)) = _
      rw [hL i (List.getElem?_eq_some_iff.1 he).1, hp]
      rfl
def dueD (now : Int) (e : De) : De := if (!e.there && decide (e.time ≤ now)) = true then { e with time := now + e.wait, wait := min (2 * e.wait) 64 } else e
theorem dr_due {s : St} {d : Ds} (h : Dr s d) (now : Int) : Dr (dueA s now) { d with L := d.L.map (dueD now) } := by
  have := dr_map h (fun _ => dueE now) (fun _ => dueD now) (fun z p e h1 h2 h3 h4 => by
    unfold dueE dueD tellB nxtE
    rw [h2, h3]
    split
    · exact ⟨h1, rfl, (by show now + p.wait = now + e.wait; rw [h4]), (by show min (2 * p.wait) 64 = min (2 * e.wait) 64; rw [h4])⟩
    · exact ⟨h1, h2, h3, h4⟩) (L := (dueA s now).L) (fun i hi => by
    show (if d.base + (i : Int) < s.nxt then _ else _) = _
    rw [if_pos (by have := h.nxt; omega)])
  have e : (d.L.mapIdx fun i e => dueD now e) = d.L.map (dueD now) := by apply List.ext_getElem?; intro i; rw [List.getElem?_mapIdx, List.getElem?_map]
  rw [e] at this
  exact this
def popL : List De → List De
  | [] => []
  | e :: L => if e.there = true then popL L else e :: L
def doneD (d : Ds) : Ds := { d with base := d.base + ((d.L.length - (popL d.L).length : Nat) : Int), L := popL d.L }
theorem popL_le : ∀ L : List De, (popL L).length ≤ L.length
  | [] => Nat.le_refl _
  | e :: L => by
    unfold popL
    split
    · exact Nat.le_trans (popL_le L) (Nat.le_succ _)
    · exact Nat.le_refl _
theorem dr_fin1 {s : St} {b w l : Int} {e : De} {L : List De} (h : Dr s ⟨w, b, l, e :: L⟩) : Dr (finA s s.base) ⟨w, b + 1, l, L⟩ := by
  have hb : s.base = b := h.base
  have hn : s.nxt = b + ((e :: L).length : Int) := h.nxt
  refine ⟨h.win, h.lim, ?_, ?_, fun i x hi => ?_⟩
  · show (if s.base ≤ s.base then s.base + 1 else s.base) = b + 1
    rw [if_pos (Int.le_refl _), hb]
  · show s.nxt = b + 1 + (L.length : Int)
    rw [hn, List.length_cons]
    omega
  · show ∃ p, (if b + 1 + (i : Int) ≤ s.base then none else s.L (b + 1 + (i : Int))) = some p ∧ _
    rw [if_neg (by omega)]
    have := h.at' (i + 1) x (by simpa using hi)
    rw [show b + 1 + (i : Int) = b + ((i + 1 : Nat) : Int) by omega]
    exact this
theorem dr_pops {w l : Int} : ∀ (L : List De) (k : Nat) (s : St) (b : Int), L.length ≤ k → Ok s → Dr s ⟨w, b, l, L⟩ → Dr (popsF k s) (doneD ⟨w, b, l, L⟩)
  | [], k, s, b, hk, h0, h => by
    have e : popsF k s = s := by
      cases k with
      | zero => rfl
      | succ k =>
        have hb : s.base = b := h.base
        have hn : s.nxt = b + ((([] : List De).length : Nat) : Int) := h.nxt
        have hi := h0.inn s.base
        unfold popsF
        cases hL : s.L s.base with
        | none => rfl
        | some x =>
          rw [hL] at hi
          have := hi.1 rfl
          simp at hn
          omega
    rw [e]
    have : doneD ⟨w, b, l, []⟩ = ⟨w, b, l, []⟩ := by unfold doneD popL; simp
    rw [this]
    exact h
  | e :: L, k, s, b, hk, h0, h => by
    obtain ⟨p, hp, h1, h2, h3, h4⟩ := h.at' 0 e rfl
    have hb : s.base = b := h.base
    have hp' : s.L s.base = some p := by rw [hb]; simpa using hp
    cases k with
    | zero => simp at hk
    | succ k =>
      unfold popsF
      rw [hp']
      simp only [h2]
      by_cases ht : e.there = true
      · rw [if_pos ht]
        have hn : s.nxt = b + ((e :: L).length : Int) := h.nxt
        have hlt : s.base < s.nxt := by rw [hn, hb, List.length_cons]; omega
        have ih := dr_pops L k (finA s s.base) (b + 1) (by simp at hk; omega) (fin_ok h0 hlt) (dr_fin1 h)
        have e2 : doneD ⟨w, b, l, e :: L⟩ = doneD ⟨w, b + 1, l, L⟩ := by
          unfold doneD
          have : popL (e :: L) = popL L := by rw [popL, if_pos ht]
          simp only [this]
          have hle := popL_le L
          congr 1
          rw [List.length_cons]
          omega
        rw [e2]
        exact ih
      · rw [if_neg ht]
        have : doneD ⟨w, b, l, e :: L⟩ = ⟨w, b, l, e :: L⟩ := by unfold doneD; rw [show popL (e :: L) = e :: L by rw [popL, if_neg ht]]; simp
        rw [this]
        exact h
/-- Which loads an ack's bits tell. -/
def bitM (ack bits : Int) (n : Nat) (z : Int) : Bool := decide (ack + 2 ≤ z ∧ z < ack + 2 + (n : Int)) && bitB bits (z - ack - 2).toNat
def setT (b : Bool) (e : Ent) : Ent := if b = true then { e with there := true } else e
theorem bits_form (s : St) (ack bits : Int) : ∀ n : Nat, bitsA s ack bits n = { s with L := fun z => (s.L z).map (setT (bitM ack bits n z)) }
  | 0 => by
    refine St.ext' rfl rfl rfl rfl fun z => ?_
    have : bitM ack bits 0 z = false := by unfold bitM; simp; omega
    show s.L z = (s.L z).map (setT (bitM ack bits 0 z))
    rw [this]
    cases s.L z <;> rfl
  | n + 1 => by
    have ih := bits_form s ack bits n
    unfold bitsA
    by_cases hb : bitB bits n = true
    · rw [if_pos hb, ih]
      refine St.ext' ?_ ?_ ?_ ?_ fun z => ?_
      · unfold beyA; split <;> rfl
      · unfold beyA; split <;> rfl
      · unfold beyA; split <;> rfl
      · unfold beyA; split <;> rfl
      · show (beyA _ _).L z = (s.L z).map (setT (bitM ack bits (n + 1) z))
        by_cases hz : z = ack + 2 + (n : Int)
        · have h1 : bitM ack bits (n + 1) z = true := by
            unfold bitM
            rw [show (z - ack - 2).toNat = n by omega, hb]
            simp
            omega
          rw [h1]
          unfold beyA
          simp only [← hz]
          cases hL : s.L z with
          | none => simp [hL]
          | some e => simp [setA, setT]; split <;> simp
        · have h1 : bitM ack bits (n + 1) z = bitM ack bits n z := by
            unfold bitM
            congr 1
            rw [decide_eq_decide]
            omega
          rw [h1]
          unfold beyA
          split
          · simp [setA, hz]
          · rfl
    · rw [if_neg hb, ih]
      refine St.ext' rfl rfl rfl rfl fun z => ?_
      show (s.L z).map _ = (s.L z).map _
      have h1 : bitM ack bits (n + 1) z = bitM ack bits n z := by
        unfold bitM
        by_cases hz : z = ack + 2 + (n : Int)
        · rw [show (z - ack - 2).toNat = n by omega]
          have : bitB bits n = false := by simpa using hb
          rw [this]
          simp
        · congr 1
          rw [decide_eq_decide]
          omega
      rw [h1]
/-- What an ack marks at the document. -/
def mkD (ack bits : Int) (z : Int) (e : De) : De := if (decide (z ≤ ack) || bitM ack bits 64 z) = true then { e with there := true } else e
def markD (d : Ds) (ack bits : Int) : Ds := { d with L := d.L.mapIdx fun i e => mkD ack bits (d.base + (i : Int)) e }
theorem popL_drop (L : List De) : ∀ k, (∀ i e, i < k → L[i]? = some e → e.there = true) → popL L = popL (L.drop k) := by
  intro k
  induction k generalizing L with
  | zero => intro _; rfl
  | succ k ih =>
    intro h
    cases L with
    | nil => rfl
    | cons e L =>
      have h1 : e.there = true := h 0 e (by omega) rfl
      rw [popL, if_pos h1, List.drop_succ_cons]
      exact ih L fun i x hi hx => h (i + 1) x (by omega) (by simpa using hx)
theorem dr_drop {s : St} {d : Ds} (h : Dr s d) (hO : Ok s) (ack : Int) (ha : ack < s.nxt) : ∃ k, k ≤ d.L.length ∧ (∀ i : Nat, i < k → d.base + (i : Int) ≤ ack) ∧ (∀ i : Nat, k ≤ i → ack < d.base + (i : Int)) ∧ Dr (finA s ack) { d with base := d.base + (k : Int), L := d.L.drop k } := by
  have hb := h.base
  have hn := h.nxt
  refine ⟨(ack + 1 - d.base).toNat, by omega, fun i hi => by omega, fun i hi => by omega, h.win, h.lim, ?_, ?_, fun i x hi => ?_⟩
  · show (if s.base ≤ ack then ack + 1 else s.base) = d.base + ((ack + 1 - d.base).toNat : Int)
    split <;> omega
  · show s.nxt = d.base + ((ack + 1 - d.base).toNat : Int) + ((d.L.drop _).length : Int)
    rw [List.length_drop]
    omega
  · show ∃ p, (if d.base + ((ack + 1 - d.base).toNat : Int) + (i : Int) ≤ ack then none else s.L (d.base + ((ack + 1 - d.base).toNat : Int) + (i : Int))) = some p ∧ _
    rw [if_neg (by omega)]
    have hi' : (d.L.drop (ack + 1 - d.base).toNat)[i]? = some x := hi
    rw [List.getElem?_drop] at hi'
    have := h.at' _ x hi'
    rw [show d.base + ((ack + 1 - d.base).toNat : Int) + (i : Int) = d.base + (((ack + 1 - d.base).toNat + i : Nat) : Int) by omega]
    exact this
theorem dr_set {s : St} {d : Ds} (h : Dr s d) {l : Int} : Dr { s with lim := l } { d with lim := l } := ⟨h.win, rfl, h.base, h.nxt, h.at'⟩
def ackD (d : Ds) (ack bits credit : Int) : Ds := { doneD (markD d ack bits) with lim := max d.lim credit }
theorem mark_ok {s : St} {ack bits : Int} {n : Nat} (h : Ok s) : Ok { s with L := fun z => (s.L z).map (setT (bitM ack bits n z)) } := by
  obtain ⟨w1, w2, b1, b2, few, l1, l2, inn, ent⟩ := h
  refine ⟨w1, w2, b1, b2, few, l1, l2, fun z => ?_, fun z e he => ?_⟩
  · have := inn z
    cases hL : s.L z <;> simp [hL] at this ⊢ <;> omega
  · have he : (s.L z).map (setT (bitM ack bits n z)) = some e := he
    cases hL : s.L z with
    | none => rw [hL] at he; cases he
    | some e0 =>
      rw [hL] at he
      simp at he
      subst he
      have := ent z e0 hL
      unfold setT
      split
      · exact this
      · exact this
/-- AN ACK, AT BOTH. -/
theorem dr_ack {s : St} {d : Ds} (h : Dr s d) (hO : Ok s) (ack bits credit : Int) (ha : ack < s.nxt) : Dr (ackA s ack bits credit) (ackD d ack bits credit) := by
  obtain ⟨k, hk, hlo, hhi, hdr⟩ := dr_drop h hO ack ha
  have hfo : Ok (finA s ack) := fin_ok hO ha
  unfold ackA
  rw [bits_form]
  have h1 : Dr { finA s ack with L := fun z => ((finA s ack).L z).map (setT (bitM ack bits 64 z)) } { d with base := d.base + (k : Int), L := (d.L.drop k).mapIdx fun i e => mkD ack bits (d.base + (k : Int) + (i : Int)) e } := by
    have := dr_map hdr (fun z e => if ack < z then setT (bitM ack bits 64 z) e else if z ≤ ack then { e with there := true } else e) (mkD ack bits) (fun z p e h1 h2 h3 h4 => by
      unfold mkD setT
      by_cases hz : ack < z
      · rw [if_pos hz]
        have : decide (z ≤ ack) = false := by simp; omega
        rw [this]
        simp only [Bool.false_or]
        split
        · exact ⟨h1, rfl, h3, h4⟩
        · exact ⟨h1, h2, h3, h4⟩
      · rw [if_neg hz, if_pos (by omega)]
        have : decide (z ≤ ack) = true := by simp; omega
        rw [this]
        simp only [Bool.true_or, if_true]
        exact ⟨h1, trivial, h3, h4⟩) (L := fun z => ((finA s ack).L z).map (setT (bitM ack bits 64 z))) (fun i hi => by
      have := hhi (k + i) (by omega)
      have hz : ack < d.base + (k : Int) + (i : Int) := by omega
      simp only [hz, if_true])
    exact this
  have h2 := dr_pops _ 64 _ _ (by
    rw [List.length_mapIdx, List.length_drop]
    have := hO.few; have := hO.w2; have := h.base; have := h.nxt
    omega) (mark_ok hfo) h1
  have h3 : doneD ⟨d.win, d.base + (k : Int), d.lim, (d.L.drop k).mapIdx fun i e => mkD ack bits (d.base + (k : Int) + (i : Int)) e⟩ = doneD (markD d ack bits) := by
    have e1 : (d.L.mapIdx fun i e => mkD ack bits (d.base + (i : Int)) e).drop k = (d.L.drop k).mapIdx fun i e => mkD ack bits (d.base + (k : Int) + (i : Int)) e := by
      apply List.ext_getElem?
      intro i
      rw [List.getElem?_drop, List.getElem?_mapIdx, List.getElem?_mapIdx, List.getElem?_drop]
      rw [show d.base + ((k + i : Nat) : Int) = d.base + (k : Int) + (i : Int) by omega]
    have e2 : popL (d.L.mapIdx fun i e => mkD ack bits (d.base + (i : Int)) e) = popL ((d.L.drop k).mapIdx fun i e => mkD ack bits (d.base + (k : Int) + (i : Int)) e) := by
      rw [← e1]
      refine popL_drop _ k fun i e hi he => ?_
      rw [List.getElem?_mapIdx] at he
      cases hx : d.L[i]? with
      | none => rw [hx] at he; cases he
      | some x =>
        rw [hx] at he
        simp at he
        subst he
        unfold mkD
        rw [if_pos (by simp [hlo i hi])]
    unfold doneD markD
    simp only [e2]
    have hle := popL_le ((d.L.drop k).mapIdx fun i e => mkD ack bits (d.base + (k : Int) + (i : Int)) e)
    rw [List.length_mapIdx, List.length_drop] at hle
    congr 1
    rw [List.length_mapIdx, List.length_mapIdx, List.length_drop]
    omega
  rw [h3] at h2
  have hl : (popsF 64 { finA s ack with L := fun z => ((finA s ack).L z).map (setT (bitM ack bits 64 z)) }).lim = d.lim := h2.lim
  unfold limA
  rw [hl]
  exact dr_set h2
/-- What a Resume makes of a load at the document. -/
def renD (ack now : Int) (z : Int) (e : De) : De := { e with there := decide (z ≤ ack), time := now, wait := 1 }
def resM (d : Ds) (ack now : Int) : Ds := { d with L := d.L.mapIdx fun i e => renD ack now (d.base + (i : Int)) e }
def resD (d : Ds) (ack credit now : Int) : Ds := { doneD (resM d ack now) with lim := max credit (d.base + (d.L.length : Int) - 1) }
/-- A RESUME, AT BOTH. -/
theorem dr_res {s : St} {d : Ds} (h : Dr s d) (hO : Ok s) (ack credit now : Int) (ha : ack < s.nxt) : Dr (resA s ack credit now) (resD d ack credit now) := by
  obtain ⟨k, hk, hlo, hhi, hdr⟩ := dr_drop h hO ack ha
  have h1 : Dr (resU (finA s ack) now s.nxt) { d with base := d.base + (k : Int), L := (d.L.drop k).mapIdx fun i e => renD ack now (d.base + (k : Int) + (i : Int)) e } := by
    have := dr_map hdr (fun z e => if ack < z then ren now e else { e with there := true, time := now, wait := 1 }) (renD ack now) (fun z p e h1 h2 h3 h4 => by
      unfold renD ren
      by_cases hz : ack < z
      · rw [if_pos hz]
        have : decide (z ≤ ack) = false := by simp; omega
        exact ⟨h1, this.symm, rfl, rfl⟩
      · rw [if_neg hz]
        have : decide (z ≤ ack) = true := by simp; omega
        exact ⟨h1, this.symm, rfl, rfl⟩) (L := (resU (finA s ack) now s.nxt).L) (fun i hi => by
      have hi' : i < (d.L.drop k).length := hi
      rw [List.length_drop] at hi'
      have := hhi (k + i) (by omega)
      have hn := h.nxt
      have hz : ack < d.base + (k : Int) + (i : Int) := by omega
      show (if d.base + (k : Int) + (i : Int) < s.nxt then _ else _) = _
      rw [if_pos (by omega)]
      simp only [hz, if_true]) 
    exact this
  have h3 : doneD (resM d ack now) = { d with base := d.base + (k : Int), L := (d.L.drop k).mapIdx fun i e => renD ack now (d.base + (k : Int) + (i : Int)) e } := by
    have e1 : (d.L.mapIdx fun i e => renD ack now (d.base + (i : Int)) e).drop k = (d.L.drop k).mapIdx fun i e => renD ack now (d.base + (k : Int) + (i : Int)) e := by
      apply List.ext_getElem?
      intro i
      rw [List.getElem?_drop, List.getElem?_mapIdx, List.getElem?_mapIdx, List.getElem?_drop]
      rw [show d.base + ((k + i : Nat) : Int) = d.base + (k : Int) + (i : Int) by omega]
    have e2 : popL (d.L.mapIdx fun i e => renD ack now (d.base + (i : Int)) e) = (d.L.drop k).mapIdx fun i e => renD ack now (d.base + (k : Int) + (i : Int)) e := by
      rw [popL_drop _ k fun i e hi he => ?_, e1]
      · cases hx : d.L.drop k with
        | nil => rfl
        | cons x M =>
          have := hhi k (Nat.le_refl _)
          rw [List.mapIdx_cons, popL, if_neg (by simp [renD]; omega)]
      · rw [List.getElem?_mapIdx] at he
        cases hx : d.L[i]? with
        | none => rw [hx] at he; cases he
        | some x =>
          rw [hx] at he
          simp at he
          subst he
          show decide (d.base + (i : Int) ≤ ack) = true
          simp [hlo i hi]
    unfold doneD resM
    simp only [e2]
    congr 1
    rw [List.length_mapIdx, List.length_mapIdx, List.length_drop]
    omega
  unfold resA resD lim2
  rw [h3]
  have hn : (resU (finA s ack) now s.nxt).nxt = d.base + (d.L.length : Int) := h.nxt
  have e : max credit ((resU (finA s ack) now s.nxt).nxt - 1) = max credit (d.base + (d.L.length : Int) - 1) := by rw [hn]
  rw [e]
  exact dr_set h1
end Go.Proofs.YtfipdldoklkciaaGreat
namespace Go.Proofs.YtfipdldoklkciaaGreat
open Go.RowKit
set_option linter.unusedVariables false
def lenI (w : World) (g j : Nat) : Nat := match w.cell? ⟨g, j, none⟩ with | some (.slice _ n _) => n | _ => 0
theorem RowD.other {w : World} {E : Nat → Prop} {v : Value} {L : List De} {lb : Nat} {cs : Array Value} (h : RowD w E v L) (hl : Blk w lb cs 37) (j : Nat) (u : Value) : RowD (w.setCell ⟨lb, j, none⟩ u) E v L :=
  h.keep fun b _ _ ⟨cur, e, h1, h2⟩ => Below.heap_setCell _ _ _ _ fun e2 => by
    have e3 : b = lb := e2
    subst e3
    have hl' : w.heap[b]? = some (.cells cs 37 (0, 0)) := hl
    rw [h1] at hl'
    injection hl' with hl'
    injection hl' with _ h3
    rcases h2 with rfl | rfl
    · exact absurd h3 (by decide)
    · exact absurd h3 (by decide)
theorem RowD.tail {w : World} {E : Nat → Prop} {g off n c : Nat} {e : De} {L : List De} (h : RowD w E (.slice (some ⟨g, off, none⟩) n c) (e :: L)) (hn : n = L.length + 1) : RowD w E (.slice (some ⟨g, off + 4, none⟩) L.length (c - 1)) L := by
  subst hn
  obtain ⟨a, c', e1, h1, h2, h3⟩ := h.form
  cases e1
  refine ⟨⟨_, _, rfl, by simp at h1; omega, by omega, fun h => by cases h⟩, ?_, fun x hx => h.ent x (List.mem_cons_of_mem _ hx)⟩
  rcases h.row with hr | ⟨g', off', c', cur, k1, k2, k3, k4⟩
  · cases hr
  · cases k1
    refine .inr ⟨g, off + 4, c - 1, cur, rfl, k2, k3, fun j u hj => ?_⟩
    have := k4 (4 + j) u (by
      show (e.cs ++ dCs L)[4 + j]? = some u
      rw [List.getElem?_append_right (by simp [De.cs])]
      simpa [De.cs] using hj)
    rw [show off + 4 + j = off + (4 + j) by omega]
    exact this
theorem XLk.put {w : World} {lb : Nat} {x : Nat → Value} {d : Ds} {v v' : Value} {b : Int} {L : List De} (h : XLk w lb x d v) : XLk ((w.setCell ⟨lb, 6, none⟩ v').setCell ⟨lb, 4, none⟩ (.int .i64 b)) lb x { d with base := b, L := L } v' :=
  ((show Blk w lb _ 37 from h).set 6 v').set 4 _
theorem dok_tail {d : Ds} {e : De} {L : List De} (h : Dok d) (hL : d.L = e :: L) : Dok { d with base := d.base + 1, L := L } := by
  obtain ⟨w1, w2, b1, few, l1, l2, ent⟩ := h
  rw [hL] at few l1 ent
  simp at few l1
  exact ⟨w1, w2, by show 1 ≤ d.base + 1; omega, by show (L.length : Int) ≤ d.win; omega, by show d.base + 1 + (L.length : Int) - 1 ≤ d.lim; omega, l2, fun x hx => ent x (List.mem_cons_of_mem _ hx)⟩
theorem done_tail {d : Ds} {e : De} {L : List De} (hL : d.L = e :: L) (ht : e.there = true) : doneD { d with base := d.base + 1, L := L } = doneD d := by
  unfold doneD
  have : popL (e :: L) = popL L := by rw [popL, if_pos ht]
  simp only [hL, this]
  have hle := popL_le L
  congr 1
  rw [List.length_cons]
  omega
theorem done_stop {d : Ds} (h : popL d.L = d.L) : doneD d = d := by
  unfold doneD
  rw [h]
  simp
set_option maxHeartbeats 1000000 in
theorem ydone_any {w : World} {lb : Nat} {E : Nat → Prop} {x : Nat → Value} {d : Ds} {v : Value} (h : XLk w lb x d v) (hr : RowD w E v d.L) (hO : Dok d) :
    Calls Tryz.prog 105 #[.pointer (some ⟨lb, 3, none⟩)] w fun e w' => e = .returned (.tuple #[]) ∧ ∃ v2, Hid (XLk w' lb x (doneD d) v2) ∧ Hid (RowD w' E v2 (doneD d).L) ∧ Hid (Dok (doneD d)) ∧ Hid (KS (fun q => q = lb) w w') := by
  have hX : Hid (XLk w lb x d v) := h
  have hR : Hid (RowD w E v d.L) := hr
  have hD : Hid (Dok d) := hO
  clear h hr hO
  go_enter Tryz.func105, Tryz.ntmps105
  go_wp2
  go_loopw [] (fun wr => ∃ (d' : Ds) (v' : Value), Hid (XLk wr lb x d' v') ∧ Hid (RowD wr E v' d'.L) ∧ Hid (Dok d') ∧ Hid (doneD d' = doneD d) ∧ Hid (KS (fun q => q = lb) w wr)) (fun wr => lenI wr lb 6)
  case atStart => exact ⟨d, v, hX, hR, hD, rfl, KS.refl _ _⟩
  case round =>
    obtain ⟨d', v', hX', hR', hD', hE', hK'⟩ := hrel
    have hml : Hid (lenI wr lb 6 = d'.L.length) := by
      obtain ⟨a, c, rfl, -⟩ := hR'.out.form
      show lenI wr lb 6 = _
      unfold lenI
      rw [show wr.cell? ⟨lb, 6, none⟩ = some (.slice a d'.L.length c) from hX'.out.cell 6]
    have c4 : wr.cell? ⟨lb, 4, none⟩ = some (.int .i64 d'.base) := hX'.out.cell 4
    have f6 := Blk.fz (show Blk wr lb _ 37 from hX'.out) 6
    cases hL : d'.L with
    | nil =>
      obtain ⟨a, c, rfl, -⟩ := hR'.out.form
      have c6 : wr.cell? ⟨lb, 6, none⟩ = some (.slice a 0 c) := by have : wr.cell? ⟨lb, 6, none⟩ = some (.slice a d'.L.length c) := hX'.out.cell 6; rw [hL] at this; exact this
      have hds : Hid (doneD d = d') := hE'.out.symm.trans (done_stop (by rw [hL]; rfl))
      clear hL hE' hml
      go_wp2
      refine bodyPost_end (results_none rfl _ _ _) rfl ?_
      refine ⟨rfl, ?_⟩
      rw [hds.out]
      exact ⟨_, hX', hR', hD', hK'⟩
    | cons e L =>
      have hR2 := hR'.out
      rw [hL] at hR2
      obtain ⟨g, off, c, rfl, -, -, hc, -, hcl, -⟩ := hR2.cells (i := 0) rfl
      have c1 : wr.cell? ⟨g, off + 1, none⟩ = some (.bool e.there) := by have := hc 1 (by decide); simpa [De.cs] using this
      have c6 : wr.cell? ⟨lb, 6, none⟩ = some (.slice (some ⟨g, off, none⟩) (L.length + 1) c) := hX'.out.cell 6
      have hLh : Hid (d'.L = e :: L) := hL
      have hcl' : L.length + 1 ≤ c := by simpa using hcl
      have q0 : (((L.length + 1 : Nat) : Int) > 0) := by omega
      cases ht : e.there with
      | false =>
        rw [ht] at c1
        have hds : Hid (doneD d = d') := hE'.out.symm.trans (done_stop (by rw [hL, popL, if_neg (by rw [ht]; decide)]))
        clear hL hE' hml hc hR2 ht
        go_wp2
        refine bodyPost_end (results_none rfl _ _ _) rfl ?_
        refine ⟨rfl, ?_⟩
        rw [hds.out]
        exact ⟨_, hX', hR', hD', hK'⟩
      | true =>
        rw [ht] at c1
        have hwr : IntKind.i64.wrap (d'.base + 1) = d'.base + 1 := by
          have h1 := hD'.out.b1; have h2 := hD'.out.l1; have h3 := hD'.out.l2
          rw [hL] at h2
          rw [IntKind.wrap_i64]
          simp at h2
          omega
        have hD2 : Hid (Dok { d' with base := d'.base + 1, L := L }) := dok_tail hD'.out hL
        have hE2 : Hid (doneD { d' with base := d'.base + 1, L := L } = doneD d) := (done_tail hL ht).trans hE'.out
        by_cases hc1 : c = 1
        · subst hc1
          have hl0 : L = [] := List.eq_nil_of_length_eq_zero (by omega)
          subst hl0
          have c61 : wr.cell? ⟨lb, 6, none⟩ = some (.slice (some ⟨g, off, none⟩) 1 1) := c6
          clear c6 hcl' q0 hcl
          have hR3 : Hid (RowD wr E (.slice (some ⟨g, off, none⟩) 0 0) ([] : List De)) := ⟨⟨_, _, rfl, Nat.le_refl _, by decide, fun h => by cases h⟩, .inl rfl, fun e he => by cases he⟩
          have hX2 : Hid (XLk ((wr.setCell ⟨lb, 6, none⟩ (.slice (some ⟨g, off, none⟩) 0 0)).setCell ⟨lb, 4, none⟩ (.int .i64 (d'.base + 1))) lb x { d' with base := d'.base + 1, L := [] } (.slice (some ⟨g, off, none⟩) 0 0)) := hX'.out.put
          have hR4 : Hid (RowD ((wr.setCell ⟨lb, 6, none⟩ (.slice (some ⟨g, off, none⟩) 0 0)).setCell ⟨lb, 4, none⟩ (.int .i64 (d'.base + 1))) E (.slice (some ⟨g, off, none⟩) 0 0) ([] : List De)) := (hR3.out.other (show Blk wr lb _ 37 from hX'.out) 6 _).other ((show Blk wr lb _ 37 from hX'.out).set 6 _) 4 _
          have hK2 : Hid (KS (fun q => q = lb) w ((wr.setCell ⟨lb, 6, none⟩ (.slice (some ⟨g, off, none⟩) 0 0)).setCell ⟨lb, 4, none⟩ (.int .i64 (d'.base + 1)))) := hK'.out.trans ((KS.set (C := fun q => q = lb) _ lb _ rfl _).trans (KS.set (C := fun q => q = lb) _ lb _ rfl _))
          have f4 := Blk.fz ((show Blk wr lb _ 37 from hX'.out).set 6 (.slice (some ⟨g, off, none⟩) 0 0)) 4
          have c42 : (wr.setCell ⟨lb, 6, none⟩ (.slice (some ⟨g, off, none⟩) 0 0)).cell? ⟨lb, 4, none⟩ = some (.int .i64 d'.base) := Blk.cell ((show Blk wr lb _ 37 from hX'.out).set 6 (.slice (some ⟨g, off, none⟩) 0 0)) 4
          have hml2 : Hid (lenI ((wr.setCell ⟨lb, 6, none⟩ (.slice (some ⟨g, off, none⟩) 0 0)).setCell ⟨lb, 4, none⟩ (.int .i64 (d'.base + 1))) lb 6 < lenI wr lb 6) := by
            show _ < _
            rw [hml.out, hL]
            unfold lenI
            rw [show (((wr.setCell ⟨lb, 6, none⟩ (.slice (some ⟨g, off, none⟩) 0 0)).setCell ⟨lb, 4, none⟩ (.int .i64 (d'.base + 1))).cell? ⟨lb, 6, none⟩) = some (.slice (some ⟨g, off, none⟩) 0 0) from hX2.out.cell 6]
            simp
          clear hL hE' hml hc hR2 ht hR3
          go_wp2
          go_roundw
          · exact ⟨_, _, hX2, hR4, hD2, hE2, hK2⟩
          · exact hml2.out
        · have hl0 : True := trivial
          have hc2 : (c = 1) = False := by simp [hc1]
          clear hc1
          have hR3 : Hid (RowD wr E (.slice (some ⟨g, off + 4, none⟩) L.length (c - 1)) L) := hR2.tail (by simp)
          have hX2 : Hid (XLk ((wr.setCell ⟨lb, 6, none⟩ (.slice (some ⟨g, off + 4, none⟩) L.length (c - 1))).setCell ⟨lb, 4, none⟩ (.int .i64 (d'.base + 1))) lb x { d' with base := d'.base + 1, L := L } (.slice (some ⟨g, off + 4, none⟩) L.length (c - 1))) := hX'.out.put
          have hR4 : Hid (RowD ((wr.setCell ⟨lb, 6, none⟩ (.slice (some ⟨g, off + 4, none⟩) L.length (c - 1))).setCell ⟨lb, 4, none⟩ (.int .i64 (d'.base + 1))) E (.slice (some ⟨g, off + 4, none⟩) L.length (c - 1)) L) := (hR3.out.other (show Blk wr lb _ 37 from hX'.out) 6 _).other ((show Blk wr lb _ 37 from hX'.out).set 6 _) 4 _
          have hK2 : Hid (KS (fun q => q = lb) w ((wr.setCell ⟨lb, 6, none⟩ (.slice (some ⟨g, off + 4, none⟩) L.length (c - 1))).setCell ⟨lb, 4, none⟩ (.int .i64 (d'.base + 1)))) := hK'.out.trans ((KS.set (C := fun q => q = lb) _ lb _ rfl _).trans (KS.set (C := fun q => q = lb) _ lb _ rfl _))
          have f4 := Blk.fz ((show Blk wr lb _ 37 from hX'.out).set 6 (.slice (some ⟨g, off + 4, none⟩) L.length (c - 1))) 4
          have c42 : (wr.setCell ⟨lb, 6, none⟩ (.slice (some ⟨g, off + 4, none⟩) L.length (c - 1))).cell? ⟨lb, 4, none⟩ = some (.int .i64 d'.base) := Blk.cell ((show Blk wr lb _ 37 from hX'.out).set 6 (.slice (some ⟨g, off + 4, none⟩) L.length (c - 1))) 4
          have hml2 : Hid (lenI ((wr.setCell ⟨lb, 6, none⟩ (.slice (some ⟨g, off + 4, none⟩) L.length (c - 1))).setCell ⟨lb, 4, none⟩ (.int .i64 (d'.base + 1))) lb 6 < lenI wr lb 6) := by
            show _ < _
            rw [hml.out, hL]
            unfold lenI
            rw [show (((wr.setCell ⟨lb, 6, none⟩ (.slice (some ⟨g, off + 4, none⟩) L.length (c - 1))).setCell ⟨lb, 4, none⟩ (.int .i64 (d'.base + 1))).cell? ⟨lb, 6, none⟩) = some (.slice (some ⟨g, off + 4, none⟩) L.length (c - 1)) from hX2.out.cell 6]
            simp
          clear hL hE' hml hc hR2 ht hR3 hl0
          go_wp2
          go_roundw
          · exact ⟨_, _, hX2, hR4, hD2, hE2, hK2⟩
          · exact hml2.out
end Go.Proofs.YtfipdldoklkciaaGreat
namespace Go.Proofs.YtfipdldoklkciaaGreat
open Go.RowKit
set_option linter.unusedVariables false
theorem dCs_set {L : List De} {i j : Nat} {s s' : De} {u : Value} (hi : L[i]? = some s) (hj : j < 4) (h : s'.cs = s.cs.set j u) : dCs (L.set i s') = (dCs L).set (i * 4 + j) u := by
  induction L generalizing i with
  | nil => simp at hi
  | cons t L ih =>
    have e : dCs (t :: L) = t.cs ++ dCs L := rfl
    have hl : t.cs.length = 4 := rfl
    cases i with
    | zero =>
      simp at hi
      subst hi
      rw [List.set_cons_zero, e, show dCs (s' :: L) = s'.cs ++ dCs L from rfl, h, List.set_append_left _ _ (by omega), Nat.zero_mul, Nat.zero_add]
    | succ i =>
      rw [List.set_cons_succ, e, show dCs (t :: L.set i s') = t.cs ++ dCs (L.set i s') from rfl, ih (by simpa using hi), List.set_append_right _ _ (by omega), hl, show (i + 1) * 4 + j - 4 = i * 4 + j by omega]
theorem RowD.put {w : World} {E : Nat → Prop} {v : Value} {L : List De} {g off n c i j : Nat} {e e' : De} {x : Value} (h : RowD w E v L) (hv : v = .slice (some ⟨g, off, none⟩) n c) (hi : L[i]? = some e) (hj : j < 4) (hs : e'.cs = e.cs.set j x) (hd : e'.a = e.a ∧ e'.n = e.n ∧ e'.c = e.c ∧ e'.zs = e.zs) :
    RowD (w.setCell ⟨g, off + i * 4 + j, none⟩ x) E v (L.set i e') := by
  obtain ⟨h1, h2, h3, h4⟩ := hd
  rcases h.row with hr | ⟨g', off', c', cur, k1, k2, k3, k4⟩
  · rw [hr] at hi; simp at hi
  · rw [hv] at k1
    simp only [Value.slice.injEq, Option.some.injEq, Addr.mk.injEq, and_true] at k1
    obtain ⟨⟨rfl, rfl⟩, hn, rfl⟩ := k1
    have hlt : off + (i * 4 + j) < cur.size := by
      have e1 := dCs_at hi hj
      have e2 : ∃ u, e.cs[j]? = some u := ⟨e.cs[j]'(by simp [De.cs]; omega), List.getElem?_eq_getElem _⟩
      obtain ⟨u, e2⟩ := e2
      rw [e2] at e1
      exact (Array.getElem?_eq_some_iff.1 (k4 _ _ e1)).1
    refine ⟨?_, .inr ⟨g, off, c, cur.setIfInBounds (off + i * 4 + j) x, ?_, k2, heap_setCell_same w g _ cur 147 x k3, fun q u hq => ?_⟩, fun y hy => ?_⟩
    · rw [List.length_set]; exact h.form
    · rw [List.length_set, hv, hn]
    · rw [dCs_set hi hj hs, List.getElem?_set] at hq
      rw [Array.getElem?_setIfInBounds]
      by_cases hqe : i * 4 + j = q
      · rw [if_pos hqe] at hq
        split at hq
        · rw [if_pos (by omega), if_pos (by omega)]
          exact hq
        · cases hq
      · rw [if_neg hqe] at hq
        rw [if_neg (by omega)]
        exact k4 q u hq
    · have key : ∀ y : De, y ∈ L → OwnsB (w.setCell ⟨g, off + i * 4 + j, none⟩ x) 0 (.slice y.a y.n y.c) y.zs := fun y hy => by
        obtain ⟨⟨p1, p2⟩, p3⟩ := h.ent y hy
        refine ⟨⟨p1, ?_⟩, p3⟩
        rcases p2 with p2 | ⟨b, cap, cu, hv, hg, hc, r⟩
        · exact .inl p2
        · refine .inr ⟨b, cap, cu, hv, hg, ?_, r⟩
          refine (Below.heap_setCell _ _ _ _ fun e2 => ?_).trans hc
          have e3 : b = g := e2
          subst e3
          rw [k3] at hc
          injection hc with hc
          injection hc with _ hc
          exact absurd hc (by decide)
      rcases List.mem_or_eq_of_mem_set hy with hy | rfl
      · exact key y hy
      · have := key e (List.mem_of_getElem? hi)
        rw [h1, h2, h3, h4]
        exact this
/-- The first i loads are marked. -/
def mkL (d : Ds) (f : Int → De → De) (i : Nat) : List De := d.L.mapIdx fun j e => if j < i then f (d.base + (j : Int)) e else e
theorem mkL_len (d : Ds) (f : Int → De → De) (i : Nat) : (mkL d f i).length = d.L.length := List.length_mapIdx
theorem mkL_zero (d : Ds) (f : Int → De → De) : mkL d f 0 = d.L := by
  apply List.ext_getElem?
  intro i
  unfold mkL
  rw [List.getElem?_mapIdx]
  cases d.L[i]? <;> rfl
theorem mkL_at {d : Ds} {f : Int → De → De} {i : Nat} {e : De} (h : d.L[i]? = some e) : (mkL d f i)[i]? = some e := by
  unfold mkL
  rw [List.getElem?_mapIdx, h]
  simp
theorem mkL_step {d : Ds} {f : Int → De → De} {i : Nat} {e : De} (h : d.L[i]? = some e) : (mkL d f i).set i (f (d.base + (i : Int)) e) = mkL d f (i + 1) := by
  apply List.ext_getElem?
  intro q
  have hlt := (List.getElem?_eq_some_iff.1 h).1
  rw [List.getElem?_set, mkL_len]
  unfold mkL
  rw [List.getElem?_mapIdx, List.getElem?_mapIdx]
  by_cases hq : i = q
  · subst hq
    rw [if_pos rfl, if_pos hlt, h]
    simp
  · rw [if_neg hq]
    cases d.L[q]? with
    | none => rfl
    | some y =>
      dsimp only [Option.map_some]
      by_cases h1 : q < i
      · rw [if_pos h1, if_pos (by omega)]
      · rw [if_neg h1, if_neg (by omega)]
theorem mkL_skip {d : Ds} {f : Int → De → De} {i : Nat} {e : De} (h : d.L[i]? = some e) (hf : f (d.base + (i : Int)) e = e) : mkL d f (i + 1) = mkL d f i := by
  rw [← mkL_step h, hf]
  apply List.ext_getElem?
  intro q
  rw [List.getElem?_set]
  by_cases hq : i = q
  · subst hq
    rw [if_pos rfl, mkL_at h, if_pos (by rw [mkL_len]; exact (List.getElem?_eq_some_iff.1 h).1)]
  · rw [if_neg hq]
theorem mkL_all (d : Ds) (f : Int → De → De) : mkL d f d.L.length = d.L.mapIdx fun i e => f (d.base + (i : Int)) e := by
  apply List.ext_getElem?
  intro q
  unfold mkL
  rw [List.getElem?_mapIdx, List.getElem?_mapIdx]
  cases h : d.L[q]? with
  | none => rfl
  | some y =>
    have := (List.getElem?_eq_some_iff.1 h).1
    dsimp only [Option.map_some]
    rw [if_pos this]
/-- The loads as they were; their times, their ends may be others. -/
theorem dok_map {d : Ds} (h : Dok d) (f : Int → De → De) (hf : ∀ z e, (f z e).zs = e.zs ∧ (f z e).n = e.n ∧ (f z e).time = e.time ∧ (f z e).wait = e.wait) (l : Int) (h1 : d.lim ≤ l) (h2 : l ≤ 4611686018427387904) : Dok { d with L := d.L.mapIdx fun i e => f (d.base + (i : Int)) e, lim := l } := by
  obtain ⟨w1, w2, b1, few, l1, l2, ent⟩ := h
  refine ⟨w1, w2, b1, ?_, ?_, h2, fun y hy => ?_⟩
  · show ((d.L.mapIdx _).length : Int) ≤ d.win
    rw [List.length_mapIdx]; exact few
  · show d.base + ((d.L.mapIdx _).length : Int) - 1 ≤ l
    rw [List.length_mapIdx]; omega
  · have hy : y ∈ d.L.mapIdx fun i e => f (d.base + (i : Int)) e := hy
    obtain ⟨i, hi, rfl⟩ := List.mem_mapIdx.1 hy
    obtain ⟨p1, p2, p3, p4⟩ := hf (d.base + (i : Int)) d.L[i]
    have := ent _ (List.getElem_mem hi)
    rw [p1, p2, p3, p4]
    exact this
def mayD (d : Ds) (ack credit : Int) : Bool := decide (0 ≤ ack) && decide (ack < d.base + d.L.length) && decide (0 ≤ credit) && decide (credit ≤ 4611686018427387904)
set_option maxHeartbeats 1000000 in
theorem yack_bad {w : World} {lb : Nat} {E : Nat → Prop} {x : Nat → Value} {d : Ds} {v : Value} (ack bits credit : Int) (h : XLk w lb x d v) (hr : RowD w E v d.L) (hO : Dok d) (hm : mayD d ack credit = false) :
    Calls Tryz.prog 73 #[.pointer (some ⟨lb, 3, none⟩), .int .i64 ack, .int .u64 bits, .int .i64 credit] w fun e w' => e = .returned (.int .i64 1) ∧ Below w.heap.size w w' := by
  have k1 := yacked_any ack credit h hr hO
  unfold mayD at hm
  rw [hm] at k1
  clear h hr hO hm
  go_enter Tryz.func73, Tryz.ntmps73
  go_wp2_with (go_at_call 104; refine k1.mono ?_; rintro e w1 ⟨rfl, hb⟩)
  go_ret
  exact ⟨rfl, hb⟩
set_option maxHeartbeats 2000000 in
theorem yack_ok {w : World} {lb : Nat} {E : Nat → Prop} {x : Nat → Value} {d : Ds} {v : Value} (ack bits credit : Int) (h : XLk w lb x d v) (hr : RowD w E v d.L) (hO : Dok d) (hlb : E lb) (hm : mayD d ack credit = true) :
    Calls Tryz.prog 73 #[.pointer (some ⟨lb, 3, none⟩), .int .i64 ack, .int .u64 bits, .int .i64 credit] w fun e w' => e = .returned (.int .i64 0) ∧ ∃ v2, Hid (XLk w' lb x (ackD d ack bits credit) v2) ∧ Hid (RowD w' E v2 (ackD d ack bits credit).L) ∧ Hid (Dok (ackD d ack bits credit)) ∧ Hid (KS E w w') := by
  have k1 := yacked_any ack credit h hr hO
  have hm2 := hm
  unfold mayD at hm
  rw [hm] at k1
  simp only [mayD, Bool.and_eq_true, decide_eq_true_eq] at hm2
  obtain ⟨⟨⟨m1, m2⟩, m3⟩, m4⟩ := hm2
  have hM : Hid (0 ≤ ack ∧ ack < d.base + d.L.length ∧ credit ≤ 4611686018427387904) := ⟨m1, m2, m4⟩
  have hX : Hid (XLk w lb x d v) := h
  have hR : Hid (RowD w E v d.L) := hr
  have hD : Hid (Dok d) := hO
  have hLB : Hid (E lb) := hlb
  have hF : Hid (max d.lim credit ≤ 4611686018427387904 ∧ d.lim ≤ max d.lim credit) := by have := hO.l2; show _ ∧ _; omega
  clear h hr hO hm m1 m2 m3 m4 hlb
  go_enter Tryz.func73, Tryz.ntmps73
  go_wp2_with (go_at_call 104; refine k1.mono ?_; rintro e w1 ⟨rfl, hb1⟩)
  have hX1 : Hid (XLk w1 lb x { d with L := mkL d (mkD ack bits) 0 } v) := Blk.kept hX.out hb1
  have hR1 : Hid (RowD w1 E v (mkL d (mkD ack bits) 0)) := by show RowD _ _ _ _; rw [mkL_zero]; exact hR.out.kept hb1
  have hK1 : Hid (KS E w w1) := KS.of_below hb1
  clear hb1 k1
  go_loopw [9, 10] (fun s9 _ wr => ∃ i : Nat, i ≤ d.L.length ∧ s9 = .int .i64 (i : Nat) ∧ Hid (XLk wr lb x { d with L := mkL d (mkD ack bits) i } v) ∧ Hid (RowD wr E v (mkL d (mkD ack bits) i)) ∧ Hid (KS E w wr)) (fun i _ _ => d.L.length - (intOf i).toNat)
  case atStart => exact ⟨0, Nat.zero_le _, rfl, hX1, hR1, hK1⟩
  case round =>
    obtain ⟨i, hi, rfl, hX2, hR2, hK2⟩ := hrel
    clear hX1 hR1 hK1
    have hB := Blk.fz (show Blk wr lb _ 37 from hX2.out)
    have c4 : wr.cell? ⟨lb, 4, none⟩ = some (.int .i64 d.base) := hX2.out.cell 4
    have c5 : wr.cell? ⟨lb, 5, none⟩ = some (.int .i64 d.lim) := hX2.out.cell 5
    have f5 := hB 5
    by_cases hlt : i < d.L.length
    · have hi0 : d.L[i]? = some d.L[i] := List.getElem?_eq_getElem hlt
      generalize d.L[i] = e at hi0
      obtain ⟨g, off, c, hv, hEg, -, hcs, hfz, hle, cg, hbg⟩ := hR2.out.cells (mkL_at hi0)
      rw [mkL_len] at hv hle
      subst hv
      have c6 : wr.cell? ⟨lb, 6, none⟩ = some (.slice (some ⟨g, off, none⟩) d.L.length c) := hX2.out.cell 6
      have hd : decide ((i : Int) < (d.L.length : Int)) = true := by simp; omega
      have q1 : (0 : Int) ≤ (i : Int) := by omega
      have f1 := hfz (off + i * 4 + 1)
      have c1 : wr.cell? ⟨g, off + i * 4 + 1, none⟩ = some (.bool e.there) := hcs 1 (by decide)
      have hbnd : Hid (1 ≤ d.base + (i : Int) ∧ d.base + (i : Int) ≤ 4611686018427387904) := by have h1 := hD.out.b1; have h2 := hD.out.l1; have h3 := hD.out.l2; show _ ∧ _; omega
      have wi : IntKind.i64.wrap ((i : Int) + 1) = (i : Int) + 1 := by have h2 := hD.out.few; have h3 := hD.out.w2; rw [IntKind.wrap_i64]; omega
      obtain ⟨z, hz⟩ : ∃ z, d.base + (i : Int) = z := ⟨_, rfl⟩
      have hzz : Hid (d.base + (i : Int) = z) := hz
      have w1' : IntKind.i64.wrap (d.base + (i : Int)) = z := by have := hbnd.out; rw [IntKind.wrap_i64, hz]; omega
      have w2' : IntKind.i64.wrap (ack + 2) = ack + 2 := by have := hM.out; have := hD.out.l1; have := hD.out.l2; rw [IntKind.wrap_i64]; omega
      have w3' : IntKind.i64.wrap (z - ack) = z - ack := by have := hM.out; have := hD.out.l1; have := hD.out.l2; have := hbnd.out; rw [IntKind.wrap_i64]; omega
      have w4' : IntKind.i64.wrap (z - ack - 2) = z - ack - 2 := by have := hM.out; have := hD.out.l1; have := hD.out.l2; have := hbnd.out; rw [IntKind.wrap_i64]; omega
      have hmk : mkD ack bits z e = e ∨ mkD ack bits z e = { e with there := true } := by unfold mkD; split <;> simp
      have hyes : Hid (mkD ack bits z e = { e with there := true } → (RowD (wr.setCell ⟨g, off + i * 4 + 1, none⟩ (.bool true)) E (.slice (some ⟨g, off, none⟩) d.L.length c) (mkL d (mkD ack bits) (i + 1)) ∧ XLk (wr.setCell ⟨g, off + i * 4 + 1, none⟩ (.bool true)) lb x { d with L := mkL d (mkD ack bits) (i + 1) } (.slice (some ⟨g, off, none⟩) d.L.length c) ∧ KS E w (wr.setCell ⟨g, off + i * 4 + 1, none⟩ (.bool true)))) := fun hme => by
        refine ⟨?_, ?_, hK2.out.trans (KS.set _ g _ hEg _)⟩
        · have := hR2.out.put rfl (mkL_at hi0) (j := 1) (e' := { e with there := true }) (x := .bool true) (by decide) rfl ⟨rfl, rfl, rfl, rfl⟩
          rw [← hme, ← hz, mkL_step hi0] at this
          exact this
        · refine (Below.heap_setCell _ _ _ _ fun e2 => ?_).trans (show Blk wr lb _ 37 from hX2.out)
          have e3 : lb = g := e2
          subst e3
          have h9 : wr.heap[lb]? = _ := hX2.out
          have h8 : wr.heap[lb]? = _ := hbg
          rw [h8] at h9
          injection h9 with h9
          injection h9 with _ h9
          exact absurd h9 (by decide)
      have hno : Hid (mkD ack bits z e = e → mkL d (mkD ack bits) (i + 1) = mkL d (mkD ack bits) i) := fun hme => mkL_skip hi0 (by rw [hz]; exact hme)
      clear hbg hcs hfz hz hi0 hmk
      by_cases hA : z ≤ ack
      · have dA : decide (z ≤ ack) = true := by simpa using hA
        have hY := hyes.out (by unfold mkD; rw [if_pos (by simp [hA])])
        have hY' : Hid _ := hY
        clear hyes hno hA hY
        go_wp2
        exact ⟨⟨i + 1, by omega, by simp, hY'.out.2.1, hY'.out.1, hY'.out.2.2⟩, by simp [intOf]; omega⟩
      · have dA : decide (z ≤ ack) = false := by simpa using hA
        by_cases hB2 : ack + 2 ≤ z
        · have dB : decide (z ≥ ack + 2) = true := by simpa using hB2
          obtain ⟨k, hk⟩ : ∃ k : Nat, z - ack - 2 = (k : Int) := ⟨(z - ack - 2).toNat, by omega⟩
          have w5' : IntKind.i64.wrap (z - ack - 2) = (k : Int) := w4'.trans hk
          clear w4'
          have hkt : (z - ack - 2).toNat = k := by omega
          have hkk : Hid (z - ack - 2 = (k : Int)) := hk
          by_cases hC : k < 64
          · have dC : decide ((k : Int) < 64) = true := by simp; omega
            have hbm : Hid (bitM ack bits 64 z = bitB bits k) := by
              show _ = _
              unfold bitM
              have : decide (ack + 2 ≤ z ∧ z < ack + 2 + ((64 : Nat) : Int)) = true := by simp; omega
              rw [this, Bool.true_and, hkt]
            cases hb : bitB bits k with
            | true =>
              have hbit : (Go.bits .and .u64 (bits / 2 ^ k) 1 == 1) = true := hb
              have hY := hyes.out (by unfold mkD; rw [if_pos (by rw [hbm.out, hb]; simp)])
              have hY' : Hid _ := hY
              clear hyes hno hA hY hB2 hb hk hkt
              go_wp2
              exact ⟨⟨i + 1, by omega, by simp, hY'.out.2.1, hY'.out.1, hY'.out.2.2⟩, by simp [intOf]; omega⟩
            | false =>
              have hbit : (Go.bits .and .u64 (bits / 2 ^ k) 1 == 1) = false := hb
              have hN : Hid (mkL d (mkD ack bits) (i + 1) = mkL d (mkD ack bits) i) := hno.out (by unfold mkD; rw [if_neg (by rw [hbm.out, hb, dA]; simp)])
              clear hyes hno hA hB2 hb hk hkt
              go_wp2
              exact ⟨⟨i + 1, by omega, by simp, by rw [hN.out]; exact hX2, by rw [hN.out]; exact hR2, hK2⟩, by simp [intOf]; omega⟩
          · have dC : decide ((k : Int) < 64) = false := by simp; omega
            have hN : Hid (mkL d (mkD ack bits) (i + 1) = mkL d (mkD ack bits) i) := hno.out (by unfold mkD bitM; rw [if_neg (by simp; omega)])
            clear hyes hno hA hB2 hk hkt hC
            go_wp2
            exact ⟨⟨i + 1, by omega, by simp, by rw [hN.out]; exact hX2, by rw [hN.out]; exact hR2, hK2⟩, by simp [intOf]; omega⟩
        · have dB : decide (z ≥ ack + 2) = false := by simpa using hB2
          have hN : Hid (mkL d (mkD ack bits) (i + 1) = mkL d (mkD ack bits) i) := hno.out (by unfold mkD bitM; rw [if_neg (by simp; omega)])
          clear hyes hno hA hB2
          go_wp2
          exact ⟨⟨i + 1, by omega, by simp, by rw [hN.out]; exact hX2, by rw [hN.out]; exact hR2, hK2⟩, by simp [intOf]; omega⟩
    · obtain rfl : i = d.L.length := by omega
      have hd : decide ((d.L.length : Int) < (d.L.length : Int)) = false := by simp
      obtain ⟨a, c, hv, -⟩ := hR2.out.form
      rw [mkL_len] at hv
      subst hv
      have c6 : wr.cell? ⟨lb, 6, none⟩ = some (.slice a d.L.length c) := hX2.out.cell 6
      have hX3 : Hid (XLk (wr.setCell ⟨lb, 5, none⟩ (.int .i64 (max d.lim credit))) lb x { markD d ack bits with lim := max d.lim credit } (.slice a d.L.length c)) := by
        have := (show Blk wr lb _ 37 from hX2.out).set 5 (.int .i64 (max d.lim credit))
        rw [mkL_all] at this
        exact this
      have hR3 : Hid (RowD (wr.setCell ⟨lb, 5, none⟩ (.int .i64 (max d.lim credit))) E (.slice a d.L.length c) (markD d ack bits).L) := by
        have := hR2.out.other (show Blk wr lb _ 37 from hX2.out) 5 (.int .i64 (max d.lim credit))
        rw [mkL_all] at this
        exact this
      have hD3 : Hid (Dok { markD d ack bits with lim := max d.lim credit }) := dok_map hD.out (mkD ack bits) (fun z e => by unfold mkD; split <;> exact ⟨rfl, rfl, rfl, rfl⟩) _ hF.out.2 hF.out.1
      have hK3 : Hid (KS E w (wr.setCell ⟨lb, 5, none⟩ (.int .i64 (max d.lim credit)))) := hK2.out.trans (KS.set _ lb _ hLB.out _)
      clear hR2 hX2 hK2 hB
      go_wp2_with (go_at_call 105; refine (ydone_any hX3.out hR3.out hD3.out).mono ?_; rintro e w5 ⟨rfl, v2, hX5, hR5, hD5, hK5⟩)
      go_ret
      exact ⟨rfl, v2, hX5, hR5, hD5, hK3.out.trans (hK5.out.mono fun q _ e => by rw [e]; exact hLB.out)⟩
end Go.Proofs.YtfipdldoklkciaaGreat
namespace Go.Proofs.YtfipdldoklkciaaGreat
open Go.RowKit
set_option linter.unusedVariables false
theorem RowD.drew {w : World} {E : Nat → Prop} {v : Value} {L : List De} (h : RowD w E v L) : RowD w.drew E v L := h.kept (Below.refl _ _).drew
theorem XLk.off {w : World} {lb : Nat} {x : Nat → Value} {d : Ds} {v : Value} {g j : Nat} {cs : Array Value} (h : XLk w lb x d v) (hg : Blk w g cs 147) (u : Value) : XLk (w.setCell ⟨g, j, none⟩ u) lb x d v :=
  (Below.heap_setCell _ _ _ _ fun e2 => by
    have e3 : lb = g := e2
    subst e3
    have h9 : w.heap[lb]? = _ := h
    have h8 : w.heap[lb]? = _ := hg
    rw [h8] at h9
    injection h9 with h9
    injection h9 with _ h9
    exact absurd h9 (by decide)).trans (show Blk w lb _ 37 from h)
theorem XLk.other {w : World} {lb : Nat} {x : Nat → Value} {d d' : Ds} {v : Value} (h : XLk w lb x d v) (h1 : d'.win = d.win) (h2 : d'.base = d.base) (h3 : d'.lim = d.lim) : XLk w lb x d' v := by
  unfold XLk
  rw [h1, h2, h3]
  exact h
theorem dok_map2 {d : Ds} (h : Dok d) (f : Int → De → De) (hf : ∀ z e, (e.zs.length = e.n ∧ e.n ≤ 1200 ∧ 0 ≤ e.time ∧ e.time ≤ 1099511627840 ∧ 1 ≤ e.wait ∧ e.wait ≤ 64) → ((f z e).zs.length = (f z e).n ∧ (f z e).n ≤ 1200 ∧ 0 ≤ (f z e).time ∧ (f z e).time ≤ 1099511627840 ∧ 1 ≤ (f z e).wait ∧ (f z e).wait ≤ 64)) : Dok { d with L := d.L.mapIdx fun i e => f (d.base + (i : Int)) e } := by
  obtain ⟨w1, w2, b1, few, l1, l2, ent⟩ := h
  refine ⟨w1, w2, b1, ?_, ?_, l2, fun y hy => ?_⟩
  · show ((d.L.mapIdx _).length : Int) ≤ d.win
    rw [List.length_mapIdx]; exact few
  · show d.base + ((d.L.mapIdx _).length : Int) - 1 ≤ d.lim
    rw [List.length_mapIdx]; exact l1
  · have hy : y ∈ d.L.mapIdx fun i e => f (d.base + (i : Int)) e := hy
    obtain ⟨i, hi, rfl⟩ := List.mem_mapIdx.1 hy
    exact hf _ _ (ent _ (List.getElem_mem hi))
theorem done_next (d : Ds) : (doneD d).base + ((doneD d).L.length : Int) = d.base + (d.L.length : Int) := by
  have := popL_le d.L
  unfold doneD
  dsimp only
  omega
set_option maxHeartbeats 2000000 in
theorem yres_ok {w : World} {lb : Nat} {E : Nat → Prop} {x : Nat → Value} {d : Ds} {v : Value} (ack credit now : Int) (h : XLk w lb x d v) (hr : RowD w E v d.L) (hO : Dok d) (hlb : E lb) (ht : timeB now = true) (hm : mayD d ack credit = true) :
    Calls Tryz.prog 75 #[.pointer (some ⟨lb, 3, none⟩), .int .i64 ack, .int .i64 credit, .int .i64 now] w fun e w' => e = .returned (.int .i64 0) ∧ ∃ v2, Hid (XLk w' lb x (resD d ack credit now) v2) ∧ Hid (RowD w' E v2 (resD d ack credit now).L) ∧ Hid (KS E w w') := by
  have k1 := yacked_any ack credit h hr hO
  have k0 := ytime_any now w
  rw [ht] at k0
  have hm2 := hm
  unfold mayD at hm
  rw [hm] at k1
  simp only [mayD, Bool.and_eq_true, decide_eq_true_eq] at hm2
  obtain ⟨⟨⟨m1, m2⟩, m3⟩, m4⟩ := hm2
  have hM : Hid (0 ≤ ack ∧ ack < d.base + d.L.length ∧ credit ≤ 4611686018427387904) := ⟨m1, m2, m4⟩
  have hX : Hid (XLk w lb x d v) := h
  have hR : Hid (RowD w E v d.L) := hr
  have hD : Hid (Dok d) := hO
  have hLB : Hid (E lb) := hlb
  have hT : Hid (0 ≤ now ∧ now ≤ 1099511627776) := by show _ ∧ _; unfold timeB at ht; simpa using ht
  clear h hr hO hm m1 m2 m3 m4 hlb ht
  go_enter Tryz.func75, Tryz.ntmps75
  go_wp2_with (first | (go_at_call 95; refine k0.mono ?_; rintro e w1 ⟨rfl, hw1⟩; obtain rfl := hw1.symm; clear hw1 k0) | (go_at_call 104; refine k1.mono ?_; rintro e w1 ⟨rfl, hb1⟩))
  have hX1 : Hid (XLk w1 lb x { d with L := mkL d (renD ack now) 0 } v) := Blk.kept hX.out hb1
  have hR1 : Hid (RowD w1 E v (mkL d (renD ack now) 0)) := by show RowD _ _ _ _; rw [mkL_zero]; exact hR.out.kept hb1
  have hK1 : Hid (KS E w w1) := KS.of_below hb1
  clear hb1 k1
  go_loopw [9] (fun s9 wr => ∃ i : Nat, i ≤ d.L.length ∧ s9 = .int .i64 (i : Nat) ∧ Hid (XLk wr lb x { d with L := mkL d (renD ack now) i } v) ∧ Hid (RowD wr E v (mkL d (renD ack now) i)) ∧ Hid (KS E w wr)) (fun i _ => d.L.length - (intOf i).toNat)
  case atStart => exact ⟨0, Nat.zero_le _, rfl, hX1, hR1, hK1⟩
  case round =>
    obtain ⟨i, hi, rfl, hX2, hR2, hK2⟩ := hrel
    clear hX1 hR1 hK1
    by_cases hlt : i < d.L.length
    · have hi0 : d.L[i]? = some d.L[i] := List.getElem?_eq_getElem hlt
      generalize d.L[i] = e at hi0
      obtain ⟨g, off, c, hv, hEg, -, hcs, hfz, hle, cg, hbg⟩ := hR2.out.cells (mkL_at hi0)
      rw [mkL_len] at hv hle
      subst hv
      have c4 : wr.cell? ⟨lb, 4, none⟩ = some (.int .i64 d.base) := hX2.out.cell 4
      have c6 : wr.cell? ⟨lb, 6, none⟩ = some (.slice (some ⟨g, off, none⟩) d.L.length c) := hX2.out.cell 6
      have hd : decide ((i : Int) < (d.L.length : Int)) = true := by simp; omega
      have q1 : (0 : Int) ≤ (i : Int) := by omega
      have c1 : wr.cell? ⟨g, off + i * 4 + 1, none⟩ = some (.bool e.there) := hcs 1 (by decide)
      have f1 := hfz (off + i * 4 + 1)
      have hbnd : Hid (1 ≤ d.base + (i : Int) ∧ d.base + (i : Int) ≤ 4611686018427387904) := by have h1 := hD.out.b1; have h2 := hD.out.l1; have h3 := hD.out.l2; show _ ∧ _; omega
      have wi : IntKind.i64.wrap ((i : Int) + 1) = (i : Int) + 1 := by have h2 := hD.out.few; have h3 := hD.out.w2; rw [IntKind.wrap_i64]; omega
      obtain ⟨z, hz⟩ : ∃ z, d.base + (i : Int) = z := ⟨_, rfl⟩
      have hzz : Hid (d.base + (i : Int) = z) := hz
      have w1' : IntKind.i64.wrap (d.base + (i : Int)) = z := by have := hbnd.out; rw [IntKind.wrap_i64, hz]; omega
      obtain ⟨bz, hbz⟩ : ∃ b, decide (z ≤ ack) = b := ⟨_, rfl⟩
      have hX3 : Hid (XLk (wr.setCell ⟨g, off + i * 4 + 1, none⟩ (.bool bz)) lb x d (.slice (some ⟨g, off, none⟩) d.L.length c)) := (hX2.out.other (d' := d) rfl rfl rfl).off hbg _
      have hR3 : Hid (RowD (wr.setCell ⟨g, off + i * 4 + 1, none⟩ (.bool bz)) E (.slice (some ⟨g, off, none⟩) d.L.length c) ((mkL d (renD ack now) i).set i { e with there := bz })) := hR2.out.put rfl (mkL_at hi0) (by decide) rfl ⟨rfl, rfl, rfl, rfl⟩
      have hK3 : Hid (KS E w (wr.setCell ⟨g, off + i * 4 + 1, none⟩ (.bool bz))) := hK2.out.trans (KS.set _ g _ hEg _)
      have hEg' : Hid (E g) := hEg
      clear hbg hcs hfz hz hR2 hX2 hK2
      go_wp2
      go_region
      have hX4 : Hid (XLk (wr.setCell ⟨g, off + i * 4 + 1, none⟩ (.bool bz)).drew lb x d (.slice (some ⟨g, off, none⟩) d.L.length c)) := hX3.out
      have hR4 : Hid (RowD (wr.setCell ⟨g, off + i * 4 + 1, none⟩ (.bool bz)).drew E (.slice (some ⟨g, off, none⟩) d.L.length c) ((mkL d (renD ack now) i).set i { e with there := bz })) := hR3.out.drew
      have hK4 : Hid (KS E w (wr.setCell ⟨g, off + i * 4 + 1, none⟩ (.bool bz)).drew) := hK3.out.trans (KS.of_below (Below.refl _ _).drew)
      clear hX3 hR3 hK3 c1 f1 c4 c6
      generalize (wr.setCell ⟨g, off + i * 4 + 1, none⟩ (.bool bz)).drew = w3 at *
      have hi1 : ((mkL d (renD ack now) i).set i { e with there := bz })[i]? = some { e with there := bz } := by rw [List.getElem?_set, if_pos rfl, if_pos (by rw [mkL_len]; exact hlt)]
      obtain ⟨g', off', c', hv, -, -, hcs, hfz, -, cg, hbg⟩ := hR4.out.cells hi1
      simp only [Value.slice.injEq, Option.some.injEq, Addr.mk.injEq, and_true] at hv
      obtain ⟨⟨rfl, rfl⟩, -, rfl⟩ := hv
      have c6 : w3.cell? ⟨lb, 6, none⟩ = some (.slice (some ⟨g, off, none⟩) d.L.length c) := hX4.out.cell 6
      have c2 : w3.cell? ⟨g, off + i * 4 + 2, none⟩ = some (.int .i64 e.time) := hcs 2 (by decide)
      have c3 : w3.cell? ⟨g, off + i * 4 + 3, none⟩ = some (.int .i64 e.wait) := hcs 3 (by decide)
      have f2 := hfz (off + i * 4 + 2)
      have f3 := hfz (off + i * 4 + 3)
      have hst : Hid ((mkL d (renD ack now) i).set i (renD ack now z e) = mkL d (renD ack now) (i + 1)) := by show _ = _; rw [← hzz.out]; exact mkL_step hi0
      have he3 : Hid (renD ack now z e = ⟨e.a, e.n, e.c, e.zs, bz, now, 1⟩) := by show _ = _; unfold renD; rw [hbz]
      have hXA : Hid (XLk ((w3.setCell ⟨g, off + i * 4 + 2, none⟩ (.int .i64 now)).setCell ⟨g, off + i * 4 + 3, none⟩ (.int .i64 1)) lb x { d with L := mkL d (renD ack now) (i + 1) } (.slice (some ⟨g, off, none⟩) d.L.length c)) := ((hX4.out.off hbg _).off (Blk.set hbg _ _) _).other rfl rfl rfl
      have hXB : Hid (XLk ((w3.setCell ⟨g, off + i * 4 + 3, none⟩ (.int .i64 1)).setCell ⟨g, off + i * 4 + 2, none⟩ (.int .i64 now)) lb x { d with L := mkL d (renD ack now) (i + 1) } (.slice (some ⟨g, off, none⟩) d.L.length c)) := ((hX4.out.off hbg _).off (Blk.set hbg _ _) _).other rfl rfl rfl
      have hRA : Hid (RowD ((w3.setCell ⟨g, off + i * 4 + 2, none⟩ (.int .i64 now)).setCell ⟨g, off + i * 4 + 3, none⟩ (.int .i64 1)) E (.slice (some ⟨g, off, none⟩) d.L.length c) (mkL d (renD ack now) (i + 1))) := by
        have h1 := hR4.out.put rfl hi1 (j := 2) (e' := ⟨e.a, e.n, e.c, e.zs, bz, now, e.wait⟩) (x := .int .i64 now) (by decide) rfl ⟨rfl, rfl, rfl, rfl⟩
        rw [List.set_set] at h1
        have h2 := h1.put rfl (i := i) (e := ⟨e.a, e.n, e.c, e.zs, bz, now, e.wait⟩) (by rw [List.getElem?_set, if_pos rfl, if_pos (by rw [mkL_len]; exact hlt)]) (j := 3) (e' := ⟨e.a, e.n, e.c, e.zs, bz, now, 1⟩) (x := .int .i64 1) (by decide) rfl ⟨rfl, rfl, rfl, rfl⟩
        rw [List.set_set, ← he3.out, hst.out] at h2
        exact h2
      have hRB : Hid (RowD ((w3.setCell ⟨g, off + i * 4 + 3, none⟩ (.int .i64 1)).setCell ⟨g, off + i * 4 + 2, none⟩ (.int .i64 now)) E (.slice (some ⟨g, off, none⟩) d.L.length c) (mkL d (renD ack now) (i + 1))) := by
        have h1 := hR4.out.put rfl hi1 (j := 3) (e' := ⟨e.a, e.n, e.c, e.zs, bz, e.time, 1⟩) (x := .int .i64 1) (by decide) rfl ⟨rfl, rfl, rfl, rfl⟩
        rw [List.set_set] at h1
        have h2 := h1.put rfl (i := i) (e := ⟨e.a, e.n, e.c, e.zs, bz, e.time, 1⟩) (by rw [List.getElem?_set, if_pos rfl, if_pos (by rw [mkL_len]; exact hlt)]) (j := 2) (e' := ⟨e.a, e.n, e.c, e.zs, bz, now, 1⟩) (x := .int .i64 now) (by decide) rfl ⟨rfl, rfl, rfl, rfl⟩
        rw [List.set_set, ← he3.out, hst.out] at h2
        exact h2
      have hKA : Hid (KS E w ((w3.setCell ⟨g, off + i * 4 + 2, none⟩ (.int .i64 now)).setCell ⟨g, off + i * 4 + 3, none⟩ (.int .i64 1))) := hK4.out.trans ((KS.set _ g _ hEg'.out _).trans (KS.set _ g _ hEg'.out _))
      have hKB : Hid (KS E w ((w3.setCell ⟨g, off + i * 4 + 3, none⟩ (.int .i64 1)).setCell ⟨g, off + i * 4 + 2, none⟩ (.int .i64 now))) := hK4.out.trans ((KS.set _ g _ hEg'.out _).trans (KS.set _ g _ hEg'.out _))
      clear hbg hcs hfz hi1 hi0 hst he3 hR4 hX4 hK4 hbz
      go_wp2
      go_region
      all_goals (
        go_wp2
        go_roundw
        first
          | exact ⟨i + 1, by omega, by simp, hXA.out, hRA.out.drew, hKA.out.trans (KS.of_below (Below.refl _ _).drew)⟩
          | exact ⟨i + 1, by omega, by simp, hXB.out, hRB.out.drew, hKB.out.trans (KS.of_below (Below.refl _ _).drew)⟩
        simp [intOf]; omega)
    · obtain rfl : i = d.L.length := by omega
      have hd : decide ((d.L.length : Int) < (d.L.length : Int)) = false := by simp
      obtain ⟨a, c, hv, -⟩ := hR2.out.form
      rw [mkL_len] at hv
      subst hv
      have c6 : wr.cell? ⟨lb, 6, none⟩ = some (.slice a d.L.length c) := hX2.out.cell 6
      have hX3 : Hid (XLk wr lb x (resM d ack now) (.slice a d.L.length c)) := hX2.out.other rfl rfl rfl
      have hR3 : Hid (RowD wr E (.slice a d.L.length c) (resM d ack now).L) := by
        have := hR2.out
        rw [mkL_all] at this
        exact this
      have hD3 : Hid (Dok (resM d ack now)) := dok_map2 hD.out (renD ack now) (fun z e he => ⟨he.1, he.2.1, hT.out.1, by have := hT.out.2; show now ≤ _; omega, by show (1 : Int) ≤ 1; omega, by show (1 : Int) ≤ 64; omega⟩)
      have hNx : Hid ((doneD (resM d ack now)).base + ((doneD (resM d ack now)).L.length : Int) = d.base + (d.L.length : Int)) := (done_next _).trans (by unfold resM; rw [List.length_mapIdx])
      have hRs : Hid (resD d ack credit now = { doneD (resM d ack now) with lim := max credit (d.base + (d.L.length : Int) - 1) }) := rfl
      have wn : IntKind.i64.wrap (d.base + (d.L.length : Int) - 1) = d.base + (d.L.length : Int) - 1 := by have h1 := hD.out.b1; have h2 := hD.out.l1; have h3 := hD.out.l2; rw [IntKind.wrap_i64]; omega
      clear hR2 hX2 hd
      have hd : decide ((d.L.length : Int) < (d.L.length : Int)) = false := by simp
      have kd := ydone_any hX3.out hR3.out hD3.out
      generalize doneD (resM d ack now) = dd at *
      have wn2 : IntKind.i64.wrap (dd.base + (dd.L.length : Int) - 1) = d.base + (d.L.length : Int) - 1 := by rw [hNx.out]; exact wn
      clear wn
      go_wp2_with (first
        | (go_at_call 105; refine kd.mono ?_; rintro e w5 ⟨rfl, v2, hX5, hR5, hD5, hK5⟩)
        | (go_at_call 96; refine (ynext_any hX5.out hR5.out hD5.out).mono ?_; rintro e w6 ⟨rfl, hb6⟩; have hX6 : Hid (XLk w6 lb x dd v2) := Blk.kept hX5.out hb6; have hR6 : Hid (RowD w6 E v2 dd.L) := hR5.out.kept hb6; have c5 : w6.cell? ⟨lb, 5, none⟩ = some (.int .i64 dd.lim) := hX6.out.cell 5; have f5 := Blk.fz (show Blk w6 lb _ 37 from hX6.out) 5; have hK6 : Hid (KS E w w6) := hK2.out.trans ((hK5.out.mono fun q _ e => by rw [e]; exact hLB.out).trans (KS.of_below hb6)); clear hX5 hb6))
      go_ret
      refine ⟨rfl, v2, ?_, ?_, hK6.out.trans (KS.set _ lb _ hLB.out _)⟩
      · rw [hRs.out]
        exact (show Blk w6 lb _ 37 from hX6.out).set 5 (.int .i64 (max credit (d.base + (d.L.length : Int) - 1)))
      · rw [hRs.out]
        exact hR6.out.other (show Blk w6 lb _ 37 from hX6.out) 5 _
end Go.Proofs.YtfipdldoklkciaaGreat
