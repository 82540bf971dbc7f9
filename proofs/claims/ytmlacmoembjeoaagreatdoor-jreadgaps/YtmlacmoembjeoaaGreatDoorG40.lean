/-
  The document's look at bytes: is, many, Gap, fault.
  A number's end, as the document looks for it, and as the row of states finds it: the same.
  A number's end: gantlineref09.number.
-/
import Derived.Test.YtmlacmoembjeoaaGreatDoorG39
import Derived.Deep.CutBlock
import Derived.Deep.CutRange
namespace Go.Proofs.YtmlacmoembjeoaaGreatDoor
open Go.RowKit
set_option linter.unusedVariables false
/-- Does a byte stand there? -/
def isB (zs : List Int) (p : Nat) (c : Int) : Bool := decide (p < zs.length) && (zs.getD p 0 == c)
theorem byte_at {w : World} {a : Option Addr} {zs : List Int} (hb : Bytes w a zs) {p : Nat} (hp : p < zs.length) : ∃ x off, a = some ⟨x, off, none⟩ ∧ w.cell? ⟨x, off + p, none⟩ = some (.int .u8 (zs.getD p 0)) ∧ 0 ≤ zs.getD p 0 ∧ zs.getD p 0 < 256 := by
  obtain ⟨hz, _, hr⟩ := hb
  rcases hr with h | ⟨x, off, ha, hc⟩
  · rw [h] at hp; simp at hp
  · refine ⟨x, off, ha, hc p hp, ?_⟩
    have : zs.getD p 0 ∈ zs := by rw [List.getD_eq_getElem?_getD, List.getElem?_eq_getElem hp]; exact List.getElem_mem hp
    exact hz _ this
set_option maxHeartbeats 400000 in
set_option maxRecDepth 100000 in
theorem vis_any (a : Option Addr) (n cap : Nat) (zs : List Int) (p : Nat) (c : Int) (w : World) (hl : zs.length = n) (hb : Bytes w a zs) (hc : n ≤ cap) :
    Calls Tryz.prog 61 #[.slice a n cap, .int .i64 (p : Nat), .int .u8 c] w fun e w' => e = .returned (.bool (isB zs p c)) ∧ w' = w := by
  by_cases hp : p < n
  · obtain ⟨x, off, rfl, hcell, h0, h1⟩ := byte_at hb (p := p) (by omega)
    have hR : isB zs p c = (zs.getD p 0 == c) := by unfold isB; rw [decide_eq_true (by omega)]; simp
    rw [hR]
    generalize zs.getD p 0 = z at *
    have hz : (p : Int) < (n : Int) := by omega
    clear hb hl hR hp
    by_cases hzc : z = c
    · subst hzc
      have e : (z == z) = true := by simp
      go_enter Tryz.func61, Tryz.ntmps61
      go_wp2
      go_ret
      exact ⟨by rw [e]; rfl, rfl⟩
    · have e : (z == c) = false := by simpa using hzc
      clear hzc
      go_enter Tryz.func61, Tryz.ntmps61
      go_wp2
      go_ret
      exact ⟨by rw [e]; rfl, rfl⟩
  · have hR : isB zs p c = false := by unfold isB; rw [decide_eq_false (by omega)]; rfl
    rw [hR]
    have hz : ¬ (p : Int) < (n : Int) := by omega
    clear hb hl hR hp
    go_enter Tryz.func61, Tryz.ntmps61
    go_wp2
    go_ret
    exact ⟨rfl, rfl⟩
/-- How many digits stand ahead. -/
def dgN : List Int → Nat
  | [] => 0
  | c :: b => if isD c = true then dgN b + 1 else 0
theorem dg_le (b : List Int) : dgN b ≤ b.length := by
  induction b with
  | nil => simp [dgN]
  | cons c b ih => rw [dgN]; split <;> simp <;> omega
theorem dg_drop {zs : List Int} {p : Nat} (hp : p < zs.length) : dgN (zs.drop p) = if isD (zs.getD p 0) = true then dgN (zs.drop (p + 1)) + 1 else 0 := by
  rw [List.drop_eq_getElem_cons hp, dgN, List.getD_eq_getElem?_getD, List.getElem?_eq_getElem hp]
  rfl
set_option maxHeartbeats 400000 in
set_option maxRecDepth 100000 in
theorem vmany_any (a : Option Addr) (n cap : Nat) (zs : List Int) (p : Nat) (w : World) (hl : zs.length = n) (hb : Bytes w a zs) (hc : n ≤ cap) (hm : cap ≤ 140737488351232) (hp : p ≤ n) :
    Calls Tryz.prog 62 #[.slice a n cap, .int .i64 (p : Nat)] w fun e w' => e = .returned (.int .i64 ((p + dgN (zs.drop p) : Nat) : Int)) ∧ w' = w := by
  obtain ⟨R, hR⟩ : ∃ R, p + dgN (zs.drop p) = R := ⟨_, rfl⟩
  rw [hR]
  have hR' : Hid (p + dgN (zs.drop p) = R) := hR
  clear hR
  have hb' : Hid (Bytes w a zs) := hb
  have hl' : Hid (zs.length = n) := hl
  clear hb hl
  go_enter Tryz.func62, Tryz.ntmps62
  go_wp2
  go_loopw [1] (fun u wr => ∃ q : Nat, p ≤ q ∧ q ≤ n ∧ u = .int .i64 q ∧ wr = w ∧ Hid (q + dgN (zs.drop q) = R)) (fun u _ => n - (intOf u).toNat)
  case atStart => exact ⟨p, Nat.le_refl _, hp, rfl, rfl, hR'⟩
  case round =>
    obtain ⟨q, hq1, hq2, rfl, rfl, hq⟩ := hrel
    by_cases hlt : q < n
    · obtain ⟨x, off, rfl, hcell, h0, h1⟩ := byte_at hb'.out (p := q) (by rw [hl'.out]; exact hlt)
      have hd := dg_drop (zs := zs) (p := q) (by rw [hl'.out]; exact hlt)
      generalize zs.getD q 0 = z at *
      have hz : (q : Int) < (n : Int) := by omega
      by_cases hD : isD z = true
      · have hD' := isD_iff.1 hD
        have d1 : decide ((48 : Int) ≤ z) = true := by simp; omega
        have d2 : decide (z ≤ (57 : Int)) = true := by simp; omega
        have e1 : Hid (q + 1 + dgN (zs.drop (q + 1)) = R) := by show _ = _; rw [← hq.out, hd, if_pos hD]; omega
        have wi : IntKind.i64.wrap ((q : Int) + 1) = (q : Int) + 1 := by rw [IntKind.wrap_i64]; omega
        clear hd hD hD' hq
        go_wp2
        go_roundw
        case rel => exact ⟨q + 1, by omega, by omega, by go_num, (by first | rfl | trivial), e1⟩
        case measure => simp [intOf]; omega
      · have hD' : ¬ (48 ≤ z ∧ z ≤ 57) := fun h => hD (isD_iff.2 h)
        have e1 : Hid (q = R) := by show _ = _; rw [← hq.out, hd, if_neg hD]; omega
        clear hd hD hq
        by_cases h48 : (48 : Int) ≤ z
        · have d1 : decide ((48 : Int) ≤ z) = true := by simp; omega
          have d2 : decide (z ≤ (57 : Int)) = false := by simp; omega
          clear hD' h48
          go_wp2
          go_ret
          exact ⟨by rw [← e1.out]; rfl, rfl⟩
        · have d1 : decide ((48 : Int) ≤ z) = false := by simp; omega
          clear hD' h48
          go_wp2
          go_ret
          exact ⟨by rw [← e1.out]; rfl, rfl⟩
    · have hz : ¬ (q : Int) < (n : Int) := by omega
      have e1 : Hid (q = R) := by show _ = _; rw [← hq.out, List.drop_eq_nil_of_le (by rw [hl'.out]; omega)]; rfl
      clear hq
      go_wp2
      go_ret
      exact ⟨by rw [← e1.out]; rfl, rfl⟩
end Go.Proofs.YtmlacmoembjeoaaGreatDoor
namespace Go.Proofs.YtmlacmoembjeoaaGreatDoor
open Go.RowKit
set_option linter.unusedVariables false
def expV (zs : List Int) (r : Nat) : Nat × Int :=
  if isB zs r 101 = true ∨ isB zs r 69 = true then
    (if isB zs (r + 1) 43 = true ∨ isB zs (r + 1) 45 = true then (if dgN (zs.drop (r + 2)) = 0 then (0, ((r + 2 : Nat) : Int)) else (r + 2 + dgN (zs.drop (r + 2)), -1))
     else (if dgN (zs.drop (r + 1)) = 0 then (0, ((r + 1 : Nat) : Int)) else (r + 1 + dgN (zs.drop (r + 1)), -1)))
  else (r, -1)
def fracV (zs : List Int) (r : Nat) : Nat × Int :=
  if isB zs r 46 = true then (if dgN (zs.drop (r + 1)) = 0 then (0, ((r + 1 : Nat) : Int)) else expV zs (r + 1 + dgN (zs.drop (r + 1)))) else expV zs r
def wholeV (zs : List Int) (q : Nat) : Nat × Int :=
  if isB zs q 48 = true then fracV zs (q + 1) else if dgN (zs.drop q) = 0 then (0, ((q : Nat) : Int)) else fracV zs (q + dgN (zs.drop q))
def numV (zs : List Int) (p : Nat) : Nat × Int := if isB zs p 45 = true then wholeV zs (p + 1) else wholeV zs p
/-- Where the row of states ends from a place on, and in which state. -/
def NS (zs : List Int) (q p : Nat) : Nat × Nat := nuF (zs.drop p) p q
theorem isB_iff {zs : List Int} {p : Nat} {c : Int} : isB zs p c = true ↔ p < zs.length ∧ zs.getD p 0 = c := by unfold isB; simp
theorem ns_out {zs : List Int} {p : Nat} (q : Nat) (h : zs.length ≤ p) : NS zs q p = (p, q) := by unfold NS; rw [List.drop_eq_nil_of_le h]; rfl
theorem ns_in {zs : List Int} {p : Nat} (q : Nat) (h : p < zs.length) : NS zs q p = if afterS q (zs.getD p 0) = 9 then (p, q) else NS zs (afterS q (zs.getD p 0)) (p + 1) := by
  unfold NS
  rw [List.drop_eq_getElem_cons h, nuF, List.getD_eq_getElem?_getD, List.getElem?_eq_getElem h]
  rfl
theorem ns_stop {zs : List Int} {p q : Nat} (h : p < zs.length → afterS q (zs.getD p 0) = 9) : NS zs q p = (p, q) := by
  rcases Nat.lt_or_ge p zs.length with h1 | h1
  · rw [ns_in q h1, if_pos (h h1)]
  · exact ns_out q h1
theorem ns_step {zs : List Int} {p q q' : Nat} (h : p < zs.length) (ha : afterS q (zs.getD p 0) = q') (h9 : q' ≠ 9) : NS zs q p = NS zs q' (p + 1) := by
  rw [ns_in q h, ha, if_neg h9]
/-- Digits go on. -/
theorem ns_digs {zs : List Int} {q : Nat} (hq : ∀ c, isD c = true → afterS q c = q) (h9 : q ≠ 9) : ∀ (k p : Nat), dgN (zs.drop p) = k → NS zs q p = NS zs q (p + k) ∧ (p + k < zs.length → isD (zs.getD (p + k) 0) = false) := by
  intro k
  induction k with
  | zero =>
    intro p h
    refine ⟨rfl, fun hl => ?_⟩
    have hl' : p < zs.length := hl
    rw [dg_drop hl'] at h
    by_cases hd : isD (zs.getD p 0) = true
    · rw [if_pos hd] at h; omega
    · simpa using hd
  | succ k ih =>
    intro p h
    have hl : p < zs.length := by
      rcases Nat.lt_or_ge p zs.length with h1 | h1
      · exact h1
      · rw [List.drop_eq_nil_of_le h1] at h; simp [dgN] at h
    rw [dg_drop hl] at h
    by_cases hd : isD (zs.getD p 0) = true
    · rw [if_pos hd] at h
      obtain ⟨e1, e2⟩ := ih (p + 1) (by omega)
      rw [ns_step hl (hq _ hd) h9, e1, show p + 1 + k = p + (k + 1) by omega]
      exact ⟨rfl, by rw [show p + (k + 1) = p + 1 + k by omega]; exact e2⟩
    · rw [if_neg hd] at h; omega
theorem dg_pos {zs : List Int} {p : Nat} (h : dgN (zs.drop p) ≠ 0) : p < zs.length ∧ isD (zs.getD p 0) = true ∧ dgN (zs.drop p) = dgN (zs.drop (p + 1)) + 1 := by
  have hl : p < zs.length := by
    rcases Nat.lt_or_ge p zs.length with h1 | h1
    · exact h1
    · rw [List.drop_eq_nil_of_le h1] at h; simp [dgN] at h
  rw [dg_drop hl] at h ⊢
  by_cases hd : isD (zs.getD p 0) = true
  · rw [if_pos hd]; exact ⟨hl, hd, rfl⟩
  · rw [if_neg hd] at h; exact absurd rfl h
theorem dg_zero {zs : List Int} {p : Nat} (h : dgN (zs.drop p) = 0) (hl : p < zs.length) : isD (zs.getD p 0) = false := by
  rw [dg_drop hl] at h
  by_cases hd : isD (zs.getD p 0) = true
  · rw [if_pos hd] at h; omega
  · simpa using hd
/-- What a look at a number's end says, by the row of states. -/
def ansN (r : Nat × Nat) : Nat × Int := if endS r.2 = true then (r.1, -1) else (0, ((r.1 : Nat) : Int))
theorem af3 {c : Int} (h : isD c = true) : afterS 3 c = 3 ∧ afterS 5 c = 5 ∧ afterS 8 c = 8 ∧ afterS 4 c = 5 ∧ afterS 6 c = 8 ∧ afterS 7 c = 8 := by
  have hc := isD_iff.1 h
  have h1 : ¬ c = 43 := by omega
  have h2 : ¬ c = 45 := by omega
  unfold afterS
  simp [h, h1, h2]
theorem af_no {c : Int} (h : isD c = false) : afterS 7 c = 9 ∧ afterS 8 c = 9 ∧ afterS 4 c = 9 := by
  unfold afterS
  simp [h]
theorem af_five {c : Int} (h : isD c = false) (h1 : ¬ (c = 101 ∨ c = 69)) : afterS 5 c = 9 := by
  have n1 : ¬ c = 101 := fun e => h1 (.inl e)
  have n2 : ¬ c = 69 := fun e => h1 (.inr e)
  unfold afterS afPart; simp [h, n1, n2]
theorem af_two {c : Int} (h0 : ¬ c = 46) (h1 : ¬ (c = 101 ∨ c = 69)) : afterS 2 c = 9 ∧ (isD c = false → afterS 3 c = 9) := by
  have n1 : ¬ c = 101 := fun e => h1 (.inl e)
  have n2 : ¬ c = 69 := fun e => h1 (.inr e)
  refine ⟨?_, fun h => ?_⟩
  · unfold afterS afWhole afPart; simp [h0, n1, n2]
  · unfold afterS afWhole afPart; simp [h, h0, n1, n2]
theorem af_six {c : Int} (h : isD c = false) (h1 : ¬ (c = 43 ∨ c = 45)) : afterS 6 c = 9 := by
  have n1 : ¬ c = 43 := fun e => h1 (.inl e)
  have n2 : ¬ c = 45 := fun e => h1 (.inr e)
  unfold afterS; simp [h, n1, n2]
theorem af_minus {c : Int} (h : isD c = false) (h0 : ¬ c = 48) : afMinus c = 9 := by unfold afMinus; simp [h, h0]
theorem af_exp {c : Int} (h : c = 101 ∨ c = 69) : afterS 2 c = 6 ∧ afterS 3 c = 6 ∧ afterS 5 c = 6 := by rcases h with rfl | rfl <;> decide
theorem exp_eq {zs : List Int} {r q : Nat} (hq : q = 2 ∨ q = 3 ∨ q = 5) (hn : r < zs.length → ¬ (zs.getD r 0 = 101 ∨ zs.getD r 0 = 69) → afterS q (zs.getD r 0) = 9) : expV zs r = ansN (NS zs q r) := by
  unfold expV
  by_cases h : isB zs r 101 = true ∨ isB zs r 69 = true
  · rw [if_pos h]
    have h' : r < zs.length ∧ (zs.getD r 0 = 101 ∨ zs.getD r 0 = 69) := by
      rcases h with h | h
      · exact ⟨(isB_iff.1 h).1, .inl (isB_iff.1 h).2⟩
      · exact ⟨(isB_iff.1 h).1, .inr (isB_iff.1 h).2⟩
    have e1 : NS zs q r = NS zs 6 (r + 1) := by
      refine ns_step h'.1 ?_ (by decide)
      have := af_exp h'.2
      rcases hq with rfl | rfl | rfl
      · exact this.1
      · exact this.2.1
      · exact this.2.2
    rw [e1]
    by_cases hs : isB zs (r + 1) 43 = true ∨ isB zs (r + 1) 45 = true
    · rw [if_pos hs]
      have hs' : r + 1 < zs.length ∧ (zs.getD (r + 1) 0 = 43 ∨ zs.getD (r + 1) 0 = 45) := by
        rcases hs with hs | hs
        · exact ⟨(isB_iff.1 hs).1, .inl (isB_iff.1 hs).2⟩
        · exact ⟨(isB_iff.1 hs).1, .inr (isB_iff.1 hs).2⟩
      rw [ns_step hs'.1 (q' := 7) (by rcases hs'.2 with e | e <;> rw [e] <;> decide) (by decide)]
      by_cases hd : dgN (zs.drop (r + 2)) = 0
      · rw [if_pos hd]
        have : NS zs 7 (r + 2) = (r + 2, 7) := ns_stop fun hl => by
          exact (af_no (dg_zero hd hl)).1
        rw [show r + 1 + 1 = r + 2 from rfl, this]
        rfl
      · rw [if_neg hd]
        obtain ⟨d1, d2, d3⟩ := dg_pos hd
        have e2 := ns_step (q := 7) (q' := 8) d1 (af3 d2).2.2.2.2.2 (by decide)
        obtain ⟨e3, e4⟩ := ns_digs (zs := zs) (q := 8) (fun c hc => (af3 hc).2.2.1) (by decide) _ (r + 2 + 1) rfl
        have e5 : NS zs 8 (r + 2 + 1 + dgN (zs.drop (r + 2 + 1))) = (r + 2 + 1 + dgN (zs.drop (r + 2 + 1)), 8) := ns_stop fun hl => by
          exact (af_no (e4 hl)).2.1
        rw [show r + 1 + 1 = r + 2 from rfl, e2, e3, e5, d3]
        show _ = (_, _)
        rw [show r + 2 + (dgN (zs.drop (r + 2 + 1)) + 1) = r + 2 + 1 + dgN (zs.drop (r + 2 + 1)) by omega]
    · rw [if_neg hs]
      by_cases hd : dgN (zs.drop (r + 1)) = 0
      · rw [if_pos hd]
        have : NS zs 6 (r + 1) = (r + 1, 6) := ns_stop fun hl => by
          have h1 := dg_zero hd hl
          have h2 : ¬ (zs.getD (r + 1) 0 = 43 ∨ zs.getD (r + 1) 0 = 45) := fun h => hs (by rcases h with h | h; exact .inl (isB_iff.2 ⟨hl, h⟩); exact .inr (isB_iff.2 ⟨hl, h⟩))
          exact af_six h1 h2
        rw [this]
        rfl
      · rw [if_neg hd]
        obtain ⟨d1, d2, d3⟩ := dg_pos hd
        have e2 := ns_step (q := 6) (q' := 8) d1 (af3 d2).2.2.2.2.1 (by decide)
        obtain ⟨e3, e4⟩ := ns_digs (zs := zs) (q := 8) (fun c hc => (af3 hc).2.2.1) (by decide) _ (r + 1 + 1) rfl
        have e5 : NS zs 8 (r + 1 + 1 + dgN (zs.drop (r + 1 + 1))) = (r + 1 + 1 + dgN (zs.drop (r + 1 + 1)), 8) := ns_stop fun hl => by
          exact (af_no (e4 hl)).2.1
        rw [e2, e3, e5, d3]
        show _ = (_, _)
        rw [show r + 1 + (dgN (zs.drop (r + 1 + 1)) + 1) = r + 1 + 1 + dgN (zs.drop (r + 1 + 1)) by omega]
  · rw [if_neg h]
    have : NS zs q r = (r, q) := ns_stop fun hl => hn hl fun h2 => h (by rcases h2 with h2 | h2; exact .inl (isB_iff.2 ⟨hl, h2⟩); exact .inr (isB_iff.2 ⟨hl, h2⟩))
    rw [this]
    rcases hq with rfl | rfl | rfl <;> rfl
theorem frac_eq {zs : List Int} {r q : Nat} (hq : q = 2 ∨ q = 3) (hn : q = 3 → r < zs.length → isD (zs.getD r 0) = false) : fracV zs r = ansN (NS zs q r) := by
  unfold fracV
  by_cases h : isB zs r 46 = true
  · rw [if_pos h]
    obtain ⟨h1, h2⟩ := isB_iff.1 h
    have e1 : NS zs q r = NS zs 4 (r + 1) := ns_step h1 (by rw [h2]; rcases hq with rfl | rfl <;> decide) (by decide)
    rw [e1]
    by_cases hd : dgN (zs.drop (r + 1)) = 0
    · rw [if_pos hd]
      have : NS zs 4 (r + 1) = (r + 1, 4) := ns_stop fun hl => by
        exact (af_no (dg_zero hd hl)).2.2
      rw [this]
      rfl
    · rw [if_neg hd]
      obtain ⟨d1, d2, d3⟩ := dg_pos hd
      have e2 := ns_step (q := 4) (q' := 5) d1 (af3 d2).2.2.2.1 (by decide)
      obtain ⟨e3, e4⟩ := ns_digs (zs := zs) (q := 5) (fun c hc => (af3 hc).2.1) (by decide) _ (r + 1 + 1) rfl
      rw [e2, e3, d3, show r + 1 + (dgN (zs.drop (r + 1 + 1)) + 1) = r + 1 + 1 + dgN (zs.drop (r + 1 + 1)) by omega]
      refine exp_eq (.inr (.inr rfl)) fun hl hne => ?_
      exact af_five (e4 hl) hne
  · rw [if_neg h]
    refine exp_eq (by rcases hq with e | e; exact .inl e; exact .inr (.inl e)) fun hl hne => ?_
    have n0 : ¬ zs.getD r 0 = 46 := fun e => h (isB_iff.2 ⟨hl, e⟩)
    have hw := af_two n0 hne
    rcases hq with rfl | rfl
    · exact hw.1
    · exact hw.2 (hn rfl hl)
theorem whole_eq {zs : List Int} {q st : Nat} (hs : st = 0 ∨ st = 1) (h45 : st = 0 → q < zs.length → zs.getD q 0 ≠ 45) : wholeV zs q = ansN (NS zs st q) := by
  have ha : q < zs.length → afterS st (zs.getD q 0) = afMinus (zs.getD q 0) := fun hl => by
    rcases hs with rfl | rfl
    · have := h45 rfl hl
      unfold afterS; rw [if_pos rfl, if_neg this]
    · unfold afterS; rw [if_neg (by decide), if_pos rfl]
  unfold wholeV
  by_cases h : isB zs q 48 = true
  · rw [if_pos h]
    obtain ⟨h1, h2⟩ := isB_iff.1 h
    rw [ns_step (q' := 2) h1 (by rw [ha h1, h2]; decide) (by decide)]
    exact frac_eq (.inl rfl) fun e => absurd e (by decide)
  · rw [if_neg h]
    by_cases hd : dgN (zs.drop q) = 0
    · rw [if_pos hd]
      have : NS zs st q = (q, st) := ns_stop fun hl => by
        rw [ha hl]
        exact af_minus (dg_zero hd hl) fun e => h (isB_iff.2 ⟨hl, e⟩)
      rw [this]
      rcases hs with rfl | rfl <;> rfl
    · rw [if_neg hd]
      obtain ⟨d1, d2, d3⟩ := dg_pos hd
      have h2 : ¬ zs.getD q 0 = 48 := fun e => h (isB_iff.2 ⟨d1, e⟩)
      rw [ns_step (q' := 3) d1 (by rw [ha d1]; unfold afMinus; rw [if_neg h2, if_pos d2]) (by decide)]
      obtain ⟨e3, e4⟩ := ns_digs (zs := zs) (q := 3) (fun c hc => (af3 hc).1) (by decide) _ (q + 1) rfl
      rw [e3, d3, show q + (dgN (zs.drop (q + 1)) + 1) = q + 1 + dgN (zs.drop (q + 1)) by omega]
      exact frac_eq (.inr rfl) fun _ hl => e4 hl
/-- A NUMBER'S END. -/
theorem num_eq (zs : List Int) (p : Nat) : numV zs p = ansN (NS zs 0 p) := by
  unfold numV
  by_cases h : isB zs p 45 = true
  · rw [if_pos h]
    obtain ⟨h1, h2⟩ := isB_iff.1 h
    rw [ns_step (q := 0) (q' := 1) h1 (by rw [h2]; decide) (by decide)]
    exact whole_eq (.inr rfl) fun e => absurd e (by decide)
  · rw [if_neg h]
    exact whole_eq (.inl rfl) fun _ hl e => h (isB_iff.2 ⟨hl, e⟩)
end Go.Proofs.YtmlacmoembjeoaaGreatDoor
namespace Go.Proofs.YtmlacmoembjeoaaGreatDoor
open Go.RowKit
set_option linter.unusedVariables false
theorem isB_lt {zs : List Int} {p : Nat} {c : Int} (h : isB zs p c = true) : p < zs.length := (isB_iff.1 h).1
set_option maxHeartbeats 1000000 in
set_option maxRecDepth 100000 in
theorem vnum_any (a : Option Addr) (n cap : Nat) (zs : List Int) (p : Nat) (w : World) (hl : zs.length = n) (hb : Bytes w a zs) (hc : n ≤ cap) (hm : cap ≤ 140737488351232) (hp : p ≤ n) :
    Calls Tryz.prog 35 #[.slice a n cap, .int .i64 (p : Nat)] w fun e w' => e = .returned (.tuple #[.int .i64 ((numV zs p).1 : Nat), .int .i64 (numV zs p).2]) ∧ w' = w := by
  have kI : Hid (∀ (q : Nat) (c : Int), Calls Tryz.prog 61 #[.slice a n cap, .int .i64 (q : Nat), .int .u8 c] w fun e w' => e = .returned (.bool (isB zs q c)) ∧ w' = w) := fun q c => vis_any a n cap zs q c w hl hb hc
  have kM : Hid (∀ (q : Nat), q ≤ n → Calls Tryz.prog 62 #[.slice a n cap, .int .i64 (q : Nat)] w fun e w' => e = .returned (.int .i64 ((q + dgN (zs.drop q) : Nat) : Int)) ∧ w' = w) := fun q hq => vmany_any a n cap zs q w hl hb hc hm hq
  have hlt : Hid (∀ (q : Nat) (c : Int), isB zs q c = true → q + 1 ≤ n) := fun q c h => by have := isB_lt h; omega
  have hdl : Hid (∀ q, q ≤ n → q + dgN (zs.drop q) ≤ n) := fun q hq => by have := dg_le (zs.drop q); rw [List.length_drop] at this; omega
  obtain ⟨RA, hRA⟩ : ∃ RA, numV zs p = RA := ⟨_, rfl⟩
  rw [hRA]
  have HR : Hid (numV zs p = RA) := hRA
  clear hRA hl hb
  obtain ⟨B1, hB1⟩ : ∃ B, isB zs p 45 = B := ⟨_, rfl⟩
  have k1 := kI.out p 45
  rw [hB1] at k1
  obtain ⟨q1, hq1⟩ : ∃ q1, (if B1 = true then p + 1 else p) = q1 := ⟨_, rfl⟩
  have HQ : Hid ((if B1 = true then p + 1 else p) = q1) := hq1
  have hq1n : q1 ≤ n := by rw [← hq1]; split; · exact hlt.out p 45 (by rw [hB1]; assumption)
                           · exact hp
  have R1 : Hid (wholeV zs q1 = RA) := by
    show _ = _
    rw [← HR.out, ← hq1]
    unfold numV
    rw [hB1]
    cases B1 <;> rfl
  clear HR hB1 hq1
  have wp : IntKind.i64.wrap ((p : Int) + 1) = (p : Int) + 1 := by rw [IntKind.wrap_i64]; omega
  go_enter Tryz.func35, Tryz.ntmps35
  go_upto_if 9 with (go_at_call 61; refine k1.mono ?_; rintro e w1 ⟨rfl, hw⟩; obtain rfl : w = w1 := hw.symm; clear k1)
  go_cut [1] (fun v wx => v = .int .i64 (q1 : Nat) ∧ wx = w)
  case first =>
    cases B1 with
    | true =>
      have e : Hid (p + 1 = q1) := HQ.out
      clear HQ
      go_wp2
      go_meet
      exact ⟨by rw [← e.out]; rfl, rfl⟩
    | false =>
      have e : Hid (p = q1) := HQ.out
      clear HQ
      go_wp2
      go_meet
      exact ⟨by rw [← e.out], rfl⟩
  case rest =>
    obtain ⟨rfl, hwc⟩ := hcut
    obtain rfl : w = wc := hwc.symm
    clear HQ wp hwc
    obtain ⟨B2, hB2⟩ : ∃ B, isB zs q1 48 = B := ⟨_, rfl⟩
    have k2 := kI.out q1 48
    rw [hB2] at k2
    have kM1 := kM.out q1 hq1n
    have hm1n := hdl.out q1 hq1n
    obtain ⟨m1, hm1⟩ : ∃ m1, q1 + dgN (zs.drop q1) = m1 := ⟨_, rfl⟩
    rw [hm1] at kM1 hm1n
    obtain ⟨nx, hnx⟩ : ∃ nx, (if B2 = true then q1 + 1 else m1) = nx := ⟨_, rfl⟩
    have HN : Hid ((if B2 = true then q1 + 1 else m1) = nx) := hnx
    have hnxn : nx ≤ n := by
      rw [← hnx]
      split
      · exact hlt.out q1 48 (by rw [hB2]; assumption)
      · exact hm1n
    have R2 : Hid (if nx = q1 then RA = (0, ((q1 : Nat) : Int)) else RA = fracV zs nx) := by
      show if nx = q1 then _ else _
      rw [← R1.out]
      unfold wholeV
      rw [hB2]
      cases B2 with
      | true =>
        have e : q1 + 1 = nx := by simpa using hnx
        rw [if_neg (by omega), if_pos rfl, e]
      | false =>
        have e : m1 = nx := by simpa using hnx
        rw [if_neg (show ¬ false = true by decide), hm1, e]
        by_cases h : nx = q1
        · rw [if_pos h, if_pos (by omega)]
        · rw [if_neg h, if_neg (by omega)]
    clear hB2 hnx R1 hm1
    have wq : IntKind.i64.wrap ((q1 : Int) + 1) = (q1 : Int) + 1 := by rw [IntKind.wrap_i64]; omega
    go_upto_if 17 with (first
      | (go_at_call 62; refine kM1.mono ?_; rintro e w2 ⟨rfl, hw⟩; obtain rfl : w = w2 := hw.symm; clear kM1 hw)
      | (go_at_call 61; refine k2.mono ?_; rintro e w3 ⟨rfl, hw⟩; obtain rfl : w = w3 := hw.symm; clear k2 hw))
    go_cut [6] (fun v wx => v = .int .i64 (nx : Nat) ∧ wx = w)
    case first =>
      cases B2 with
      | true =>
        have e : Hid (q1 + 1 = nx) := HN.out
        clear HN
        go_wp2
        go_meet
        exact ⟨by rw [← e.out]; rfl, rfl⟩
      | false =>
        have e : Hid (m1 = nx) := HN.out
        clear HN
        go_wp2
        go_meet
        exact ⟨by rw [← e.out], rfl⟩
    case rest =>
      obtain ⟨rfl, hwc⟩ := hcut
      obtain rfl : w = wc := hwc.symm
      clear HN wq hwc
      by_cases hz : nx = q1
      · have e := R2.out
        rw [if_pos hz] at e
        have E : Hid (RA = (0, ((q1 : Nat) : Int))) := e
        have zb : ((nx : Int) == (q1 : Int)) = true := by simp; omega
        clear e R2 hz
        go_wp2
        go_ret2
        exact ⟨by rw [E.out]; rfl, rfl⟩
      · have e := R2.out
        rw [if_neg hz] at e
        have R3 : Hid (RA = fracV zs nx) := e
        have zb : ((nx : Int) == (q1 : Int)) = false := by simp; omega
        clear e R2 hz
        obtain ⟨B3, hB3⟩ : ∃ B, isB zs nx 46 = B := ⟨_, rfl⟩
        have k3 := kI.out nx 46
        rw [hB3] at k3
        have HB3 : Hid (isB zs nx 46 = B3) := hB3
        obtain ⟨r, hr⟩ : ∃ r, (if B3 = true then nx + 1 + dgN (zs.drop (nx + 1)) else nx) = r := ⟨_, rfl⟩
        have HR : Hid ((if B3 = true then nx + 1 + dgN (zs.drop (nx + 1)) else nx) = r) := hr
        have hrn : r ≤ n := by
          rw [← hr]
          split
          · exact hdl.out (nx + 1) (hlt.out nx 46 (by rw [hB3]; assumption))
          · exact hnxn
        have R4 : Hid ((B3 = true → r = nx + 1 → RA = (0, ((nx + 1 : Nat) : Int))) ∧ ((B3 = true → r ≠ nx + 1) → RA = expV zs r)) := by
          rw [R3.out]
          unfold fracV
          rw [hB3]
          cases B3 with
          | true =>
            have e : nx + 1 + dgN (zs.drop (nx + 1)) = r := by simpa using hr
            refine ⟨fun _ h => ?_, fun h => ?_⟩
            · rw [if_pos rfl, if_pos (by omega)]
            · have := h rfl
              rw [if_pos rfl, if_neg (by omega), e]
          | false =>
            have e : nx = r := by simpa using hr
            refine ⟨fun h => absurd h (by decide), fun _ => ?_⟩
            rw [if_neg (by decide), e]
        clear hB3 hr R3
        have wn : IntKind.i64.wrap ((nx : Int) + 1) = (nx : Int) + 1 := by rw [IntKind.wrap_i64]; omega
        go_upto_if 27 with (go_at_call 61; refine k3.mono ?_; rintro e w4 ⟨rfl, hw⟩; obtain rfl : w = w4 := hw.symm; clear k3 hw)
        go_cut [1] (fun v wx => v = .int .i64 (r : Nat) ∧ wx = w ∧ Hid (RA = expV zs r))
        case first =>
          cases B3 with
          | false =>
            have e : Hid (nx = r) := HR.out
            have E : Hid (RA = expV zs r) := R4.out.2 fun h => absurd h (by decide)
            clear HR R4
            go_wp2
            go_meet
            exact ⟨by rw [← e.out], rfl, E⟩
          | true =>
            have e : nx + 1 + dgN (zs.drop (nx + 1)) = r := HR.out
            have k4 := kM.out (nx + 1) (hlt.out nx 46 HB3.out)
            rw [e] at k4
            have k4' : Calls Tryz.prog 62 #[.slice a n cap, .int .i64 ((nx : Int) + 1)] w fun e w' => e = .returned (.int .i64 (r : Nat)) ∧ w' = w := k4
            clear k4 HR e
            by_cases hz : r = nx + 1
            · have E : Hid (RA = (0, ((r : Nat) : Int))) := by have := R4.out.1 rfl hz; rw [← hz] at this; exact this
              have zc : ((r : Int) == (nx : Int) + 1) = true := by simp; omega
              clear hz R4
              go_wp2_with (go_at_call 62; refine k4'.mono ?_; rintro e w5 ⟨rfl, hw⟩; obtain rfl : w = w5 := hw.symm; clear k4' hw)
              go_ret2
              exact ⟨by rw [E.out]; rfl, rfl⟩
            · have E : Hid (RA = expV zs r) := R4.out.2 fun _ => hz
              have zc : ((r : Int) == (nx : Int) + 1) = false := by simp; omega
              clear hz R4
              go_wp2_with (go_at_call 62; refine k4'.mono ?_; rintro e w5 ⟨rfl, hw⟩; obtain rfl : w = w5 := hw.symm; clear k4' hw)
              go_meet
              exact ⟨rfl, rfl, E⟩
        case rest =>
          obtain ⟨rfl, hwc, R5⟩ := hcut
          obtain rfl : w = wc := hwc.symm
          clear HR wn hwc R4 HB3
          obtain ⟨B4, hB4⟩ : ∃ B, isB zs r 101 = B := ⟨_, rfl⟩
          have k5 := kI.out r 101
          rw [hB4] at k5
          obtain ⟨B5, hB5⟩ : ∃ B, isB zs r 69 = B := ⟨_, rfl⟩
          have k6 := kI.out r 69
          rw [hB5] at k6
          by_cases hE : B4 = true ∨ B5 = true
          · obtain ⟨B6, hB6⟩ : ∃ B, isB zs (r + 1) 43 = B := ⟨_, rfl⟩
            have k7' := kI.out (r + 1) 43
            rw [hB6] at k7'
            have k7 : Calls Tryz.prog 61 #[.slice a n cap, .int .i64 ((r : Int) + 1), .int .u8 43] w fun e w' => e = .returned (.bool B6) ∧ w' = w := k7'
            obtain ⟨B7, hB7⟩ : ∃ B, isB zs (r + 1) 45 = B := ⟨_, rfl⟩
            have k8' := kI.out (r + 1) 45
            rw [hB7] at k8'
            have k8 : Calls Tryz.prog 61 #[.slice a n cap, .int .i64 ((r : Int) + 1), .int .u8 45] w fun e w' => e = .returned (.bool B7) ∧ w' = w := k8'
            obtain ⟨S, hS⟩ : ∃ S, (if B6 = true ∨ B7 = true then r + 2 else r + 1) = S := ⟨_, rfl⟩
            have HS : Hid ((if B6 = true ∨ B7 = true then r + 2 else r + 1) = S) := hS
            have hSn : S ≤ n := by
              rw [← hS]
              split
              · rename_i h
                rcases h with h | h
                · exact hlt.out (r + 1) 43 (by rw [hB6]; exact h)
                · exact hlt.out (r + 1) 45 (by rw [hB7]; exact h)
              · rcases hE with h | h
                · exact hlt.out r 101 (by rw [hB4]; exact h)
                · exact hlt.out r 69 (by rw [hB5]; exact h)
            have RE : Hid (RA = if dgN (zs.drop S) = 0 then (0, ((S : Nat) : Int)) else (S + dgN (zs.drop S), -1)) := by
              show _ = _
              rw [R5.out]
              unfold expV
              rw [hB4, hB5, hB6, hB7, if_pos hE, ← hS]
              split <;> rfl
            have w1 : IntKind.i64.wrap ((r : Int) + 1) = (r : Int) + 1 := by rw [IntKind.wrap_i64]; omega
            have w2 : IntKind.i64.wrap ((r : Int) + 1 + 1) = (r : Int) + 1 + 1 := by rw [IntKind.wrap_i64]; omega
            clear k7' k8' hB4 hB5 hB6 hB7 hS R5
            cases B4 with
            | true =>
              clear hE k6
              have R6 : Hid (RA = if dgN (zs.drop S) = 0 then (0, ((S : Nat) : Int)) else (S + dgN (zs.drop S), -1)) := RE
              have kS := kM.out S hSn
              obtain ⟨m, hm⟩ : ∃ m, S + dgN (zs.drop S) = m := ⟨_, rfl⟩
              rw [hm] at kS
              have R7 : Hid ((m = S → RA = (0, ((S : Nat) : Int))) ∧ (m ≠ S → RA = (m, -1))) := by
                rw [R6.out]
                refine ⟨fun h => by rw [if_pos (by omega)], fun h => by rw [if_neg (by omega), hm]⟩
              clear R6 RE hm
              cases B6 with
              | true =>
                have HSe : r + 2 = S := by have := HS.out; rw [if_pos (.inl rfl)] at this; exact this
                clear k8
                subst HSe
                have kS' : Calls Tryz.prog 62 #[.slice a n cap, .int .i64 ((r : Int) + 1 + 1)] w fun e w' => e = .returned (.int .i64 (m : Nat)) ∧ w' = w := kS
                clear kS HS
                by_cases hz : m = r + 2
                · have E : Hid (RA = (0, ((m : Nat) : Int))) := by have := R7.out.1 hz; rw [← hz] at this; exact this
                  have zd : ((m : Int) == ((r : Int) + 1 + 1)) = true := by simp; omega
                  have zm : Hid ((m : Int) = ((r : Int) + 1 + 1)) := by show _ = _; omega
                  clear hz R7
                  go_wp2_with (first
                  | (go_at_call 61; guard_hyp k5; refine k5.mono ?_; rintro e w5 ⟨rfl, hw⟩; obtain rfl : w = w5 := hw.symm; clear k5 hw)
                  | (go_at_call 61; guard_hyp k7; refine k7.mono ?_; rintro e w7 ⟨rfl, hw⟩; obtain rfl : w = w7 := hw.symm; clear k7 hw)
                    | (go_at_call 62; refine kS'.mono ?_; rintro e w9 ⟨rfl, hw⟩; obtain rfl : w = w9 := hw.symm; clear kS' hw))
                  go_ret2
                  exact ⟨by rw [E.out, zm.out]; rfl, rfl⟩
                · have E : Hid (RA = (m, -1)) := R7.out.2 hz
                  have zd : ((m : Int) == ((r : Int) + 1 + 1)) = false := by simp; omega
                  clear hz R7
                  go_wp2_with (first
                  | (go_at_call 61; guard_hyp k5; refine k5.mono ?_; rintro e w5 ⟨rfl, hw⟩; obtain rfl : w = w5 := hw.symm; clear k5 hw)
                  | (go_at_call 61; guard_hyp k7; refine k7.mono ?_; rintro e w7 ⟨rfl, hw⟩; obtain rfl : w = w7 := hw.symm; clear k7 hw)
                    | (go_at_call 62; refine kS'.mono ?_; rintro e w9 ⟨rfl, hw⟩; obtain rfl : w = w9 := hw.symm; clear kS' hw))
                  go_ret2
                  exact ⟨by rw [E.out]; rfl, rfl⟩
              | false =>
                cases B7 with
                | true =>
                  have HSe : r + 2 = S := by have := HS.out; rw [if_pos (.inr rfl)] at this; exact this
                  subst HSe
                  have kS' : Calls Tryz.prog 62 #[.slice a n cap, .int .i64 ((r : Int) + 1 + 1)] w fun e w' => e = .returned (.int .i64 (m : Nat)) ∧ w' = w := kS
                  clear kS HS
                  by_cases hz : m = r + 2
                  · have E : Hid (RA = (0, ((m : Nat) : Int))) := by have := R7.out.1 hz; rw [← hz] at this; exact this
                    have zd : ((m : Int) == ((r : Int) + 1 + 1)) = true := by simp; omega
                    have zm : Hid ((m : Int) = ((r : Int) + 1 + 1)) := by show _ = _; omega
                    clear hz R7
                    go_wp2_with (first
                    | (go_at_call 61; guard_hyp k5; refine k5.mono ?_; rintro e w5 ⟨rfl, hw⟩; obtain rfl : w = w5 := hw.symm; clear k5 hw)
                    | (go_at_call 61; guard_hyp k7; refine k7.mono ?_; rintro e w7 ⟨rfl, hw⟩; obtain rfl : w = w7 := hw.symm; clear k7 hw)
                    | (go_at_call 61; guard_hyp k8; refine k8.mono ?_; rintro e w8 ⟨rfl, hw⟩; obtain rfl : w = w8 := hw.symm; clear k8 hw)
                      | (go_at_call 62; refine kS'.mono ?_; rintro e w9 ⟨rfl, hw⟩; obtain rfl : w = w9 := hw.symm; clear kS' hw))
                    go_ret2
                    exact ⟨by rw [E.out, zm.out]; rfl, rfl⟩
                  · have E : Hid (RA = (m, -1)) := R7.out.2 hz
                    have zd : ((m : Int) == ((r : Int) + 1 + 1)) = false := by simp; omega
                    clear hz R7
                    go_wp2_with (first
                    | (go_at_call 61; guard_hyp k5; refine k5.mono ?_; rintro e w5 ⟨rfl, hw⟩; obtain rfl : w = w5 := hw.symm; clear k5 hw)
                    | (go_at_call 61; guard_hyp k7; refine k7.mono ?_; rintro e w7 ⟨rfl, hw⟩; obtain rfl : w = w7 := hw.symm; clear k7 hw)
                    | (go_at_call 61; guard_hyp k8; refine k8.mono ?_; rintro e w8 ⟨rfl, hw⟩; obtain rfl : w = w8 := hw.symm; clear k8 hw)
                      | (go_at_call 62; refine kS'.mono ?_; rintro e w9 ⟨rfl, hw⟩; obtain rfl : w = w9 := hw.symm; clear kS' hw))
                    go_ret2
                    exact ⟨by rw [E.out]; rfl, rfl⟩
                | false =>
                  have HSe : r + 1 = S := by have := HS.out; rw [if_neg (by simp)] at this; exact this
                  subst HSe
                  have kS' : Calls Tryz.prog 62 #[.slice a n cap, .int .i64 ((r : Int) + 1)] w fun e w' => e = .returned (.int .i64 (m : Nat)) ∧ w' = w := kS
                  clear kS HS
                  by_cases hz : m = r + 1
                  · have E : Hid (RA = (0, ((m : Nat) : Int))) := by have := R7.out.1 hz; rw [← hz] at this; exact this
                    have zd : ((m : Int) == ((r : Int) + 1)) = true := by simp; omega
                    have zm : Hid ((m : Int) = ((r : Int) + 1)) := by show _ = _; omega
                    clear hz R7
                    go_wp2_with (first
                    | (go_at_call 61; guard_hyp k5; refine k5.mono ?_; rintro e w5 ⟨rfl, hw⟩; obtain rfl : w = w5 := hw.symm; clear k5 hw)
                    | (go_at_call 61; guard_hyp k7; refine k7.mono ?_; rintro e w7 ⟨rfl, hw⟩; obtain rfl : w = w7 := hw.symm; clear k7 hw)
                    | (go_at_call 61; guard_hyp k8; refine k8.mono ?_; rintro e w8 ⟨rfl, hw⟩; obtain rfl : w = w8 := hw.symm; clear k8 hw)
                      | (go_at_call 62; refine kS'.mono ?_; rintro e w9 ⟨rfl, hw⟩; obtain rfl : w = w9 := hw.symm; clear kS' hw))
                    go_ret2
                    exact ⟨by rw [E.out, zm.out]; rfl, rfl⟩
                  · have E : Hid (RA = (m, -1)) := R7.out.2 hz
                    have zd : ((m : Int) == ((r : Int) + 1)) = false := by simp; omega
                    clear hz R7
                    go_wp2_with (first
                    | (go_at_call 61; guard_hyp k5; refine k5.mono ?_; rintro e w5 ⟨rfl, hw⟩; obtain rfl : w = w5 := hw.symm; clear k5 hw)
                    | (go_at_call 61; guard_hyp k7; refine k7.mono ?_; rintro e w7 ⟨rfl, hw⟩; obtain rfl : w = w7 := hw.symm; clear k7 hw)
                    | (go_at_call 61; guard_hyp k8; refine k8.mono ?_; rintro e w8 ⟨rfl, hw⟩; obtain rfl : w = w8 := hw.symm; clear k8 hw)
                      | (go_at_call 62; refine kS'.mono ?_; rintro e w9 ⟨rfl, hw⟩; obtain rfl : w = w9 := hw.symm; clear kS' hw))
                    go_ret2
                    exact ⟨by rw [E.out]; rfl, rfl⟩
            | false =>
              cases B5 with
              | false => simp at hE
              | true =>
                clear hE
                have R6 : Hid (RA = if dgN (zs.drop S) = 0 then (0, ((S : Nat) : Int)) else (S + dgN (zs.drop S), -1)) := RE
                have kS := kM.out S hSn
                obtain ⟨m, hm⟩ : ∃ m, S + dgN (zs.drop S) = m := ⟨_, rfl⟩
                rw [hm] at kS
                have R7 : Hid ((m = S → RA = (0, ((S : Nat) : Int))) ∧ (m ≠ S → RA = (m, -1))) := by
                  rw [R6.out]
                  refine ⟨fun h => by rw [if_pos (by omega)], fun h => by rw [if_neg (by omega), hm]⟩
                clear R6 RE hm
                cases B6 with
                | true =>
                  have HSe : r + 2 = S := by have := HS.out; rw [if_pos (.inl rfl)] at this; exact this
                  clear k8
                  subst HSe
                  have kS' : Calls Tryz.prog 62 #[.slice a n cap, .int .i64 ((r : Int) + 1 + 1)] w fun e w' => e = .returned (.int .i64 (m : Nat)) ∧ w' = w := kS
                  clear kS HS
                  by_cases hz : m = r + 2
                  · have E : Hid (RA = (0, ((m : Nat) : Int))) := by have := R7.out.1 hz; rw [← hz] at this; exact this
                    have zd : ((m : Int) == ((r : Int) + 1 + 1)) = true := by simp; omega
                    have zm : Hid ((m : Int) = ((r : Int) + 1 + 1)) := by show _ = _; omega
                    clear hz R7
                    go_wp2_with (first
                    | (go_at_call 61; guard_hyp k5; refine k5.mono ?_; rintro e w5 ⟨rfl, hw⟩; obtain rfl : w = w5 := hw.symm; clear k5 hw)
                    | (go_at_call 61; guard_hyp k6; refine k6.mono ?_; rintro e w6 ⟨rfl, hw⟩; obtain rfl : w = w6 := hw.symm; clear k6 hw)
                    | (go_at_call 61; guard_hyp k7; refine k7.mono ?_; rintro e w7 ⟨rfl, hw⟩; obtain rfl : w = w7 := hw.symm; clear k7 hw)
                      | (go_at_call 62; refine kS'.mono ?_; rintro e w9 ⟨rfl, hw⟩; obtain rfl : w = w9 := hw.symm; clear kS' hw))
                    go_ret2
                    exact ⟨by rw [E.out, zm.out]; rfl, rfl⟩
                  · have E : Hid (RA = (m, -1)) := R7.out.2 hz
                    have zd : ((m : Int) == ((r : Int) + 1 + 1)) = false := by simp; omega
                    clear hz R7
                    go_wp2_with (first
                    | (go_at_call 61; guard_hyp k5; refine k5.mono ?_; rintro e w5 ⟨rfl, hw⟩; obtain rfl : w = w5 := hw.symm; clear k5 hw)
                    | (go_at_call 61; guard_hyp k6; refine k6.mono ?_; rintro e w6 ⟨rfl, hw⟩; obtain rfl : w = w6 := hw.symm; clear k6 hw)
                    | (go_at_call 61; guard_hyp k7; refine k7.mono ?_; rintro e w7 ⟨rfl, hw⟩; obtain rfl : w = w7 := hw.symm; clear k7 hw)
                      | (go_at_call 62; refine kS'.mono ?_; rintro e w9 ⟨rfl, hw⟩; obtain rfl : w = w9 := hw.symm; clear kS' hw))
                    go_ret2
                    exact ⟨by rw [E.out]; rfl, rfl⟩
                | false =>
                  cases B7 with
                  | true =>
                    have HSe : r + 2 = S := by have := HS.out; rw [if_pos (.inr rfl)] at this; exact this
                    subst HSe
                    have kS' : Calls Tryz.prog 62 #[.slice a n cap, .int .i64 ((r : Int) + 1 + 1)] w fun e w' => e = .returned (.int .i64 (m : Nat)) ∧ w' = w := kS
                    clear kS HS
                    by_cases hz : m = r + 2
                    · have E : Hid (RA = (0, ((m : Nat) : Int))) := by have := R7.out.1 hz; rw [← hz] at this; exact this
                      have zd : ((m : Int) == ((r : Int) + 1 + 1)) = true := by simp; omega
                      have zm : Hid ((m : Int) = ((r : Int) + 1 + 1)) := by show _ = _; omega
                      clear hz R7
                      go_wp2_with (first
                      | (go_at_call 61; guard_hyp k5; refine k5.mono ?_; rintro e w5 ⟨rfl, hw⟩; obtain rfl : w = w5 := hw.symm; clear k5 hw)
                      | (go_at_call 61; guard_hyp k6; refine k6.mono ?_; rintro e w6 ⟨rfl, hw⟩; obtain rfl : w = w6 := hw.symm; clear k6 hw)
                      | (go_at_call 61; guard_hyp k7; refine k7.mono ?_; rintro e w7 ⟨rfl, hw⟩; obtain rfl : w = w7 := hw.symm; clear k7 hw)
                      | (go_at_call 61; guard_hyp k8; refine k8.mono ?_; rintro e w8 ⟨rfl, hw⟩; obtain rfl : w = w8 := hw.symm; clear k8 hw)
                        | (go_at_call 62; refine kS'.mono ?_; rintro e w9 ⟨rfl, hw⟩; obtain rfl : w = w9 := hw.symm; clear kS' hw))
                      go_ret2
                      exact ⟨by rw [E.out, zm.out]; rfl, rfl⟩
                    · have E : Hid (RA = (m, -1)) := R7.out.2 hz
                      have zd : ((m : Int) == ((r : Int) + 1 + 1)) = false := by simp; omega
                      clear hz R7
                      go_wp2_with (first
                      | (go_at_call 61; guard_hyp k5; refine k5.mono ?_; rintro e w5 ⟨rfl, hw⟩; obtain rfl : w = w5 := hw.symm; clear k5 hw)
                      | (go_at_call 61; guard_hyp k6; refine k6.mono ?_; rintro e w6 ⟨rfl, hw⟩; obtain rfl : w = w6 := hw.symm; clear k6 hw)
                      | (go_at_call 61; guard_hyp k7; refine k7.mono ?_; rintro e w7 ⟨rfl, hw⟩; obtain rfl : w = w7 := hw.symm; clear k7 hw)
                      | (go_at_call 61; guard_hyp k8; refine k8.mono ?_; rintro e w8 ⟨rfl, hw⟩; obtain rfl : w = w8 := hw.symm; clear k8 hw)
                        | (go_at_call 62; refine kS'.mono ?_; rintro e w9 ⟨rfl, hw⟩; obtain rfl : w = w9 := hw.symm; clear kS' hw))
                      go_ret2
                      exact ⟨by rw [E.out]; rfl, rfl⟩
                  | false =>
                    have HSe : r + 1 = S := by have := HS.out; rw [if_neg (by simp)] at this; exact this
                    subst HSe
                    have kS' : Calls Tryz.prog 62 #[.slice a n cap, .int .i64 ((r : Int) + 1)] w fun e w' => e = .returned (.int .i64 (m : Nat)) ∧ w' = w := kS
                    clear kS HS
                    by_cases hz : m = r + 1
                    · have E : Hid (RA = (0, ((m : Nat) : Int))) := by have := R7.out.1 hz; rw [← hz] at this; exact this
                      have zd : ((m : Int) == ((r : Int) + 1)) = true := by simp; omega
                      have zm : Hid ((m : Int) = ((r : Int) + 1)) := by show _ = _; omega
                      clear hz R7
                      go_wp2_with (first
                      | (go_at_call 61; guard_hyp k5; refine k5.mono ?_; rintro e w5 ⟨rfl, hw⟩; obtain rfl : w = w5 := hw.symm; clear k5 hw)
                      | (go_at_call 61; guard_hyp k6; refine k6.mono ?_; rintro e w6 ⟨rfl, hw⟩; obtain rfl : w = w6 := hw.symm; clear k6 hw)
                      | (go_at_call 61; guard_hyp k7; refine k7.mono ?_; rintro e w7 ⟨rfl, hw⟩; obtain rfl : w = w7 := hw.symm; clear k7 hw)
                      | (go_at_call 61; guard_hyp k8; refine k8.mono ?_; rintro e w8 ⟨rfl, hw⟩; obtain rfl : w = w8 := hw.symm; clear k8 hw)
                        | (go_at_call 62; refine kS'.mono ?_; rintro e w9 ⟨rfl, hw⟩; obtain rfl : w = w9 := hw.symm; clear kS' hw))
                      go_ret2
                      exact ⟨by rw [E.out, zm.out]; rfl, rfl⟩
                    · have E : Hid (RA = (m, -1)) := R7.out.2 hz
                      have zd : ((m : Int) == ((r : Int) + 1)) = false := by simp; omega
                      clear hz R7
                      go_wp2_with (first
                      | (go_at_call 61; guard_hyp k5; refine k5.mono ?_; rintro e w5 ⟨rfl, hw⟩; obtain rfl : w = w5 := hw.symm; clear k5 hw)
                      | (go_at_call 61; guard_hyp k6; refine k6.mono ?_; rintro e w6 ⟨rfl, hw⟩; obtain rfl : w = w6 := hw.symm; clear k6 hw)
                      | (go_at_call 61; guard_hyp k7; refine k7.mono ?_; rintro e w7 ⟨rfl, hw⟩; obtain rfl : w = w7 := hw.symm; clear k7 hw)
                      | (go_at_call 61; guard_hyp k8; refine k8.mono ?_; rintro e w8 ⟨rfl, hw⟩; obtain rfl : w = w8 := hw.symm; clear k8 hw)
                        | (go_at_call 62; refine kS'.mono ?_; rintro e w9 ⟨rfl, hw⟩; obtain rfl : w = w9 := hw.symm; clear kS' hw))
                      go_ret2
                      exact ⟨by rw [E.out]; rfl, rfl⟩
          · have E : Hid (RA = (r, -1)) := by
              show _ = _
              rw [R5.out]
              unfold expV
              rw [hB4, hB5, if_neg hE]
            clear hB4 hB5 R5
            cases B4 with
            | true => simp at hE
            | false =>
              cases B5 with
              | true => simp at hE
              | false =>
                clear hE
                go_wp2_with (first
                  | (go_at_call 61; guard_hyp k5; refine k5.mono ?_; rintro e w5 ⟨rfl, hw⟩; obtain rfl : w = w5 := hw.symm; clear k5 hw)
                  | (go_at_call 61; refine k6.mono ?_; rintro e w6 ⟨rfl, hw⟩; obtain rfl : w = w6 := hw.symm; clear k6 hw))
                go_ret2
                exact ⟨by rw [E.out]; rfl, rfl⟩
end Go.Proofs.YtmlacmoembjeoaaGreatDoor
