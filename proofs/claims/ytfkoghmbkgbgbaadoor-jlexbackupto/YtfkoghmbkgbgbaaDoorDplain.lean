/-
  Decimal numbers: their form, how they stand, what trimming does: plain mathematics.
-/
import Derived.Test.YtfkoghmbkgbgbaaDoorPlain
namespace Go.Proofs.YtfkoghmbkgbgbaaDoor

/-- Nothing but 0. -/
def zerosL (k : Nat) : List Int := List.replicate k 48
theorem zeros_digs (k : Nat) : Digs (zerosL k) := fun c hc => by rw [(List.mem_replicate.1 hc).2]; decide
theorem val_zeros (k : Nat) : valS (zerosL k) = 0 := by
  induction k with
  | zero => rfl
  | succ k ih =>
    have e : zerosL (k + 1) = zerosL k ++ [48] := by unfold zerosL; rw [List.replicate_succ']
    rw [e, val_snoc, ih]
    rfl
theorem val_pad (s : List Int) (k : Nat) : valS (s ++ zerosL k) = valS s * 10 ^ k := by
  rw [val_append, val_zeros, Nat.add_zero]
  unfold zerosL
  rw [List.length_replicate]
theorem val_ahead (s : List Int) (k : Nat) : valS (zerosL k ++ s) = valS s := by rw [val_append, val_zeros, Nat.zero_mul, Nat.zero_add]
/-- A number of one sign: how great it is, in parts of 10^-2000. -/
def key (s : List Int) (e : Int) : Nat := valS s * 10 ^ (e + 2000).toNat
/-- .. and with its sign. -/
def skey (neg : Bool) (s : List Int) (e : Int) : Int := if neg = true then -((key s e : Nat) : Int) else ((key s e : Nat) : Int)
theorem key_pad (s : List Int) {low e : Int} (h1 : -2000 ≤ low) (h2 : low ≤ e) : valS (s ++ zerosL (e - low).toNat) * 10 ^ (low + 2000).toNat = key s e := by
  unfold key
  rw [val_pad, Nat.mul_assoc, ← Nat.pow_add]
  congr 2
  omega
theorem key_lt {s t : List Int} {e f low : Int} (h1 : -2000 ≤ low) (h2 : low ≤ e) (h3 : low ≤ f) : valS (s ++ zerosL (e - low).toNat) < valS (t ++ zerosL (f - low).toNat) ↔ key s e < key t f := by
  rw [← key_pad s h1 h2, ← key_pad t h1 h3]
  exact (Nat.mul_lt_mul_right (Nat.pow_pos (by decide))).symm
theorem key_eq {s t : List Int} {e f low : Int} (h1 : -2000 ≤ low) (h2 : low ≤ e) (h3 : low ≤ f) : valS (s ++ zerosL (e - low).toNat) = valS (t ++ zerosL (f - low).toNat) ↔ key s e = key t f := by
  rw [← key_pad s h1 h2, ← key_pad t h1 h3]
  exact (Nat.mul_left_inj (Nat.pos_iff_ne_zero.1 (Nat.pow_pos (by decide)))).symm
/-- The last digit. -/
theorem last_mod {s : List Int} {c : Int} (hc : 48 ≤ c ∧ c ≤ 57) : valS (s ++ [c]) % 10 = (c - 48).toNat := by
  rw [val_snoc]
  omega
theorem last_of {s : List Int} (h : Digs s) (h0 : s ≠ []) (hl : s.getD (s.length - 1) 0 ≠ 48) : valS s % 10 ≠ 0 := by
  obtain ⟨t, c, rfl⟩ : ∃ t c, s = t ++ [c] := ⟨s.dropLast, s.getLast h0, (List.dropLast_concat_getLast h0).symm⟩
  have hc : 48 ≤ c ∧ c ≤ 57 := h c (by simp)
  rw [last_mod hc]
  simp at hl
  omega
/-- A number in its form. -/
def FormD (neg : Bool) (s : List Int) (e : Int) : Prop := RightS s ∧ (s = [48] → neg = false ∧ e = 0) ∧ (s ≠ [48] → s.getD (s.length - 1) 0 ≠ 48 ∧ -2000 ≤ e ∧ e ≤ 2000)
theorem form_exp {neg : Bool} {s : List Int} {e : Int} (h : FormD neg s e) : -2000 ≤ e ∧ e ≤ 2000 := by
  by_cases h1 : s = [48]
  · have := (h.2.1 h1).2
    omega
  · exact (h.2.2 h1).2
theorem form_zero {neg : Bool} {s : List Int} {e : Int} (h : FormD neg s e) : valS s = 0 ↔ s = [48] := by
  constructor
  · intro h0
    have h1 := num_val h.1.1
    rw [h0] at h1
    rw [← h1]
    decide
  · intro h0
    rw [h0]
    decide
theorem form_key {neg : Bool} {s : List Int} {e : Int} (h : FormD neg s e) : key s e = 0 ↔ s = [48] := by
  rw [← form_zero h]
  unfold key
  constructor
  · intro h1
    rcases Nat.mul_eq_zero.1 h1 with h2 | h2
    · exact h2
    · exact absurd h2 (Nat.pos_iff_ne_zero.1 (Nat.pow_pos (by decide)))
  · intro h1
    rw [h1, Nat.zero_mul]
theorem ten_part {a b i j : Nat} (h : a * 10 ^ i = b * 10 ^ j) (hij : i < j) : a % 10 = 0 := by
  obtain ⟨k, rfl⟩ : ∃ k, j = i + (k + 1) := ⟨j - i - 1, by omega⟩
  have h1 : a = b * 10 ^ (k + 1) := by
    have hp : 0 < 10 ^ i := Nat.pow_pos (by decide)
    apply Nat.eq_of_mul_eq_mul_right hp
    rw [h, Nat.pow_add, Nat.mul_assoc, Nat.mul_comm (10 ^ i)]
  rw [h1, Nat.pow_succ, ← Nat.mul_assoc]
  omega
/-- Numbers in their form that are as great are the same, their signs aside. -/
theorem key_inj {n m : Bool} {s t : List Int} {e f : Int} (hs : FormD n s e) (ht : FormD m t f) (h : key s e = key t f) : s = t ∧ e = f := by
  by_cases h0 : s = [48]
  · have h1 := (form_key hs).2 h0
    rw [h] at h1
    have h2 := (form_key ht).1 h1
    exact ⟨by rw [h0, h2], by rw [(hs.2.1 h0).2, (ht.2.1 h2).2]⟩
  · have h2 : t ≠ [48] := fun h2 => h0 ((form_key hs).1 (by rw [h]; exact (form_key ht).2 h2))
    have hs1 := last_of hs.1.1.2.1 hs.1.1.1 (hs.2.2 h0).1
    have ht1 := last_of ht.1.1.2.1 ht.1.1.1 (ht.2.2 h2).1
    have es := (hs.2.2 h0).2
    have et := (ht.2.2 h2).2
    unfold key at h
    have he : e = f := by
      rcases Int.lt_trichotomy e f with c | c | c
      · exact absurd (ten_part h (by omega)) hs1
      · exact c
      · exact absurd (ten_part h.symm (by omega)) ht1
    subst he
    have hv : valS s = valS t := Nat.eq_of_mul_eq_mul_right (Nat.pow_pos (by decide)) h
    exact ⟨by rw [← num_val hs.1.1, ← num_val ht.1.1, hv], rfl⟩
theorem skey_inj {n m : Bool} {s t : List Int} {e f : Int} (hs : FormD n s e) (ht : FormD m t f) (h : skey n s e = skey m t f) : n = m ∧ s = t ∧ e = f := by
  have ks := form_key hs
  have kt := form_key ht
  unfold skey at h
  have hk : key s e = key t f := by
    cases n <;> cases m <;> simp at h <;> omega
  obtain ⟨rfl, rfl⟩ := key_inj hs ht hk
  refine ⟨?_, rfl, rfl⟩
  cases n <;> cases m <;> simp at h ⊢
  · have h1 : key s e = 0 := by omega
    have := (ht.2.1 (ks.1 h1)).1
    cases this
  · have h1 : key s e = 0 := by omega
    have := (hs.2.1 (ks.1 h1)).1
    cases this
/-! ### Trimming -/
/-- Digits, cut at both ends: how many 0 are ahead, the rest, how many are behind. -/
theorem cut_zeros (s : List Int) : ∃ j k t, s = zerosL j ++ t ++ zerosL k ∧ (t = [] → k = 0) ∧ (t ≠ [] → t.getD 0 0 ≠ 48 ∧ t.getD (t.length - 1) 0 ≠ 48) := by
  have ahead : ∀ l : List Int, ∃ j r, l = zerosL j ++ r ∧ (r ≠ [] → r.getD 0 0 ≠ 48) := by
    intro l
    induction l with
    | nil => exact ⟨0, [], rfl, fun h => absurd rfl h⟩
    | cons c l ih =>
      by_cases hc : c = 48
      · obtain ⟨j, r, h1, h2⟩ := ih
        exact ⟨j + 1, r, by rw [hc, h1]; rfl, h2⟩
      · exact ⟨0, c :: l, rfl, fun _ => by simpa using hc⟩
  obtain ⟨j, r, h1, h2⟩ := ahead s
  obtain ⟨k, q, h3, h4⟩ := ahead r.reverse
  have h5 : r = q.reverse ++ zerosL k := by
    rw [← List.reverse_reverse r, h3, List.reverse_append]
    unfold zerosL
    rw [List.reverse_replicate]
  by_cases hq : q = []
  · subst hq
    simp only [List.reverse_nil, List.nil_append] at h5
    refine ⟨j + k, 0, [], ?_, fun _ => rfl, fun h => absurd rfl h⟩
    rw [h1, h5]
    unfold zerosL
    simp [List.replicate_append_replicate]
  · refine ⟨j, k, q.reverse, by rw [List.append_assoc, ← h5]; exact h1, fun h => absurd (by simpa using h) hq, fun _ => ?_⟩
    have hl : 0 < q.length := List.length_pos_iff.2 hq
    have hr : r ≠ [] := by
      intro h
      rw [h] at h5
      have h6 := congrArg List.length h5
      simp at h6
      omega
    refine ⟨?_, ?_⟩
    · have h6 := h2 hr
      rw [h5, List.getD_eq_getElem?_getD, List.getElem?_append_left (by rw [List.length_reverse]; exact hl), ← List.getD_eq_getElem?_getD] at h6
      exact h6
    · have h6 := h4 hq
      rw [List.length_reverse, List.getD_eq_getElem?_getD, List.getElem?_reverse (by omega), show q.length - 1 - (q.length - 1) = 0 by omega, ← List.getD_eq_getElem?_getD]
      exact h6
/-- What is left of digits in the one form: its value, its exponent. -/
theorem cut_form {t : List Int} (hd : Digs t) (h0 : t ≠ []) (h1 : t.getD 0 0 ≠ 48) : Canon t := ⟨h0, hd, fun h => absurd h h1⟩
theorem cut_val (j k : Nat) (t : List Int) : valS (zerosL j ++ t ++ zerosL k) = valS t * 10 ^ k := by
  rw [val_pad, val_ahead]
/-- How two stand, as a sign. -/
def cmpI (x y : Int) : Int := if x < y then -1 else if y < x then 1 else 0
theorem cmpI_zero {x y : Int} : cmpI x y = 0 ↔ x = y := by
  unfold cmpI
  by_cases h1 : x < y
  · rw [if_pos h1]; constructor
    · intro h; cases h
    · intro h; omega
  · rw [if_neg h1]
    by_cases h2 : y < x
    · rw [if_pos h2]; constructor
      · intro h; cases h
      · intro h; omega
    · rw [if_neg h2]; constructor
      · intro _; omega
      · intro _; rfl
theorem cmpI_turn (x y : Int) : cmpI y x = -cmpI x y := by
  unfold cmpI
  by_cases h1 : x < y
  · rw [if_pos h1, if_neg (by omega), if_pos h1]; rfl
  · rw [if_neg h1]
    by_cases h2 : y < x
    · rw [if_pos h2, if_neg h1, if_pos h2]
    · rw [if_neg h2, if_neg h1, if_neg h2]; rfl
theorem cmpI_neg (x y : Int) : cmpI (-x) (-y) = -cmpI x y := by
  rw [← cmpI_turn]
  unfold cmpI
  by_cases h1 : y < x
  · rw [if_pos h1, if_pos (by omega)]
  · rw [if_neg h1, if_neg (by omega)]
    by_cases h2 : x < y
    · rw [if_pos h2, if_pos (by omega)]
    · rw [if_neg h2, if_neg (by omega)]
theorem cmpI_le {x y : Int} : cmpI x y ≤ 0 ↔ x ≤ y := by
  unfold cmpI
  by_cases h1 : x < y
  · rw [if_pos h1]; constructor
    · intro _; omega
    · intro _; decide
  · rw [if_neg h1]
    by_cases h2 : y < x
    · rw [if_pos h2]; constructor
      · intro h; exact absurd h (by decide)
      · intro h; omega
    · rw [if_neg h2]; constructor
      · intro _; omega
      · intro _; decide
theorem cmpI_on {x y z : Int} (h1 : cmpI x y ≤ 0) (h2 : cmpI y z ≤ 0) : ¬ 0 < cmpI x z := by
  have h3 := cmpI_le.1 h1
  have h4 := cmpI_le.1 h2
  have := cmpI_le.2 (Int.le_trans h3 h4)
  omega
theorem skey_turn {n : Bool} {s : List Int} {e : Int} : skey (!n) s e = -skey n s e := by
  unfold skey
  cases n <;> simp
end Go.Proofs.YtfkoghmbkgbgbaaDoor
