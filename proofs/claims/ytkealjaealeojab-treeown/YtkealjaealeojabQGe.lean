/-
  Which texts are numbers: nat.Right, and the document's.
  Decimal numbers: their form, how they stand, what trimming does: plain mathematics.
  Decimal numbers as the document's calls answer them, said over bytes and whole numbers alone.
  A text gone through by a row of states, as plain mathematics.
  The library functions of this program, held against those that the shelf knows.
  The library's calls, as this program bears them.
  Which numbers are in their form: dec.Right.
  The document's side: which numbers are in their form, which bytes are digits.
  Bytes of a string, laid down and appended to: rows that bear a mark behind their end.
  Whole digits: dec.Whole, and the document's.
-/
import Derived.Test.YtkealjaealeojabQGa
import Derived.Test.YtkealjaealeojabProg
import Derived.Test.YtkealjaealeojabQGc
import Derived.Lib.TrimByte
import Derived.Shelf.LaysM
import Derived.Shelf.Strconv.Clone
import Derived.Shelf.Strings.Prefix
import Derived.Deep.RegionHeld3
import Derived.ArgAppend
import Derived.Lib.ConvBytes
import Derived.Lib.SmallJoins
namespace Go.Proofs.Ytkealjaealeojab
open Go.RowKit

theorem bs_at (s : ByteArray) {k : Nat} (h : k < s.size) : (bs s).getD k 0 = (((s[k]'h).toNat : Nat) : Int) := by
  unfold bs
  rw [List.getD_eq_getElem?_getD, List.getElem?_map, Array.getElem?_toList, Array.getElem?_eq_getElem (by exact h)]
  rfl
theorem not_empty {s : ByteArray} (h : 0 < s.size) : s.toList.isEmpty = false := by
  rw [ByteArray.toList_eq]
  cases h1 : s.data.toList with
  | nil =>
    have h2 := congrArg List.length h1
    rw [Array.length_toList] at h2
    have h3 : s.size = 0 := h2
    omega
  | cons a l => rfl
theorem empty_size {s : ByteArray} (h : s.size = 0) : s = noS := by
  have h1 : s.data.toList = [] := List.eq_nil_of_length_eq_zero (by rw [Array.length_toList]; exact h)
  have h2 : bs s = bs noS := by unfold bs; rw [h1]; rfl
  exact bs_inj h2
theorem zero_first {s : ByteArray} (hz : (bs s).getD 0 0 = 48) : (s.toList == [48]) = rt s := by
  have e : s.toList = [48] ↔ s.size = 1 := by
    constructor
    · intro h
      rw [ByteArray.toList_eq] at h
      have h2 := congrArg List.length h
      rw [Array.length_toList] at h2
      exact h2
    · intro h
      have h2 : bs s = bs ⟨#[48]⟩ := by
        have hl : (bs s).length = 1 := by rw [bs_len]; exact h
        match hb : bs s, hl with
        | [c], _ =>
          rw [hb] at hz
          have hc : c = 48 := hz
          rw [hc]; rfl
      rw [bs_inj h2, ByteArray.toList_eq]
  rw [Bool.eq_iff_iff, beq_iff_eq, e, rt_iff]
  constructor
  · intro h
    have hl : (bs s).length = 1 := by rw [bs_len]; exact h
    refine ⟨⟨fun h2 => (by rw [h2] at hl; cases hl), fun c hc => ?_, fun _ => hl⟩, by omega⟩
    match hb : bs s, hl with
    | [x], _ =>
      rw [hb] at hz hc
      have hx : x = 48 := hz
      simp only [List.mem_cons, List.not_mem_nil, or_false] at hc
      omega
  · intro h
    have := h.1.2.2 hz
    rwa [bs_len] at this
theorem not_digs {s : ByteArray} {k : Nat} (hk : k < s.size) (h : (bs s).getD k 0 < 48 ∨ 57 < (bs s).getD k 0) : rt s = false := by
  refine rt_not fun hr => ?_
  have h1 : k < (bs s).length := by rw [bs_len]; exact hk
  rw [List.getD_eq_getElem?_getD, List.getElem?_eq_getElem h1] at h
  have h2 := hr.1.2.1 _ (List.getElem_mem h1)
  simp only [Option.getD_some] at h
  omega
theorem all_digs {s : ByteArray} (h0 : 0 < s.size) (h1 : s.size ≤ 800) (hz : (bs s).getD 0 0 ≠ 48 ∨ s.size = 1) (h : ∀ c ∈ (bs s).take s.size, 48 ≤ c ∧ c ≤ 57) : rt s = true := by
  rw [rt_iff]
  rw [List.take_of_length_le (by rw [bs_len]; exact Nat.le_refl _)] at h
  refine ⟨⟨fun h2 => ?_, h, fun h2 => ?_⟩, by rw [bs_len]; exact h1⟩
  · have := bs_len s
    rw [h2, List.length_nil] at this
    omega
  · rcases hz with h3 | h3
    · exact absurd h2 h3
    · rw [bs_len]; exact h3
theorem take_digs {l : List Int} {k : Nat} (h : ∀ c ∈ l.take k, 48 ≤ c ∧ c ≤ 57) (hk : k < l.length) (hc : 48 ≤ l.getD k 0 ∧ l.getD k 0 ≤ 57) : ∀ c ∈ l.take (k + 1), 48 ≤ c ∧ c ≤ 57 := by
  intro c hm
  rw [List.take_succ_eq_append_getElem hk] at hm
  rcases List.mem_append.1 hm with h1 | h1
  · exact h c h1
  · simp only [List.mem_cons, List.not_mem_nil, or_false] at h1
    rw [List.getD_eq_getElem?_getD, List.getElem?_eq_getElem hk] at hc
    rw [h1]; exact hc

set_option maxHeartbeats 400000 in
theorem right_any (s : ByteArray) (w : World) : Calls Try.prog 47 #[.string s] w fun e w' => e = .returned (.bool (rt s)) ∧ w' = w := by
  by_cases h0 : s.size = 0
  · obtain rfl := empty_size h0
    have hr : rt noS = false := rfl
    rw [hr]
    unfold noS
    go_enter Try.func47, Try.ntmps47
    go_wp2
    go_ret
    exact ⟨rfl, rfl⟩
  have he := not_empty (s := s) (by omega)
  by_cases h1 : 800 < s.size
  · have hr : rt s = false := rt_not fun h => by have := h.2; rw [bs_len] at this; omega
    rw [hr]
    have d1 : decide (800 < ((s.size : Nat) : Int)) = true := by simp; omega
    clear h0 h1
    go_enter Try.func47, Try.ntmps47
    go_wp2
    go_ret
    exact ⟨rfl, rfl⟩
  have d1 : decide (800 < ((s.size : Nat) : Int)) = false := by simp; omega
  have b0 := bs_at s (k := 0) (by omega)
  have hp : 0 < s.size := by omega
  by_cases hz : (bs s).getD 0 0 = 48
  · have hr : Hid ((s.toList == [48]) = rt s) := zero_first hz
    have e0 : (((s[0]'hp).toNat : Nat) : Int) = 48 := by rw [← b0, hz]
    clear b0 hz h0 h1
    generalize rt s = R at *
    go_enter Try.func47, Try.ntmps47
    go_wp2
    go_ret
    exact ⟨by rw [hr.out]; rfl, rfl⟩
  have e0 : ((((s[0]'hp).toNat : Nat) : Int) == 48) = false := by rw [← b0]; simpa using hz
  have hall : Hid (∀ k, k < s.size → (bs s).getD k 0 < 48 ∨ 57 < (bs s).getD k 0 → rt s = false) := fun k hk h => not_digs hk h
  have hend : Hid ((∀ c ∈ (bs s).take s.size, 48 ≤ c ∧ c ≤ 57) → rt s = true) := all_digs (by omega) (by omega) (.inl hz)
  clear b0 hz
  generalize rt s = R at *
  go_enter Try.func47, Try.ntmps47
  go_wp2
  go_loop [18] (fun v => ∃ k : Nat, k ≤ s.size ∧ v = .int .i64 k ∧ Hid (∀ c ∈ (bs s).take k, 48 ≤ c ∧ c ≤ 57)) (fun v => s.size - (intOf v).toNat)
  case atStart => exact ⟨0, Nat.zero_le _, rfl, (by intro c hc; simp at hc)⟩
  case round =>
    obtain ⟨k, hk, rfl, hd⟩ := hrel
    by_cases hlt : k < s.size
    · have bk := bs_at s hlt
      have hC : Hid (_ → _ → _) := fun h1 h2 => take_digs hd.out (by rw [bs_len]; exact hlt) ⟨h1, h2⟩
      have hN := hall.out k hlt
      by_cases hA : (bs s).getD k 0 < 48
      · have d2 : decide ((((s[k]'hlt).toNat : Nat) : Int) < 48) = true := by rw [← bk]; simpa using hA
        obtain rfl := hN (.inl hA)
        clear bk hA
        go_wp2
        go_ret
        exact ⟨rfl, rfl⟩
      by_cases hB : 57 < (bs s).getD k 0
      · have d2 : decide ((((s[k]'hlt).toNat : Nat) : Int) < 48) = false := by rw [← bk]; simpa using hA
        have d3 : decide (57 < (((s[k]'hlt).toNat : Nat) : Int)) = true := by rw [← bk]; simpa using hB
        obtain rfl := hN (.inr hB)
        clear bk hA hB
        go_wp2
        go_ret
        exact ⟨rfl, rfl⟩
      · have d2 : decide ((((s[k]'hlt).toNat : Nat) : Int) < 48) = false := by rw [← bk]; simpa using hA
        have d3 : decide (57 < (((s[k]'hlt).toNat : Nat) : Int)) = false := by rw [← bk]; simpa using hB
        have hC' : Hid _ := hC.out (by omega) (by omega)
        clear bk hA hB hN hC
        go_wp2
        go_round
        case rel => exact ⟨k + 1, by omega, by go_num, hC'⟩
        case measure => simp [intOf]; omega
    · obtain rfl : k = s.size := by omega
      obtain rfl := hend.out hd.out
      go_wp2
      go_ret
      exact ⟨rfl, rfl⟩
end Go.Proofs.Ytkealjaealeojab
namespace Go.Proofs.Ytkealjaealeojab

/-- Nothing but 0. -/
def zerosL (k : Nat) : List Int := List.replicate k 48
theorem zeros_digs (k : Nat) : Digs (zerosL k) := fun c hc => by rw [(List.mem_replicate.1 hc).2]; decide
theorem val_zeros (k : Nat) : valS (zerosL k) = 0 := by
  induction k with
  | zero => rfl
  | succ k ih =>
    have e : zerosL (k + 1) = zerosL k ++ [48] := by unfold zerosL; rw [List.replicate_succ']
    rw [e, val_snoc, ih]
    rfl
theorem val_pad (s : List Int) (k : Nat) : valS (s ++ zerosL k) = valS s * 10 ^ k := by
  rw [val_append, val_zeros, Nat.add_zero]
  unfold zerosL
  rw [List.length_replicate]
theorem val_ahead (s : List Int) (k : Nat) : valS (zerosL k ++ s) = valS s := by rw [val_append, val_zeros, Nat.zero_mul, Nat.zero_add]
/-- A number of one sign: how great it is, in parts of 10^-2000. -/
def key (s : List Int) (e : Int) : Nat := valS s * 10 ^ (e + 2000).toNat
/-- .. and with its sign. -/
def skey (neg : Bool) (s : List Int) (e : Int) : Int := if neg = true then -((key s e : Nat) : Int) else ((key s e : Nat) : Int)
theorem key_pad (s : List Int) {low e : Int} (h1 : -2000 ≤ low) (h2 : low ≤ e) : valS (s ++ zerosL (e - low).toNat) * 10 ^ (low + 2000).toNat = key s e := by
  unfold key
  rw [val_pad, Nat.mul_assoc, ← Nat.pow_add]
  congr 2
  omega
theorem key_lt {s t : List Int} {e f low : Int} (h1 : -2000 ≤ low) (h2 : low ≤ e) (h3 : low ≤ f) : valS (s ++ zerosL (e - low).toNat) < valS (t ++ zerosL (f - low).toNat) ↔ key s e < key t f := by
  rw [← key_pad s h1 h2, ← key_pad t h1 h3]
  exact (Nat.mul_lt_mul_right (Nat.pow_pos (by decide))).symm
theorem key_eq {s t : List Int} {e f low : Int} (h1 : -2000 ≤ low) (h2 : low ≤ e) (h3 : low ≤ f) : valS (s ++ zerosL (e - low).toNat) = valS (t ++ zerosL (f - low).toNat) ↔ key s e = key t f := by
  rw [← key_pad s h1 h2, ← key_pad t h1 h3]
  exact (Nat.mul_left_inj (Nat.pos_iff_ne_zero.1 (Nat.pow_pos (by decide)))).symm
/-- The last digit. -/
theorem last_mod {s : List Int} {c : Int} (hc : 48 ≤ c ∧ c ≤ 57) : valS (s ++ [c]) % 10 = (c - 48).toNat := by
  rw [val_snoc]
  omega
theorem last_of {s : List Int} (h : Digs s) (h0 : s ≠ []) (hl : s.getD (s.length - 1) 0 ≠ 48) : valS s % 10 ≠ 0 := by
  obtain ⟨t, c, rfl⟩ : ∃ t c, s = t ++ [c] := ⟨s.dropLast, s.getLast h0, (List.dropLast_concat_getLast h0).symm⟩
  have hc : 48 ≤ c ∧ c ≤ 57 := h c (by simp)
  rw [last_mod hc]
  simp at hl
  omega
/-- A number in its form. -/
def FormD (neg : Bool) (s : List Int) (e : Int) : Prop := RightS s ∧ (s = [48] → neg = false ∧ e = 0) ∧ (s ≠ [48] → s.getD (s.length - 1) 0 ≠ 48 ∧ -2000 ≤ e ∧ e ≤ 2000)
theorem form_exp {neg : Bool} {s : List Int} {e : Int} (h : FormD neg s e) : -2000 ≤ e ∧ e ≤ 2000 := by
  by_cases h1 : s = [48]
  · have := (h.2.1 h1).2
    omega
  · exact (h.2.2 h1).2
theorem form_zero {neg : Bool} {s : List Int} {e : Int} (h : FormD neg s e) : valS s = 0 ↔ s = [48] := by
  constructor
  · intro h0
    have h1 := num_val h.1.1
    rw [h0] at h1
    rw [← h1]
    decide
  · intro h0
    rw [h0]
    decide
theorem form_key {neg : Bool} {s : List Int} {e : Int} (h : FormD neg s e) : key s e = 0 ↔ s = [48] := by
  rw [← form_zero h]
  unfold key
  constructor
  · intro h1
    rcases Nat.mul_eq_zero.1 h1 with h2 | h2
    · exact h2
    · exact absurd h2 (Nat.pos_iff_ne_zero.1 (Nat.pow_pos (by decide)))
  · intro h1
    rw [h1, Nat.zero_mul]
theorem ten_part {a b i j : Nat} (h : a * 10 ^ i = b * 10 ^ j) (hij : i < j) : a % 10 = 0 := by
  obtain ⟨k, rfl⟩ : ∃ k, j = i + (k + 1) := ⟨j - i - 1, by omega⟩
  have h1 : a = b * 10 ^ (k + 1) := by
    have hp : 0 < 10 ^ i := Nat.pow_pos (by decide)
    apply Nat.eq_of_mul_eq_mul_right hp
    rw [h, Nat.pow_add, Nat.mul_assoc, Nat.mul_comm (10 ^ i)]
  rw [h1, Nat.pow_succ, ← Nat.mul_assoc]
  omega
/-- Numbers in their form that are as great are the same, their signs aside. -/
theorem key_inj {n m : Bool} {s t : List Int} {e f : Int} (hs : FormD n s e) (ht : FormD m t f) (h : key s e = key t f) : s = t ∧ e = f := by
  by_cases h0 : s = [48]
  · have h1 := (form_key hs).2 h0
    rw [h] at h1
    have h2 := (form_key ht).1 h1
    exact ⟨by rw [h0, h2], by rw [(hs.2.1 h0).2, (ht.2.1 h2).2]⟩
  · have h2 : t ≠ [48] := fun h2 => h0 ((form_key hs).1 (by rw [h]; exact (form_key ht).2 h2))
    have hs1 := last_of hs.1.1.2.1 hs.1.1.1 (hs.2.2 h0).1
    have ht1 := last_of ht.1.1.2.1 ht.1.1.1 (ht.2.2 h2).1
    have es := (hs.2.2 h0).2
    have et := (ht.2.2 h2).2
    unfold key at h
    have he : e = f := by
      rcases Int.lt_trichotomy e f with c | c | c
      · exact absurd (ten_part h (by omega)) hs1
      · exact c
      · exact absurd (ten_part h.symm (by omega)) ht1
    subst he
    have hv : valS s = valS t := Nat.eq_of_mul_eq_mul_right (Nat.pow_pos (by decide)) h
    exact ⟨by rw [← num_val hs.1.1, ← num_val ht.1.1, hv], rfl⟩
theorem skey_inj {n m : Bool} {s t : List Int} {e f : Int} (hs : FormD n s e) (ht : FormD m t f) (h : skey n s e = skey m t f) : n = m ∧ s = t ∧ e = f := by
  have ks := form_key hs
  have kt := form_key ht
  unfold skey at h
  have hk : key s e = key t f := by
    cases n <;> cases m <;> simp at h <;> omega
  obtain ⟨rfl, rfl⟩ := key_inj hs ht hk
  refine ⟨?_, rfl, rfl⟩
  cases n <;> cases m <;> simp at h ⊢
  · have h1 : key s e = 0 := by omega
    have := (ht.2.1 (ks.1 h1)).1
    cases this
  · have h1 : key s e = 0 := by omega
    have := (hs.2.1 (ks.1 h1)).1
    cases this
/-! ### Trimming -/
/-- Digits, cut at both ends: how many 0 are ahead, the rest, how many are behind. -/
theorem cut_zeros (s : List Int) : ∃ j k t, s = zerosL j ++ t ++ zerosL k ∧ (t = [] → k = 0) ∧ (t ≠ [] → t.getD 0 0 ≠ 48 ∧ t.getD (t.length - 1) 0 ≠ 48) := by
  have ahead : ∀ l : List Int, ∃ j r, l = zerosL j ++ r ∧ (r ≠ [] → r.getD 0 0 ≠ 48) := by
    intro l
    induction l with
    | nil => exact ⟨0, [], rfl, fun h => absurd rfl h⟩
    | cons c l ih =>
      by_cases hc : c = 48
      · obtain ⟨j, r, h1, h2⟩ := ih
        exact ⟨j + 1, r, by rw [hc, h1]; rfl, h2⟩
      · exact ⟨0, c :: l, rfl, fun _ => by simpa using hc⟩
  obtain ⟨j, r, h1, h2⟩ := ahead s
  obtain ⟨k, q, h3, h4⟩ := ahead r.reverse
  have h5 : r = q.reverse ++ zerosL k := by
    rw [← List.reverse_reverse r, h3, List.reverse_append]
    unfold zerosL
    rw [List.reverse_replicate]
  by_cases hq : q = []
  · subst hq
    simp only [List.reverse_nil, List.nil_append] at h5
    refine ⟨j + k, 0, [], ?_, fun _ => rfl, fun h => absurd rfl h⟩
    rw [h1, h5]
    unfold zerosL
    simp [List.replicate_append_replicate]
  · refine ⟨j, k, q.reverse, by rw [List.append_assoc, ← h5]; exact h1, fun h => absurd (by simpa using h) hq, fun _ => ?_⟩
    have hl : 0 < q.length := List.length_pos_iff.2 hq
    have hr : r ≠ [] := by
      intro h
      rw [h] at h5
      have h6 := congrArg List.length h5
      simp at h6
      omega
    refine ⟨?_, ?_⟩
    · have h6 := h2 hr
      rw [h5, List.getD_eq_getElem?_getD, List.getElem?_append_left (by rw [List.length_reverse]; exact hl), ← List.getD_eq_getElem?_getD] at h6
      exact h6
    · have h6 := h4 hq
      rw [List.length_reverse, List.getD_eq_getElem?_getD, List.getElem?_reverse (by omega), show q.length - 1 - (q.length - 1) = 0 by omega, ← List.getD_eq_getElem?_getD]
      exact h6
/-- What is left of digits in the one form: its value, its exponent. -/
theorem cut_form {t : List Int} (hd : Digs t) (h0 : t ≠ []) (h1 : t.getD 0 0 ≠ 48) : Canon t := ⟨h0, hd, fun h => absurd h h1⟩
theorem cut_val (j k : Nat) (t : List Int) : valS (zerosL j ++ t ++ zerosL k) = valS t * 10 ^ k := by
  rw [val_pad, val_ahead]
/-- How two stand, as a sign. -/
def cmpI (x y : Int) : Int := if x < y then -1 else if y < x then 1 else 0
theorem cmpI_zero {x y : Int} : cmpI x y = 0 ↔ x = y := by
  unfold cmpI
  by_cases h1 : x < y
  · rw [if_pos h1]; constructor
    · intro h; cases h
    · intro h; omega
  · rw [if_neg h1]
    by_cases h2 : y < x
    · rw [if_pos h2]; constructor
      · intro h; cases h
      · intro h; omega
    · rw [if_neg h2]; constructor
      · intro _; omega
      · intro _; rfl
theorem cmpI_turn (x y : Int) : cmpI y x = -cmpI x y := by
  unfold cmpI
  by_cases h1 : x < y
  · rw [if_pos h1, if_neg (by omega), if_pos h1]; rfl
  · rw [if_neg h1]
    by_cases h2 : y < x
    · rw [if_pos h2, if_neg h1, if_pos h2]
    · rw [if_neg h2, if_neg h1, if_neg h2]; rfl
theorem cmpI_neg (x y : Int) : cmpI (-x) (-y) = -cmpI x y := by
  rw [← cmpI_turn]
  unfold cmpI
  by_cases h1 : y < x
  · rw [if_pos h1, if_pos (by omega)]
  · rw [if_neg h1, if_neg (by omega)]
    by_cases h2 : x < y
    · rw [if_pos h2, if_pos (by omega)]
    · rw [if_neg h2, if_neg (by omega)]
theorem cmpI_le {x y : Int} : cmpI x y ≤ 0 ↔ x ≤ y := by
  unfold cmpI
  by_cases h1 : x < y
  · rw [if_pos h1]; constructor
    · intro _; omega
    · intro _; decide
  · rw [if_neg h1]
    by_cases h2 : y < x
    · rw [if_pos h2]; constructor
      · intro h; exact absurd h (by decide)
      · intro h; omega
    · rw [if_neg h2]; constructor
      · intro _; omega
      · intro _; decide
theorem cmpI_on {x y z : Int} (h1 : cmpI x y ≤ 0) (h2 : cmpI y z ≤ 0) : ¬ 0 < cmpI x z := by
  have h3 := cmpI_le.1 h1
  have h4 := cmpI_le.1 h2
  have := cmpI_le.2 (Int.le_trans h3 h4)
  omega
theorem skey_turn {n : Bool} {s : List Int} {e : Int} : skey (!n) s e = -skey n s e := by
  unfold skey
  cases n <;> simp
end Go.Proofs.Ytkealjaealeojab
namespace Go.Proofs.Ytkealjaealeojab
open Go

/-- A number: its sign, digits, exponent. -/
abbrev Nm := Bool × ByteArray × Int
def zS : ByteArray := ⟨#[48]⟩
/-- No number. -/
def noN : Nm := (false, noS, 0)
/-- 0. -/
def zeroN : Nm := (false, zS, 0)
theorem bs_z : bs zS = [48] := rfl
theorem z_iff (s : ByteArray) : bs s = [48] ↔ s = zS := ⟨fun h => bs_inj h, fun h => by rw [h]; rfl⟩
/-- A number is in its form. -/
def rtN (n : Bool) (s : ByteArray) (e : Int) : Bool :=
  if bs s = [48] then !n && (e == 0) else rt s && ((bs s).getD (s.size - 1) 0 != 48 && (decide (-2000 ≤ e) && decide (e ≤ 2000)))
theorem rtN_iff (n : Bool) (s : ByteArray) (e : Int) : rtN n s e = true ↔ FormD n (bs s) e := by
  unfold rtN FormD
  by_cases h : bs s = [48]
  · rw [if_pos h, h]
    simp only [Bool.and_eq_true, Bool.not_eq_true', beq_iff_eq, true_implies, ne_eq, not_true_eq_false, false_implies, and_true]
    constructor
    · intro h1
      exact ⟨⟨⟨by simp, fun c hc => by simp at hc; omega, fun _ => rfl⟩, by decide⟩, h1⟩
    · intro h1
      exact h1.2
  · rw [if_neg h]
    simp only [Bool.and_eq_true, bne_iff_ne, ne_eq, decide_eq_true_eq, rt_iff, h, false_implies, true_and, not_false_eq_true, true_implies, bs_len]
theorem rtN_not {n : Bool} {s : ByteArray} {e : Int} (h : ¬ FormD n (bs s) e) : rtN n s e = false := by
  cases h1 : rtN n s e with
  | false => rfl
  | true => exact absurd ((rtN_iff n s e).1 h1) h
theorem rtN_zero : rtN false zS 0 = true := by decide
theorem rtN_rt {n : Bool} {s : ByteArray} {e : Int} (h : rtN n s e = true) : rt s = true := (rt_iff s).2 ((rtN_iff n s e).1 h).1
theorem rtN_exp {n : Bool} {s : ByteArray} {e : Int} (h : rtN n s e = true) : -2000 ≤ e ∧ e ≤ 2000 := form_exp ((rtN_iff n s e).1 h)

/-! ### Trimming -/
/-- Without the 0 ahead. -/
def longL (l : List Int) : List Int := l.dropWhile (· == 48)
/-- Without the 0 behind. -/
def shortL (l : List Int) : List Int := (l.reverse.dropWhile (· == 48)).reverse
def numsU (l : List UInt8) : List Int := l.map fun c => ((c.toNat : Nat) : Int)
theorem bs_mk (l : List UInt8) : bs ⟨l.toArray⟩ = numsU l := rfl
theorem drop_nums : ∀ l : List UInt8, numsU (l.dropWhile (· == 48)) = (numsU l).dropWhile (· == 48)
  | [] => rfl
  | c :: l => by
    have ih := drop_nums l
    have e : ((((c.toNat : Nat) : Int) == 48) : Bool) = (c == 48) := by
      rw [Bool.eq_iff_iff, beq_iff_eq, beq_iff_eq]
      constructor
      · intro h
        exact UInt8.toNat_inj.1 (by show c.toNat = 48; omega)
      · intro h
        rw [h]; rfl
    have e2 : numsU (c :: l) = ((c.toNat : Nat) : Int) :: numsU l := rfl
    rw [e2, List.dropWhile_cons, List.dropWhile_cons, e]
    cases h : (c == 48) with
    | true => exact ih
    | false => rfl
theorem nums_rev (l : List UInt8) : numsU l.reverse = (numsU l).reverse := by unfold numsU; rw [List.map_reverse]
theorem bs_trimL (s : ByteArray) : bs ⟨(Lib.trimLeftB s.data.toList 48).toArray⟩ = longL (bs s) := by
  rw [bs_mk]; exact drop_nums _
theorem bs_trimR (s : ByteArray) : bs ⟨(Lib.trimRightB s.data.toList 48).toArray⟩ = shortL (bs s) := by
  rw [bs_mk]
  unfold Lib.trimRightB shortL
  rw [nums_rev, drop_nums, nums_rev]
  rfl
theorem long_eq (j : Nat) (t : List Int) (h : t ≠ [] → t.getD 0 0 ≠ 48) : longL (zerosL j ++ t) = t := by
  unfold longL zerosL
  induction j with
  | zero =>
    cases t with
    | nil => rfl
    | cons c t =>
      have hc : c ≠ 48 := h (by simp)
      simp [hc]
  | succ j ih => rw [List.replicate_succ, List.cons_append, List.dropWhile_cons]; simpa using ih
theorem short_eq (k : Nat) (t : List Int) (h : t ≠ [] → t.getD (t.length - 1) 0 ≠ 48) : shortL (t ++ zerosL k) = t := by
  have e : (t ++ zerosL k).reverse = zerosL k ++ t.reverse := by
    rw [List.reverse_append]; unfold zerosL; rw [List.reverse_replicate]
  unfold shortL
  rw [e]
  have h2 := long_eq k t.reverse (fun h0 => by
    have h1 : t ≠ [] := fun h1 => h0 (by rw [h1]; rfl)
    have hp := List.length_pos_iff.2 h1
    rw [List.getD_eq_getElem?_getD, List.getElem?_reverse hp, ← List.getD_eq_getElem?_getD]
    exact h h1)
  unfold longL at h2
  rw [h2, List.reverse_reverse]
/-- What stays, and how many 0 were behind. -/
theorem long_cut (l : List Int) : ∃ j, l = zerosL j ++ longL l := by
  induction l with
  | nil => exact ⟨0, rfl⟩
  | cons c l ih =>
    by_cases hc : c = 48
    · obtain ⟨j, hj⟩ := ih
      have e : longL (c :: l) = longL l := by unfold longL; rw [List.dropWhile_cons]; simp [hc]
      exact ⟨j + 1, by rw [e, hc]; show 48 :: l = 48 :: (zerosL j ++ longL l); rw [← hj]⟩
    · have e : longL (c :: l) = c :: l := by unfold longL; rw [List.dropWhile_cons]; simp [hc]
      exact ⟨0, by rw [e]; rfl⟩
theorem long_head {l : List Int} (h : longL l ≠ []) : (longL l).getD 0 0 ≠ 48 := by
  unfold longL at h ⊢
  have h1 := List.head_dropWhile_not (· == 48) (l := l) h
  rw [List.getD_eq_getElem?_getD, ← List.head?_eq_getElem?, List.head?_eq_some_head h]
  simpa using h1
theorem short_cut (l : List Int) : ∃ k, l = shortL l ++ zerosL k := by
  obtain ⟨k, hk⟩ := long_cut l.reverse
  refine ⟨k, ?_⟩
  have h := congrArg List.reverse hk
  rw [List.reverse_reverse, List.reverse_append] at h
  have e1 : (longL l.reverse).reverse = shortL l := rfl
  have e2 : (zerosL k).reverse = zerosL k := by unfold zerosL; rw [List.reverse_replicate]
  rw [e1, e2] at h
  exact h
theorem short_last {l : List Int} (h : shortL l ≠ []) : (shortL l).getD ((shortL l).length - 1) 0 ≠ 48 := by
  have h0 : longL l.reverse ≠ [] := fun h1 => h (by unfold shortL; unfold longL at h1; rw [h1]; rfl)
  have h1 := long_head h0
  have hp := List.length_pos_iff.2 h0
  have e : shortL l = (longL l.reverse).reverse := rfl
  rw [e, List.length_reverse, List.getD_eq_getElem?_getD, List.getElem?_reverse (by omega), show (longL l.reverse).length - 1 - ((longL l.reverse).length - 1) = 0 by omega, ← List.getD_eq_getElem?_getD]
  exact h1
theorem short_len (l : List Int) : (shortL l).length ≤ l.length := by
  obtain ⟨k, hk⟩ := short_cut l
  have := congrArg List.length hk
  rw [List.length_append] at this
  omega
theorem long_len (l : List Int) : (longL l).length ≤ l.length := by
  obtain ⟨k, hk⟩ := long_cut l
  have := congrArg List.length hk
  rw [List.length_append] at this
  omega
theorem short_nil {l : List Int} (h0 : longL l ≠ []) : shortL (longL l) ≠ [] := by
  intro h
  obtain ⟨k, hk⟩ := short_cut (longL l)
  rw [h, List.nil_append] at hk
  have h1 := long_head h0
  rw [hk] at h1
  unfold zerosL at h1
  cases k with
  | zero => exact h0 hk
  | succ k => exact h1 rfl
theorem short_head {l : List Int} (h0 : longL l ≠ []) : (shortL (longL l)).getD 0 0 ≠ 48 := by
  have h1 := long_head h0
  have h2 := short_nil h0
  obtain ⟨k, hk⟩ := short_cut (longL l)
  rw [hk] at h1
  rcases hx : shortL (longL l) with _ | ⟨x, t⟩
  · exact absurd hx h2
  · rw [hx] at h1
    exact h1
theorem mem_short {l : List Int} {c : Int} (h : c ∈ shortL (longL l)) : c ∈ l := by
  unfold shortL at h
  have h1 := List.mem_reverse.1 h
  have h2 := (List.dropWhile_sublist (· == 48)).mem h1
  have h3 := List.mem_reverse.1 h2
  exact (List.dropWhile_sublist (· == 48)).mem h3

/-! ### Making a number -/
def allD (l : List Int) : Bool := l.all fun c => decide (48 ≤ c) && decide (c ≤ 57)
theorem allD_iff (l : List Int) : allD l = true ↔ Digs l := by unfold allD Digs; simp
def makeA (n : Bool) (s : ByteArray) (e : Int) : Nm × Int :=
  if s.size = 0 ∨ 4096 < s.size ∨ allD (bs s) = false then (noN, 1)
  else if longL (bs s) = [] then (zeroN, 0)
  else if 800 < (shortL (longL (bs s))).length ∨ e < -2000 - (((longL (bs s)).length - (shortL (longL (bs s))).length : Nat) : Int) ∨ 2000 - (((longL (bs s)).length - (shortL (longL (bs s))).length : Nat) : Int) < e then (noN, 11)
  else ((n, strOfNums (shortL (longL (bs s))), e + (((longL (bs s)).length - (shortL (longL (bs s))).length : Nat) : Int)), 0)
/-- WHAT IS MADE IS IN ITS FORM. -/
theorem make_right {n : Bool} {s : ByteArray} {e : Int} {m : Nm} (h : makeA n s e = (m, 0)) : rtN m.1 m.2.1 m.2.2 = true := by
  unfold makeA at h
  by_cases h1 : s.size = 0 ∨ 4096 < s.size ∨ allD (bs s) = false
  · rw [if_pos h1] at h; cases h
  rw [if_neg h1] at h
  by_cases h2 : longL (bs s) = []
  · rw [if_pos h2] at h; cases h; exact rtN_zero
  rw [if_neg h2] at h
  have hd : Digs (bs s) := by
    rw [← allD_iff]
    cases h3 : allD (bs s) with
    | true => rfl
    | false => exact absurd (.inr (.inr h3)) h1
  have hs : Digs (shortL (longL (bs s))) := fun c hc => hd c (mem_short hc)
  have hh := short_head h2
  have hn := short_nil h2
  have hl := short_last hn
  generalize ((longL (bs s)).length - (shortL (longL (bs s))).length : Nat) = k at *
  split at h
  · cases h
  · rename_i h3
    cases h
    rw [rtN_iff]
    show FormD n (bs (strOfNums (shortL (longL (bs s))))) (e + (k : Int))
    rw [bs_str (digs_bytes hs)]
    generalize shortL (longL (bs s)) = t at *
    have hz : t ≠ [48] := fun h4 => by rw [h4] at hh; exact hh rfl
    refine ⟨⟨⟨hn, hs, fun h4 => absurd h4 hh⟩, by omega⟩, fun h4 => absurd h4 hz, fun _ => ⟨hl, by omega, by omega⟩⟩
theorem make_errs (n : Bool) (s : ByteArray) (e : Int) : (makeA n s e).2 = 0 ∨ makeA n s e = (noN, 1) ∨ makeA n s e = (noN, 11) := by
  unfold makeA
  by_cases h1 : s.size = 0 ∨ 4096 < s.size ∨ allD (bs s) = false
  · rw [if_pos h1]; exact .inr (.inl rfl)
  rw [if_neg h1]
  by_cases h2 : longL (bs s) = []
  · rw [if_pos h2]; exact .inl rfl
  rw [if_neg h2]
  split
  · exact .inr (.inr rfl)
  · exact .inl rfl
/-- A number in its form is made of itself. -/
theorem make_self {n : Bool} {s : ByteArray} {e : Int} (h : rtN n s e = true) : makeA n s e = ((n, s, e), 0) := by
  have h1 := (rtN_iff n s e).1 h
  have hn := h1.1.1.1
  have hd := h1.1.1.2.1
  have h8 := h1.1.2
  rw [bs_len] at h8
  have hp := List.length_pos_iff.2 hn
  rw [bs_len] at hp
  unfold makeA
  have hx : ¬ (s.size = 0 ∨ 4096 < s.size ∨ allD (bs s) = false) := by
    rintro (h5 | h5 | h5)
    · omega
    · omega
    · rw [(allD_iff _).2 hd] at h5; cases h5
  rw [if_neg hx]
  by_cases hz : bs s = [48]
  · obtain ⟨h2, h3⟩ := h1.2.1 hz
    rw [if_pos (by rw [hz]; rfl), h2, h3, (z_iff s).1 hz]
    rfl
  · obtain ⟨h2, h3, h4⟩ := h1.2.2 hz
    have hh : (bs s).getD 0 0 ≠ 48 := by
      intro h5
      have h6 := h1.1.1.2.2 h5
      have h7 : (bs s).length - 1 = 0 := by omega
      rw [h7] at h2
      exact h2 h5
    have e1 : longL (bs s) = bs s := long_eq 0 (bs s) (fun _ => hh)
    have e2 : shortL (bs s) = bs s := by
      have := short_eq 0 (bs s) (fun _ => h2)
      unfold zerosL at this
      simpa using this
    rw [e1, if_neg hn, e2, if_neg (by rw [bs_len]; omega), str_bs]
    simp
end Go.Proofs.Ytkealjaealeojab
namespace Go.Proofs.Ytkealjaealeojab
open Go

def isD (c : Int) : Bool := decide (48 ≤ c) && decide (c ≤ 57)
def afPart (c : Int) : Nat := if c = 101 ∨ c = 69 then 6 else 9
def afWhole (c : Int) : Nat := if c = 46 then 4 else afPart c
def afMinus (c : Int) : Nat := if c = 48 then 2 else if isD c = true then 3 else 9
/-- The state behind one more byte: 0 nothing, 1 minus, 2 a 0, 3 whole, 4 point, 5 part, 6 mark, 7 sign, 8 power, 9 wrong. -/
def afterS (q : Nat) (c : Int) : Nat :=
  if q = 0 then (if c = 45 then 1 else afMinus c)
  else if q = 1 then afMinus c
  else if q = 2 then afWhole c
  else if q = 3 then (if isD c = true then 3 else afWhole c)
  else if q = 4 then (if isD c = true then 5 else 9)
  else if q = 5 then (if isD c = true then 5 else afPart c)
  else if q = 6 ∧ (c = 43 ∨ c = 45) then 7
  else if isD c = true then 8 else 9
/-- What was read: neg, digits, how many of them are behind the point, low, power. -/
abbrev Pd := Bool × List Int × Nat × Bool × Nat
def p0 : Pd := (false, [], 0, false, 0)
def takeS (p : Pd) (q : Nat) (c : Int) : Pd :=
  if q = 1 then (true, p.2.1, p.2.2.1, p.2.2.2.1, p.2.2.2.2)
  else if q = 2 ∨ q = 3 then (p.1, p.2.1 ++ [c], p.2.2.1, p.2.2.2.1, p.2.2.2.2)
  else if q = 5 then (p.1, p.2.1 ++ [c], p.2.2.1 + 1, p.2.2.2.1, p.2.2.2.2)
  else if q = 7 then (p.1, p.2.1, p.2.2.1, (c == 45), p.2.2.2.2)
  else if q = 8 then (p.1, p.2.1, p.2.2.1, p.2.2.2.1, min (p.2.2.2.2 * 10 + (c - 48).toNat) 10000)
  else p
/-- The run over bytes from a place on: where it goes wrong, or the state and what was read. -/
def runS : List Int → Nat → Nat → Pd → Option Nat × Nat × Pd
  | [], _, q, p => (none, q, p)
  | c :: l, k, q, p => if afterS q c = 9 then (some k, 9, p) else runS l (k + 1) (afterS q c) (takeS p (afterS q c) c)
def endS (q : Nat) : Bool := q == 2 || (q == 3 || (q == 5 || q == 8))
def expS (p : Pd) : Int := if p.2.2.2.1 = true then -((p.2.2.2.2 : Nat) : Int) - ((p.2.2.1 : Nat) : Int) else ((p.2.2.2.2 : Nat) : Int) - ((p.2.2.1 : Nat) : Int)
/-- What comes of a run. -/
def doneA (n : Nat) (r : Option Nat × Nat × Pd) : Nm × Int × Int :=
  match r.1 with
  | some k => (noN, 5, ((k : Nat) : Int))
  | none => if endS r.2.1 = true then ((makeA r.2.2.1 (strOfNums r.2.2.2.1) (expS r.2.2)).1, (makeA r.2.2.1 (strOfNums r.2.2.2.1) (expS r.2.2)).2, 0) else (noN, 3, ((n : Nat) : Int))
def parseA (s : ByteArray) : Nm × Int × Int := if 4096 < s.size then (noN, 11, 0) else doneA s.size (runS (bs s) 0 0 p0)

theorem isD_iff {c : Int} : isD c = true ↔ 48 ≤ c ∧ c ≤ 57 := by unfold isD; simp
theorem isD_not {c : Int} : isD c = false ↔ ¬ (48 ≤ c ∧ c ≤ 57) := by
  rw [← isD_iff]; simp
theorem after_le (q : Nat) (c : Int) : afterS q c ≤ 9 := by
  unfold afterS afMinus afWhole afPart
  repeat' split
  all_goals omega
/-- What is read stays in bounds. -/
def InS (p : Pd) (k : Nat) : Prop := p.2.1.length ≤ k ∧ p.2.2.1 ≤ k ∧ p.2.2.2.2 ≤ 10000 ∧ Digs p.2.1
theorem in0 : InS p0 0 := ⟨Nat.le_refl _, Nat.le_refl _, Nat.zero_le _, fun c hc => by cases hc⟩
theorem take_dig {q : Nat} {c : Int} (h : afterS q c = 2 ∨ afterS q c = 3 ∨ afterS q c = 5 ∨ afterS q c = 8) : 48 ≤ c ∧ c ≤ 57 := by
  unfold afterS afMinus afWhole afPart at h
  by_cases hd : isD c = true
  · exact isD_iff.1 hd
  · have h48 : c ≠ 48 := fun h1 => hd (by rw [h1]; rfl)
    exfalso
    simp only [hd, h48, if_false] at h
    revert h
    repeat' split
    all_goals (intro h; simp_all)
theorem in_take {p : Pd} {k q : Nat} {c : Int} (h : InS p k) : InS (takeS p (afterS q c) c) (k + 1) := by
  have hd := take_dig (q := q) (c := c)
  obtain ⟨h1, h2, h3, h4⟩ := h
  unfold takeS
  generalize afterS q c = Q at *
  by_cases e1 : Q = 1
  · rw [if_pos e1]; exact ⟨by simp; omega, by simp; omega, h3, h4⟩
  rw [if_neg e1]
  by_cases e2 : Q = 2 ∨ Q = 3
  · rw [if_pos e2]
    have hc := hd (by omega)
    exact ⟨by simp; omega, by simp; omega, h3, digs_append h4 (fun x hx => by simp at hx; omega)⟩
  rw [if_neg e2]
  by_cases e5 : Q = 5
  · rw [if_pos e5]
    have hc := hd (by omega)
    exact ⟨by simp; omega, by simp; omega, h3, digs_append h4 (fun x hx => by simp at hx; omega)⟩
  rw [if_neg e5]
  by_cases e7 : Q = 7
  · rw [if_pos e7]; exact ⟨by simp; omega, by simp; omega, h3, h4⟩
  rw [if_neg e7]
  by_cases e8 : Q = 8
  · rw [if_pos e8]; exact ⟨by simp; omega, by simp; omega, by simp; omega, h4⟩
  rw [if_neg e8]
  exact ⟨by omega, by omega, h3, h4⟩
/-- One byte more. -/
theorem run_step {l : List Int} {k q : Nat} {p : Pd} {R : Option Nat × Nat × Pd} (hk : k < l.length) (h : runS (l.drop k) k q p = R) :
    (afterS q (l.getD k 0) = 9 → R = (some k, 9, p)) ∧ (afterS q (l.getD k 0) ≠ 9 → runS (l.drop (k + 1)) (k + 1) (afterS q (l.getD k 0)) (takeS p (afterS q (l.getD k 0)) (l.getD k 0)) = R) := by
  rw [List.drop_eq_getElem_cons hk] at h
  rw [List.getD_eq_getElem?_getD, List.getElem?_eq_getElem hk]
  simp only [Option.getD_some]
  unfold runS at h
  constructor
  · intro h1
    rw [if_pos h1] at h
    exact h.symm
  · intro h1
    rw [if_neg h1] at h
    exact h
/-- Digits on and on. -/
theorem run_digs {q : Nat} (hq : q = 3 ∨ q = 5 ∨ q = 8) : ∀ (l : List Int) (k : Nat) (p : Pd),
    runS l k q p = runS (l.dropWhile isD) (k + (l.takeWhile isD).length) q ((l.takeWhile isD).foldl (fun p c => takeS p q c) p)
  | [], k, p => rfl
  | c :: l, k, p => by
    by_cases hc : isD c = true
    · have ih := run_digs hq l (k + 1) (takeS p q c)
      have e : afterS q c = q := by
        unfold afterS
        rcases hq with rfl | rfl | rfl <;> simp [hc]
      rw [List.dropWhile_cons_of_pos hc, List.takeWhile_cons_of_pos hc, List.length_cons, List.foldl_cons]
      conv => lhs; unfold runS
      rw [e, if_neg (by omega), ih]
      congr 1
      omega
    · rw [List.dropWhile_cons_of_neg hc, List.takeWhile_cons_of_neg hc]
      rfl
theorem fold_whole : ∀ (d : List Int) (p : Pd), d.foldl (fun p c => takeS p 3 c) p = (p.1, p.2.1 ++ d, p.2.2.1, p.2.2.2.1, p.2.2.2.2)
  | [], p => by simp
  | c :: d, p => by
    rw [List.foldl_cons, fold_whole d]
    simp [takeS]
theorem fold_part : ∀ (d : List Int) (p : Pd), d.foldl (fun p c => takeS p 5 c) p = (p.1, p.2.1 ++ d, p.2.2.1 + d.length, p.2.2.2.1, p.2.2.2.2)
  | [], p => by simp
  | c :: d, p => by
    rw [List.foldl_cons, fold_part d]
    simp [takeS]
    omega
def powS (m : Nat) (d : List Int) : Nat := d.foldl (fun n c => min (n * 10 + (c - 48).toNat) 10000) m
theorem fold_pow : ∀ (d : List Int) (p : Pd), d.foldl (fun p c => takeS p 8 c) p = (p.1, p.2.1, p.2.2.1, p.2.2.2.1, powS p.2.2.2.2 d)
  | [], p => by simp [powS]
  | c :: d, p => by
    rw [List.foldl_cons, fold_pow d]
    simp [takeS, powS]
end Go.Proofs.Ytkealjaealeojab
namespace Go.Proofs.Ytkealjaealeojab
open Go Go.Proofs Go.Shelf
def lays100_ren : Go.Shelf.Ren := ⟨fun | 100 => 56 | 207 => 58 | n => n, fun | 9 => 9 | 4 => 4 | 3 => 3 | n => n, fun | n => n⟩
theorem lays100 : Go.Proofs.Lays.n100 Try.prog lays100_ren := {
  mixed := by kernel_rfl
  f100 := Try.func56.trans (congrArg some (by kernel_rfl))
  f207 := Try.func58.trans (congrArg some (by kernel_rfl))
  t3 := Try.underlying3
  a3 := Try.isAgg3
  z3 := Try.sizeOf3
  v3 := Try.zeroValue3
  t4 := Try.underlying4
  a4 := Try.isAgg4
  z4 := Try.sizeOf4
  v4 := Try.zeroValue4
  t9 := Try.underlying9
  a9 := Try.isAgg9
  z9 := Try.sizeOf9
  v9 := Try.zeroValue9 }
def laysM316_ren : Go.Shelf.Ren := ⟨fun | 316 => 44 | n => n, fun | 9 => 9 | 3 => 3 | 4 => 4 | 37 => 23 | 0 => 0 | 127 => 72 | 5 => 5 | n => n, fun | n => n⟩
theorem laysM316 : Go.Proofs.LaysM.n316 Try.prog laysM316_ren := {
  mixed := by kernel_rfl
  f316 := Try.func44.trans (congrArg some (by kernel_rfl))
  t0 := Try.underlying0
  a0 := Try.isAgg0
  z0 := Try.sizeOf0
  v0 := Try.zeroValue0
  t3 := Try.underlying3
  a3 := Try.isAgg3
  z3 := Try.sizeOf3
  v3 := Try.zeroValue3
  t4 := Try.underlying4
  a4 := Try.isAgg4
  z4 := Try.sizeOf4
  v4 := Try.zeroValue4
  t9 := Try.underlying9
  a9 := Try.isAgg9
  z9 := Try.sizeOf9
  v9 := Try.zeroValue9
  t37 := Try.underlying23
  a37 := Try.isAgg23
  z37 := Try.sizeOf23
  v37 := Try.zeroValue23
  t127 := Try.underlying72
  a127 := Try.isAgg72
  z127 := Try.sizeOf72
  v127 := Try.zeroValue72
  t5 := Try.underlying5
  a5 := Try.isAgg5
  z5 := Try.sizeOf5
  v5 := Try.zeroValue5
  i0 := by kernel_rfl
  i3 := by kernel_rfl
  i4 := by kernel_rfl
  i5 := by kernel_rfl
  i9 := by kernel_rfl
  i37 := by kernel_rfl
  i127 := by kernel_rfl }
end Go.Proofs.Ytkealjaealeojab
namespace Go.Proofs.Ytkealjaealeojab
open Go.RowKit Go.Shelf Go.Lib

theorem sclone_any (s : ByteArray) (w : World) (hs : s.size ≤ 281474976710656) : Calls Try.prog 44 #[.string s] w fun e w' => e = .returned (.string s) ∧ Below w.heap.size w w' :=
  Any.stringslite_Clone laysM316 s w hs
theorem clone_any (s : ByteArray) (w : World) (hs : s.size ≤ 281474976710656) : Calls Try.prog 31 #[.string s] w fun e w' => e = .returned (.string s) ∧ Below w.heap.size w w' := by
  have k := sclone_any s w hs
  clear hs
  go_enter Try.func31, Try.ntmps31
  go_wp2_with (go_at_call 44; refine k.mono ?_; rintro e w1 ⟨rfl, hb⟩)
  go_ret
  exact ⟨rfl, hb⟩
/-- A text that ends with 0. -/
theorem suf_last {s : ByteArray} (h0 : 0 < s.size) : Lib.hasSuffix s.data.toList [48] = ((bs s).getD (s.size - 1) 0 == 48) := by
  obtain ⟨t, c, ht⟩ : ∃ t c, s.data.toList = t ++ [c] := by
    have hn : s.data.toList ≠ [] := fun h => by
      have := congrArg List.length h
      rw [Array.length_toList] at this
      have h2 : s.size = 0 := this
      omega
    exact ⟨s.data.toList.dropLast, s.data.toList.getLast hn, (List.dropLast_concat_getLast hn).symm⟩
  have hsz : s.size = t.length + 1 := by
    have := congrArg List.length ht
    rw [Array.length_toList, List.length_append] at this
    exact this
  have e1 : bs s = numsU t ++ [((c.toNat : Nat) : Int)] := by
    have : bs s = numsU s.data.toList := rfl
    rw [this, ht]
    unfold numsU
    rw [List.map_append]
    rfl
  have e2 : (bs s).getD (s.size - 1) 0 = ((c.toNat : Nat) : Int) := by
    rw [e1, hsz, List.getD_eq_getElem?_getD, List.getElem?_append_right (by simp [numsU])]
    simp [numsU]
  rw [e2, ht]
  unfold Lib.hasSuffix
  rw [Bool.eq_iff_iff, List.isSuffixOf_iff_suffix, beq_iff_eq]
  constructor
  · rintro ⟨u, hu⟩
    have h2 := (List.append_inj' hu rfl).2
    simp at h2
    rw [← h2]
    rfl
  · intro h
    have : c = 48 := UInt8.toNat_inj.1 (by show c.toNat = 48; omega)
    rw [this]
    exact ⟨t, rfl⟩
theorem hassuf_any (s : ByteArray) (w : World) (h0 : 0 < s.size) (hs : s.size ≤ 9223372036854775807) : Calls Try.prog 56 #[.string s, .string zS] w fun e w' => e = .returned (.bool ((bs s).getD (s.size - 1) 0 == 48)) ∧ w' = w := by
  have h := Any.strings_HasSuffix lays100 s zS w hs
  rw [← suf_last h0]
  exact h
end Go.Proofs.Ytkealjaealeojab
namespace Go.Proofs.Ytkealjaealeojab
open Go.RowKit

/-- A number's three cells in memory. -/
def NmAt (w : World) (g : Nat) (n : Bool) (s : ByteArray) (x : Int) : Prop := w.cell? ⟨g, 0, none⟩ = some (.bool n) ∧ w.cell? ⟨g, 1, none⟩ = some (.string s) ∧ w.cell? ⟨g, 2, none⟩ = some (.int .i64 x)
theorem box_at (w : World) (n : Bool) (s : ByteArray) (x : Int) (t : TypeId) : NmAt (w.alloc (.cells #[.bool n, .string s, .int .i64 x] t)) w.heap.size n s x := by
  refine ⟨?_, ?_, ?_⟩ <;> (rw [World.cell?_alloc_mark]; rfl)
theorem NmAt.kept {w w' : World} {B g : Nat} {n : Bool} {s : ByteArray} {x : Int} (h : NmAt w g n s x) (hb : Below B w w') (hg : g < B) : NmAt w' g n s x := by
  obtain ⟨h0, h1, h2⟩ := h
  exact ⟨by rw [hb.cell (p := ⟨g, 0, none⟩) hg]; exact h0, by rw [hb.cell (p := ⟨g, 1, none⟩) hg]; exact h1, by rw [hb.cell (p := ⟨g, 2, none⟩) hg]; exact h2⟩
theorem box_drew {w w' : World} {o : Obj} (h : Below (w.alloc o).drew.heap.size (w.alloc o).drew w') : Below w.heap.size w w' := (alloc_below w o).drew.trans (h.mono (Nat.le_of_lt (alloc_lt w o)))
/-- A number as a block's whole. -/
def NRow (w : World) (g : Nat) (n : Bool) (s : ByteArray) (x : Int) : Prop := w.heap[g]? = some (.cells #[.bool n, .string s, .int .i64 x] 65 (0, 0))
theorem NRow.lt {w : World} {g : Nat} {n : Bool} {s : ByteArray} {x : Int} (h : NRow w g n s x) : g < w.heap.size := (Array.getElem?_eq_some_iff.1 h).1
theorem NRow.at {w : World} {g : Nat} {n : Bool} {s : ByteArray} {x : Int} (h : NRow w g n s x) : NmAt w g n s x := by
  refine ⟨?_, ?_, ?_⟩ <;> (rw [cell_row h]; rfl)
theorem NRow.fz {w : World} {g : Nat} {n : Bool} {s : ByteArray} {x : Int} (h : NRow w g n s x) (j : Nat) : w.frozen? ⟨g, j, none⟩ = false := by
  unfold NRow at h
  simp [World.frozen?, h]
theorem NRow.kept {w w' : World} {g : Nat} {n : Bool} {s : ByteArray} {x : Int} (h : NRow w g n s x) (hb : Below w.heap.size w w') : NRow w' g n s x := by
  unfold NRow
  rw [hb.block g h.lt]
  exact h
theorem row_new (w : World) (n : Bool) (s : ByteArray) (x : Int) : NRow (w.alloc (.cells #[.bool n, .string s, .int .i64 x] 65)) w.heap.size n s x := heap_alloc_new w _
theorem eq_size (s : ByteArray) : (s.toList == [48]) = decide (s = zS) := by
  rw [Bool.eq_iff_iff, beq_iff_eq, decide_eq_true_iff, ByteArray.toList_eq]
  constructor
  · intro h
    apply bs_inj
    unfold bs
    rw [h]
    rfl
  · intro h
    rw [h]
    rfl
theorem zero_any (w : World) : Calls Try.prog 57 #[] w fun e w' => e = .returned (.agg #[.bool false, .string ⟨#[48]⟩, .int .i64 0]) ∧ Below w.heap.size w w' := by
  go_enter Try.func57, Try.ntmps57
  go_wp2
  refine bodyPost_ret (v := .agg #[.bool false, .string ⟨#[48]⟩, .int .i64 0]) (by simp [results, Try.results57, go_sem]) rfl ⟨rfl, ?_⟩
  exact alloc_below _ _
theorem iszero_any (n : Bool) (s : ByteArray) (x : Int) (w : World) : Calls Try.prog 55 #[.agg #[.bool n, .string s, .int .i64 x]] w fun e w' => e = .returned (.bool (decide (n = false ∧ s = zS ∧ x = 0))) ∧ Below w.heap.size w w' := by
  have kZ := zero_any
  have hB := box_at w n s x 65
  cases n with
  | true =>
    have hR : decide (true = false ∧ s = zS ∧ x = 0) = false := by simp
    rw [hR]
    clear hR
    go_enter Try.func55, Try.ntmps55
    go_wp2
    go_region_held3 (fun w' => w'.cell? ⟨w.heap.size, 0, none⟩ = some (.bool true) ∧ w'.cell? ⟨w.heap.size, 1, none⟩ = some (.string s) ∧ w'.cell? ⟨w.heap.size, 2, none⟩ = some (.int .i64 x)) (first | exact hB | exact hB1) (first | (go_at_call 57; refine (kZ _).mono ?_; rintro e w1 ⟨rfl, hb⟩; have hB1 := NmAt.kept (w := (w.alloc _).drew) hB hb (alloc_lt _ _)))
    go_wp2
    go_ret
    exact ⟨rfl, box_drew hb⟩
  | false =>
    by_cases hs : s = zS
    · subst hs
      by_cases hx : x = 0
      · subst hx
        have hR : decide (false = false ∧ zS = zS ∧ (0 : Int) = 0) = true := by simp
        rw [hR]
        clear hR
        unfold zS at *
        go_enter Try.func55, Try.ntmps55
        go_wp2
        go_region_held3 (fun w' => w'.cell? ⟨w.heap.size, 0, none⟩ = some (.bool false) ∧ w'.cell? ⟨w.heap.size, 1, none⟩ = some (.string ⟨#[48]⟩) ∧ w'.cell? ⟨w.heap.size, 2, none⟩ = some (.int .i64 0)) (first | exact hB | exact hB1) (first | (go_at_call 57; refine (kZ _).mono ?_; rintro e w1 ⟨rfl, hb⟩; have hB1 := NmAt.kept (w := (w.alloc _).drew) hB hb (alloc_lt _ _)))
        go_wp2
        go_ret
        exact ⟨rfl, box_drew hb⟩
      · have hR : decide (false = false ∧ zS = zS ∧ x = 0) = false := by simp [hx]
        rw [hR]
        have d1 : (x == 0) = false := by simpa using hx
        clear hR hx
        unfold zS at *
        go_enter Try.func55, Try.ntmps55
        go_wp2
        go_region_held3 (fun w' => w'.cell? ⟨w.heap.size, 0, none⟩ = some (.bool false) ∧ w'.cell? ⟨w.heap.size, 1, none⟩ = some (.string ⟨#[48]⟩) ∧ w'.cell? ⟨w.heap.size, 2, none⟩ = some (.int .i64 x)) (first | exact hB | exact hB1) (first | (go_at_call 57; refine (kZ _).mono ?_; rintro e w1 ⟨rfl, hb⟩; have hB1 := NmAt.kept (w := (w.alloc _).drew) hB hb (alloc_lt _ _)))
        go_wp2
        go_ret
        exact ⟨rfl, box_drew hb⟩
    · have hR : decide (false = false ∧ s = zS ∧ x = 0) = false := by simp [hs]
      rw [hR]
      have d1 : (s.toList == [48]) = false := by rw [eq_size]; simpa using hs
      clear hR hs
      go_enter Try.func55, Try.ntmps55
      go_wp2
      go_region_held3 (fun w' => w'.cell? ⟨w.heap.size, 0, none⟩ = some (.bool false) ∧ w'.cell? ⟨w.heap.size, 1, none⟩ = some (.string s) ∧ w'.cell? ⟨w.heap.size, 2, none⟩ = some (.int .i64 x)) (first | exact hB | exact hB1) (first | (go_at_call 57; refine (kZ _).mono ?_; rintro e w1 ⟨rfl, hb⟩; have hB1 := NmAt.kept (w := (w.alloc _).drew) hB hb (alloc_lt _ _)))
      go_wp2
      go_ret
      exact ⟨rfl, box_drew hb⟩

theorem rtN_rest {n : Bool} {s : ByteArray} {x : Int} (hz : ¬ (n = false ∧ s = zS ∧ x = 0)) : rtN n s x = (rt s && (!((bs s).getD (s.size - 1) 0 == 48) && (decide (-2000 ≤ x) && decide (x ≤ 2000)))) := by
  unfold rtN
  by_cases h : bs s = [48]
  · have e := (z_iff s).1 h
    rw [if_pos h, h, e]
    have e1 : ((List.getD [48] (zS.size - 1) 0 : Int) == 48) = true := rfl
    rw [e1]
    have e2 : (!n && x == 0) = false := by
      cases n with
      | true => rfl
      | false =>
        have : x ≠ 0 := fun hx => hz ⟨rfl, e, hx⟩
        simpa using this
    rw [e2]
    simp
  · rw [if_neg h]
    rfl
set_option maxHeartbeats 1000000 in
theorem dright_any (n : Bool) (s : ByteArray) (x : Int) (w : World) : Calls Try.prog 49 #[.agg #[.bool n, .string s, .int .i64 x]] w fun e w' => e = .returned (.bool (rtN n s x)) ∧ Below w.heap.size w w' := by
  have hB := box_at w n s x 65
  have kI := iszero_any n s x
  by_cases hz : n = false ∧ s = zS ∧ x = 0
  · have hR : rtN n s x = true := by obtain ⟨rfl, rfl, rfl⟩ := hz; exact rtN_zero
    rw [hR]
    rw [decide_eq_true hz] at kI
    clear hz hR
    obtain ⟨b0, b1, b2⟩ := hB
    go_enter Try.func49, Try.ntmps49
    go_wp2_with (go_at_call 55; refine (kI _).mono ?_; rintro e w1 ⟨rfl, hb⟩)
    go_ret
    exact ⟨rfl, box_below hb⟩
  · have hR := rtN_rest hz
    rw [hR]
    rw [decide_eq_false hz] at kI
    clear hz hR
    have kR := right_any s
    cases h1 : rt s with
    | false =>
      rw [h1] at kR
      rw [Bool.false_and]
      obtain ⟨b0, b1, b2⟩ := id hB
      go_enter Try.func49, Try.ntmps49
      go_wp2_with (first
        | (go_at_call 55; refine (kI _).mono ?_; rintro e w1 ⟨rfl, hb⟩; obtain ⟨c0, c1, c2⟩ := hB.kept hb (alloc_lt _ _))
        | (go_at_call 47; refine (kR _).mono ?_; rintro e w2 ⟨rfl, hw⟩; obtain rfl : w1 = w2 := hw.symm))
      go_ret
      exact ⟨rfl, box_below hb⟩
    | true =>
      rw [h1] at kR
      rw [Bool.true_and]
      have hsz := rt_size h1
      have kH := fun w => hassuf_any s w hsz.1 (by omega)
      clear hsz h1
      obtain ⟨b0, b1, b2⟩ := id hB
      cases h2 : ((bs s).getD (s.size - 1) 0 == 48) with
      | true =>
        rw [h2] at kH
        go_enter Try.func49, Try.ntmps49
        go_wp2_with (first
          | (go_at_call 55; refine (kI _).mono ?_; rintro e w1 ⟨rfl, hb⟩; obtain ⟨c0, c1, c2⟩ := hB.kept hb (alloc_lt _ _))
          | (go_at_call 47; refine (kR _).mono ?_; rintro e w2 ⟨rfl, hw⟩; obtain rfl : w1 = w2 := hw.symm)
          | (go_at_call 56; refine (kH _).mono ?_; rintro e w2 ⟨rfl, hw⟩; obtain rfl : w1 = w2 := hw.symm))
        go_ret
        exact ⟨rfl, box_below hb⟩
      | false =>
        rw [h2] at kH
        by_cases h3 : -2000 ≤ x
        · by_cases h4 : x ≤ 2000
          · have hR : (!false && (decide (-2000 ≤ x) && decide (x ≤ 2000))) = true := by simp [h3, h4]
            rw [hR]
            have d3 : decide (-2000 ≤ x) = true := by simpa using h3
            have d4 : decide (x ≤ 2000) = true := by simpa using h4
            clear hR h3 h4
            go_enter Try.func49, Try.ntmps49
            go_wp2_with (first
              | (go_at_call 55; refine (kI _).mono ?_; rintro e w1 ⟨rfl, hb⟩; obtain ⟨c0, c1, c2⟩ := hB.kept hb (alloc_lt _ _))
              | (go_at_call 47; refine (kR _).mono ?_; rintro e w2 ⟨rfl, hw⟩; obtain rfl : w1 = w2 := hw.symm)
              | (go_at_call 56; refine (kH _).mono ?_; rintro e w2 ⟨rfl, hw⟩; obtain rfl : w1 = w2 := hw.symm))
            go_ret
            exact ⟨rfl, box_below hb⟩
          · have hR : (!false && (decide (-2000 ≤ x) && decide (x ≤ 2000))) = false := by simp [h4]
            rw [hR]
            have d3 : decide (-2000 ≤ x) = true := by simpa using h3
            have d4 : decide (x ≤ 2000) = false := by simpa using h4
            clear hR h3 h4
            go_enter Try.func49, Try.ntmps49
            go_wp2_with (first
              | (go_at_call 55; refine (kI _).mono ?_; rintro e w1 ⟨rfl, hb⟩; obtain ⟨c0, c1, c2⟩ := hB.kept hb (alloc_lt _ _))
              | (go_at_call 47; refine (kR _).mono ?_; rintro e w2 ⟨rfl, hw⟩; obtain rfl : w1 = w2 := hw.symm)
              | (go_at_call 56; refine (kH _).mono ?_; rintro e w2 ⟨rfl, hw⟩; obtain rfl : w1 = w2 := hw.symm))
            go_ret
            exact ⟨rfl, box_below hb⟩
        · have hR : (!false && (decide (-2000 ≤ x) && decide (x ≤ 2000))) = false := by simp [h3]
          rw [hR]
          have d3 : decide (-2000 ≤ x) = false := by simpa using h3
          clear hR h3
          go_enter Try.func49, Try.ntmps49
          go_wp2_with (first
            | (go_at_call 55; refine (kI _).mono ?_; rintro e w1 ⟨rfl, hb⟩; obtain ⟨c0, c1, c2⟩ := hB.kept hb (alloc_lt _ _))
            | (go_at_call 47; refine (kR _).mono ?_; rintro e w2 ⟨rfl, hw⟩; obtain rfl : w1 = w2 := hw.symm)
            | (go_at_call 56; refine (kH _).mono ?_; rintro e w2 ⟨rfl, hw⟩; obtain rfl : w1 = w2 := hw.symm))
          go_ret
          exact ⟨rfl, box_below hb⟩
end Go.Proofs.Ytkealjaealeojab
namespace Go.Proofs.Ytkealjaealeojab
open Go.RowKit

end Go.Proofs.Ytkealjaealeojab
namespace Go.Proofs.Ytkealjaealeojab
open Go.RowKit

/-- Bytes in a row of the call's own, whose cells may all be written. -/
def OwnsM (w : World) (base : Nat) (v : Value) (zs : List Int) : Prop := (∀ c ∈ zs, 0 ≤ c ∧ c < 256) ∧ ∃ g cap, v = .slice (some ⟨g, 0, none⟩) zs.length cap ∧ base ≤ g ∧ g < w.heap.size ∧ zs.length ≤ cap ∧ cap ≤ maxLen ∧
  (∀ j, j < cap → (w.cell? ⟨g, j, none⟩).isSome = true ∧ w.frozen? ⟨g, j, none⟩ = false) ∧ ∀ j, j < zs.length → w.cell? ⟨g, j, none⟩ = some (.int .u8 (zs.getD j 0))
theorem OwnsM.below {w w' : World} {base : Nat} {v : Value} {zs : List Int} (h : OwnsM w base v zs) (hb : Below w.heap.size w w') : OwnsM w' base v zs := by
  obtain ⟨h0, g, cap, rfl, h1, h2, h3, h4, h5, h6⟩ := h
  have hc : ∀ j, w'.cell? ⟨g, j, none⟩ = w.cell? ⟨g, j, none⟩ := fun j => hb.cell (p := ⟨g, j, none⟩) h2
  have hf : ∀ j, w'.frozen? ⟨g, j, none⟩ = w.frozen? ⟨g, j, none⟩ := fun j => by
    unfold World.frozen?
    show (match w'.heap[g]? with | _ => _) = _
    rw [hb.block g h2]
  exact ⟨h0, g, cap, rfl, h1, Nat.lt_of_lt_of_le h2 hb.size, h3, h4, fun j hj => ⟨by rw [hc]; exact (h5 j hj).1, by rw [hf]; exact (h5 j hj).2⟩, fun j hj => by rw [hc]; exact h6 j hj⟩
theorem OwnsM.form {w : World} {base : Nat} {v : Value} {zs : List Int} (h : OwnsM w base v zs) : ∃ g n cap, v = .slice (some ⟨g, 0, none⟩) n cap ∧ Hid (zs.length = n) ∧ n ≤ cap ∧ cap ≤ 9223372036854775807 ∧ Hid (Bytes w (some ⟨g, 0, none⟩) zs) := by
  obtain ⟨h0, g, cap, rfl, h1, h2, h3, h4, h5, h6⟩ := h
  refine ⟨g, zs.length, cap, rfl, rfl, h3, by simpa [maxLen] using h4, ?_⟩
  exact ⟨h0, by omega, .inr ⟨g, 0, rfl, fun i hi => by rw [Nat.zero_add]; exact h6 i hi⟩⟩
theorem getD_cat {ys : List Int} {c : Int} {j : Nat} (h : j < ys.length + 1) : (ys ++ [c]).getD j 0 = if j < ys.length then ys.getD j 0 else c := by
  by_cases hj : j < ys.length
  · rw [if_pos hj, List.getD_eq_getElem?_getD, List.getElem?_append_left hj, ← List.getD_eq_getElem?_getD]
  · have e : j = ys.length := by omega
    subst e
    rw [if_neg hj, List.getD_eq_getElem?_getD, List.getElem?_append_right (Nat.le_refl _)]
    simp
theorem own_m {w : World} {base : Nat} {v : Value} {zs : List Int} (h : w.ownsRow base 5 1 v zs.length (zs.map (Value.int .u8))) (hz : ∀ c ∈ zs, 0 ≤ c ∧ c < 256) (h0 : 0 < zs.length) : OwnsM w base v zs := by
  obtain ⟨hl, hv⟩ := h
  rcases hv with ⟨rfl, hn⟩ | ⟨g, cap, cur, rfl, hb, hg, hnc, hcm, hcs, htk⟩
  · omega
  · refine ⟨hz, g, cap, rfl, hb, (Array.getElem?_eq_some_iff.1 hg).1, hnc, hcm, fun j hj => ⟨?_, ?_⟩, fun j hj => ?_⟩
    · rw [cell_row hg, Array.getElem?_eq_getElem (by omega)]; rfl
    · simp [World.frozen?, hg]
    · rw [cell_row hg, ← Array.getElem?_toList]
      have h1 : (cur.toList.take (zs.length * 1))[j]? = (zs.map (Value.int .u8))[j]? := by rw [htk]
      rw [List.getElem?_take, if_pos (by omega), List.getElem?_map] at h1
      rw [h1, List.getD_eq_getElem?_getD, List.getElem?_eq_getElem hj]; rfl
/-- One byte behind. -/
theorem wpList_append_m {w : World} {ops : Array Oper} {rest : List Oper} {o : Oper} {a : Act} {Q : Exit → Act → World → Prop} (hgd : o.guard = none) (s x : Operand)
    (ho : o.op = .call { callee := .builtin .append, args := #[s, x], argTypes := #[23, 23] })
    (base : Nat) (v : Value) (ys : List Int) (c : Int) (hc : 0 ≤ c ∧ c < 256) (hs : a.eval s = v) (hown : OwnsM w base v ys)
    (ad : Addr) (hx : a.eval x = .slice (some ad) 1 1) (hcell : w.cell? (ad.add 0) = some (.int .u8 c)) (hlen : ys.length + 1 ≤ 100000) (hbase : base ≤ w.heap.size)
    (h : ∀ v' w', OwnsM w' base v' (ys ++ [c]) → Below base w w' → wpList Try.prog ops Q rest (a.put o.dst v') w') : wpList Try.prog ops Q (o :: rest) a w := by
  obtain ⟨i, hi, hz, hsz, hby⟩ := info_parts info5
  obtain ⟨h0, g, cap, rfl, h1, h2, h3, h4, h5, h6⟩ := hown
  have hzc : ∀ d ∈ ys ++ [c], 0 ≤ d ∧ d < 256 := fun d hd => by
    rcases List.mem_append.1 hd with h' | h'
    · exact h0 d h'
    · simp at h'; rw [h']; exact hc
  refine wpList_append_arg w hgd s x 23 ho 5 i (.int .u8 0) 1 1 Try.underlying23 hi hz hsz hby rfl (by decide) g 0 ys.length cap (ys.map (Value.int .u8)) hs (by simp) (fun j u hu => ?_) ad 1 1 [.int .u8 c] hx rfl (fun j u hu => ?_) (fun u hu => by simp at hu; rw [hu]; rfl) (fun hr j hj => ?_) (by unfold maxLen; omega) (by omega) (fun hr => ?_) (fun hg v' w' ho' hgr => ?_)
  · have hj : j < ys.length := by
      have := (List.getElem?_eq_some_iff.1 hu).1
      simpa using this
    rw [List.getElem?_map, List.getElem?_eq_getElem hj] at hu
    simp only [Option.map_some, Option.some.injEq] at hu
    rw [Nat.zero_add, h6 j hj, ← hu, List.getD_eq_getElem?_getD, List.getElem?_eq_getElem hj]; rfl
  · match j, hu with
    | 0, hu => simp at hu; rw [← hu]; exact hcell
  · have e : 0 + ys.length * 1 + j = ys.length := by simp at hj; omega
    rw [e]
    exact h5 _ (by omega)
  · have e : 0 + ys.length * 1 = ys.length := by omega
    rw [e]
    have hsome := (h5 ys.length (by omega)).1
    have hin : (w.setCells g ys.length [.int .u8 c]).cell? ⟨g, ys.length, none⟩ = some (.int .u8 c) := by
      show (w.setCell ⟨g, ys.length, none⟩ (.int .u8 c)).cell? _ = _
      exact World.cell?_setCell_same' w _ _ hsome
    have hout : ∀ j, j ≠ ys.length → (w.setCells g ys.length [.int .u8 c]).cell? ⟨g, j, none⟩ = w.cell? ⟨g, j, none⟩ := fun j hj => by
      refine World.cell?_setCells_out g _ _ _ _ (fun _ _ => ?_)
      show j < ys.length ∨ ys.length + 1 ≤ j
      omega
    refine h _ _ ⟨hzc, g, cap, by rw [List.length_append]; rfl, h1, ?_, by rw [List.length_append]; exact hr, h4, fun j hj => ⟨?_, ?_⟩, fun j hj => ?_⟩ ?_
    · show g < (w.setCell ⟨g, ys.length, none⟩ (.int .u8 c)).heap.size
      simpa [World.setCell] using h2
    · by_cases e' : j = ys.length
      · rw [e', hin]; rfl
      · rw [hout j e']; exact (h5 j hj).1
    · rw [World.frozen?_setCells]; exact (h5 j hj).2
    · rw [List.length_append] at hj
      have hj' : j < ys.length + 1 := hj
      rw [getD_cat hj']
      by_cases e' : j < ys.length
      · rw [if_pos e', hout j (by omega)]; exact h6 j e'
      · have e2 : j = ys.length := by omega
        rw [if_neg e', e2, hin]
    · show Below base w (w.setCell ⟨g, ys.length, none⟩ (.int .u8 c))
      exact (Below.refl base w).setCell (p := ⟨g, ys.length, none⟩) h1 _
  · refine h v' w' (own_m (zs := ys ++ [c]) ?_ hzc (by simp)) ((Below.refl base w).grown hgr hbase (fun k hk => by cases hk))
    have hw : w'.ownsRow w.heap.size 5 1 v' (ys ++ [c]).length ((ys ++ [c]).map (Value.int .u8)) := by
      rw [List.length_append, List.map_append]; exact ho'
    obtain ⟨hl', hv'⟩ := hw
    refine ⟨hl', ?_⟩
    rcases hv' with h' | ⟨g', cap', cur', e1, e2, e3⟩
    · exact .inl h'
    · exact .inr ⟨g', cap', cur', e1, Nat.le_trans hbase e2, e3⟩
/-- A string's bytes as they are laid down. -/
theorem own_conv (w : World) (s : ByteArray) (hs : s.size ≤ 100000) : OwnsM (Lib.bytesWorld w 5 s) w.heap.size (.slice (some ⟨w.heap.size, 0, none⟩) s.size (grownCap w s.size 0 5)) (bs s) := by
  have hsz : (Lib.bytesCells w 5 s).size = grownCap w s.size 0 5 := by
    unfold Lib.bytesCells
    have := grownCap_ge w s.size 0 5
    simp
    show s.size + _ = _
    omega
  have hnew := Lib.bytesWorld_at_new w 5 s
  refine ⟨bs_bytes s, w.heap.size, _, by rw [bs_len], Nat.le_refl _, by rw [Lib.bytesWorld_size]; omega, by rw [bs_len]; exact grownCap_ge w _ _ _, grownCap_le_maxLen w _ _ _ (by unfold maxLen; omega), fun j hj => ⟨?_, ?_⟩, fun j hj => ?_⟩
  · have hj2 : j < (Lib.bytesCells w 5 s).size := by rw [hsz]; exact hj
    simp [World.cell?, hnew, hj2]
  · unfold World.frozen?
    show (match (Lib.bytesWorld w 5 s).heap[w.heap.size]? with | _ => _) = _
    rw [hnew]
    have hj2 : j < (Lib.bytesCells w 5 s).size := by rw [hsz]; exact hj
    generalize Lib.bytesCells w 5 s = C at *
    simp
    omega
  · rw [bs_len] at hj
    rw [Lib.bytesWorld_cell w 5 s j hj, bs_at s hj]
    congr 3
    rw [List.getD_eq_getElem?_getD, Array.getElem?_toList, Array.getElem?_eq_getElem (by exact hj)]
    rfl
end Go.Proofs.Ytkealjaealeojab
namespace Go.Proofs.Ytkealjaealeojab
open Go.RowKit

/-- Digits with 0 behind. -/
def padW (s : ByteArray) (k : Nat) : ByteArray := strOfNums (bs s ++ zerosL k)
theorem pad_bytes (s : ByteArray) (k : Nat) : ∀ c ∈ bs s ++ zerosL k, 0 ≤ c ∧ c < 256 := fun c hc => by
  rcases List.mem_append.1 hc with h | h
  · exact bs_bytes s c h
  · rw [(List.mem_replicate.1 h).2]; decide
theorem bs_padW (s : ByteArray) (k : Nat) : bs (padW s k) = bs s ++ zerosL k := bs_str (pad_bytes s k)
theorem padW_size (s : ByteArray) (k : Nat) : (padW s k).size = s.size + k := by rw [← bs_len, bs_padW, List.length_append, bs_len]; unfold zerosL; rw [List.length_replicate]
theorem padW_zero (s : ByteArray) : padW s 0 = s := by apply bs_inj; rw [bs_padW]; exact List.append_nil _
theorem bs_catW (s t : ByteArray) : bs (s ++ t) = bs s ++ bs t := by
  unfold bs
  rw [ByteArray.data_append, Array.toList_append, List.map_append]
theorem zeros_snoc (k : Nat) : zerosL k ++ [48] = zerosL (k + 1) := by unfold zerosL; rw [List.replicate_succ']
theorem padW_succ (s : ByteArray) (k : Nat) : padW s k ++ ⟨#[48]⟩ = padW s (k + 1) := by
  apply bs_inj
  rw [bs_catW, bs_padW, bs_padW, List.append_assoc]
  congr 1
  exact zeros_snoc k
/-- P6.3: the whole digits. -/
def wholeA (n : Bool) (s : ByteArray) (x : Int) : ByteArray × Bool := if rtN n s x = true ∧ 0 ≤ x ∧ ((s.size : Nat) : Int) + x ≤ 800 then (padW s x.toNat, true) else (noS, false)
theorem rt_padW {n : Bool} {s : ByteArray} {k : Nat} (h : rtN n s ((k : Nat) : Int) = true) : rt (padW s k) = decide (s.size + k ≤ 800) := by
  have hf := (rtN_iff n s _).1 h
  by_cases hz : bs s = [48]
  · have h0 := (hf.2.1 hz).2
    have hk : k = 0 := by omega
    subst hk
    have hs := (rt_size (rtN_rt h)).2
    rw [padW_zero, rtN_rt h]
    simp
    exact hs
  · have hc : Canon (bs s ++ zerosL k) := by
      refine ⟨fun h1 => hf.1.1.1 (List.append_eq_nil_iff.1 h1).1, digs_append hf.1.1.2.1 (zeros_digs k), fun h1 => ?_⟩
      exfalso
      rcases hx : bs s with _ | ⟨c, t⟩
      · exact hf.1.1.1 hx
      · rw [hx] at h1
        have hc : c = 48 := h1
        have h3 := hf.1.1.2.2 (by rw [hx]; exact hc)
        rw [hx] at h3
        have ht : t = [] := List.eq_nil_of_length_eq_zero (by simpa using h3)
        exact hz (by rw [hx, ht, hc])
    have hl : (bs s ++ zerosL k).length = s.size + k := by rw [← bs_padW, bs_len, padW_size]
    rw [Bool.eq_iff_iff, decide_eq_true_iff, rt_iff, bs_padW]
    constructor
    · intro h1
      have := h1.2
      omega
    · intro h1
      exact ⟨hc, by omega⟩
theorem cell48 (w : World) : (w.alloc (.cells #[.int .u8 48] 5)).cell? ((⟨w.heap.size, 0, none⟩ : Addr).add 0) = some (.int .u8 48) := by
  have h : (⟨w.heap.size, 0, none⟩ : Addr).add 0 = ⟨w.heap.size, 0 + 0, none⟩ := by simp [Addr.add]
  rw [h]
  exact World.cell?_alloc_mark w _ _ _ _
theorem conv_below (w : World) (s : ByteArray) : Below w.heap.size w (Lib.bytesWorld w 5 s) := ⟨rfl, rfl, rfl, by rw [Lib.bytesWorld_size]; omega, fun k hk => Lib.bytesWorld_at_old w 5 s k hk⟩
set_option maxRecDepth 100000 in
set_option maxHeartbeats 2000000 in
theorem whole_any (n : Bool) (s : ByteArray) (x : Int) (w : World) : Calls Try.prog 48 #[.agg #[.bool n, .string s, .int .i64 x]] w fun e w' => e = .returned (.tuple #[.string (wholeA n s x).1, .bool (wholeA n s x).2]) ∧ Below w.heap.size w w' := by
  have kR := dright_any n s x
  have hB := box_at w n s x 65
  obtain ⟨b0, b1, b2⟩ := id hB
  cases hr : rtN n s x with
  | false =>
    rw [show wholeA n s x = (noS, false) from by unfold wholeA; rw [if_neg (by rw [hr]; simp)]]
    rw [hr] at kR
    clear hr
    go_enter Try.func48, Try.ntmps48
    go_wp2_with (go_at_call 49; refine (kR _).mono ?_; rintro e w1 ⟨rfl, hb⟩)
    go_ret2
    exact ⟨rfl, box_below hb⟩
  | true =>
    have hx := rtN_exp hr
    have hsz := (rt_size (rtN_rt hr)).2
    have hrp : Hid (∀ k : Nat, x = ((k : Nat) : Int) → rt (padW s k) = decide (s.size + k ≤ 800)) := fun k hk => rt_padW (n := n) (by rw [← hk]; exact hr)
    by_cases hneg : x < 0
    · rw [show wholeA n s x = (noS, false) from by unfold wholeA; rw [if_neg (by omega)]]
      rw [hr] at kR
      have d1 : decide (x < 0) = true := by simpa using hneg
      have hB' : Hid (NmAt (w.alloc (.cells #[.bool n, .string s, .int .i64 x] 65)) w.heap.size n s x) := hB
      clear hr hx hsz hrp hneg hB
      go_enter Try.func48, Try.ntmps48
      go_wp2_with (go_at_call 49; refine (kR _).mono ?_; rintro e w1 ⟨rfl, hb⟩; obtain ⟨c0, c1, c2⟩ := hB'.out.kept hb (alloc_lt _ _))
      go_ret2
      exact ⟨rfl, box_below hb⟩
    · obtain ⟨k, rfl⟩ : ∃ k : Nat, x = k := ⟨x.toNat, by omega⟩
      have hA : Hid (wholeA n s ((k : Nat) : Int) = if s.size + k ≤ 800 then (padW s k, true) else (noS, false)) := by
        show _ = _
        unfold wholeA
        by_cases h8 : s.size + k ≤ 800
        · rw [if_pos ⟨hr, by omega, by omega⟩, if_pos h8, Int.toNat_natCast]
        · rw [if_neg (by omega), if_neg h8]
      have hrt := hrp.out k rfl
      rw [hr] at kR
      have d1 : decide (((k : Nat) : Int) < 0) = false := by simp
      have hk2 : k ≤ 2000 := by omega
      have hB' : Hid (NmAt (w.alloc (.cells #[.bool n, .string s, .int .i64 ((k : Nat) : Int)] 65)) w.heap.size n s ((k : Nat) : Int)) := hB
      have hrt' : Hid (rt (padW s k) = decide (s.size + k ≤ 800)) := hrt
      have hsz' : Hid (s.size ≤ 800) := hsz
      clear hr hx hsz hrp hneg hB hrt
      generalize wholeA n s ((k : Nat) : Int) = WA at *
      go_enter Try.func48, Try.ntmps48
      go_wp2_with fail
      refine (kR _).mono ?_
      rintro e w1 ⟨rfl, hb⟩
      have hN1 := hB'.out.kept hb (alloc_lt _ _)
      have d2 := box_below hb
      obtain ⟨c0, c1, c2⟩ := id hN1
      have hcv := Lib.run_convert_string_bytes (P := Try.prog) w1 9 23 5 s Try.underlying9 Try.underlying23 Try.underlying5
      have hO := own_conv w1 s (by have := hsz'.out; omega)
      have hbw : Below w1.heap.size w1 (Lib.bytesWorld w1 5 s) := conv_below w1 s
      have hN2 := hN1.kept hbw (Nat.lt_of_lt_of_le (alloc_lt _ _) hb.size)
      generalize Lib.bytesWorld w1 5 s = W2 at *
      generalize grownCap w1 s.size 0 5 = cap2 at *
      obtain ⟨e0, e1, e2⟩ := hN2
      have hO' : Hid (OwnsM W2 w.heap.size (.slice (some ⟨w1.heap.size, 0, none⟩) s.size cap2) (bs s)) := by
        obtain ⟨q0, g, cap, q1, q2, q3⟩ := hO
        exact ⟨q0, g, cap, q1, Nat.le_trans d2.size q2, q3⟩
      have d3 : Hid (Below w.heap.size w W2) := d2.trans (hbw.mono d2.size)
      clear hO hbw d2 hb hN1 kR
      go_wp2
      go_loopw [4, 19] (fun v iv wr => ∃ j : Nat, j ≤ k ∧ iv = .int .i64 j ∧ Hid (OwnsM wr w.heap.size v (bs s ++ zerosL j)) ∧ Hid (Below w.heap.size w wr)) (fun _ iv _ => k - (intOf iv).toNat)
      case atStart => exact ⟨0, Nat.zero_le _, rfl, (by show OwnsM _ _ _ _; rw [show zerosL 0 = [] from rfl, List.append_nil]; exact hO'.out), d3⟩
      case round =>
        obtain ⟨j, hj, rfl, hOj, hbj⟩ := hrel
        clear hO' d3 e0 e1 e2 c0 c1 c2 hcv
        by_cases hlt : j < k
        · have hlj : Hid ((bs s ++ zerosL j).length + 1 ≤ 100000) := by have := hsz'.out; show _ ≤ _; rw [List.length_append, bs_len]; unfold zerosL; rw [List.length_replicate]; omega
          have hbs := hbj.out.size
          have wj : IntKind.i64.wrap (((j : Nat) : Int) + 1) = ((j : Nat) : Int) + 1 := by rw [IntKind.wrap_i64] <;> omega
          have hlt' : ((j : Nat) : Int) < ((k : Nat) : Int) := by omega
          go_wp2_with (at_builtin; refine wpList_append_m rfl _ _ rfl w.heap.size _ (bs s ++ zerosL j) 48 (by decide) rfl (hOj.out.below (alloc_below wr _)) _ rfl (cell48 wr) hlj.out (Nat.le_trans hbs (Nat.le_of_lt (alloc_lt wr _))) ?_; intro v' w9 ho9 hb9)
          have ho9' : Hid (OwnsM w9 w.heap.size v' (bs s ++ zerosL (j + 1))) := by show OwnsM _ _ _ _; rw [← zeros_snoc, ← List.append_assoc]; exact ho9
          have d9 : Hid (Below w.heap.size w w9) := (hbj.out.alloc hbs _).trans hb9
          clear ho9 hb9
          go_roundw
          case rel => exact ⟨j + 1, by omega, by go_num, ho9', d9⟩
          case measure => simp [intOf]; omega
        · obtain rfl : j = k := by omega
          obtain ⟨g, m, cap, rfl, hm, hmc, hcm, hBy⟩ := hOj.out.form
          have cv := conv_str hBy.out m cap hm.out
          have e : strOfNums (bs s ++ zerosL j) = padW s j := rfl
          rw [e] at cv
          have kQ := right_any (padW s j)
          rw [hrt'.out] at kQ
          clear hlt hBy hOj e
          by_cases h8 : s.size + j ≤ 800
          · have hWA := hA.out
            rw [if_pos h8] at hWA
            subst hWA
            rw [show decide (s.size + j ≤ 800) = true from by simpa using h8] at kQ
            clear h8 hrt'
            go_wp2_with (go_at_call 47; refine (kQ _).mono ?_; rintro e w5 ⟨rfl, hw5⟩; rw [hw5]; clear hw5)
            go_ret2
            exact ⟨rfl, hbj.out⟩
          · have hWA := hA.out
            rw [if_neg h8] at hWA
            subst hWA
            rw [show decide (s.size + j ≤ 800) = false from by simpa using h8] at kQ
            clear h8 hrt'
            generalize padW s j = PW at *
            go_wp2_with (go_at_call 47; refine (kQ _).mono ?_; rintro e w5 ⟨rfl, hw5⟩; rw [hw5]; clear hw5)
            go_ret2
            exact ⟨rfl, hbj.out⟩
end Go.Proofs.Ytkealjaealeojab
