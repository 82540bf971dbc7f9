/-
  Tokens of JSON texts as plain data: how a string's characters are read, where a number and a word end, the tokens one behind the other; that a fault hangs on the bytes up to it alone. No program is named here.
-/
import Derived.Test.YtfkoghmbkgbgbaaDoorEnds
import Derived.Test.YtfkoghmbkgbgbaaDoorMach
namespace Go.Proofs.YtfkoghmbkgbgbaaDoor
open Go
set_option linter.unusedVariables false

/-! ### A string's characters -/

/-- What was read of a string: its state (0 a character, 1 a backslash, 2 digits, 3 a first half, 4 a backslash behind it, 5 all, 6 wrong), the number of the digits, how many they are, a first half, the bytes that it means. -/
structure RS where
  q : Nat
  num : Nat
  dig : Nat
  fst : Nat
  txt : List Int
/-- Nothing was read yet. -/
def r0 : RS := ⟨0, 0, 0, 0, []⟩
/-- A digit of base 16. -/
def hexD (r : Nat) : Option Nat := if 48 ≤ r ∧ r ≤ 57 then some (r - 48) else if 97 ≤ r ∧ r ≤ 102 then some (r - 87) else if 65 ≤ r ∧ r ≤ 70 then some (r - 55) else none
/-- What a sign behind a backslash means. -/
def shortM (r : Nat) : Option Nat := if r = 34 then some 34 else if r = 92 then some 92 else if r = 98 then some 8 else if r = 102 then some 12 else if r = 110 then some 10 else if r = 114 then some 13 else if r = 116 then some 9 else none
/-- May a number go on so? -/
def mayGo (f n k : Nat) : Bool := if f = 0 then decide (n * 16 ^ (4 - k) < 56320) || decide (57344 < (n + 1) * 16 ^ (4 - k)) else decide (56320 < (n + 1) * 16 ^ (4 - k)) && decide (n * 16 ^ (4 - k) < 57344)
def putR (s : RS) (r : Nat) : RS := ⟨0, s.num, s.dig, s.fst, s.txt ++ encL r⟩
def digR (s : RS) (d : Nat) : RS :=
  if mayGo s.fst (s.num * 16 + d) (s.dig + 1) = false then ⟨6, s.num * 16 + d, s.dig + 1, s.fst, s.txt⟩
  else if s.dig + 1 < 4 then ⟨2, s.num * 16 + d, s.dig + 1, s.fst, s.txt⟩
  else if s.fst ≠ 0 then ⟨0, 0, 0, 0, s.txt ++ encL (65536 + (s.fst - 55296) * 1024 + (s.num * 16 + d) - 56320)⟩
  else if 55296 ≤ s.num * 16 + d ∧ s.num * 16 + d < 57344 then ⟨3, 0, 0, s.num * 16 + d, s.txt⟩
  else ⟨0, 0, 0, 0, s.txt ++ encL (s.num * 16 + d)⟩
/-- One more character. -/
def takeR (s : RS) (r : Nat) : RS :=
  if s.q = 0 then (if r = 34 then ⟨5, s.num, s.dig, s.fst, s.txt⟩ else if r = 92 then ⟨1, s.num, s.dig, s.fst, s.txt⟩ else if r < 32 then ⟨6, s.num, s.dig, s.fst, s.txt⟩ else putR s r)
  else if s.q = 1 then (if r = 117 then ⟨2, s.num, s.dig, s.fst, s.txt⟩ else if r = 47 then putR s 47 else match shortM r with | some m => putR s m | none => ⟨6, s.num, s.dig, s.fst, s.txt⟩)
  else if s.q = 2 then (match hexD r with | some d => digR s d | none => ⟨6, s.num, s.dig, s.fst, s.txt⟩)
  else if s.q = 3 then ⟨if r = 92 then 4 else 6, s.num, s.dig, s.fst, s.txt⟩
  else if s.q = 4 then ⟨if r = 117 then 2 else 6, s.num, s.dig, s.fst, s.txt⟩
  else s
theorem hex_big {r : Nat} (h : 128 ≤ r) : hexD r = none := by unfold hexD; rw [if_neg (by omega), if_neg (by omega), if_neg (by omega)]
theorem short_big {r : Nat} (h : 128 ≤ r) : shortM r = none := by
  unfold shortM
  rw [if_neg (by omega), if_neg (by omega), if_neg (by omega), if_neg (by omega), if_neg (by omega), if_neg (by omega), if_neg (by omega)]
/-- In an escape no character of several bytes may stand. -/
theorem take_big {s : RS} {r : Nat} (h0 : s.q ≠ 0) (h4 : s.q ≤ 4) (h : 128 ≤ r) : (takeR s r).q = 6 := by
  unfold takeR
  rw [if_neg h0]
  by_cases h1 : s.q = 1
  · rw [if_pos h1, if_neg (by omega), if_neg (by omega), short_big h]
  rw [if_neg h1]
  by_cases h2 : s.q = 2
  · rw [if_pos h2, hex_big h]
  rw [if_neg h2]
  by_cases h3 : s.q = 3
  · rw [if_pos h3]; exact if_neg (by omega)
  rw [if_neg h3, if_pos (by omega)]
  exact if_neg (by omega)
theorem dig_le (s : RS) (d : Nat) : (digR s d).q ≤ 6 := by
  unfold digR
  repeat' split
  all_goals simp
theorem take_le {s : RS} {r : Nat} (h : s.q ≤ 6) : (takeR s r).q ≤ 6 := by
  unfold takeR
  repeat' split
  all_goals first | exact dig_le _ _ | exact h | simp [putR]

/-- The fault where no whole character stands. -/
def brkR (b : List Int) (p : Nat) (free : Bool) : Nat × Nat :=
  if badB b = 0 then (6, p) else if free = false then (5, p) else if badB b = b.length then (3, p + badB b) else (6, p + badB b)
/-- THE STRING, its characters from a place on: the bytes that it means, the place behind it; its fault. -/
def strF : Nat → List Int → Nat → RS → List Int × Nat × Nat × Nat
  | 0, _, p, _ => ([], 0, 3, p)
  | k + 1, b, p, s => if b = [] then ([], 0, 3, p) else if goodB b = false then ([], 0, brkR b p (s.q == 0)) else
    if (takeR s (valB b)).q = 5 then ((takeR s (valB b)).txt, p + 1, 0, 0) else if (takeR s (valB b)).q = 6 then ([], 0, 5, p) else strF k (b.drop (lenB b)) (p + lenB b) (takeR s (valB b))
def strL (b : List Int) (p : Nat) (s : RS) : List Int × Nat × Nat × Nat := strF b.length b p s
theorem strF_nil (k p : Nat) (s : RS) : strF k [] p s = ([], 0, 3, p) := by
  cases k with
  | zero => rfl
  | succ k => rw [strF, if_pos rfl]
theorem strF_more (k : Nat) : ∀ (b : List Int) (m p : Nat) (s : RS), b.length ≤ k → k ≤ m → strF m b p s = strF k b p s := by
  induction k with
  | zero =>
    intro b m p s h _
    obtain rfl : b = [] := List.eq_nil_of_length_eq_zero (by omega)
    rw [strF_nil, strF_nil]
  | succ k ih =>
    intro b m p s h hm
    obtain ⟨m, rfl⟩ : ∃ m', m = m' + 1 := ⟨m - 1, by omega⟩
    by_cases h0 : b = []
    · subst h0; rw [strF_nil, strF_nil]
    · by_cases hg : Good b
      · have hn := good_ne hg h0
        rw [strF, strF, if_neg h0, if_neg h0, goodB_yes hg, if_neg (show ¬ true = false by decide), if_neg (show ¬ true = false by decide), ih (b.drop (lenB b)) m _ _ (by rw [List.length_drop]; omega) (by omega)]
      · rw [strF, strF, if_neg h0, if_neg h0, goodB_no hg, if_pos rfl, if_pos rfl]
theorem str_nil (p : Nat) (s : RS) : strL [] p s = ([], 0, 3, p) := rfl
theorem str_bad {b : List Int} {p : Nat} {s : RS} (h0 : b ≠ []) (h : ¬ Good b) : strL b p s = ([], 0, brkR b p (s.q == 0)) := by
  have hp := List.length_pos_iff.2 h0
  unfold strL
  obtain ⟨k, hk⟩ : ∃ k, b.length = k + 1 := ⟨b.length - 1, by omega⟩
  rw [hk, strF, if_neg h0, goodB_no h, if_pos rfl]
theorem str_good {b : List Int} {p : Nat} {s : RS} (h0 : b ≠ []) (h : Good b) : strL b p s =
    if (takeR s (valB b)).q = 5 then ((takeR s (valB b)).txt, p + 1, 0, 0) else if (takeR s (valB b)).q = 6 then ([], 0, 5, p) else strL (b.drop (lenB b)) (p + lenB b) (takeR s (valB b)) := by
  have hn := good_ne h h0
  unfold strL
  obtain ⟨k, hk⟩ : ∃ k, b.length = k + 1 := ⟨b.length - 1, by omega⟩
  rw [hk, strF, if_neg h0, goodB_yes h, if_neg (show ¬ true = false by decide), strF_more (b.drop (lenB b)).length (b.drop (lenB b)) k _ _ (Nat.le_refl _) (by rw [List.length_drop]; omega)]
theorem str_all {b : List Int} {p : Nat} {s : RS} (h0 : b ≠ []) (h : Good b) (h5 : (takeR s (valB b)).q = 5) : strL b p s = ((takeR s (valB b)).txt, p + 1, 0, 0) := by rw [str_good h0 h, if_pos h5]
theorem str_wrong {b : List Int} {p : Nat} {s : RS} (h0 : b ≠ []) (h : Good b) (h6 : (takeR s (valB b)).q = 6) : strL b p s = ([], 0, 5, p) := by rw [str_good h0 h, if_neg (by omega), if_pos h6]
theorem str_on {b : List Int} {p : Nat} {s : RS} (h0 : b ≠ []) (h : Good b) (h5 : (takeR s (valB b)).q ≠ 5) (h6 : (takeR s (valB b)).q ≠ 6) : strL b p s = strL (b.drop (lenB b)) (p + lenB b) (takeR s (valB b)) := by rw [str_good h0 h, if_neg h5, if_neg h6]

theorem lenB_two {b : List Int} (h : Good b) (h2 : 2 ≤ lenB b) : 128 ≤ valB b := by
  have hb : lenB b = lenN (nth b 0) := rfl
  have e := val_lenR h
  unfold lenR at e
  by_cases hv : valB b < 128
  · rw [if_pos hv] at e; omega
  · omega
theorem lenB_one {b : List Int} (h : Good b) (h1 : lenB b < 2) : valB b = nth b 0 ∧ nth b 0 < 128 := by
  have hb : lenB b = lenN (nth b 0) := rfl
  have h0 : lenB b ≠ 0 := h.1
  have hc : nth b 0 < 128 := by
    rcases len_cases (nth b 0) with ⟨e, k⟩ | ⟨e, k⟩ | ⟨e, k⟩ | ⟨e, k⟩ | ⟨e, k⟩ <;> omega
  refine ⟨?_, hc⟩
  unfold valB valN
  rw [if_pos hc]
/-- Where a character of one byte only may stand, one of several is wrong, whole or not. -/
theorem str_big {b : List Int} {p : Nat} {s : RS} (h0 : b ≠ []) (q0 : s.q ≠ 0) (q4 : s.q ≤ 4) (h2 : 2 ≤ lenB b) : (strL b p s).2.2 = (5, p) := by
  by_cases hg : Good b
  · rw [str_wrong h0 hg (take_big q0 q4 (lenB_two hg h2))]
  · rw [str_bad h0 hg]
    have hq : (s.q == 0) = false := by simp [q0]
    show brkR b p (s.q == 0) = _
    unfold brkR
    rw [hq, if_neg ?_, if_pos rfl]
    rcases bad_cases hg with ⟨e, k⟩ | ⟨e, k1, k2⟩ | ⟨e, k1, k2, k3⟩ | ⟨e, k1, k2, k3, k4⟩ <;> omega
theorem take_ne {b : List Int} {k : Nat} (t : List Int) (h : 0 < k) (h0 : b ≠ []) : b.take k ++ t ≠ [] := by
  intro e
  have hp := List.length_pos_iff.2 h0
  have h9 := congrArg List.length e
  rw [List.length_append, List.length_take, List.length_nil] at h9; omega
/-- A character's first bytes, with others behind. -/
theorem good_on {b : List Int} (h0 : b ≠ []) (h : Good b) {k : Nat} (hk : lenB b ≤ k) (t : List Int) : Good (b.take k ++ t) ∧ lenB (b.take k ++ t) = lenB b ∧ valB (b.take k ++ t) = valB b ∧ (b.take k ++ t).drop (lenB b) = (b.drop (lenB b)).take (k - lenB b) ++ t := by
  have hg := good_ne h h0
  obtain ⟨g1, g2, g3⟩ := good_take h0 h
  have hne : b.take (lenB b) ≠ [] := by intro e; have h9 := congrArg List.length e; rw [List.length_take, List.length_nil] at h9; omega
  have hl : (b.take (lenB b)).length = lenB b := by rw [List.length_take]; omega
  have e : b.take k ++ t = b.take (lenB b) ++ ((b.drop (lenB b)).take (k - lenB b) ++ t) := by
    rw [show k = lenB b + (k - lenB b) from by omega, List.take_add, List.append_assoc, show lenB b + (k - lenB b) - lenB b = k - lenB b from by omega]
  obtain ⟨f1, f2, f3⟩ := good_left ((b.drop (lenB b)).take (k - lenB b) ++ t) hne g1
  rw [e]
  exact ⟨f1, f2.trans g2, f3.trans g3, List.drop_left' hl⟩
theorem first_on {b : List Int} (h0 : b ≠ []) {k : Nat} (hk : 0 < k) (t : List Int) : nth (b.take k ++ t) 0 = nth b 0 ∧ lenB (b.take k ++ t) = lenB b := by
  have hp := List.length_pos_iff.2 h0
  have e : nth (b.take k ++ t) 0 = nth b 0 := by rw [nth_left t (by rw [List.length_take]; omega), nth_take hk]
  exact ⟨e, by unfold lenB; rw [e]⟩

/-- Where a string ends, or its fault lies. -/
theorem str_bounds (b : List Int) : ∀ (p : Nat) (s : RS), ((strL b p s).2.2.1 = 0 → p < (strL b p s).2.1 ∧ (strL b p s).2.1 ≤ p + b.length) ∧ ((strL b p s).2.2.1 ≠ 0 → p ≤ (strL b p s).2.2.2 ∧ (strL b p s).2.2.2 ≤ p + b.length) := by
  induction b using text_ind with
  | nil => intro p s; rw [str_nil]; exact ⟨fun h => by simp at h, fun _ => by simp⟩
  | good b h0 h ih =>
    intro p s
    have hg := good_ne h h0
    by_cases h5 : (takeR s (valB b)).q = 5
    · rw [str_all h0 h h5]; simp; omega
    by_cases h6 : (takeR s (valB b)).q = 6
    · rw [str_wrong h0 h h6]; simp
    rw [str_on h0 h h5 h6]
    have := ih (p + lenB b) (takeR s (valB b))
    rw [List.length_drop] at this
    exact ⟨fun e => by have := this.1 e; omega, fun e => by have := this.2 e; omega⟩
  | bad b h0 h =>
    intro p s
    have hl := bad_le h0 h
    rw [str_bad h0 h]
    show ((brkR b p (s.q == 0)).1 = 0 → _) ∧ ((brkR b p (s.q == 0)).1 ≠ 0 → p ≤ (brkR b p (s.q == 0)).2 ∧ (brkR b p (s.q == 0)).2 ≤ p + b.length)
    unfold brkR
    repeat' split
    all_goals simp <;> omega
theorem take_five {s : RS} {r : Nat} (h4 : s.q ≤ 4) (h5 : (takeR s r).q = 5) : r = 34 := by
  unfold takeR at h5
  by_cases h0 : s.q = 0
  · rw [if_pos h0] at h5
    by_cases h : r = 34
    · exact h
    · rw [if_neg h] at h5
      exfalso
      revert h5
      repeat' split
      all_goals simp [putR]
  rw [if_neg h0] at h5
  exfalso
  by_cases h1 : s.q = 1
  · rw [if_pos h1] at h5
    revert h5
    repeat' split
    all_goals simp [putR]
  rw [if_neg h1] at h5
  by_cases h2 : s.q = 2
  · rw [if_pos h2] at h5
    revert h5
    split
    · unfold digR
      repeat' split
      all_goals simp
    · simp
  rw [if_neg h2] at h5
  by_cases h3 : s.q = 3
  · rw [if_pos h3] at h5
    revert h5
    dsimp only
    split <;> omega
  rw [if_neg h3, if_pos (by omega)] at h5
  revert h5
  dsimp only
  split <;> omega
theorem take_on {s : RS} {r : Nat} (h4 : s.q ≤ 4) (h5 : (takeR s r).q ≠ 5) (h6 : (takeR s r).q ≠ 6) : (takeR s r).q ≤ 4 := by
  have := take_le (s := s) (r := r) (by omega)
  omega
/-- A STRING HANGS ON ITS BYTES ALONE. -/
theorem str_local_ok (t : List Int) (b : List Int) : ∀ (p k : Nat) (s : RS), s.q ≤ 4 → (strL b p s).2.2.1 = 0 → (strL b p s).2.1 ≤ p + k → strL (b.take k ++ t) p s = strL b p s := by
  induction b using text_ind with
  | nil => intro p k s _ h; rw [str_nil] at h; simp at h
  | good b h0 h ih =>
    intro p k s h4 hw hk
    have hg := good_ne h h0
    have hb := str_bounds b p s
    have hb1 := hb.1 hw
    have hlk : lenB b ≤ k := by
      by_cases h5 : (takeR s (valB b)).q = 5
      · have h34 := take_five h4 h5
        by_cases h2 : 2 ≤ lenB b
        · have := lenB_two h h2; omega
        · omega
      · by_cases h6 : (takeR s (valB b)).q = 6
        · rw [str_wrong h0 h h6] at hw; simp at hw
        · rw [str_on h0 h h5 h6] at hw hk
          have := (str_bounds (b.drop (lenB b)) (p + lenB b) (takeR s (valB b))).1 hw
          omega
    obtain ⟨g1, g2, g3, g4⟩ := good_on h0 h hlk t
    have hne := take_ne (b := b) (k := k) t (by omega) h0
    rw [str_good hne g1, str_good h0 h, g3]
    by_cases h5 : (takeR s (valB b)).q = 5
    · rw [if_pos h5, if_pos h5]
    by_cases h6 : (takeR s (valB b)).q = 6
    · rw [if_neg h5, if_neg h5, if_pos h6, if_pos h6]
    rw [if_neg h5, if_neg h5, if_neg h6, if_neg h6, g2, g4]
    rw [str_on h0 h h5 h6] at hw hk
    exact ih (p + lenB b) (k - lenB b) _ (take_on h4 h5 h6) hw (by omega)
  | bad b h0 h =>
    intro p k s h4 hw
    rw [str_bad h0 h] at hw
    exfalso
    have hw' : (brkR b p (s.q == 0)).1 = 0 := hw
    unfold brkR at hw'
    revert hw'
    repeat' split
    all_goals simp
/-- A STRING'S FAULT HANGS ON THE BYTES UP TO IT ALONE. -/
theorem str_local_bad (t : List Int) (b : List Int) : ∀ (p k : Nat) (s : RS), s.q ≤ 4 → (strL b p s).2.2.1 ≠ 0 → (strL b p s).2.2.2 < p + b.length → (strL b p s).2.2.2 < p + k → (strL (b.take k ++ t) p s).2.2 = (strL b p s).2.2 := by
  induction b using text_ind with
  | nil => intro p k s _ h hl; rw [str_nil] at hl; simp at hl
  | good b h0 h ih =>
    intro p k s h4 hw hl hk
    have hg := good_ne h h0
    have hb := (str_bounds b p s).2 hw
    have hk0 : 0 < k := by omega
    have hne := take_ne (b := b) (k := k) t hk0 h0
    by_cases h5 : (takeR s (valB b)).q = 5
    · rw [str_all h0 h h5] at hw; simp at hw
    by_cases h6 : (takeR s (valB b)).q = 6
    · by_cases h2 : 2 ≤ lenB b
      · have q0 : s.q ≠ 0 := fun q0 => by
          have hv := lenB_two h h2
          unfold takeR at h6
          rw [if_pos q0, if_neg (by omega), if_neg (by omega), if_neg (by omega)] at h6
          simp [putR] at h6
        rw [str_big h0 q0 h4 h2, str_big hne q0 h4 (by rw [(first_on h0 hk0 t).2]; exact h2)]
      · obtain ⟨g1, g2, g3, g4⟩ := good_on h0 h (k := k) (by omega) t
        rw [str_good hne g1, str_good h0 h, g3, if_neg h5, if_neg h5, if_pos h6, if_pos h6]
    · rw [str_on h0 h h5 h6] at hw hl hk ⊢
      have hb2 := (str_bounds (b.drop (lenB b)) (p + lenB b) (takeR s (valB b))).2 hw
      obtain ⟨g1, g2, g3, g4⟩ := good_on h0 h (k := k) (by omega) t
      rw [str_good hne g1, g3, if_neg h5, if_neg h6, g2, g4]
      exact ih (p + lenB b) (k - lenB b) _ (take_on h4 h5 h6) hw (by rw [List.length_drop]; omega) (by omega)
  | bad b h0 h =>
    intro p k s h4 hw hl hk
    have hpos := List.length_pos_iff.2 h0
    have hbl := bad_le h0 h
    by_cases hz : badB b = 0
    · have e : (strL b p s).2.2 = (6, p) := by rw [str_bad h0 h]; show brkR b p (s.q == 0) = _; unfold brkR; rw [if_pos hz]
      rw [e] at hk ⊢
      have hk0 : 0 < k := by simp at hk; omega
      have hne := take_ne (b := b) (k := k) t hk0 h0
      have e1 : lenB (b.take k ++ t) = 0 := by
        rw [(first_on h0 hk0 t).2]
        rcases bad_cases h with ⟨e, q⟩ | ⟨e, _⟩ | ⟨e, _⟩ | ⟨e, _⟩
        · exact q
        all_goals omega
      have hb' : ¬ Good (b.take k ++ t) := fun g => g.1 e1
      rw [str_bad hne hb']
      show brkR (b.take k ++ t) p (s.q == 0) = _
      unfold brkR
      have : badB (b.take k ++ t) = 0 := by unfold badB; rw [if_pos e1]
      rw [if_pos this]
    · have hlen2 : 2 ≤ lenB b := by
        rcases bad_cases h with ⟨e, q⟩ | ⟨e, q, _⟩ | ⟨e, q, _⟩ | ⟨e, q, _⟩ <;> omega
      by_cases q0 : s.q = 0
      · have hq : (s.q == 0) = true := by simp [q0]
        have hlt : badB b ≠ b.length := fun e => by
          rw [str_bad h0 h] at hl
          have hl' : (brkR b p (s.q == 0)).2 < p + b.length := hl
          unfold brkR at hl'
          rw [if_neg hz, hq, if_neg (by simp), if_pos e] at hl'
          simp at hl'
          omega
        have e : (strL b p s).2.2 = (6, p + badB b) := by
          rw [str_bad h0 h]; show brkR b p (s.q == 0) = _; unfold brkR; rw [if_neg hz, hq, if_neg (by simp), if_neg hlt]
        rw [e] at hk ⊢
        have hk1 : badB b + 1 ≤ k := by simp at hk; omega
        have hsplit : b.take k ++ t = b.take (badB b + 1) ++ ((b.drop (badB b + 1)).take (k - (badB b + 1)) ++ t) := by
          rw [show k = (badB b + 1) + (k - (badB b + 1)) from by omega, List.take_add, List.append_assoc, show (badB b + 1) + (k - (badB b + 1)) - (badB b + 1) = k - (badB b + 1) from by omega]
        obtain ⟨n1, n2⟩ := bad_local h (by omega) ((b.drop (badB b + 1)).take (k - (badB b + 1)) ++ t)
        have hne := take_ne (b := b) (k := k) t (by omega) h0
        rw [hsplit] at hne ⊢
        rw [str_bad hne n1]
        show brkR _ p (s.q == 0) = _
        unfold brkR
        rw [n2, if_neg hz, hq, if_neg (by simp), if_neg]
        rw [List.length_append, List.length_take]
        by_cases hlong : k ≤ badB b + 1
        · omega
        · omega
      · have e := str_big (p := p) h0 q0 h4 hlen2
        rw [e] at hk ⊢
        have hk0 : 0 < k := by simp at hk; omega
        exact str_big (take_ne (b := b) (k := k) t hk0 h0) q0 h4 (by rw [(first_on h0 hk0 t).2]; exact hlen2)
end Go.Proofs.YtfkoghmbkgbgbaaDoor
