/-
  Numbers, words and tokens of JSON texts as plain data, and the tokens one behind the other; that a fault hangs on the bytes up to it alone, and that tokens stand in order with gaps alone between them. No program is named here.
-/
import Derived.Test.YtfkoghmbkgbgbaaDoorJpl
namespace Go.Proofs.YtfkoghmbkgbgbaaDoor
open Go
set_option linter.unusedVariables false

/-! ### Numbers -/
/-- How far a number goes on, and the state there. -/
def nuF : List Int → Nat → Nat → Nat × Nat
  | [], k, q => (k, q)
  | c :: l, k, q => if afterS q c = 9 then (k, q) else nuF l (k + 1) (afterS q c)
theorem nu_bounds (l : List Int) : ∀ k q, k ≤ (nuF l k q).1 ∧ (nuF l k q).1 ≤ k + l.length := by
  induction l with
  | nil => intro k q; simp [nuF]
  | cons c l ih =>
    intro k q
    rw [nuF]
    split
    · simp
    · have := ih (k + 1) (afterS q c)
      rw [List.length_cons]
      omega
theorem nu_wrong (l : List Int) : ∀ k q p, (nuF l k q).1 < k + l.length → ∃ p', runS l k q p = (some (nuF l k q).1, 9, p') := by
  induction l with
  | nil => intro k q p h; simp [nuF] at h
  | cons c l ih =>
    intro k q p h
    rw [nuF] at h ⊢
    unfold runS
    by_cases h9 : afterS q c = 9
    · rw [if_pos h9, if_pos h9]; exact ⟨p, rfl⟩
    · rw [if_neg h9] at h
      rw [if_neg h9, if_neg h9]
      rw [List.length_cons] at h
      exact ih _ _ _ (by omega)
theorem nu_whole (l : List Int) : ∀ k q p, (nuF l k q).1 = k + l.length → ∃ p', runS l k q p = (none, (nuF l k q).2, p') := by
  induction l with
  | nil => intro k q p h; exact ⟨p, rfl⟩
  | cons c l ih =>
    intro k q p h
    rw [nuF] at h ⊢
    unfold runS
    by_cases h9 : afterS q c = 9
    · rw [if_pos h9] at h; simp at h
    · rw [if_neg h9] at h
      rw [if_neg h9, if_neg h9]
      rw [List.length_cons] at h
      exact ih _ _ _ (by omega)
theorem nu_take (l : List Int) : ∀ k q, nuF (l.take ((nuF l k q).1 - k)) k q = nuF l k q := by
  induction l with
  | nil => intro k q; simp [nuF]
  | cons c l ih =>
    intro k q
    by_cases h9 : afterS q c = 9
    · have e : nuF (c :: l) k q = (k, q) := by rw [nuF, if_pos h9]
      rw [e]; simp [nuF]
    · have e : nuF (c :: l) k q = nuF l (k + 1) (afterS q c) := by rw [nuF, if_neg h9]
      have hb := nu_bounds l (k + 1) (afterS q c)
      rw [e, show (nuF l (k + 1) (afterS q c)).1 - k = ((nuF l (k + 1) (afterS q c)).1 - (k + 1)) + 1 from by omega, List.take_succ_cons, nuF, if_neg h9]
      exact ih _ _
theorem nu_local (t l : List Int) : ∀ k q m, (nuF l k q).1 < k + m → (nuF l k q).1 < k + l.length → nuF (l.take m ++ t) k q = nuF l k q := by
  induction l with
  | nil => intro k q m h h2; simp [nuF] at h2
  | cons c l ih =>
    intro k q m h h2
    have hm : 0 < m := by have := (nu_bounds (c :: l) k q).1; omega
    obtain ⟨m, rfl⟩ : ∃ m', m = m' + 1 := ⟨m - 1, by omega⟩
    rw [List.take_succ_cons, List.cons_append, nuF]
    by_cases h9 : afterS q c = 9
    · rw [if_pos h9, nuF, if_pos h9]
    · rw [if_neg h9]
      rw [nuF, if_neg h9] at h h2
      rw [nuF, if_neg h9]
      rw [List.length_cons] at h2
      exact ih _ _ _ (by omega) (by omega)

/-- A TOKEN. -/
structure Tk where
  kind : Nat
  frm : Nat
  to : Nat
  txt : List Int
def z0 : Tk := ⟨0, 0, 0, []⟩
def nuT (b : List Int) (p : Nat) : Tk × Nat × Nat :=
  if endS (nuF b 0 0).2 = true then (⟨8, p, p + (nuF b 0 0).1, b.take (nuF b 0 0).1⟩, 0, 0) else if (nuF b 0 0).1 = b.length then (z0, 3, p + b.length) else (z0, 5, p + (nuF b 0 0).1)
theorem nuT_why (b : List Int) (p : Nat) : (nuT b p).2.1 = 0 ↔ endS (nuF b 0 0).2 = true := by
  unfold nuT
  by_cases h : endS (nuF b 0 0).2 = true
  · rw [if_pos h]; simp [h]
  · rw [if_neg h]; split <;> simp [h]
theorem nu_pos {c : Int} (b : List Int) (hc : c = 45 ∨ isD c = true) : 1 ≤ (nuF (c :: b) 0 0).1 := by
  rw [nuF]
  have h9 : afterS 0 c ≠ 9 := by
    unfold afterS afMinus
    rw [if_pos rfl]
    rcases hc with rfl | hc
    · simp
    · split
      · simp
      · split
        · simp
        · simp
  rw [if_neg h9]
  exact (nu_bounds b 1 _).1

/-! ### Words -/
def wrdF : List Int → List Int → Nat → Nat × Nat
  | [], _, k => (0, k)
  | _ :: _, [], k => (3, k)
  | c :: w, x :: b, k => if x = c then wrdF w b (k + 1) else (5, k)
theorem wrd_bounds (w : List Int) : ∀ b k, ((wrdF w b k).1 = 0 → (wrdF w b k).2 = k + w.length ∧ w.length ≤ b.length) ∧ k ≤ (wrdF w b k).2 ∧ (wrdF w b k).2 ≤ k + b.length ∧ ((wrdF w b k).1 = 5 → (wrdF w b k).2 < k + b.length) ∧ ((wrdF w b k).1 = 0 ∨ (wrdF w b k).1 = 3 ∨ (wrdF w b k).1 = 5) ∧ ((wrdF w b k).1 = 3 → (wrdF w b k).2 = k + b.length) := by
  induction w with
  | nil => intro b k; simp [wrdF]
  | cons c w ih =>
    intro b k
    cases b with
    | nil => simp [wrdF]
    | cons x b =>
      rw [wrdF]
      split
      · have := ih b (k + 1)
        rw [List.length_cons, List.length_cons]
        refine ⟨fun h => ?_, ?_, ?_, fun h => ?_, this.2.2.2.2.1, fun h => ?_⟩
        · have := this.1 h; omega
        · omega
        · omega
        · have := this.2.2.2.1 h; omega
        · have := this.2.2.2.2.2 h; omega
      · simp
theorem wrd_local (t w : List Int) : ∀ b k m, ((wrdF w b k).1 = 0 → (wrdF w b k).2 ≤ k + m) → ((wrdF w b k).1 = 5 → (wrdF w b k).2 < k + m) → (wrdF w b k).1 ≠ 3 → wrdF w (b.take m ++ t) k = wrdF w b k := by
  induction w with
  | nil => intro b k m _ _ _; rw [wrdF, wrdF]
  | cons c w ih =>
    intro b k m h0 h5 h3
    cases b with
    | nil => simp [wrdF] at h3
    | cons x b =>
      have hb := wrd_bounds (c :: w) (x :: b) k
      have hm : 0 < m := by
        rcases hb.2.2.2.2.1 with h | h | h
        · have := h0 h; have := (hb.1 h).1; rw [List.length_cons] at this; omega
        · exact absurd h h3
        · have := h5 h; omega
      obtain ⟨m, rfl⟩ : ∃ m', m = m' + 1 := ⟨m - 1, by omega⟩
      rw [List.take_succ_cons, List.cons_append, wrdF]
      by_cases hx : x = c
      · rw [if_pos hx]
        rw [wrdF, if_pos hx] at h0 h5 h3
        rw [wrdF, if_pos hx]
        exact ih _ _ _ (fun h => by have := h0 h; omega) (fun h => by have := h5 h; omega) h3
      · rw [if_neg hx, wrdF, if_neg hx]
def wrdT (kind : Nat) (w b : List Int) (p : Nat) : Tk × Nat × Nat :=
  if (wrdF w b 0).1 = 0 then (⟨kind, p, p + w.length, []⟩, 0, 0) else (z0, (wrdF w b 0).1, p + (wrdF w b 0).2)

/-! ### Tokens -/
def signN (c : Int) : Nat := if c = 123 then 1 else if c = 125 then 2 else if c = 91 then 3 else if c = 93 then 4 else if c = 58 then 5 else if c = 44 then 6 else 0
theorem sign_le (c : Int) : signN c ≤ 6 := by
  unfold signN
  repeat' split
  all_goals omega
/-- THE TOKEN THAT BEGINS THERE, or its fault. -/
def tokR (b : List Int) (p : Nat) : Tk × Nat × Nat :=
  if signN (b.getD 0 0) ≠ 0 then (⟨signN (b.getD 0 0), p, p + 1, []⟩, 0, 0)
  else if b.getD 0 0 = 34 then (⟨7, p, (strL (b.drop 1) (p + 1) r0).2.1, (strL (b.drop 1) (p + 1) r0).1⟩, (strL (b.drop 1) (p + 1) r0).2.2)
  else if b.getD 0 0 = 45 ∨ isD (b.getD 0 0) = true then nuT b p
  else if b.getD 0 0 = 116 then wrdT 9 [116, 114, 117, 101] b p
  else if b.getD 0 0 = 102 then wrdT 10 [102, 97, 108, 115, 101] b p
  else if b.getD 0 0 = 110 then wrdT 11 [110, 117, 108, 108] b p
  else (z0, 5, p)
theorem wrdT_bounds {kind : Nat} {w b : List Int} {p : Nat} (hk : 1 ≤ kind ∧ kind ≤ 11) (hw : 0 < w.length) : ((wrdT kind w b p).2.1 = 0 → (wrdT kind w b p).1.frm = p ∧ p < (wrdT kind w b p).1.to ∧ (wrdT kind w b p).1.to ≤ p + b.length ∧ 1 ≤ (wrdT kind w b p).1.kind ∧ (wrdT kind w b p).1.kind ≤ 11) ∧ ((wrdT kind w b p).2.1 ≠ 0 → p ≤ (wrdT kind w b p).2.2 ∧ (wrdT kind w b p).2.2 ≤ p + b.length) := by
  have hb := wrd_bounds w b 0
  unfold wrdT
  by_cases h : (wrdF w b 0).1 = 0
  · rw [if_pos h]
    have := (hb.1 h).2
    exact ⟨fun _ => ⟨rfl, by show p < p + _; omega, by show p + _ ≤ _; omega, hk.1, hk.2⟩, fun e => absurd rfl e⟩
  · rw [if_neg h]
    exact ⟨fun e => absurd e h, fun _ => ⟨by show p ≤ p + _; omega, by show p + _ ≤ _; omega⟩⟩
theorem wrdT_local_ok {kind : Nat} {w b : List Int} {p k : Nat} (t : List Int) (h : (wrdT kind w b p).2.1 = 0) (hk : (wrdT kind w b p).1.to ≤ p + k) : wrdT kind w (b.take k ++ t) p = wrdT kind w b p := by
  have hb := wrd_bounds w b 0
  unfold wrdT at *
  by_cases h0 : (wrdF w b 0).1 = 0
  · rw [if_pos h0] at hk
    have hk' : p + w.length ≤ p + k := hk
    rw [wrd_local t w b 0 k (fun _ => by rw [(hb.1 h0).1]; omega) (fun e => by omega) (by omega)]
  · rw [if_neg h0] at h; exact absurd h h0
theorem wrdT_local_bad {kind : Nat} {w b : List Int} {p k : Nat} (t : List Int) (h : (wrdT kind w b p).2.1 ≠ 0) (hl : (wrdT kind w b p).2.2 < p + b.length) (hk : (wrdT kind w b p).2.2 < p + k) : wrdT kind w (b.take k ++ t) p = wrdT kind w b p := by
  have hb := wrd_bounds w b 0
  unfold wrdT at *
  by_cases h0 : (wrdF w b 0).1 = 0
  · rw [if_pos h0] at h; exact absurd rfl h
  · rw [if_neg h0] at hk hl
    have hk' : p + (wrdF w b 0).2 < p + k := hk
    have hl' : p + (wrdF w b 0).2 < p + b.length := hl
    rw [wrd_local t w b 0 k (fun e => absurd e h0) (fun _ => by omega) (fun e => by have := hb.2.2.2.2.2 e; omega)]
theorem tok_bounds {b : List Int} (h0 : b ≠ []) (p : Nat) : ((tokR b p).2.1 = 0 → (tokR b p).1.frm = p ∧ p < (tokR b p).1.to ∧ (tokR b p).1.to ≤ p + b.length ∧ 1 ≤ (tokR b p).1.kind ∧ (tokR b p).1.kind ≤ 11) ∧ ((tokR b p).2.1 ≠ 0 → p ≤ (tokR b p).2.2 ∧ (tokR b p).2.2 ≤ p + b.length) := by
  have hp := List.length_pos_iff.2 h0
  unfold tokR
  by_cases h1 : signN (b.getD 0 0) ≠ 0
  · rw [if_pos h1]
    have := sign_le (b.getD 0 0)
    exact ⟨fun _ => ⟨rfl, Nat.lt_succ_self p, by show p + 1 ≤ _; omega, by show 1 ≤ signN _; omega, by show signN _ ≤ 11; omega⟩, fun e => absurd rfl e⟩
  rw [if_neg h1]
  by_cases h2 : b.getD 0 0 = 34
  · rw [if_pos h2]
    have hb := str_bounds (b.drop 1) (p + 1) r0
    rw [List.length_drop] at hb
    exact ⟨fun e => by have := hb.1 e; exact ⟨rfl, by show p < (strL (b.drop 1) (p + 1) r0).2.1; omega, by show (strL (b.drop 1) (p + 1) r0).2.1 ≤ _; omega, by show 1 ≤ 7; omega, by show 7 ≤ 11; omega⟩, fun e => by have := hb.2 e; exact ⟨by show p ≤ (strL (b.drop 1) (p + 1) r0).2.2.2; omega, by show (strL (b.drop 1) (p + 1) r0).2.2.2 ≤ _; omega⟩⟩
  rw [if_neg h2]
  by_cases h3 : b.getD 0 0 = 45 ∨ isD (b.getD 0 0) = true
  · rw [if_pos h3]
    have hb := nu_bounds b 0 0
    have h1 : 1 ≤ (nuF b 0 0).1 := by
      cases b with
      | nil => exact absurd rfl h0
      | cons c b => exact nu_pos b h3
    unfold nuT
    by_cases he : endS (nuF b 0 0).2 = true
    · rw [if_pos he]
      exact ⟨fun _ => ⟨rfl, by show p < p + _; omega, by show p + _ ≤ _; omega, by show 1 ≤ 8; omega, by show 8 ≤ 11; omega⟩, fun e => absurd rfl e⟩
    · rw [if_neg he]
      by_cases hl : (nuF b 0 0).1 = b.length
      · rw [if_pos hl]
        exact ⟨fun e => (by cases e), fun _ => ⟨by show p ≤ p + _; omega, Nat.le_refl _⟩⟩
      · rw [if_neg hl]
        exact ⟨fun e => (by cases e), fun _ => ⟨by show p ≤ p + _; omega, by show p + _ ≤ _; omega⟩⟩
  rw [if_neg h3]
  by_cases h4 : b.getD 0 0 = 116
  · rw [if_pos h4]; exact wrdT_bounds ⟨by omega, by omega⟩ (by decide)
  rw [if_neg h4]
  by_cases h5 : b.getD 0 0 = 102
  · rw [if_pos h5]; exact wrdT_bounds ⟨by omega, by omega⟩ (by decide)
  rw [if_neg h5]
  by_cases h6 : b.getD 0 0 = 110
  · rw [if_pos h6]; exact wrdT_bounds ⟨by omega, by omega⟩ (by decide)
  rw [if_neg h6]
  exact ⟨fun e => (by cases e), fun _ => ⟨Nat.le_refl _, by show p ≤ _; omega⟩⟩
theorem head_on {b : List Int} (h0 : b ≠ []) {k : Nat} (hk : 0 < k) (t : List Int) : (b.take k ++ t).getD 0 0 = b.getD 0 0 ∧ (b.take k ++ t).drop 1 = (b.drop 1).take (k - 1) ++ t := by
  cases b with
  | nil => exact absurd rfl h0
  | cons c b =>
    obtain ⟨k, rfl⟩ : ∃ k', k = k' + 1 := ⟨k - 1, by omega⟩
    rw [List.take_succ_cons]
    exact ⟨rfl, rfl⟩
theorem r0_q : r0.q ≤ 4 := by decide
theorem tok_local_ok {b : List Int} (h0 : b ≠ []) {p k : Nat} (t : List Int) (h : (tokR b p).2.1 = 0) (hl : (tokR b p).1.to < p + b.length) (hk : (tokR b p).1.to < p + k) : tokR (b.take k ++ t) p = tokR b p := by
  have hb := ((tok_bounds h0 p).1 h).2.1
  obtain ⟨e1, e2⟩ := head_on h0 (k := k) (by omega) t
  unfold tokR at *
  rw [e1, e2]
  by_cases h1 : signN (b.getD 0 0) ≠ 0
  · rw [if_pos h1, if_pos h1]
  rw [if_neg h1] at h hl hk ⊢
  rw [if_neg h1]
  by_cases h2 : b.getD 0 0 = 34
  · rw [if_pos h2] at h hl hk ⊢
    rw [if_pos h2]
    have hk' : (strL (b.drop 1) (p + 1) r0).2.1 < p + k := hk
    rw [str_local_ok t (b.drop 1) (p + 1) (k - 1) r0 r0_q h (by omega)]
  rw [if_neg h2] at h hl hk ⊢
  rw [if_neg h2]
  by_cases h3 : b.getD 0 0 = 45 ∨ isD (b.getD 0 0) = true
  · rw [if_pos h3] at h hl hk ⊢
    rw [if_pos h3]
    have he := (nuT_why b p).1 h
    have hk' : (nuF b 0 0).1 < k ∧ (nuF b 0 0).1 < b.length := by
      unfold nuT at hk hl
      rw [if_pos he] at hk hl
      have hk2 : p + (nuF b 0 0).1 < p + k := hk
      have hl2 : p + (nuF b 0 0).1 < p + b.length := hl
      exact ⟨by omega, by omega⟩
    have e := nu_local t b 0 0 k (by omega) (by omega)
    unfold nuT
    rw [e, if_pos he, if_pos he, List.take_append_of_le_length (by rw [List.length_take]; omega), List.take_take, Nat.min_eq_left (by omega)]
  rw [if_neg h3] at h hl hk ⊢
  rw [if_neg h3]
  by_cases h4 : b.getD 0 0 = 116
  · rw [if_pos h4] at h hl hk ⊢; rw [if_pos h4]; exact wrdT_local_ok t h (Nat.le_of_lt hk)
  rw [if_neg h4] at h hl hk ⊢
  rw [if_neg h4]
  by_cases h5 : b.getD 0 0 = 102
  · rw [if_pos h5] at h hl hk ⊢; rw [if_pos h5]; exact wrdT_local_ok t h (Nat.le_of_lt hk)
  rw [if_neg h5] at h hl hk ⊢
  rw [if_neg h5]
  by_cases h6 : b.getD 0 0 = 110
  · rw [if_pos h6] at h hl hk ⊢; rw [if_pos h6]; exact wrdT_local_ok t h (Nat.le_of_lt hk)
  rw [if_neg h6, if_neg h6]
theorem tok_local_bad {b : List Int} (h0 : b ≠ []) {p k : Nat} (t : List Int) (h : (tokR b p).2.1 ≠ 0) (hl : (tokR b p).2.2 < p + b.length) (hk : (tokR b p).2.2 < p + k) : (tokR (b.take k ++ t) p).2 = (tokR b p).2 := by
  have hb := ((tok_bounds h0 p).2 h).1
  obtain ⟨e1, e2⟩ := head_on h0 (k := k) (by omega) t
  have hp := List.length_pos_iff.2 h0
  unfold tokR at *
  rw [e1, e2]
  by_cases h1 : signN (b.getD 0 0) ≠ 0
  · rw [if_pos h1, if_pos h1]
  rw [if_neg h1] at h hl hk ⊢
  rw [if_neg h1]
  by_cases h2 : b.getD 0 0 = 34
  · rw [if_pos h2] at h hl hk ⊢
    rw [if_pos h2]
    have hk' : (strL (b.drop 1) (p + 1) r0).2.2.2 < p + k := hk
    have hl' : (strL (b.drop 1) (p + 1) r0).2.2.2 < p + b.length := hl
    exact str_local_bad t (b.drop 1) (p + 1) (k - 1) r0 r0_q h (by rw [List.length_drop]; omega) (by omega)
  rw [if_neg h2] at h hl hk ⊢
  rw [if_neg h2]
  by_cases h3 : b.getD 0 0 = 45 ∨ isD (b.getD 0 0) = true
  · rw [if_pos h3] at h hl hk ⊢
    rw [if_pos h3]
    have he : ¬ endS (nuF b 0 0).2 = true := fun e => h ((nuT_why b p).2 e)
    unfold nuT at hk hl ⊢
    rw [if_neg he] at hk hl ⊢
    by_cases hn : (nuF b 0 0).1 = b.length
    · rw [if_pos hn] at hl
      have hl2 : p + b.length < p + b.length := hl
      omega
    · rw [if_neg hn] at hl hk ⊢
      have hl2 : p + (nuF b 0 0).1 < p + b.length := hl
      have hk2 : p + (nuF b 0 0).1 < p + k := hk
      have e := nu_local t b 0 0 k (by omega) (by omega)
      rw [e, if_neg he, if_neg]
      rw [List.length_append, List.length_take]
      omega
  rw [if_neg h3] at h hl hk ⊢
  rw [if_neg h3]
  by_cases h4 : b.getD 0 0 = 116
  · rw [if_pos h4] at h hl hk ⊢; rw [if_pos h4, wrdT_local_bad t h hl hk]
  rw [if_neg h4] at h hl hk ⊢
  rw [if_neg h4]
  by_cases h5 : b.getD 0 0 = 102
  · rw [if_pos h5] at h hl hk ⊢; rw [if_pos h5, wrdT_local_bad t h hl hk]
  rw [if_neg h5] at h hl hk ⊢
  rw [if_neg h5]
  by_cases h6 : b.getD 0 0 = 110
  · rw [if_pos h6] at h hl hk ⊢; rw [if_pos h6, wrdT_local_bad t h hl hk]
  rw [if_neg h6, if_neg h6]

/-! ### One behind the other -/
def isGap (c : Int) : Bool := c == 32 || (c == 9 || (c == 10 || c == 13))
/-- How many gaps stand ahead. -/
def gapN : List Int → Nat
  | [] => 0
  | c :: b => if isGap c = true then gapN b + 1 else 0
theorem gap_le (b : List Int) : gapN b ≤ b.length := by
  induction b with
  | nil => simp [gapN]
  | cons c b ih => rw [gapN]; split <;> simp <;> omega
theorem gap_all (b : List Int) : ∀ i, i < gapN b → isGap (b.getD i 0) = true := by
  induction b with
  | nil => intro i h; simp [gapN] at h
  | cons c b ih =>
    intro i h
    rw [gapN] at h
    split at h
    · cases i with
      | zero => assumption
      | succ i => exact ih i (by omega)
    · omega
theorem gap_not (b : List Int) : gapN b < b.length → isGap (b.getD (gapN b) 0) = false := by
  induction b with
  | nil => intro h; simp [gapN] at h
  | cons c b ih =>
    intro h
    rw [gapN] at h ⊢
    split
    · rename_i hc
      rw [if_pos hc] at h
      exact ih (by simpa using h)
    · rename_i hc; simpa using hc
theorem gap_local (t b : List Int) : ∀ k, gapN b < k → gapN b < b.length → gapN (b.take k ++ t) = gapN b := by
  induction b with
  | nil => intro k h h2; simp [gapN] at h2
  | cons c b ih =>
    intro k h h2
    obtain ⟨k, rfl⟩ : ∃ k', k = k' + 1 := ⟨k - 1, by omega⟩
    rw [List.take_succ_cons, List.cons_append, gapN, gapN]
    by_cases hc : isGap c = true
    · rw [gapN, if_pos hc] at h h2
      rw [if_pos hc, if_pos hc, ih k (by omega) (by simpa using h2)]
    · rw [if_neg hc, if_neg hc]
/-- THE TOKENS, and the first fault. -/
def lexF : Nat → List Int → Nat → List Tk × Nat × Nat
  | 0, _, _ => ([], 0, 0)
  | n + 1, b, p => if b.drop (gapN b) = [] then ([], 0, 0)
    else if (tokR (b.drop (gapN b)) (p + gapN b)).2.1 ≠ 0 then ([], (tokR (b.drop (gapN b)) (p + gapN b)).2)
    else ((tokR (b.drop (gapN b)) (p + gapN b)).1 :: (lexF n (b.drop ((tokR (b.drop (gapN b)) (p + gapN b)).1.to - p)) (tokR (b.drop (gapN b)) (p + gapN b)).1.to).1,
      (lexF n (b.drop ((tokR (b.drop (gapN b)) (p + gapN b)).1.to - p)) (tokR (b.drop (gapN b)) (p + gapN b)).1.to).2)
theorem drop_lt {b : List Int} {g : Nat} (h : b.drop g ≠ []) : g < b.length := by
  rcases Nat.lt_or_ge g b.length with h1 | h1
  · exact h1
  · exact absurd (List.drop_eq_nil_of_le h1) h
theorem lexF_more (n : Nat) : ∀ (b : List Int) (m p : Nat), b.length < n → n ≤ m → lexF m b p = lexF n b p := by
  induction n with
  | zero => intro b m p h; omega
  | succ n ih =>
    intro b m p h hm
    obtain ⟨m, rfl⟩ : ∃ m', m = m' + 1 := ⟨m - 1, by omega⟩
    rw [lexF, lexF]
    by_cases h1 : b.drop (gapN b) = []
    · rw [if_pos h1, if_pos h1]
    · rw [if_neg h1, if_neg h1]
      by_cases h2 : (tokR (b.drop (gapN b)) (p + gapN b)).2.1 ≠ 0
      · rw [if_pos h2, if_pos h2]
      · rw [if_neg h2, if_neg h2]
        have hb := (tok_bounds h1 (p + gapN b)).1 (by simpa using h2)
        have hl := drop_lt h1
        rw [ih (b.drop ((tokR (b.drop (gapN b)) (p + gapN b)).1.to - p)) m _ (by rw [List.length_drop]; omega) (by omega)]
def lexA (b : List Int) (p : Nat) : List Tk × Nat × Nat := lexF (b.length + 1) b p
theorem lex_end {b : List Int} {p : Nat} (h : b.drop (gapN b) = []) : lexA b p = ([], 0, 0) := by unfold lexA; rw [lexF, if_pos h]
theorem lex_bad {b : List Int} {p : Nat} (h : b.drop (gapN b) ≠ []) (h2 : (tokR (b.drop (gapN b)) (p + gapN b)).2.1 ≠ 0) : lexA b p = ([], (tokR (b.drop (gapN b)) (p + gapN b)).2) := by unfold lexA; rw [lexF, if_neg h, if_pos h2]
theorem lex_tok {b : List Int} {p : Nat} (h : b.drop (gapN b) ≠ []) (h2 : (tokR (b.drop (gapN b)) (p + gapN b)).2.1 = 0) : lexA b p = ((tokR (b.drop (gapN b)) (p + gapN b)).1 :: (lexA (b.drop ((tokR (b.drop (gapN b)) (p + gapN b)).1.to - p)) (tokR (b.drop (gapN b)) (p + gapN b)).1.to).1, (lexA (b.drop ((tokR (b.drop (gapN b)) (p + gapN b)).1.to - p)) (tokR (b.drop (gapN b)) (p + gapN b)).1.to).2) := by
  have hb := (tok_bounds h (p + gapN b)).1 h2
  have hl := drop_lt h
  unfold lexA
  rw [lexF, if_neg h, if_neg (fun e => e h2), lexF_more _ (b.drop ((tokR (b.drop (gapN b)) (p + gapN b)).1.to - p)) b.length _ (Nat.lt_succ_self _) (by rw [List.length_drop]; omega)]
theorem lex_ind {M : List Int → Nat → Prop} (nil : ∀ b p, b.drop (gapN b) = [] → M b p) (bad : ∀ b p, b.drop (gapN b) ≠ [] → (tokR (b.drop (gapN b)) (p + gapN b)).2.1 ≠ 0 → M b p)
    (tok : ∀ b p, b.drop (gapN b) ≠ [] → (tokR (b.drop (gapN b)) (p + gapN b)).2.1 = 0 → M (b.drop ((tokR (b.drop (gapN b)) (p + gapN b)).1.to - p)) (tokR (b.drop (gapN b)) (p + gapN b)).1.to → M b p) : ∀ b p, M b p := by
  have key : ∀ n b p, b.length < n → M b p := by
    intro n
    induction n with
    | zero => intro b p h; omega
    | succ n ih =>
      intro b p h
      by_cases h1 : b.drop (gapN b) = []
      · exact nil b p h1
      · by_cases h2 : (tokR (b.drop (gapN b)) (p + gapN b)).2.1 = 0
        · have hb := (tok_bounds h1 (p + gapN b)).1 h2
          have hl := drop_lt h1
          exact tok b p h1 h2 (ih _ _ (by rw [List.length_drop]; omega))
        · exact bad b p h1 h2
  exact fun b p => key (b.length + 1) b p (Nat.lt_succ_self _)
theorem lex_fault (b : List Int) (p : Nat) : (lexA b p).2.1 ≠ 0 → p ≤ (lexA b p).2.2 ∧ (lexA b p).2.2 ≤ p + b.length := by
  induction b, p using lex_ind with
  | nil b p h => rw [lex_end h]; intro e; exact absurd rfl e
  | bad b p h h2 =>
    intro _
    rw [lex_bad h h2]
    have hb := (tok_bounds h (p + gapN b)).2 h2
    have hl := drop_lt h
    rw [List.length_drop] at hb
    show p ≤ (tokR (b.drop (gapN b)) (p + gapN b)).2.2 ∧ (tokR (b.drop (gapN b)) (p + gapN b)).2.2 ≤ _
    omega
  | tok b p h h2 ih =>
    rw [lex_tok h h2]
    intro e
    have hb := (tok_bounds h (p + gapN b)).1 h2
    have hl := drop_lt h
    have := ih e
    rw [List.length_drop] at this hb
    show p ≤ (lexA _ _).2.2 ∧ (lexA _ _).2.2 ≤ _
    omega
/-- THE FAULT HANGS ON THE BYTES UP TO IT ALONE. -/
theorem lex_local (t : List Int) (b : List Int) (p : Nat) : ∀ k, (lexA b p).2.1 ≠ 0 → (lexA b p).2.2 < p + b.length → (lexA b p).2.2 < p + k → (lexA (b.take k ++ t) p).2 = (lexA b p).2 := by
  induction b, p using lex_ind with
  | nil b p h => intro k e; rw [lex_end h] at e; exact absurd rfl e
  | bad b p h h2 =>
    intro k _ hl hk
    have hgl := drop_lt h
    have hb := (tok_bounds h (p + gapN b)).2 h2
    rw [lex_bad h h2] at hl hk ⊢
    have hl' : (tokR (b.drop (gapN b)) (p + gapN b)).2.2 < p + b.length := hl
    have hk' : (tokR (b.drop (gapN b)) (p + gapN b)).2.2 < p + k := hk
    have eg := gap_local t b k (by omega) hgl
    have ed : (b.take k ++ t).drop (gapN b) = (b.drop (gapN b)).take (k - gapN b) ++ t := by
      rw [List.drop_append_of_le_length (by rw [List.length_take]; omega), List.drop_take]
    have et := tok_local_bad h (p := p + gapN b) (k := k - gapN b) t h2 (by rw [List.length_drop]; omega) (by omega)
    have hne : (b.take k ++ t).drop (gapN (b.take k ++ t)) ≠ [] := by
      rw [eg, ed]; exact take_ne t (by omega) h
    rw [lex_bad hne (by rw [eg, ed, et]; exact h2), eg, ed, et]
  | tok b p h h2 ih =>
    intro k he hl hk
    have hgl := drop_lt h
    have hb := (tok_bounds h (p + gapN b)).1 h2
    rw [lex_tok h h2] at he hl hk ⊢
    have he' : (lexA (b.drop ((tokR (b.drop (gapN b)) (p + gapN b)).1.to - p)) (tokR (b.drop (gapN b)) (p + gapN b)).1.to).2.1 ≠ 0 := he
    have hl' : (lexA (b.drop ((tokR (b.drop (gapN b)) (p + gapN b)).1.to - p)) (tokR (b.drop (gapN b)) (p + gapN b)).1.to).2.2 < p + b.length := hl
    have hk' : (lexA (b.drop ((tokR (b.drop (gapN b)) (p + gapN b)).1.to - p)) (tokR (b.drop (gapN b)) (p + gapN b)).1.to).2.2 < p + k := hk
    have hf := lex_fault _ _ he'
    rw [List.length_drop] at hf hb
    have eg := gap_local t b k (by omega) hgl
    have ed : (b.take k ++ t).drop (gapN b) = (b.drop (gapN b)).take (k - gapN b) ++ t := by
      rw [List.drop_append_of_le_length (by rw [List.length_take]; omega), List.drop_take]
    have et := tok_local_ok h (p := p + gapN b) (k := k - gapN b) t h2 (by rw [List.length_drop]; omega) (by omega)
    have hne : (b.take k ++ t).drop (gapN (b.take k ++ t)) ≠ [] := by
      rw [eg, ed]; exact take_ne t (by omega) h
    have ed2 : (b.take k ++ t).drop ((tokR (b.drop (gapN b)) (p + gapN b)).1.to - p) = (b.drop ((tokR (b.drop (gapN b)) (p + gapN b)).1.to - p)).take (k - ((tokR (b.drop (gapN b)) (p + gapN b)).1.to - p)) ++ t := by
      rw [List.drop_append_of_le_length (by rw [List.length_take]; omega), List.drop_take]
    rw [lex_tok hne (by rw [eg, ed, et]; exact h2), eg, ed, et, ed2]
    exact ih _ he' (by rw [List.length_drop]; omega) (by omega)

/-- What is said of tokens in order: gaps alone between them; behind the last from e on. -/
def Ordr (zs : List Int) : Nat → List Tk → Prop
  | _, [] => True
  | at_, t :: l => at_ ≤ t.frm ∧ t.frm < t.to ∧ t.to ≤ zs.length ∧ 1 ≤ t.kind ∧ t.kind ≤ 11 ∧ (∀ i, at_ ≤ i → i < t.frm → isGap (zs.getD i 0) = true) ∧ Ordr zs t.to l
def lastTo : Nat → List Tk → Nat
  | p, [] => p
  | _, t :: l => lastTo t.to l
theorem getD_drop (b : List Int) (p i : Nat) : (b.drop p).getD i 0 = b.getD (p + i) 0 := by
  rw [List.getD_eq_getElem?_getD, List.getElem?_drop, ← List.getD_eq_getElem?_getD]
/-- TOKENS STAND IN ORDER, AND BETWEEN THEM ONLY GAPS. -/
theorem lex_order (zs : List Int) (b : List Int) (p : Nat) : b = zs.drop p → p ≤ zs.length → Ordr zs p (lexA b p).1 ∧ ((lexA b p).2.1 = 0 → (lexA b p).2.2 = 0 ∧ ∀ i, lastTo p (lexA b p).1 ≤ i → i < zs.length → isGap (zs.getD i 0) = true) ∧ ((lexA b p).2.1 ≠ 0 → lastTo p (lexA b p).1 ≤ (lexA b p).2.2 ∧ (lexA b p).2.2 ≤ zs.length) := by
  induction b, p using lex_ind with
  | nil b p h =>
    intro hb hp
    rw [lex_end h]
    refine ⟨trivial, fun _ => ⟨rfl, fun i h1 h2 => ?_⟩, fun e => absurd rfl e⟩
    have hlen : gapN b = b.length := by
      have := gap_le b
      rcases Nat.lt_or_ge (gapN b) b.length with h3 | h3
      · have := congrArg List.length h; rw [List.length_drop, List.length_nil] at this; omega
      · omega
    have hl : b.length = zs.length - p := by rw [hb, List.length_drop]
    have h1' : p ≤ i := h1
    have := gap_all b (i - p) (by omega)
    rw [hb, getD_drop] at this
    rwa [show p + (i - p) = i from by omega] at this
  | bad b p h h2 =>
    intro hb hp
    rw [lex_bad h h2]
    refine ⟨trivial, fun e => absurd e h2, fun _ => ?_⟩
    have hbd := (tok_bounds h (p + gapN b)).2 h2
    have hl : b.length = zs.length - p := by rw [hb, List.length_drop]
    have hgl := drop_lt h
    rw [List.length_drop] at hbd
    show p ≤ (tokR (b.drop (gapN b)) (p + gapN b)).2.2 ∧ (tokR (b.drop (gapN b)) (p + gapN b)).2.2 ≤ _
    omega
  | tok b p h h2 ih =>
    intro hb hp
    rw [lex_tok h h2]
    have hbd := (tok_bounds h (p + gapN b)).1 h2
    have hl : b.length = zs.length - p := by rw [hb, List.length_drop]
    have hgl := drop_lt h
    rw [List.length_drop] at hbd
    have e : ∀ T, p ≤ T → b.drop (T - p) = zs.drop T := fun T hT => by rw [hb, List.drop_drop]; congr 1; omega
    obtain ⟨i1, i2, i3⟩ := ih (e _ (by omega)) (by omega)
    refine ⟨⟨?_, ?_, ?_, hbd.2.2.2.1, hbd.2.2.2.2, fun i h1 h3 => ?_, i1⟩, i2, i3⟩
    · rw [hbd.1]; omega
    · rw [hbd.1]; omega
    · omega
    · rw [hbd.1] at h3
      have := gap_all b (i - p) (by omega)
      rw [hb, getD_drop] at this
      rwa [show p + (i - p) = i from by omega] at this
end Go.Proofs.YtfkoghmbkgbgbaaDoor
