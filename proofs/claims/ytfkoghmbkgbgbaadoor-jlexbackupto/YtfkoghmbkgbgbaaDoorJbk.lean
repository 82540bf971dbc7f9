/-
  What the reader of strings makes of an escaped text: the text itself. No program is named here.
-/
import Derived.Test.YtfkoghmbkgbgbaaDoorJea
namespace Go.Proofs.YtfkoghmbkgbgbaaDoor
open Go.RowKit
set_option linter.unusedVariables false

/-- One character of one byte. -/
theorem kstr_step {c : Nat} (hc : c < 128) (t : List Int) (p : Nat) (s : RS) (h5 : (takeR s c).q ≠ 5) (h6 : (takeR s c).q ≠ 6) : strL ((c : Int) :: t) p s = strL t (p + 1) (takeR s c) := by
  have e : encL c = [(c : Int)] := by unfold encL; rw [if_pos hc]
  obtain ⟨g1, g2, g3⟩ := enc_good (r := c) ⟨by omega, .inl (by omega)⟩ t
  rw [e] at g1 g2 g3
  have h0 : [(c : Int)] ++ t ≠ [] := by simp
  have := str_on (p := p) (s := s) h0 g1 (by rw [g3]; exact h5) (by rw [g3]; exact h6)
  rw [g2, g3] at this
  exact this
theorem kstr_end (t : List Int) (p : Nat) (x : List Int) : strL ((34 : Int) :: t) p ⟨0, 0, 0, 0, x⟩ = (x, p + 1, 0, 0) := by
  have e : encL 34 = [(34 : Int)] := rfl
  obtain ⟨g1, g2, g3⟩ := enc_good (r := 34) ⟨by omega, .inl (by omega)⟩ t
  rw [e] at g1 g2 g3
  have h0 : [(34 : Int)] ++ t ≠ [] := by simp
  have := str_all (p := p) (s := ⟨0, 0, 0, 0, x⟩) h0 g1 (by rw [g3]; rfl)
  rw [g3] at this
  exact this
/-- A character as it stands. -/
theorem kstr_plain {r : Nat} (hr : Right r) (h32 : 32 ≤ r) (h34 : r ≠ 34) (h92 : r ≠ 92) (t : List Int) (p : Nat) (x : List Int) : strL (encL r ++ t) p ⟨0, 0, 0, 0, x⟩ = strL t (p + (encL r).length) ⟨0, 0, 0, 0, x ++ encL r⟩ := by
  obtain ⟨g1, g2, g3⟩ := enc_good hr t
  have hl := enc_len r
  have h0 : encL r ++ t ≠ [] := by intro e; have := congrArg List.length e; rw [List.length_append, List.length_nil] at this; omega
  have ht : takeR ⟨0, 0, 0, 0, x⟩ r = ⟨0, 0, 0, 0, x ++ encL r⟩ := by
    unfold takeR
    rw [if_pos rfl, if_neg h34, if_neg h92, if_neg (by omega)]
    rfl
  rw [str_on h0 g1 (by rw [g3, ht]; simp) (by rw [g3, ht]; simp), g2, g3, ht, List.drop_left]
/-- Several characters of one byte each, none of which ends the string. -/
def ktakeS (s : RS) : List Nat → RS
  | [] => s
  | c :: l => ktakeS (takeR s c) l
def kgoes (s : RS) : List Nat → Bool
  | [] => true
  | c :: l => decide (c < 128) && decide ((takeR s c).q ≠ 5) && decide ((takeR s c).q ≠ 6) && kgoes (takeR s c) l
theorem kstr_steps (l : List Nat) (t : List Int) : ∀ (p : Nat) (s : RS), kgoes s l = true → strL (l.map (fun (c : Nat) => ((c : Nat) : Int)) ++ t) p s = strL t (p + l.length) (ktakeS s l) := by
  induction l with
  | nil => intro p s _; rfl
  | cons c l ih =>
    intro p s h
    simp only [kgoes, Bool.and_eq_true, decide_eq_true_eq] at h
    rw [List.map_cons, List.cons_append, kstr_step h.1.1.1 _ _ _ h.1.1.2 h.1.2, ih _ _ h.2]
    show _ = strL t (p + (l.length + 1)) _
    rw [Nat.add_assoc, Nat.add_comm 1]
    rfl
/-- The characters of an escape of one byte each. -/
def escN (r : Nat) : List Nat := if 0 ≤ meanI r then [92, shortN r] else [92, 117, 48, 48, hexN (r / 16), hexN (r % 16)]
theorem mean_small {r : Nat} (h : 0 ≤ meanI r) : r < 93 := by
  unfold meanI at h
  by_cases h1 : r < 93
  · exact h1
  · rw [if_neg (by omega), if_neg (by omega), if_neg (by omega), if_neg (by omega), if_neg (by omega), if_neg (by omega), if_neg (by omega)] at h
    omega
theorem mean_plain {r : Nat} (h : ¬ 0 ≤ meanI r) : r ≠ 34 ∧ r ≠ 92 := by
  refine ⟨fun e => ?_, fun e => ?_⟩
  · subst e; exact h (by decide)
  · subst e; exact h (by decide)
theorem mean_cases {r : Nat} (h : 0 ≤ meanI r ∨ r < 32) : r = 0 ∨ r = 1 ∨ r = 2 ∨ r = 3 ∨ r = 4 ∨ r = 5 ∨ r = 6 ∨ r = 7 ∨ r = 8 ∨ r = 9 ∨ r = 10 ∨ r = 11 ∨ r = 12 ∨ r = 13 ∨ r = 14 ∨ r = 15 ∨ r = 16 ∨ r = 17 ∨ r = 18 ∨ r = 19 ∨ r = 20 ∨ r = 21 ∨ r = 22 ∨ r = 23 ∨ r = 24 ∨ r = 25 ∨ r = 26 ∨ r = 27 ∨ r = 28 ∨ r = 29 ∨ r = 30 ∨ r = 31 ∨ r = 34 ∨ r = 92 := by
  by_cases h2 : r < 32
  · omega
  · have h1 : 0 ≤ meanI r := by rcases h with h | h; exact h; omega
    unfold meanI at h1
    by_cases e1 : r = 34
    · omega
    by_cases e2 : r = 92
    · omega
    · rw [if_neg e1, if_neg e2, if_neg (by omega), if_neg (by omega), if_neg (by omega), if_neg (by omega), if_neg (by omega)] at h1
      omega
theorem esc_goes (x : List Int) {r : Nat} (h : 0 ≤ meanI r ∨ r < 32) : kgoes ⟨0, 0, 0, 0, x⟩ (escN r) = true ∧ ktakeS ⟨0, 0, 0, 0, x⟩ (escN r) = ⟨0, 0, 0, 0, x ++ encL r⟩ := by
  rcases mean_cases h with rfl | rfl | rfl | rfl | rfl | rfl | rfl | rfl | rfl | rfl | rfl | rfl | rfl | rfl | rfl | rfl | rfl | rfl | rfl | rfl | rfl | rfl | rfl | rfl | rfl | rfl | rfl | rfl | rfl | rfl | rfl | rfl | rfl | rfl <;> exact ⟨by kernel_rfl, by kernel_rfl⟩
/-- An escaped character is read as the character. -/
theorem str_esc {r : Nat} (hr : Right r) (t : List Int) (p : Nat) (x : List Int) : strL (escR r ++ t) p ⟨0, 0, 0, 0, x⟩ = strL t (p + (escR r).length) ⟨0, 0, 0, 0, x ++ encL r⟩ := by
  by_cases h : 0 ≤ meanI r ∨ r < 32
  · have hb : r < 93 := by rcases h with h | h; exact mean_small h; omega
    obtain ⟨a1, a2⟩ := esc_goes x h
    have e : escR r = (escN r).map (fun (c : Nat) => ((c : Nat) : Int)) := by
      unfold escR escN
      by_cases hm : 0 ≤ meanI r
      · rw [if_pos hm, if_pos hm]; rfl
      · rw [if_neg hm, if_neg hm, if_pos (by rcases h with h | h; exact absurd h hm; exact h)]; rfl
    rw [e, kstr_steps _ t p _ a1, List.length_map, a2]
  · have h1 : ¬ 0 ≤ meanI r := fun q => h (.inl q)
    have h2 : ¬ r < 32 := fun q => h (.inr q)
    have e : escR r = encL r := by unfold escR; rw [if_neg h1, if_neg h2]
    obtain ⟨p1, p2⟩ := mean_plain h1
    rw [e]
    exact kstr_plain hr (by omega) p1 p2 t p x
theorem str_escs (l : List Nat) (t : List Int) : ∀ (p : Nat) (x : List Int), (∀ r ∈ l, Right r) → strL (escAll l ++ t) p ⟨0, 0, 0, 0, x⟩ = strL t (p + (escAll l).length) ⟨0, 0, 0, 0, x ++ encAll l⟩ := by
  induction l with
  | nil => intro p x _; rw [escAll_nil, List.nil_append]; show strL t p _ = strL t (p + 0) ⟨0, 0, 0, 0, x ++ []⟩; rw [List.append_nil]; rfl
  | cons r l ih =>
    intro p x h
    rw [escAll_cons, List.append_assoc, str_esc (h r List.mem_cons_self), ih _ _ fun q hq => h q (List.mem_cons_of_mem _ hq), List.length_append, Nat.add_assoc]
    show strL t _ ⟨0, 0, 0, 0, x ++ encL r ++ encAll l⟩ = _
    have : x ++ encL r ++ encAll l = x ++ encAll (r :: l) := by unfold encAll; rw [List.map_cons, List.flatten_cons, List.append_assoc]
    rw [this]
/-- The characters of a text are its bytes. -/
theorem enc_text (b : List Int) : (∀ c ∈ b, 0 ≤ c ∧ c < 256) → (runesL b).2 = none → encAll (runesL b).1 = b ∧ ∀ r ∈ (runesL b).1, Right r := by
  induction b using text_ind with
  | nil => intro _ _; exact ⟨rfl, fun r hr => by cases hr⟩
  | good b h0 h ih =>
    intro hz hn
    rw [runes_good h0 h] at hn ⊢
    have hn' : (runesL (b.drop (lenB b))).2 = none := by simpa using hn
    obtain ⟨i1, i2⟩ := ih (fun c hc => hz c (List.mem_of_mem_drop hc)) hn'
    refine ⟨?_, fun r hr => ?_⟩
    · show encAll (valB b :: (runesL (b.drop (lenB b))).1) = b
      have : encAll (valB b :: (runesL (b.drop (lenB b))).1) = encL (valB b) ++ encAll (runesL (b.drop (lenB b))).1 := by unfold encAll; rw [List.map_cons, List.flatten_cons]
      rw [this, i1, enc_val hz h0 h, List.take_append_drop]
    · rcases List.mem_cons.1 hr with rfl | hr
      · exact good_right h
      · exact i2 r hr
  | bad b h0 h =>
    intro _ hn
    rw [runes_bad h0 h] at hn
    cases hn
/-- AN ESCAPED TEXT IS READ AS THE TEXT. -/
theorem esc_read (b : List Int) (hz : ∀ c ∈ b, 0 ≤ c ∧ c < 256) (hn : (runesL b).2 = none) : strL ((escA b).drop 1) 1 r0 = (b, (escA b).length, 0, 0) := by
  obtain ⟨h1, h2⟩ := enc_text b hz hn
  have e : escA b = [34] ++ escAll (runesL b).1 ++ [34] := by unfold escA; rw [if_pos hn]
  rw [e]
  show strL (escAll (runesL b).1 ++ [34]) 1 ⟨0, 0, 0, 0, []⟩ = _
  rw [str_escs _ _ _ _ h2, kstr_end, List.nil_append, h1]
  simp
  omega
theorem escR_bytes {r : Nat} (hr : Right r) : ∀ c ∈ escR r, 0 ≤ c ∧ c < 256 := by
  by_cases h : 0 ≤ meanI r ∨ r < 32
  · have hb : r < 93 := by rcases h with h | h; exact mean_small h; omega
    have : ∀ r : Nat, r < 93 → (0 ≤ meanI r ∨ r < 32) → ∀ c ∈ escR r, 0 ≤ c ∧ c < 256 := by decide
    exact this r hb h
  · have h1 : ¬ 0 ≤ meanI r := fun q => h (.inl q)
    have h2 : ¬ r < 32 := fun q => h (.inr q)
    have e : escR r = encL r := by unfold escR; rw [if_neg h1, if_neg h2]
    rw [e]
    exact enc_bytes hr
theorem escA_bytes (b : List Int) (hz : ∀ c ∈ b, 0 ≤ c ∧ c < 256) : ∀ c ∈ escA b, 0 ≤ c ∧ c < 256 := by
  by_cases hn : (runesL b).2 = none
  · obtain ⟨h1, h2⟩ := enc_text b hz hn
    have e : escA b = [34] ++ escAll (runesL b).1 ++ [34] := by unfold escA; rw [if_pos hn]
    rw [e]
    intro c hc
    rcases List.mem_append.1 hc with hc | hc
    · rcases List.mem_append.1 hc with hc | hc
      · simp at hc; omega
      · unfold escAll at hc
        obtain ⟨l, hl, hc⟩ := List.mem_flatten.1 hc
        obtain ⟨r, hr, rfl⟩ := List.mem_map.1 hl
        exact escR_bytes (h2 r hr) c hc
    · simp at hc; omega
  · have e : escA b = [] := by unfold escA; rw [if_neg hn]
    rw [e]
    intro c hc; cases hc
theorem escAll_len (l : List Nat) : (escAll l).length ≤ 6 * l.length := by
  induction l with
  | nil => simp [escAll]
  | cons r l ih => rw [escAll_cons, List.length_append, List.length_cons]; have := escR_len r; omega
theorem escA_len (b : List Int) : (escA b).length ≤ 6 * b.length + 2 := by
  by_cases hn : (runesL b).2 = none
  · have e : escA b = [34] ++ escAll (runesL b).1 ++ [34] := by unfold escA; rw [if_pos hn]
    rw [e]
    have := escAll_len (runesL b).1
    have := runes_many b
    simp
    omega
  · have e : escA b = [] := by unfold escA; rw [if_neg hn]
    rw [e]; simp
end Go.Proofs.YtfkoghmbkgbgbaaDoor
