/-
  Decimal numbers as the document's calls answer them, said over bytes and whole numbers alone.
-/
import Derived.Test.YtfkoghmbkgbgbaaDoorAns
import Derived.Test.YtfkoghmbkgbgbaaDoorDplain
import Derived.Lib.TrimByte
namespace Go.Proofs.YtfkoghmbkgbgbaaDoor
open Go

/-- A number: its sign, digits, exponent. -/
abbrev Nm := Bool × ByteArray × Int
def zS : ByteArray := ⟨#[48]⟩
/-- No number. -/
def noN : Nm := (false, noS, 0)
/-- 0. -/
def zeroN : Nm := (false, zS, 0)
theorem bs_z : bs zS = [48] := rfl
theorem z_iff (s : ByteArray) : bs s = [48] ↔ s = zS := ⟨fun h => bs_inj h, fun h => by rw [h]; rfl⟩
/-- A number is in its form. -/
def rtN (n : Bool) (s : ByteArray) (e : Int) : Bool :=
  if bs s = [48] then !n && (e == 0) else rt s && ((bs s).getD (s.size - 1) 0 != 48 && (decide (-2000 ≤ e) && decide (e ≤ 2000)))
theorem rtN_iff (n : Bool) (s : ByteArray) (e : Int) : rtN n s e = true ↔ FormD n (bs s) e := by
  unfold rtN FormD
  by_cases h : bs s = [48]
  · rw [if_pos h, h]
    simp only [Bool.and_eq_true, Bool.not_eq_true', beq_iff_eq, true_implies, ne_eq, not_true_eq_false, false_implies, and_true]
    constructor
    · intro h1
      exact ⟨⟨⟨by simp, fun c hc => by simp at hc; omega, fun _ => rfl⟩, by decide⟩, h1⟩
    · intro h1
      exact h1.2
  · rw [if_neg h]
    simp only [Bool.and_eq_true, bne_iff_ne, ne_eq, decide_eq_true_eq, rt_iff, h, false_implies, true_and, not_false_eq_true, true_implies, bs_len]
theorem rtN_not {n : Bool} {s : ByteArray} {e : Int} (h : ¬ FormD n (bs s) e) : rtN n s e = false := by
  cases h1 : rtN n s e with
  | false => rfl
  | true => exact absurd ((rtN_iff n s e).1 h1) h
theorem rtN_zero : rtN false zS 0 = true := by decide
theorem rtN_rt {n : Bool} {s : ByteArray} {e : Int} (h : rtN n s e = true) : rt s = true := (rt_iff s).2 ((rtN_iff n s e).1 h).1
theorem rtN_exp {n : Bool} {s : ByteArray} {e : Int} (h : rtN n s e = true) : -2000 ≤ e ∧ e ≤ 2000 := form_exp ((rtN_iff n s e).1 h)

/-! ### Trimming -/
/-- Without the 0 ahead. -/
def longL (l : List Int) : List Int := l.dropWhile (· == 48)
/-- Without the 0 behind. -/
def shortL (l : List Int) : List Int := (l.reverse.dropWhile (· == 48)).reverse
def numsU (l : List UInt8) : List Int := l.map fun c => ((c.toNat : Nat) : Int)
theorem bs_mk (l : List UInt8) : bs ⟨l.toArray⟩ = numsU l := rfl
theorem drop_nums : ∀ l : List UInt8, numsU (l.dropWhile (· == 48)) = (numsU l).dropWhile (· == 48)
  | [] => rfl
  | c :: l => by
    have ih := drop_nums l
    have e : ((((c.toNat : Nat) : Int) == 48) : Bool) = (c == 48) := by
      rw [Bool.eq_iff_iff, beq_iff_eq, beq_iff_eq]
      constructor
      · intro h
        exact UInt8.toNat_inj.1 (by show c.toNat = 48; omega)
      · intro h
        rw [h]; rfl
    have e2 : numsU (c :: l) = ((c.toNat : Nat) : Int) :: numsU l := rfl
    rw [e2, List.dropWhile_cons, List.dropWhile_cons, e]
    cases h : (c == 48) with
    | true => exact ih
    | false => rfl
theorem nums_rev (l : List UInt8) : numsU l.reverse = (numsU l).reverse := by unfold numsU; rw [List.map_reverse]
theorem bs_trimL (s : ByteArray) : bs ⟨(Lib.trimLeftB s.data.toList 48).toArray⟩ = longL (bs s) := by
  rw [bs_mk]; exact drop_nums _
theorem bs_trimR (s : ByteArray) : bs ⟨(Lib.trimRightB s.data.toList 48).toArray⟩ = shortL (bs s) := by
  rw [bs_mk]
  unfold Lib.trimRightB shortL
  rw [nums_rev, drop_nums, nums_rev]
  rfl
theorem long_eq (j : Nat) (t : List Int) (h : t ≠ [] → t.getD 0 0 ≠ 48) : longL (zerosL j ++ t) = t := by
  unfold longL zerosL
  induction j with
  | zero =>
    cases t with
    | nil => rfl
    | cons c t =>
      have hc : c ≠ 48 := h (by simp)
      simp [hc]
  | succ j ih => rw [List.replicate_succ, List.cons_append, List.dropWhile_cons]; simpa using ih
theorem short_eq (k : Nat) (t : List Int) (h : t ≠ [] → t.getD (t.length - 1) 0 ≠ 48) : shortL (t ++ zerosL k) = t := by
  have e : (t ++ zerosL k).reverse = zerosL k ++ t.reverse := by
    rw [List.reverse_append]; unfold zerosL; rw [List.reverse_replicate]
  unfold shortL
  rw [e]
  have h2 := long_eq k t.reverse (fun h0 => by
    have h1 : t ≠ [] := fun h1 => h0 (by rw [h1]; rfl)
    have hp := List.length_pos_iff.2 h1
    rw [List.getD_eq_getElem?_getD, List.getElem?_reverse hp, ← List.getD_eq_getElem?_getD]
    exact h h1)
  unfold longL at h2
  rw [h2, List.reverse_reverse]
/-- What stays, and how many 0 were behind. -/
theorem long_cut (l : List Int) : ∃ j, l = zerosL j ++ longL l := by
  induction l with
  | nil => exact ⟨0, rfl⟩
  | cons c l ih =>
    by_cases hc : c = 48
    · obtain ⟨j, hj⟩ := ih
      have e : longL (c :: l) = longL l := by unfold longL; rw [List.dropWhile_cons]; simp [hc]
      exact ⟨j + 1, by rw [e, hc]; show 48 :: l = 48 :: (zerosL j ++ longL l); rw [← hj]⟩
    · have e : longL (c :: l) = c :: l := by unfold longL; rw [List.dropWhile_cons]; simp [hc]
      exact ⟨0, by rw [e]; rfl⟩
theorem long_head {l : List Int} (h : longL l ≠ []) : (longL l).getD 0 0 ≠ 48 := by
  unfold longL at h ⊢
  have h1 := List.head_dropWhile_not (· == 48) (l := l) h
  rw [List.getD_eq_getElem?_getD, ← List.head?_eq_getElem?, List.head?_eq_some_head h]
  simpa using h1
theorem short_cut (l : List Int) : ∃ k, l = shortL l ++ zerosL k := by
  obtain ⟨k, hk⟩ := long_cut l.reverse
  refine ⟨k, ?_⟩
  have h := congrArg List.reverse hk
  rw [List.reverse_reverse, List.reverse_append] at h
  have e1 : (longL l.reverse).reverse = shortL l := rfl
  have e2 : (zerosL k).reverse = zerosL k := by unfold zerosL; rw [List.reverse_replicate]
  rw [e1, e2] at h
  exact h
theorem short_last {l : List Int} (h : shortL l ≠ []) : (shortL l).getD ((shortL l).length - 1) 0 ≠ 48 := by
  have h0 : longL l.reverse ≠ [] := fun h1 => h (by unfold shortL; unfold longL at h1; rw [h1]; rfl)
  have h1 := long_head h0
  have hp := List.length_pos_iff.2 h0
  have e : shortL l = (longL l.reverse).reverse := rfl
  rw [e, List.length_reverse, List.getD_eq_getElem?_getD, List.getElem?_reverse (by omega), show (longL l.reverse).length - 1 - ((longL l.reverse).length - 1) = 0 by omega, ← List.getD_eq_getElem?_getD]
  exact h1
theorem short_len (l : List Int) : (shortL l).length ≤ l.length := by
  obtain ⟨k, hk⟩ := short_cut l
  have := congrArg List.length hk
  rw [List.length_append] at this
  omega
theorem long_len (l : List Int) : (longL l).length ≤ l.length := by
  obtain ⟨k, hk⟩ := long_cut l
  have := congrArg List.length hk
  rw [List.length_append] at this
  omega
theorem short_nil {l : List Int} (h0 : longL l ≠ []) : shortL (longL l) ≠ [] := by
  intro h
  obtain ⟨k, hk⟩ := short_cut (longL l)
  rw [h, List.nil_append] at hk
  have h1 := long_head h0
  rw [hk] at h1
  unfold zerosL at h1
  cases k with
  | zero => exact h0 hk
  | succ k => exact h1 rfl
theorem short_head {l : List Int} (h0 : longL l ≠ []) : (shortL (longL l)).getD 0 0 ≠ 48 := by
  have h1 := long_head h0
  have h2 := short_nil h0
  obtain ⟨k, hk⟩ := short_cut (longL l)
  rw [hk] at h1
  rcases hx : shortL (longL l) with _ | ⟨x, t⟩
  · exact absurd hx h2
  · rw [hx] at h1
    exact h1
theorem mem_short {l : List Int} {c : Int} (h : c ∈ shortL (longL l)) : c ∈ l := by
  unfold shortL at h
  have h1 := List.mem_reverse.1 h
  have h2 := (List.dropWhile_sublist (· == 48)).mem h1
  have h3 := List.mem_reverse.1 h2
  exact (List.dropWhile_sublist (· == 48)).mem h3

/-! ### Making a number -/
def allD (l : List Int) : Bool := l.all fun c => decide (48 ≤ c) && decide (c ≤ 57)
theorem allD_iff (l : List Int) : allD l = true ↔ Digs l := by unfold allD Digs; simp
def makeA (n : Bool) (s : ByteArray) (e : Int) : Nm × Int :=
  if s.size = 0 ∨ 4096 < s.size ∨ allD (bs s) = false then (noN, 1)
  else if longL (bs s) = [] then (zeroN, 0)
  else if 800 < (shortL (longL (bs s))).length ∨ e < -2000 - (((longL (bs s)).length - (shortL (longL (bs s))).length : Nat) : Int) ∨ 2000 - (((longL (bs s)).length - (shortL (longL (bs s))).length : Nat) : Int) < e then (noN, 11)
  else ((n, strOfNums (shortL (longL (bs s))), e + (((longL (bs s)).length - (shortL (longL (bs s))).length : Nat) : Int)), 0)
/-- WHAT IS MADE IS IN ITS FORM. -/
theorem make_right {n : Bool} {s : ByteArray} {e : Int} {m : Nm} (h : makeA n s e = (m, 0)) : rtN m.1 m.2.1 m.2.2 = true := by
  unfold makeA at h
  by_cases h1 : s.size = 0 ∨ 4096 < s.size ∨ allD (bs s) = false
  · rw [if_pos h1] at h; cases h
  rw [if_neg h1] at h
  by_cases h2 : longL (bs s) = []
  · rw [if_pos h2] at h; cases h; exact rtN_zero
  rw [if_neg h2] at h
  have hd : Digs (bs s) := by
    rw [← allD_iff]
    cases h3 : allD (bs s) with
    | true => rfl
    | false => exact absurd (.inr (.inr h3)) h1
  have hs : Digs (shortL (longL (bs s))) := fun c hc => hd c (mem_short hc)
  have hh := short_head h2
  have hn := short_nil h2
  have hl := short_last hn
  generalize ((longL (bs s)).length - (shortL (longL (bs s))).length : Nat) = k at *
  split at h
  · cases h
  · rename_i h3
    cases h
    rw [rtN_iff]
    show FormD n (bs (strOfNums (shortL (longL (bs s))))) (e + (k : Int))
    rw [bs_str (digs_bytes hs)]
    generalize shortL (longL (bs s)) = t at *
    have hz : t ≠ [48] := fun h4 => by rw [h4] at hh; exact hh rfl
    refine ⟨⟨⟨hn, hs, fun h4 => absurd h4 hh⟩, by omega⟩, fun h4 => absurd h4 hz, fun _ => ⟨hl, by omega, by omega⟩⟩
theorem make_errs (n : Bool) (s : ByteArray) (e : Int) : (makeA n s e).2 = 0 ∨ makeA n s e = (noN, 1) ∨ makeA n s e = (noN, 11) := by
  unfold makeA
  by_cases h1 : s.size = 0 ∨ 4096 < s.size ∨ allD (bs s) = false
  · rw [if_pos h1]; exact .inr (.inl rfl)
  rw [if_neg h1]
  by_cases h2 : longL (bs s) = []
  · rw [if_pos h2]; exact .inl rfl
  rw [if_neg h2]
  split
  · exact .inr (.inr rfl)
  · exact .inl rfl
/-- A number in its form is made of itself. -/
theorem make_self {n : Bool} {s : ByteArray} {e : Int} (h : rtN n s e = true) : makeA n s e = ((n, s, e), 0) := by
  have h1 := (rtN_iff n s e).1 h
  have hn := h1.1.1.1
  have hd := h1.1.1.2.1
  have h8 := h1.1.2
  rw [bs_len] at h8
  have hp := List.length_pos_iff.2 hn
  rw [bs_len] at hp
  unfold makeA
  have hx : ¬ (s.size = 0 ∨ 4096 < s.size ∨ allD (bs s) = false) := by
    rintro (h5 | h5 | h5)
    · omega
    · omega
    · rw [(allD_iff _).2 hd] at h5; cases h5
  rw [if_neg hx]
  by_cases hz : bs s = [48]
  · obtain ⟨h2, h3⟩ := h1.2.1 hz
    rw [if_pos (by rw [hz]; rfl), h2, h3, (z_iff s).1 hz]
    rfl
  · obtain ⟨h2, h3, h4⟩ := h1.2.2 hz
    have hh : (bs s).getD 0 0 ≠ 48 := by
      intro h5
      have h6 := h1.1.1.2.2 h5
      have h7 : (bs s).length - 1 = 0 := by omega
      rw [h7] at h2
      exact h2 h5
    have e1 : longL (bs s) = bs s := long_eq 0 (bs s) (fun _ => hh)
    have e2 : shortL (bs s) = bs s := by
      have := short_eq 0 (bs s) (fun _ => h2)
      unfold zerosL at this
      simpa using this
    rw [e1, if_neg hn, e2, if_neg (by rw [bs_len]; omega), str_bs]
    simp
end Go.Proofs.YtfkoghmbkgbgbaaDoor
