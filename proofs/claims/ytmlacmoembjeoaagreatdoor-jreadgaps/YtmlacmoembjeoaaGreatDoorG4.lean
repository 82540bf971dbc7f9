/-
  Decimal numbers as the document's calls answer them, said over bytes and whole numbers alone.
  A text gone through by a row of states, as plain mathematics.
  The states of a text, one call each.
  The library's calls, as this program bears them.
  Which numbers are in their form: dec.Right.
-/
import Derived.Test.YtmlacmoembjeoaaGreatDoorG0
import Derived.Test.YtmlacmoembjeoaaGreatDoorG3
import Derived.Lib.TrimByte
import Derived.Deep.RegionHeld3
namespace Go.Proofs.YtmlacmoembjeoaaGreatDoor
open Go

/-- A number: its sign, digits, exponent. -/
abbrev Nm := Bool × ByteArray × Int
def zS : ByteArray := ⟨#[48]⟩
/-- No number. -/
def noN : Nm := (false, noS, 0)
/-- 0. -/
def zeroN : Nm := (false, zS, 0)
theorem z_iff (s : ByteArray) : bs s = [48] ↔ s = zS := ⟨fun h => bs_inj h, fun h => by rw [h]; rfl⟩
/-- A number is in its form. -/
def rtN (n : Bool) (s : ByteArray) (e : Int) : Bool :=
  if bs s = [48] then !n && (e == 0) else rt s && ((bs s).getD (s.size - 1) 0 != 48 && (decide (-2000 ≤ e) && decide (e ≤ 2000)))
theorem rtN_iff (n : Bool) (s : ByteArray) (e : Int) : rtN n s e = true ↔ FormD n (bs s) e := by
  unfold rtN FormD
  by_cases h : bs s = [48]
  · rw [if_pos h, h]
    simp only [Bool.and_eq_true, Bool.not_eq_true', beq_iff_eq, true_implies, ne_eq, not_true_eq_false, false_implies, and_true]
    constructor
    · intro h1
      exact ⟨⟨⟨by simp, fun c hc => by simp at hc; omega, fun _ => rfl⟩, by decide⟩, h1⟩
    · intro h1
      exact h1.2
  · rw [if_neg h]
    simp only [Bool.and_eq_true, bne_iff_ne, ne_eq, decide_eq_true_eq, rt_iff, h, false_implies, true_and, not_false_eq_true, true_implies, bs_len]
theorem rtN_zero : rtN false zS 0 = true := by decide
theorem rtN_rt {n : Bool} {s : ByteArray} {e : Int} (h : rtN n s e = true) : rt s = true := (rt_iff s).2 ((rtN_iff n s e).1 h).1
theorem rtN_exp {n : Bool} {s : ByteArray} {e : Int} (h : rtN n s e = true) : -2000 ≤ e ∧ e ≤ 2000 := form_exp ((rtN_iff n s e).1 h)

/-! ### Trimming -/
/-- Without the 0 ahead. -/
def longL (l : List Int) : List Int := l.dropWhile (· == 48)
/-- Without the 0 behind. -/
def shortL (l : List Int) : List Int := (l.reverse.dropWhile (· == 48)).reverse
def numsU (l : List UInt8) : List Int := l.map fun c => ((c.toNat : Nat) : Int)
theorem bs_mk (l : List UInt8) : bs ⟨l.toArray⟩ = numsU l := rfl
theorem drop_nums : ∀ l : List UInt8, numsU (l.dropWhile (· == 48)) = (numsU l).dropWhile (· == 48)
  | [] => rfl
  | c :: l => by
    have ih := drop_nums l
    have e : ((((c.toNat : Nat) : Int) == 48) : Bool) = (c == 48) := by
      rw [Bool.eq_iff_iff, beq_iff_eq, beq_iff_eq]
      constructor
      · intro h
        exact UInt8.toNat_inj.1 (by show c.toNat = 48; omega)
      · intro h
        rw [h]; rfl
    have e2 : numsU (c :: l) = ((c.toNat : Nat) : Int) :: numsU l := rfl
    rw [e2, List.dropWhile_cons, List.dropWhile_cons, e]
    cases h : (c == 48) with
    | true => exact ih
    | false => rfl
theorem nums_rev (l : List UInt8) : numsU l.reverse = (numsU l).reverse := by unfold numsU; rw [List.map_reverse]
theorem bs_trimL (s : ByteArray) : bs ⟨(Lib.trimLeftB s.data.toList 48).toArray⟩ = longL (bs s) := by
  rw [bs_mk]; exact drop_nums _
theorem bs_trimR (s : ByteArray) : bs ⟨(Lib.trimRightB s.data.toList 48).toArray⟩ = shortL (bs s) := by
  rw [bs_mk]
  unfold Lib.trimRightB shortL
  rw [nums_rev, drop_nums, nums_rev]
  rfl
/-- What stays, and how many 0 were behind. -/
theorem long_cut (l : List Int) : ∃ j, l = zerosL j ++ longL l := by
  induction l with
  | nil => exact ⟨0, rfl⟩
  | cons c l ih =>
    by_cases hc : c = 48
    · obtain ⟨j, hj⟩ := ih
      have e : longL (c :: l) = longL l := by unfold longL; rw [List.dropWhile_cons]; simp [hc]
      exact ⟨j + 1, by rw [e, hc]; show 48 :: l = 48 :: (zerosL j ++ longL l); rw [← hj]⟩
    · have e : longL (c :: l) = c :: l := by unfold longL; rw [List.dropWhile_cons]; simp [hc]
      exact ⟨0, by rw [e]; rfl⟩
theorem long_head {l : List Int} (h : longL l ≠ []) : (longL l).getD 0 0 ≠ 48 := by
  unfold longL at h ⊢
  have h1 := List.head_dropWhile_not (· == 48) (l := l) h
  rw [List.getD_eq_getElem?_getD, ← List.head?_eq_getElem?, List.head?_eq_some_head h]
  simpa using h1
theorem short_cut (l : List Int) : ∃ k, l = shortL l ++ zerosL k := by
  obtain ⟨k, hk⟩ := long_cut l.reverse
  refine ⟨k, ?_⟩
  have h := congrArg List.reverse hk
  rw [List.reverse_reverse, List.reverse_append] at h
  have e1 : (longL l.reverse).reverse = shortL l := rfl
  have e2 : (zerosL k).reverse = zerosL k := by unfold zerosL; rw [List.reverse_replicate]
  rw [e1, e2] at h
  exact h
theorem short_last {l : List Int} (h : shortL l ≠ []) : (shortL l).getD ((shortL l).length - 1) 0 ≠ 48 := by
  have h0 : longL l.reverse ≠ [] := fun h1 => h (by unfold shortL; unfold longL at h1; rw [h1]; rfl)
  have h1 := long_head h0
  have hp := List.length_pos_iff.2 h0
  have e : shortL l = (longL l.reverse).reverse := rfl
  rw [e, List.length_reverse, List.getD_eq_getElem?_getD, List.getElem?_reverse (by omega), show (longL l.reverse).length - 1 - ((longL l.reverse).length - 1) = 0 by omega, ← List.getD_eq_getElem?_getD]
  exact h1
theorem short_len (l : List Int) : (shortL l).length ≤ l.length := by
  obtain ⟨k, hk⟩ := short_cut l
  have := congrArg List.length hk
  rw [List.length_append] at this
  omega
theorem long_len (l : List Int) : (longL l).length ≤ l.length := by
  obtain ⟨k, hk⟩ := long_cut l
  have := congrArg List.length hk
  rw [List.length_append] at this
  omega
theorem short_nil {l : List Int} (h0 : longL l ≠ []) : shortL (longL l) ≠ [] := by
  intro h
  obtain ⟨k, hk⟩ := short_cut (longL l)
  rw [h, List.nil_append] at hk
  have h1 := long_head h0
  rw [hk] at h1
  unfold zerosL at h1
  cases k with
  | zero => exact h0 hk
  | succ k => exact h1 rfl
theorem short_head {l : List Int} (h0 : longL l ≠ []) : (shortL (longL l)).getD 0 0 ≠ 48 := by
  have h1 := long_head h0
  have h2 := short_nil h0
  obtain ⟨k, hk⟩ := short_cut (longL l)
  rw [hk] at h1
  rcases hx : shortL (longL l) with _ | ⟨x, t⟩
  · exact absurd hx h2
  · rw [hx] at h1
    exact h1
theorem mem_short {l : List Int} {c : Int} (h : c ∈ shortL (longL l)) : c ∈ l := by
  unfold shortL at h
  have h1 := List.mem_reverse.1 h
  have h2 := (List.dropWhile_sublist (· == 48)).mem h1
  have h3 := List.mem_reverse.1 h2
  exact (List.dropWhile_sublist (· == 48)).mem h3

/-! ### Making a number -/
def allD (l : List Int) : Bool := l.all fun c => decide (48 ≤ c) && decide (c ≤ 57)
theorem allD_iff (l : List Int) : allD l = true ↔ Digs l := by unfold allD Digs; simp
def makeA (n : Bool) (s : ByteArray) (e : Int) : Nm × Int :=
  if s.size = 0 ∨ 4096 < s.size ∨ allD (bs s) = false then (noN, 1)
  else if longL (bs s) = [] then (zeroN, 0)
  else if 800 < (shortL (longL (bs s))).length ∨ e < -2000 - (((longL (bs s)).length - (shortL (longL (bs s))).length : Nat) : Int) ∨ 2000 - (((longL (bs s)).length - (shortL (longL (bs s))).length : Nat) : Int) < e then (noN, 11)
  else ((n, strOfNums (shortL (longL (bs s))), e + (((longL (bs s)).length - (shortL (longL (bs s))).length : Nat) : Int)), 0)
/-- WHAT IS MADE IS IN ITS FORM. -/
theorem make_right {n : Bool} {s : ByteArray} {e : Int} {m : Nm} (h : makeA n s e = (m, 0)) : rtN m.1 m.2.1 m.2.2 = true := by
  unfold makeA at h
  by_cases h1 : s.size = 0 ∨ 4096 < s.size ∨ allD (bs s) = false
  · rw [if_pos h1] at h; cases h
  rw [if_neg h1] at h
  by_cases h2 : longL (bs s) = []
  · rw [if_pos h2] at h; cases h; exact rtN_zero
  rw [if_neg h2] at h
  have hd : Digs (bs s) := by
    rw [← allD_iff]
    cases h3 : allD (bs s) with
    | true => rfl
    | false => exact absurd (.inr (.inr h3)) h1
  have hs : Digs (shortL (longL (bs s))) := fun c hc => hd c (mem_short hc)
  have hh := short_head h2
  have hn := short_nil h2
  have hl := short_last hn
  generalize ((longL (bs s)).length - (shortL (longL (bs s))).length : Nat) = k at *
  split at h
  · cases h
  · rename_i h3
    cases h
    rw [rtN_iff]
    show FormD n (bs (strOfNums (shortL (longL (bs s))))) (e + (k : Int))
    rw [bs_str (digs_bytes hs)]
    generalize shortL (longL (bs s)) = t at *
    have hz : t ≠ [48] := fun h4 => by rw [h4] at hh; exact hh rfl
    refine ⟨⟨⟨hn, hs, fun h4 => absurd h4 hh⟩, by omega⟩, fun h4 => absurd h4 hz, fun _ => ⟨hl, by omega, by omega⟩⟩
theorem make_errs (n : Bool) (s : ByteArray) (e : Int) : (makeA n s e).2 = 0 ∨ makeA n s e = (noN, 1) ∨ makeA n s e = (noN, 11) := by
  unfold makeA
  by_cases h1 : s.size = 0 ∨ 4096 < s.size ∨ allD (bs s) = false
  · rw [if_pos h1]; exact .inr (.inl rfl)
  rw [if_neg h1]
  by_cases h2 : longL (bs s) = []
  · rw [if_pos h2]; exact .inl rfl
  rw [if_neg h2]
  split
  · exact .inr (.inr rfl)
  · exact .inl rfl
end Go.Proofs.YtmlacmoembjeoaaGreatDoor
namespace Go.Proofs.YtmlacmoembjeoaaGreatDoor
open Go

def isD (c : Int) : Bool := decide (48 ≤ c) && decide (c ≤ 57)
def afPart (c : Int) : Nat := if c = 101 ∨ c = 69 then 6 else 9
def afWhole (c : Int) : Nat := if c = 46 then 4 else afPart c
def afMinus (c : Int) : Nat := if c = 48 then 2 else if isD c = true then 3 else 9
/-- The state behind one more byte: 0 nothing, 1 minus, 2 a 0, 3 whole, 4 point, 5 part, 6 mark, 7 sign, 8 power, 9 wrong. -/
def afterS (q : Nat) (c : Int) : Nat :=
  if q = 0 then (if c = 45 then 1 else afMinus c)
  else if q = 1 then afMinus c
  else if q = 2 then afWhole c
  else if q = 3 then (if isD c = true then 3 else afWhole c)
  else if q = 4 then (if isD c = true then 5 else 9)
  else if q = 5 then (if isD c = true then 5 else afPart c)
  else if q = 6 ∧ (c = 43 ∨ c = 45) then 7
  else if isD c = true then 8 else 9
/-- What was read: neg, digits, how many of them are behind the point, low, power. -/
abbrev Pd := Bool × List Int × Nat × Bool × Nat
def p0 : Pd := (false, [], 0, false, 0)
def takeS (p : Pd) (q : Nat) (c : Int) : Pd :=
  if q = 1 then (true, p.2.1, p.2.2.1, p.2.2.2.1, p.2.2.2.2)
  else if q = 2 ∨ q = 3 then (p.1, p.2.1 ++ [c], p.2.2.1, p.2.2.2.1, p.2.2.2.2)
  else if q = 5 then (p.1, p.2.1 ++ [c], p.2.2.1 + 1, p.2.2.2.1, p.2.2.2.2)
  else if q = 7 then (p.1, p.2.1, p.2.2.1, (c == 45), p.2.2.2.2)
  else if q = 8 then (p.1, p.2.1, p.2.2.1, p.2.2.2.1, min (p.2.2.2.2 * 10 + (c - 48).toNat) 10000)
  else p
/-- The run over bytes from a place on: where it goes wrong, or the state and what was read. -/
def runS : List Int → Nat → Nat → Pd → Option Nat × Nat × Pd
  | [], _, q, p => (none, q, p)
  | c :: l, k, q, p => if afterS q c = 9 then (some k, 9, p) else runS l (k + 1) (afterS q c) (takeS p (afterS q c) c)
def endS (q : Nat) : Bool := q == 2 || (q == 3 || (q == 5 || q == 8))
def expS (p : Pd) : Int := if p.2.2.2.1 = true then -((p.2.2.2.2 : Nat) : Int) - ((p.2.2.1 : Nat) : Int) else ((p.2.2.2.2 : Nat) : Int) - ((p.2.2.1 : Nat) : Int)
/-- What comes of a run. -/
def doneA (n : Nat) (r : Option Nat × Nat × Pd) : Nm × Int × Int :=
  match r.1 with
  | some k => (noN, 5, ((k : Nat) : Int))
  | none => if endS r.2.1 = true then ((makeA r.2.2.1 (strOfNums r.2.2.2.1) (expS r.2.2)).1, (makeA r.2.2.1 (strOfNums r.2.2.2.1) (expS r.2.2)).2, 0) else (noN, 3, ((n : Nat) : Int))
def parseA (s : ByteArray) : Nm × Int × Int := if 4096 < s.size then (noN, 11, 0) else doneA s.size (runS (bs s) 0 0 p0)

theorem isD_iff {c : Int} : isD c = true ↔ 48 ≤ c ∧ c ≤ 57 := by unfold isD; simp
theorem after_le (q : Nat) (c : Int) : afterS q c ≤ 9 := by
  unfold afterS afMinus afWhole afPart
  repeat' split
  all_goals omega
/-- What is read stays in bounds. -/
def InS (p : Pd) (k : Nat) : Prop := p.2.1.length ≤ k ∧ p.2.2.1 ≤ k ∧ p.2.2.2.2 ≤ 10000 ∧ Digs p.2.1
theorem in0 : InS p0 0 := ⟨Nat.le_refl _, Nat.le_refl _, Nat.zero_le _, fun c hc => by cases hc⟩
theorem take_dig {q : Nat} {c : Int} (h : afterS q c = 2 ∨ afterS q c = 3 ∨ afterS q c = 5 ∨ afterS q c = 8) : 48 ≤ c ∧ c ≤ 57 := by
  unfold afterS afMinus afWhole afPart at h
  by_cases hd : isD c = true
  · exact isD_iff.1 hd
  · have h48 : c ≠ 48 := fun h1 => hd (by rw [h1]; rfl)
    exfalso
    simp only [hd, h48, if_false] at h
    revert h
    repeat' split
    all_goals (intro h; simp_all)
theorem in_take {p : Pd} {k q : Nat} {c : Int} (h : InS p k) : InS (takeS p (afterS q c) c) (k + 1) := by
  have hd := take_dig (q := q) (c := c)
  obtain ⟨h1, h2, h3, h4⟩ := h
  unfold takeS
  generalize afterS q c = Q at *
  by_cases e1 : Q = 1
  · rw [if_pos e1]; exact ⟨by simp; omega, by simp; omega, h3, h4⟩
  rw [if_neg e1]
  by_cases e2 : Q = 2 ∨ Q = 3
  · rw [if_pos e2]
    have hc := hd (by omega)
    exact ⟨by simp; omega, by simp; omega, h3, digs_append h4 (fun x hx => by simp at hx; omega)⟩
  rw [if_neg e2]
  by_cases e5 : Q = 5
  · rw [if_pos e5]
    have hc := hd (by omega)
    exact ⟨by simp; omega, by simp; omega, h3, digs_append h4 (fun x hx => by simp at hx; omega)⟩
  rw [if_neg e5]
  by_cases e7 : Q = 7
  · rw [if_pos e7]; exact ⟨by simp; omega, by simp; omega, h3, h4⟩
  rw [if_neg e7]
  by_cases e8 : Q = 8
  · rw [if_pos e8]; exact ⟨by simp; omega, by simp; omega, by simp; omega, h4⟩
  rw [if_neg e8]
  exact ⟨by omega, by omega, h3, h4⟩
/-- One byte more. -/
theorem run_step {l : List Int} {k q : Nat} {p : Pd} {R : Option Nat × Nat × Pd} (hk : k < l.length) (h : runS (l.drop k) k q p = R) :
    (afterS q (l.getD k 0) = 9 → R = (some k, 9, p)) ∧ (afterS q (l.getD k 0) ≠ 9 → runS (l.drop (k + 1)) (k + 1) (afterS q (l.getD k 0)) (takeS p (afterS q (l.getD k 0)) (l.getD k 0)) = R) := by
  rw [List.drop_eq_getElem_cons hk] at h
  rw [List.getD_eq_getElem?_getD, List.getElem?_eq_getElem hk]
  simp only [Option.getD_some]
  unfold runS at h
  constructor
  · intro h1
    rw [if_pos h1] at h
    exact h.symm
  · intro h1
    rw [if_neg h1] at h
    exact h
end Go.Proofs.YtmlacmoembjeoaaGreatDoor
namespace Go.Proofs.YtmlacmoembjeoaaGreatDoor
open Go.RowKit

theorem isdigit_any (c : Int) (w : World) : Calls Tryz.prog 143 #[.int .u8 c] w fun e w' => e = .returned (.bool (isD c)) ∧ w' = w := by
  have hr : isD c = (decide (48 ≤ c) && decide (c ≤ 57)) := rfl
  rw [hr]
  clear hr
  by_cases h1 : 48 ≤ c
  · go_enter Tryz.func143, Tryz.ntmps143
    go_wp2
    go_ret
    exact ⟨by simp [h1], rfl⟩
  · go_enter Tryz.func143, Tryz.ntmps143
    go_wp2
    go_ret
    exact ⟨by simp; omega, rfl⟩
theorem digitor_any (c x y : Int) (w : World) : Calls Tryz.prog 126 #[.int .u8 c, .int .i64 x, .int .i64 y] w fun e w' => e = .returned (.int .i64 (if isD c = true then x else y)) ∧ w' = w := by
  cases h : isD c with
  | true =>
    rw [if_pos rfl]
    go_enter Tryz.func126, Tryz.ntmps126
    go_wp2_with (go_at_call 143; refine (isdigit_any _ _).mono ?_; rintro e w1 ⟨rfl, hw⟩; obtain rfl : w = w1 := hw.symm; rw [h])
    go_ret
    exact ⟨rfl, rfl⟩
  | false =>
    rw [if_neg (by simp)]
    go_enter Tryz.func126, Tryz.ntmps126
    go_wp2_with (go_at_call 143; refine (isdigit_any _ _).mono ?_; rintro e w1 ⟨rfl, hw⟩; obtain rfl : w = w1 := hw.symm; rw [h])
    go_ret
    exact ⟨rfl, rfl⟩
theorem afpart_any (c : Int) (w : World) : Calls Tryz.prog 127 #[.int .u8 c] w fun e w' => e = .returned (.int .i64 ((afPart c : Nat) : Int)) ∧ w' = w := by
  unfold afPart
  by_cases h1 : c = 101
  · rw [if_pos (.inl h1)]
    subst h1
    go_enter Tryz.func127, Tryz.ntmps127
    go_wp2
    go_ret
    exact ⟨rfl, rfl⟩
  by_cases h2 : c = 69
  · rw [if_pos (.inr h2)]
    subst h2
    go_enter Tryz.func127, Tryz.ntmps127
    go_wp2
    go_ret
    exact ⟨rfl, rfl⟩
  rw [if_neg (by omega)]
  have d1 : (c == 101) = false := by simpa using h1
  have d2 : (c == 69) = false := by simpa using h2
  clear h1 h2
  go_enter Tryz.func127, Tryz.ntmps127
  go_wp2
  go_ret
  exact ⟨rfl, rfl⟩
theorem afwhole_any (c : Int) (w : World) : Calls Tryz.prog 125 #[.int .u8 c] w fun e w' => e = .returned (.int .i64 ((afWhole c : Nat) : Int)) ∧ w' = w := by
  unfold afWhole
  by_cases h1 : c = 46
  · rw [if_pos h1]
    subst h1
    go_enter Tryz.func125, Tryz.ntmps125
    go_wp2
    go_ret
    exact ⟨rfl, rfl⟩
  rw [if_neg h1]
  have d1 : (c == 46) = false := by simpa using h1
  have k := afpart_any c w
  clear h1
  generalize afPart c = A at *
  go_enter Tryz.func125, Tryz.ntmps125
  go_wp2_with (go_at_call 127; refine k.mono ?_; rintro e w1 ⟨rfl, hw⟩; obtain rfl : w = w1 := hw.symm)
  go_ret
  exact ⟨rfl, rfl⟩
theorem afminus_any (c : Int) (w : World) : Calls Tryz.prog 124 #[.int .u8 c] w fun e w' => e = .returned (.int .i64 ((afMinus c : Nat) : Int)) ∧ w' = w := by
  unfold afMinus
  by_cases h1 : c = 48
  · rw [if_pos h1]
    subst h1
    go_enter Tryz.func124, Tryz.ntmps124
    go_wp2
    go_ret
    exact ⟨rfl, rfl⟩
  rw [if_neg h1]
  have d1 : (c == 48) = false := by simpa using h1
  have k := digitor_any c 3 9 w
  have e : ((if isD c = true then 3 else 9 : Nat) : Int) = (if isD c = true then 3 else 9 : Int) := by split <;> rfl
  rw [e]
  clear h1 e
  generalize (if isD c = true then 3 else 9 : Int) = A at *
  go_enter Tryz.func124, Tryz.ntmps124
  go_wp2_with (go_at_call 126; refine k.mono ?_; rintro e w1 ⟨rfl, hw⟩; obtain rfl : w = w1 := hw.symm)
  go_ret
  exact ⟨rfl, rfl⟩
theorem mayend_any (q : Nat) (hq : q ≤ 8) (w : World) : Calls Tryz.prog 108 #[.int .i64 ((q : Nat) : Int)] w fun e w' => e = .returned (.bool (endS q)) ∧ w' = w := by
  match q, hq with
  | 0, _ | 1, _ | 2, _ | 3, _ | 4, _ | 5, _ | 6, _ | 7, _ | 8, _ =>
    go_enter Tryz.func108, Tryz.ntmps108
    go_wp2
    go_ret
    exact ⟨rfl, rfl⟩
set_option maxHeartbeats 1000000 in
theorem after_any (q : Nat) (hq : q ≤ 8) (c : Int) (w : World) : Calls Tryz.prog 106 #[.int .i64 ((q : Nat) : Int), .int .u8 c] w fun e w' => e = .returned (.int .i64 ((afterS q c : Nat) : Int)) ∧ w' = w := by
  have kM := afminus_any c
  have kW := afwhole_any c
  have kP := afpart_any c
  have kD := digitor_any c
  have eD : ∀ x y : Nat, (((if isD c = true then x else y) : Nat) : Int) = (if isD c = true then ((x : Nat) : Int) else ((y : Nat) : Int)) := fun x y => by split <;> rfl
  match q, hq with
  | 0, _ =>
    by_cases h : c = 45
    · have e : afterS 0 c = 1 := by unfold afterS; rw [if_pos rfl, if_pos h]
      rw [e]
      subst h
      clear e kM kW kP kD eD
      go_enter Tryz.func106, Tryz.ntmps106
      go_wp2
      go_ret
      exact ⟨rfl, rfl⟩
    · have e : afterS 0 c = afMinus c := by unfold afterS; rw [if_pos rfl, if_neg h]
      rw [e]
      have d1 : (c == 45) = false := by simpa using h
      clear e h kW kP kD eD
      generalize afMinus c = A at *
      go_enter Tryz.func106, Tryz.ntmps106
      go_wp2_with (go_at_call 124; refine (kM w).mono ?_; rintro e w1 ⟨rfl, hw⟩; obtain rfl : w = w1 := hw.symm)
      go_ret
      exact ⟨rfl, rfl⟩
  | 1, _ =>
    have e : afterS 1 c = afMinus c := rfl
    rw [e]
    clear e kW kP kD eD
    generalize afMinus c = A at *
    go_enter Tryz.func106, Tryz.ntmps106
    go_wp2_with (go_at_call 124; refine (kM w).mono ?_; rintro e w1 ⟨rfl, hw⟩; obtain rfl : w = w1 := hw.symm)
    go_ret
    exact ⟨rfl, rfl⟩
  | 2, _ =>
    have e : afterS 2 c = afWhole c := rfl
    rw [e]
    clear e kM kP kD eD
    generalize afWhole c = A at *
    go_enter Tryz.func106, Tryz.ntmps106
    go_wp2_with (go_at_call 125; refine (kW w).mono ?_; rintro e w1 ⟨rfl, hw⟩; obtain rfl : w = w1 := hw.symm)
    go_ret
    exact ⟨rfl, rfl⟩
  | 3, _ =>
    have e : ((afterS 3 c : Nat) : Int) = (if isD c = true then 3 else ((afWhole c : Nat) : Int)) := eD 3 (afWhole c)
    rw [e]
    clear e kM kP eD
    have k := kD 3 ((afWhole c : Nat) : Int) w
    clear kD
    generalize (if isD c = true then 3 else ((afWhole c : Nat) : Int)) = B at *
    generalize afWhole c = A at *
    go_enter Tryz.func106, Tryz.ntmps106
    go_wp2_with (first
      | (go_at_call 125; refine (kW w).mono ?_; rintro e w1 ⟨rfl, hw⟩; obtain rfl : w = w1 := hw.symm)
      | (go_at_call 126; refine k.mono ?_; rintro e w1 ⟨rfl, hw⟩; obtain rfl : w = w1 := hw.symm))
    go_ret
    exact ⟨rfl, rfl⟩
  | 4, _ =>
    have e : ((afterS 4 c : Nat) : Int) = (if isD c = true then 5 else 9) := eD 5 9
    rw [e]
    clear e kM kP kW eD
    have k := kD 5 9 w
    clear kD
    generalize (if isD c = true then 5 else 9 : Int) = B at *
    go_enter Tryz.func106, Tryz.ntmps106
    go_wp2_with (go_at_call 126; refine k.mono ?_; rintro e w1 ⟨rfl, hw⟩; obtain rfl : w = w1 := hw.symm)
    go_ret
    exact ⟨rfl, rfl⟩
  | 5, _ =>
    have e : ((afterS 5 c : Nat) : Int) = (if isD c = true then 5 else ((afPart c : Nat) : Int)) := eD 5 (afPart c)
    rw [e]
    clear e kM kW eD
    have k := kD 5 ((afPart c : Nat) : Int) w
    clear kD
    generalize (if isD c = true then 5 else ((afPart c : Nat) : Int)) = B at *
    generalize afPart c = A at *
    go_enter Tryz.func106, Tryz.ntmps106
    go_wp2_with (first
      | (go_at_call 127; refine (kP w).mono ?_; rintro e w1 ⟨rfl, hw⟩; obtain rfl : w = w1 := hw.symm)
      | (go_at_call 126; refine k.mono ?_; rintro e w1 ⟨rfl, hw⟩; obtain rfl : w = w1 := hw.symm))
    go_ret
    exact ⟨rfl, rfl⟩
  | 6, _ =>
    have k := kD 8 9 w
    clear kM kP kW kD
    by_cases h1 : c = 43
    · have e : afterS 6 c = 7 := by unfold afterS; simp [h1]
      rw [e]
      subst h1
      clear e k eD
      go_enter Tryz.func106, Tryz.ntmps106
      go_wp2
      go_ret
      exact ⟨rfl, rfl⟩
    by_cases h2 : c = 45
    · have e : afterS 6 c = 7 := by unfold afterS; simp [h2]
      rw [e]
      subst h2
      clear e k eD h1
      go_enter Tryz.func106, Tryz.ntmps106
      go_wp2
      go_ret
      exact ⟨rfl, rfl⟩
    have e : ((afterS 6 c : Nat) : Int) = (if isD c = true then 8 else 9) := by
      unfold afterS
      simp only [h1, h2, or_self, and_false, if_false]
      exact eD 8 9
    rw [e]
    have d1 : (c == 43) = false := by simpa using h1
    have d2 : (c == 45) = false := by simpa using h2
    clear e eD h1 h2
    generalize (if isD c = true then 8 else 9 : Int) = B at *
    go_enter Tryz.func106, Tryz.ntmps106
    go_wp2_with (go_at_call 126; refine k.mono ?_; rintro e w1 ⟨rfl, hw⟩; obtain rfl : w = w1 := hw.symm)
    go_ret
    exact ⟨rfl, rfl⟩
  | 7, _ =>
    have e : ((afterS 7 c : Nat) : Int) = (if isD c = true then 8 else 9) := eD 8 9
    rw [e]
    have k := kD 8 9 w
    clear e kM kP kW eD kD
    generalize (if isD c = true then 8 else 9 : Int) = B at *
    go_enter Tryz.func106, Tryz.ntmps106
    go_wp2_with (go_at_call 126; refine k.mono ?_; rintro e w1 ⟨rfl, hw⟩; obtain rfl : w = w1 := hw.symm)
    go_ret
    exact ⟨rfl, rfl⟩
  | 8, _ =>
    have e : ((afterS 8 c : Nat) : Int) = (if isD c = true then 8 else 9) := eD 8 9
    rw [e]
    have k := kD 8 9 w
    clear e kM kP kW eD kD
    generalize (if isD c = true then 8 else 9 : Int) = B at *
    go_enter Tryz.func106, Tryz.ntmps106
    go_wp2_with (go_at_call 126; refine k.mono ?_; rintro e w1 ⟨rfl, hw⟩; obtain rfl : w = w1 := hw.symm)
    go_ret
    exact ⟨rfl, rfl⟩
end Go.Proofs.YtmlacmoembjeoaaGreatDoor
namespace Go.Proofs.YtmlacmoembjeoaaGreatDoor
open Go.RowKit Go.Shelf Go.Lib

theorem triml_any (s : ByteArray) (w : World) : Calls Tryz.prog 129 #[.string s, .string zS] w fun e w' => (∃ t, e = .returned (.string t) ∧ bs t = longL (bs s)) ∧ w' = w :=
  (Any.strings_TrimLeft_one lays161 s 48 (by decide) w).mono fun e w' ⟨h1, h2⟩ => ⟨⟨_, h1, bs_trimL s⟩, h2⟩
theorem trimr_any (s : ByteArray) (w : World) (hs : s.size ≤ 9223372036854775807) : Calls Tryz.prog 131 #[.string s, .string zS] w fun e w' => (∃ t, e = .returned (.string t) ∧ bs t = shortL (bs s)) ∧ w' = w :=
  (Any.strings_TrimRight_one lays162 s 48 (by decide) w hs).mono fun e w' ⟨h1, h2⟩ => ⟨⟨_, h1, bs_trimR s⟩, h2⟩
theorem sclone_any (s : ByteArray) (w : World) (hs : s.size ≤ 281474976710656) : Calls Tryz.prog 122 #[.string s] w fun e w' => e = .returned (.string s) ∧ Below w.heap.size w w' :=
  Any.stringslite_Clone laysM316 s w hs
theorem clone_any (s : ByteArray) (w : World) (hs : s.size ≤ 281474976710656) : Calls Tryz.prog 93 #[.string s] w fun e w' => e = .returned (.string s) ∧ Below w.heap.size w w' := by
  have k := sclone_any s w hs
  clear hs
  go_enter Tryz.func93, Tryz.ntmps93
  go_wp2_with (go_at_call 122; refine k.mono ?_; rintro e w1 ⟨rfl, hb⟩)
  go_ret
  exact ⟨rfl, hb⟩
/-- A text that ends with 0. -/
theorem suf_last {s : ByteArray} (h0 : 0 < s.size) : Lib.hasSuffix s.data.toList [48] = ((bs s).getD (s.size - 1) 0 == 48) := by
  obtain ⟨t, c, ht⟩ : ∃ t c, s.data.toList = t ++ [c] := by
    have hn : s.data.toList ≠ [] := fun h => by
      have := congrArg List.length h
      rw [Array.length_toList] at this
      have h2 : s.size = 0 := this
      omega
    exact ⟨s.data.toList.dropLast, s.data.toList.getLast hn, (List.dropLast_concat_getLast hn).symm⟩
  have hsz : s.size = t.length + 1 := by
    have := congrArg List.length ht
    rw [Array.length_toList, List.length_append] at this
    exact this
  have e1 : bs s = numsU t ++ [((c.toNat : Nat) : Int)] := by
    have : bs s = numsU s.data.toList := rfl
    rw [this, ht]
    unfold numsU
    rw [List.map_append]
    rfl
  have e2 : (bs s).getD (s.size - 1) 0 = ((c.toNat : Nat) : Int) := by
    rw [e1, hsz, List.getD_eq_getElem?_getD, List.getElem?_append_right (by simp [numsU])]
    simp [numsU]
  rw [e2, ht]
  unfold Lib.hasSuffix
  rw [Bool.eq_iff_iff, List.isSuffixOf_iff_suffix, beq_iff_eq]
  constructor
  · rintro ⟨u, hu⟩
    have h2 := (List.append_inj' hu rfl).2
    simp at h2
    rw [← h2]
    rfl
  · intro h
    have : c = 48 := UInt8.toNat_inj.1 (by show c.toNat = 48; omega)
    rw [this]
    exact ⟨t, rfl⟩
theorem hassuf_any (s : ByteArray) (w : World) (h0 : 0 < s.size) (hs : s.size ≤ 9223372036854775807) : Calls Tryz.prog 133 #[.string s, .string zS] w fun e w' => e = .returned (.bool ((bs s).getD (s.size - 1) 0 == 48)) ∧ w' = w := by
  have h := Any.strings_HasSuffix lays100 s zS w hs
  rw [← suf_last h0]
  exact h
end Go.Proofs.YtmlacmoembjeoaaGreatDoor
namespace Go.Proofs.YtmlacmoembjeoaaGreatDoor
open Go.RowKit

/-- A number's three cells in memory. -/
def NmAt (w : World) (g : Nat) (n : Bool) (s : ByteArray) (x : Int) : Prop := w.cell? ⟨g, 0, none⟩ = some (.bool n) ∧ w.cell? ⟨g, 1, none⟩ = some (.string s) ∧ w.cell? ⟨g, 2, none⟩ = some (.int .i64 x)
theorem box_at (w : World) (n : Bool) (s : ByteArray) (x : Int) (t : TypeId) : NmAt (w.alloc (.cells #[.bool n, .string s, .int .i64 x] t)) w.heap.size n s x := by
  refine ⟨?_, ?_, ?_⟩ <;> (rw [World.cell?_alloc_mark]; rfl)
theorem NmAt.kept {w w' : World} {B g : Nat} {n : Bool} {s : ByteArray} {x : Int} (h : NmAt w g n s x) (hb : Below B w w') (hg : g < B) : NmAt w' g n s x := by
  obtain ⟨h0, h1, h2⟩ := h
  exact ⟨by rw [hb.cell (p := ⟨g, 0, none⟩) hg]; exact h0, by rw [hb.cell (p := ⟨g, 1, none⟩) hg]; exact h1, by rw [hb.cell (p := ⟨g, 2, none⟩) hg]; exact h2⟩
theorem box_drew {w w' : World} {o : Obj} (h : Below (w.alloc o).drew.heap.size (w.alloc o).drew w') : Below w.heap.size w w' := (alloc_below w o).drew.trans (h.mono (Nat.le_of_lt (alloc_lt w o)))
/-- A number as a block's whole. -/
def NRow (w : World) (g : Nat) (n : Bool) (s : ByteArray) (x : Int) : Prop := w.heap[g]? = some (.cells #[.bool n, .string s, .int .i64 x] 84 (0, 0))
theorem NRow.lt {w : World} {g : Nat} {n : Bool} {s : ByteArray} {x : Int} (h : NRow w g n s x) : g < w.heap.size := (Array.getElem?_eq_some_iff.1 h).1
theorem NRow.at {w : World} {g : Nat} {n : Bool} {s : ByteArray} {x : Int} (h : NRow w g n s x) : NmAt w g n s x := by
  refine ⟨?_, ?_, ?_⟩ <;> (rw [cell_row h]; rfl)
theorem NRow.fz {w : World} {g : Nat} {n : Bool} {s : ByteArray} {x : Int} (h : NRow w g n s x) (j : Nat) : w.frozen? ⟨g, j, none⟩ = false := by
  unfold NRow at h
  simp [World.frozen?, h]
theorem NRow.kept {w w' : World} {g : Nat} {n : Bool} {s : ByteArray} {x : Int} (h : NRow w g n s x) (hb : Below w.heap.size w w') : NRow w' g n s x := by
  unfold NRow
  rw [hb.block g h.lt]
  exact h
theorem row_new (w : World) (n : Bool) (s : ByteArray) (x : Int) : NRow (w.alloc (.cells #[.bool n, .string s, .int .i64 x] 84)) w.heap.size n s x := heap_alloc_new w _
theorem eq_size (s : ByteArray) : (s.toList == [48]) = decide (s = zS) := by
  rw [Bool.eq_iff_iff, beq_iff_eq, decide_eq_true_iff, ByteArray.toList_eq]
  constructor
  · intro h
    apply bs_inj
    unfold bs
    rw [h]
    rfl
  · intro h
    rw [h]
    rfl
theorem zero_any (w : World) : Calls Tryz.prog 130 #[] w fun e w' => e = .returned (.agg #[.bool false, .string ⟨#[48]⟩, .int .i64 0]) ∧ Below w.heap.size w w' := by
  go_enter Tryz.func130, Tryz.ntmps130
  go_wp2
  refine bodyPost_ret (v := .agg #[.bool false, .string ⟨#[48]⟩, .int .i64 0]) (by simp [results, Tryz.results130, go_sem]) rfl ⟨rfl, ?_⟩
  exact alloc_below _ _
theorem iszero_any (n : Bool) (s : ByteArray) (x : Int) (w : World) : Calls Tryz.prog 132 #[.agg #[.bool n, .string s, .int .i64 x]] w fun e w' => e = .returned (.bool (decide (n = false ∧ s = zS ∧ x = 0))) ∧ Below w.heap.size w w' := by
  have kZ := zero_any
  have hB := box_at w n s x 84
  cases n with
  | true =>
    have hR : decide (true = false ∧ s = zS ∧ x = 0) = false := by simp
    rw [hR]
    clear hR
    go_enter Tryz.func132, Tryz.ntmps132
    go_wp2
    go_region_held3 (fun w' => w'.cell? ⟨w.heap.size, 0, none⟩ = some (.bool true) ∧ w'.cell? ⟨w.heap.size, 1, none⟩ = some (.string s) ∧ w'.cell? ⟨w.heap.size, 2, none⟩ = some (.int .i64 x)) (first | exact hB | exact hB1) (first | (go_at_call 130; refine (kZ _).mono ?_; rintro e w1 ⟨rfl, hb⟩; have hB1 := NmAt.kept (w := (w.alloc _).drew) hB hb (alloc_lt _ _)))
    go_wp2
    go_ret
    exact ⟨rfl, box_drew hb⟩
  | false =>
    by_cases hs : s = zS
    · subst hs
      by_cases hx : x = 0
      · subst hx
        have hR : decide (false = false ∧ zS = zS ∧ (0 : Int) = 0) = true := by simp
        rw [hR]
        clear hR
        unfold zS at *
        go_enter Tryz.func132, Tryz.ntmps132
        go_wp2
        go_region_held3 (fun w' => w'.cell? ⟨w.heap.size, 0, none⟩ = some (.bool false) ∧ w'.cell? ⟨w.heap.size, 1, none⟩ = some (.string ⟨#[48]⟩) ∧ w'.cell? ⟨w.heap.size, 2, none⟩ = some (.int .i64 0)) (first | exact hB | exact hB1) (first | (go_at_call 130; refine (kZ _).mono ?_; rintro e w1 ⟨rfl, hb⟩; have hB1 := NmAt.kept (w := (w.alloc _).drew) hB hb (alloc_lt _ _)))
        go_wp2
        go_ret
        exact ⟨rfl, box_drew hb⟩
      · have hR : decide (false = false ∧ zS = zS ∧ x = 0) = false := by simp [hx]
        rw [hR]
        have d1 : (x == 0) = false := by simpa using hx
        clear hR hx
        unfold zS at *
        go_enter Tryz.func132, Tryz.ntmps132
        go_wp2
        go_region_held3 (fun w' => w'.cell? ⟨w.heap.size, 0, none⟩ = some (.bool false) ∧ w'.cell? ⟨w.heap.size, 1, none⟩ = some (.string ⟨#[48]⟩) ∧ w'.cell? ⟨w.heap.size, 2, none⟩ = some (.int .i64 x)) (first | exact hB | exact hB1) (first | (go_at_call 130; refine (kZ _).mono ?_; rintro e w1 ⟨rfl, hb⟩; have hB1 := NmAt.kept (w := (w.alloc _).drew) hB hb (alloc_lt _ _)))
        go_wp2
        go_ret
        exact ⟨rfl, box_drew hb⟩
    · have hR : decide (false = false ∧ s = zS ∧ x = 0) = false := by simp [hs]
      rw [hR]
      have d1 : (s.toList == [48]) = false := by rw [eq_size]; simpa using hs
      clear hR hs
      go_enter Tryz.func132, Tryz.ntmps132
      go_wp2
      go_region_held3 (fun w' => w'.cell? ⟨w.heap.size, 0, none⟩ = some (.bool false) ∧ w'.cell? ⟨w.heap.size, 1, none⟩ = some (.string s) ∧ w'.cell? ⟨w.heap.size, 2, none⟩ = some (.int .i64 x)) (first | exact hB | exact hB1) (first | (go_at_call 130; refine (kZ _).mono ?_; rintro e w1 ⟨rfl, hb⟩; have hB1 := NmAt.kept (w := (w.alloc _).drew) hB hb (alloc_lt _ _)))
      go_wp2
      go_ret
      exact ⟨rfl, box_drew hb⟩

theorem rtN_rest {n : Bool} {s : ByteArray} {x : Int} (hz : ¬ (n = false ∧ s = zS ∧ x = 0)) : rtN n s x = (rt s && (!((bs s).getD (s.size - 1) 0 == 48) && (decide (-2000 ≤ x) && decide (x ≤ 2000)))) := by
  unfold rtN
  by_cases h : bs s = [48]
  · have e := (z_iff s).1 h
    rw [if_pos h, h, e]
    have e1 : ((List.getD [48] (zS.size - 1) 0 : Int) == 48) = true := rfl
    rw [e1]
    have e2 : (!n && x == 0) = false := by
      cases n with
      | true => rfl
      | false =>
        have : x ≠ 0 := fun hx => hz ⟨rfl, e, hx⟩
        simpa using this
    rw [e2]
    simp
  · rw [if_neg h]
    rfl
set_option maxHeartbeats 1000000 in
theorem dright_any (n : Bool) (s : ByteArray) (x : Int) (w : World) : Calls Tryz.prog 111 #[.agg #[.bool n, .string s, .int .i64 x]] w fun e w' => e = .returned (.bool (rtN n s x)) ∧ Below w.heap.size w w' := by
  have hB := box_at w n s x 84
  have kI := iszero_any n s x
  by_cases hz : n = false ∧ s = zS ∧ x = 0
  · have hR : rtN n s x = true := by obtain ⟨rfl, rfl, rfl⟩ := hz; exact rtN_zero
    rw [hR]
    rw [decide_eq_true hz] at kI
    clear hz hR
    obtain ⟨b0, b1, b2⟩ := hB
    go_enter Tryz.func111, Tryz.ntmps111
    go_wp2_with (go_at_call 132; refine (kI _).mono ?_; rintro e w1 ⟨rfl, hb⟩)
    go_ret
    exact ⟨rfl, box_below hb⟩
  · have hR := rtN_rest hz
    rw [hR]
    rw [decide_eq_false hz] at kI
    clear hz hR
    have kR := right_any s
    cases h1 : rt s with
    | false =>
      rw [h1] at kR
      rw [Bool.false_and]
      obtain ⟨b0, b1, b2⟩ := id hB
      go_enter Tryz.func111, Tryz.ntmps111
      go_wp2_with (first
        | (go_at_call 132; refine (kI _).mono ?_; rintro e w1 ⟨rfl, hb⟩; obtain ⟨c0, c1, c2⟩ := hB.kept hb (alloc_lt _ _))
        | (go_at_call 112; refine (kR _).mono ?_; rintro e w2 ⟨rfl, hw⟩; obtain rfl : w1 = w2 := hw.symm))
      go_ret
      exact ⟨rfl, box_below hb⟩
    | true =>
      rw [h1] at kR
      rw [Bool.true_and]
      have hsz := rt_size h1
      have kH := fun w => hassuf_any s w hsz.1 (by omega)
      clear hsz h1
      obtain ⟨b0, b1, b2⟩ := id hB
      cases h2 : ((bs s).getD (s.size - 1) 0 == 48) with
      | true =>
        rw [h2] at kH
        go_enter Tryz.func111, Tryz.ntmps111
        go_wp2_with (first
          | (go_at_call 132; refine (kI _).mono ?_; rintro e w1 ⟨rfl, hb⟩; obtain ⟨c0, c1, c2⟩ := hB.kept hb (alloc_lt _ _))
          | (go_at_call 112; refine (kR _).mono ?_; rintro e w2 ⟨rfl, hw⟩; obtain rfl : w1 = w2 := hw.symm)
          | (go_at_call 133; refine (kH _).mono ?_; rintro e w2 ⟨rfl, hw⟩; obtain rfl : w1 = w2 := hw.symm))
        go_ret
        exact ⟨rfl, box_below hb⟩
      | false =>
        rw [h2] at kH
        by_cases h3 : -2000 ≤ x
        · by_cases h4 : x ≤ 2000
          · have hR : (!false && (decide (-2000 ≤ x) && decide (x ≤ 2000))) = true := by simp [h3, h4]
            rw [hR]
            have d3 : decide (-2000 ≤ x) = true := by simpa using h3
            have d4 : decide (x ≤ 2000) = true := by simpa using h4
            clear hR h3 h4
            go_enter Tryz.func111, Tryz.ntmps111
            go_wp2_with (first
              | (go_at_call 132; refine (kI _).mono ?_; rintro e w1 ⟨rfl, hb⟩; obtain ⟨c0, c1, c2⟩ := hB.kept hb (alloc_lt _ _))
              | (go_at_call 112; refine (kR _).mono ?_; rintro e w2 ⟨rfl, hw⟩; obtain rfl : w1 = w2 := hw.symm)
              | (go_at_call 133; refine (kH _).mono ?_; rintro e w2 ⟨rfl, hw⟩; obtain rfl : w1 = w2 := hw.symm))
            go_ret
            exact ⟨rfl, box_below hb⟩
          · have hR : (!false && (decide (-2000 ≤ x) && decide (x ≤ 2000))) = false := by simp [h4]
            rw [hR]
            have d3 : decide (-2000 ≤ x) = true := by simpa using h3
            have d4 : decide (x ≤ 2000) = false := by simpa using h4
            clear hR h3 h4
            go_enter Tryz.func111, Tryz.ntmps111
            go_wp2_with (first
              | (go_at_call 132; refine (kI _).mono ?_; rintro e w1 ⟨rfl, hb⟩; obtain ⟨c0, c1, c2⟩ := hB.kept hb (alloc_lt _ _))
              | (go_at_call 112; refine (kR _).mono ?_; rintro e w2 ⟨rfl, hw⟩; obtain rfl : w1 = w2 := hw.symm)
              | (go_at_call 133; refine (kH _).mono ?_; rintro e w2 ⟨rfl, hw⟩; obtain rfl : w1 = w2 := hw.symm))
            go_ret
            exact ⟨rfl, box_below hb⟩
        · have hR : (!false && (decide (-2000 ≤ x) && decide (x ≤ 2000))) = false := by simp [h3]
          rw [hR]
          have d3 : decide (-2000 ≤ x) = false := by simpa using h3
          clear hR h3
          go_enter Tryz.func111, Tryz.ntmps111
          go_wp2_with (first
            | (go_at_call 132; refine (kI _).mono ?_; rintro e w1 ⟨rfl, hb⟩; obtain ⟨c0, c1, c2⟩ := hB.kept hb (alloc_lt _ _))
            | (go_at_call 112; refine (kR _).mono ?_; rintro e w2 ⟨rfl, hw⟩; obtain rfl : w1 = w2 := hw.symm)
            | (go_at_call 133; refine (kH _).mono ?_; rintro e w2 ⟨rfl, hw⟩; obtain rfl : w1 = w2 := hw.symm))
          go_ret
          exact ⟨rfl, box_below hb⟩
end Go.Proofs.YtmlacmoembjeoaaGreatDoor
