/-
  The document's reader as plain mathematics: it reads what the row of states reads.
-/
import Derived.Test.YtcnfgmhcbelgoaaDoorMach
namespace Go.Proofs.YtcnfgmhcbelgoaaDoor
open Go

/-- A place, and a fault. -/
abbrev St := Nat × Int × Int
def isR (l : List Int) (st : St) (c : Int) : Bool := (st.2.1 == 0) && (decide (st.1 < l.length) && (l.getD st.1 0 == c))
def onR (st : St) : St := (st.1 + 1, st.2.1, st.2.2)
def mayR (l : List Int) (st : St) (c : Int) : St := if isR l st c = true then onR st else st
def wrongR (l : List Int) (st : St) : St := if st.2.1 = 0 then (if l.length ≤ st.1 then (st.1, 3, ((l.length : Nat) : Int)) else (st.1, 5, ((st.1 : Nat) : Int))) else st
def spanR (l : List Int) (st : St) : List Int := if st.2.1 = 0 then (l.drop st.1).takeWhile isD else []
def digR (l : List Int) (st : St) : List Int × St := if spanR l st = [] then ([], wrongR l st) else (spanR l st, (st.1 + (spanR l st).length, st.2.1, st.2.2))
def powY (d : List Int) : Nat := d.foldl (fun n c => min (n * 10 + (c - 48).toNat) 1000000) 0
def st0 : St := (0, 0, 0)
def wholeR (l : List Int) (st : St) : List Int × St := if isR l st 48 = true then ([48], onR st) else digR l st
def partR (l : List Int) (st : St) : List Int × St := if isR l st 46 = true then digR l (onR st) else ([], st)
def signR (l : List Int) (st : St) : St := if isR l st 45 = true ∨ isR l st 43 = true then onR st else st
def expR (l : List Int) (st : St) : Int × St :=
  if isR l st 101 = true ∨ isR l st 69 = true then
    ((if isR l (onR st) 45 = true then -((powY (digR l (signR l (onR st))).1 : Nat) : Int) else ((powY (digR l (signR l (onR st))).1 : Nat) : Int)), (digR l (signR l (onR st))).2)
  else (0, st)
def lastR (l : List Int) (st : St) : St := if st.1 < l.length then wrongR l st else st
/-- What comes of it. -/
def finR (n : Bool) (wh pt : List Int) (x : Int) (st : St) : Nm × Int × Int :=
  if st.2.1 ≠ 0 then (noN, st.2.1, st.2.2)
  else if (makeA n (strOfNums (wh ++ pt)) (x - ((pt.length : Nat) : Int))).2 ≠ 0 then (noN, 11, 0)
  else ((makeA n (strOfNums (wh ++ pt)) (x - ((pt.length : Nat) : Int))).1, 0, 0)
def readR (l : List Int) : Nm × Int × Int :=
  finR (isR l st0 45) (wholeR l (mayR l st0 45)).1 (partR l (wholeR l (mayR l st0 45)).2).1 (expR l (partR l (wholeR l (mayR l st0 45)).2).2).1 (lastR l (expR l (partR l (wholeR l (mayR l st0 45)).2).2).2)

/-! ### Behind a fault nothing is read -/
theorem is_bad {l : List Int} {st : St} {c : Int} (h : st.2.1 ≠ 0) : isR l st c = false := by
  unfold isR
  have : (st.2.1 == 0) = false := by simpa using h
  rw [this]; rfl
theorem wrong_bad {l : List Int} {st : St} (h : st.2.1 ≠ 0) : wrongR l st = st := by unfold wrongR; rw [if_neg h]
theorem wrong_is {l : List Int} {st : St} (h : st.2.1 = 0) : (wrongR l st).2.1 ≠ 0 := by
  unfold wrongR
  rw [if_pos h]
  split
  · show (3 : Int) ≠ 0; decide
  · show (5 : Int) ≠ 0; decide
theorem part_bad {l : List Int} {st : St} (h : st.2.1 ≠ 0) : partR l st = ([], st) := by unfold partR; rw [is_bad h]; rfl
theorem exp_bad {l : List Int} {st : St} (h : st.2.1 ≠ 0) : expR l st = (0, st) := by
  unfold expR
  rw [if_neg (by rw [is_bad h, is_bad h]; simp)]
theorem last_bad {l : List Int} {st : St} (h : st.2.1 ≠ 0) : lastR l st = st := by
  unfold lastR
  split
  · exact wrong_bad h
  · rfl
/-- What a fault tells. -/
def faultR (l : List Int) (k : Nat) : Nm × Int × Int := if l.length ≤ k then (noN, 3, ((l.length : Nat) : Int)) else (noN, 5, ((k : Nat) : Int))
theorem fin_bad {n : Bool} {wh pt : List Int} {x : Int} {l : List Int} {k : Nat} : finR n wh pt x (wrongR l (k, 0, 0)) = faultR l k := by
  unfold finR faultR wrongR
  rw [if_pos rfl]
  by_cases h : l.length ≤ k
  · rw [if_pos h, if_pos h]; rfl
  · rw [if_neg h, if_neg h]; rfl
theorem is_at {l : List Int} {k : Nat} {c : Int} : isR l (k, 0, 0) c = true ↔ k < l.length ∧ l.getD k 0 = c := by
  unfold isR
  simp
theorem dig_at (l : List Int) (k : Nat) : digR l (k, 0, 0) = if (l.drop k).takeWhile isD = [] then ([], wrongR l (k, 0, 0)) else ((l.drop k).takeWhile isD, (k + ((l.drop k).takeWhile isD).length, 0, 0)) := rfl
/-- The rest of the run, and what the reader makes of it: where it stands. -/
theorem drop_at {l : List Int} {k : Nat} (h : k < l.length) : l.drop k = l.getD k 0 :: l.drop (k + 1) := by
  rw [List.drop_eq_getElem_cons h, List.getD_eq_getElem?_getD, List.getElem?_eq_getElem h]
  rfl
theorem drop_end {l : List Int} {k : Nat} (h : ¬ k < l.length) : l.drop k = [] := List.drop_of_length_le (by omega)
theorem drop_span (l : List Int) (k : Nat) : (l.drop k).dropWhile isD = l.drop (k + ((l.drop k).takeWhile isD).length) := by
  have h := List.takeWhile_append_dropWhile (p := isD) (l := l.drop k)
  have h2 : (l.drop k).drop ((l.drop k).takeWhile isD).length = (l.drop k).dropWhile isD := by
    conv => lhs; arg 2; rw [← h]
    rw [List.drop_left]
  rw [← h2, List.drop_drop]
theorem span_stop (l : List Int) (k : Nat) (h : k + ((l.drop k).takeWhile isD).length < l.length) : isD (l.getD (k + ((l.drop k).takeWhile isD).length) 0) = false := by
  have h1 := drop_span l k
  rw [drop_at h] at h1
  cases hc : isD (l.getD (k + ((l.drop k).takeWhile isD).length) 0) with
  | false => rfl
  | true =>
    have h2 := List.head_dropWhile_not (p := isD) (l := l.drop k) (by rw [h1]; simp)
    simp only [h1, List.head_cons] at h2
    rw [hc] at h2
    cases h2
theorem run_cons' (c : Int) (l : List Int) (k q : Nat) (p : Pd) : runS (c :: l) k q p = if afterS q c = 9 then (some k, 9, p) else runS l (k + 1) (afterS q c) (takeS p (afterS q c) c) := by
  conv => lhs; unfold runS
/-- The digits that begin at k, read by the states: one at least, or a fault there. -/
theorem span_first {l : List Int} {k : Nat} (h : k < l.length) (hc : isD (l.getD k 0) = true) : (l.drop k).takeWhile isD = l.getD k 0 :: (l.drop (k + 1)).takeWhile isD := by
  rw [drop_at h, List.takeWhile_cons_of_pos hc]
theorem span_none {l : List Int} {k : Nat} : (l.drop k).takeWhile isD = [] ↔ (k < l.length → isD (l.getD k 0) = false) := by
  constructor
  · intro h hk
    cases hc : isD (l.getD k 0) with
    | false => rfl
    | true => rw [span_first hk hc] at h; cases h
  · intro h
    by_cases hk : k < l.length
    · rw [drop_at hk, List.takeWhile_cons_of_neg (by rw [h hk]; simp)]
    · rw [drop_end hk]; rfl
/-- Where digits must follow and none does. -/
theorem run_fault {l : List Int} {k q : Nat} {p : Pd} (hq : endS q = false) (h : k < l.length → afterS q (l.getD k 0) = 9) : doneA l.length (runS (l.drop k) k q p) = faultR l k := by
  unfold faultR
  by_cases hk : k < l.length
  · rw [if_neg (by omega), drop_at hk, run_cons', if_pos (h hk)]
    rfl
  · rw [if_pos (by omega), drop_end hk]
    show (if endS q = true then _ else _) = _
    rw [hq]; rfl
end Go.Proofs.YtcnfgmhcbelgoaaDoor
