/-
  A text gone through by a row of states, as plain mathematics.
-/
import Derived.Test.YtfkoghmbkgbgbaaDoorDans
namespace Go.Proofs.YtfkoghmbkgbgbaaDoor
open Go

def isD (c : Int) : Bool := decide (48 ≤ c) && decide (c ≤ 57)
def afPart (c : Int) : Nat := if c = 101 ∨ c = 69 then 6 else 9
def afWhole (c : Int) : Nat := if c = 46 then 4 else afPart c
def afMinus (c : Int) : Nat := if c = 48 then 2 else if isD c = true then 3 else 9
/-- The state behind one more byte: 0 nothing, 1 minus, 2 a 0, 3 whole, 4 point, 5 part, 6 mark, 7 sign, 8 power, 9 wrong. -/
def afterS (q : Nat) (c : Int) : Nat :=
  if q = 0 then (if c = 45 then 1 else afMinus c)
  else if q = 1 then afMinus c
  else if q = 2 then afWhole c
  else if q = 3 then (if isD c = true then 3 else afWhole c)
  else if q = 4 then (if isD c = true then 5 else 9)
  else if q = 5 then (if isD c = true then 5 else afPart c)
  else if q = 6 ∧ (c = 43 ∨ c = 45) then 7
  else if isD c = true then 8 else 9
/-- What was read: neg, digits, how many of them are behind the point, low, power. -/
abbrev Pd := Bool × List Int × Nat × Bool × Nat
def p0 : Pd := (false, [], 0, false, 0)
def takeS (p : Pd) (q : Nat) (c : Int) : Pd :=
  if q = 1 then (true, p.2.1, p.2.2.1, p.2.2.2.1, p.2.2.2.2)
  else if q = 2 ∨ q = 3 then (p.1, p.2.1 ++ [c], p.2.2.1, p.2.2.2.1, p.2.2.2.2)
  else if q = 5 then (p.1, p.2.1 ++ [c], p.2.2.1 + 1, p.2.2.2.1, p.2.2.2.2)
  else if q = 7 then (p.1, p.2.1, p.2.2.1, (c == 45), p.2.2.2.2)
  else if q = 8 then (p.1, p.2.1, p.2.2.1, p.2.2.2.1, min (p.2.2.2.2 * 10 + (c - 48).toNat) 10000)
  else p
/-- The run over bytes from a place on: where it goes wrong, or the state and what was read. -/
def runS : List Int → Nat → Nat → Pd → Option Nat × Nat × Pd
  | [], _, q, p => (none, q, p)
  | c :: l, k, q, p => if afterS q c = 9 then (some k, 9, p) else runS l (k + 1) (afterS q c) (takeS p (afterS q c) c)
def endS (q : Nat) : Bool := q == 2 || (q == 3 || (q == 5 || q == 8))
def expS (p : Pd) : Int := if p.2.2.2.1 = true then -((p.2.2.2.2 : Nat) : Int) - ((p.2.2.1 : Nat) : Int) else ((p.2.2.2.2 : Nat) : Int) - ((p.2.2.1 : Nat) : Int)
/-- What comes of a run. -/
def doneA (n : Nat) (r : Option Nat × Nat × Pd) : Nm × Int × Int :=
  match r.1 with
  | some k => (noN, 5, ((k : Nat) : Int))
  | none => if endS r.2.1 = true then ((makeA r.2.2.1 (strOfNums r.2.2.2.1) (expS r.2.2)).1, (makeA r.2.2.1 (strOfNums r.2.2.2.1) (expS r.2.2)).2, 0) else (noN, 3, ((n : Nat) : Int))
def parseA (s : ByteArray) : Nm × Int × Int := if 4096 < s.size then (noN, 11, 0) else doneA s.size (runS (bs s) 0 0 p0)

theorem isD_iff {c : Int} : isD c = true ↔ 48 ≤ c ∧ c ≤ 57 := by unfold isD; simp
theorem isD_not {c : Int} : isD c = false ↔ ¬ (48 ≤ c ∧ c ≤ 57) := by
  rw [← isD_iff]; simp
theorem after_le (q : Nat) (c : Int) : afterS q c ≤ 9 := by
  unfold afterS afMinus afWhole afPart
  repeat' split
  all_goals omega
/-- What is read stays in bounds. -/
def InS (p : Pd) (k : Nat) : Prop := p.2.1.length ≤ k ∧ p.2.2.1 ≤ k ∧ p.2.2.2.2 ≤ 10000 ∧ Digs p.2.1
theorem in0 : InS p0 0 := ⟨Nat.le_refl _, Nat.le_refl _, Nat.zero_le _, fun c hc => by cases hc⟩
theorem take_dig {q : Nat} {c : Int} (h : afterS q c = 2 ∨ afterS q c = 3 ∨ afterS q c = 5 ∨ afterS q c = 8) : 48 ≤ c ∧ c ≤ 57 := by
  unfold afterS afMinus afWhole afPart at h
  by_cases hd : isD c = true
  · exact isD_iff.1 hd
  · have h48 : c ≠ 48 := fun h1 => hd (by rw [h1]; rfl)
    exfalso
    simp only [hd, h48, if_false] at h
    revert h
    repeat' split
    all_goals (intro h; simp_all)
theorem in_take {p : Pd} {k q : Nat} {c : Int} (h : InS p k) : InS (takeS p (afterS q c) c) (k + 1) := by
  have hd := take_dig (q := q) (c := c)
  obtain ⟨h1, h2, h3, h4⟩ := h
  unfold takeS
  generalize afterS q c = Q at *
  by_cases e1 : Q = 1
  · rw [if_pos e1]; exact ⟨by simp; omega, by simp; omega, h3, h4⟩
  rw [if_neg e1]
  by_cases e2 : Q = 2 ∨ Q = 3
  · rw [if_pos e2]
    have hc := hd (by omega)
    exact ⟨by simp; omega, by simp; omega, h3, digs_append h4 (fun x hx => by simp at hx; omega)⟩
  rw [if_neg e2]
  by_cases e5 : Q = 5
  · rw [if_pos e5]
    have hc := hd (by omega)
    exact ⟨by simp; omega, by simp; omega, h3, digs_append h4 (fun x hx => by simp at hx; omega)⟩
  rw [if_neg e5]
  by_cases e7 : Q = 7
  · rw [if_pos e7]; exact ⟨by simp; omega, by simp; omega, h3, h4⟩
  rw [if_neg e7]
  by_cases e8 : Q = 8
  · rw [if_pos e8]; exact ⟨by simp; omega, by simp; omega, by simp; omega, h4⟩
  rw [if_neg e8]
  exact ⟨by omega, by omega, h3, h4⟩
/-- One byte more. -/
theorem run_step {l : List Int} {k q : Nat} {p : Pd} {R : Option Nat × Nat × Pd} (hk : k < l.length) (h : runS (l.drop k) k q p = R) :
    (afterS q (l.getD k 0) = 9 → R = (some k, 9, p)) ∧ (afterS q (l.getD k 0) ≠ 9 → runS (l.drop (k + 1)) (k + 1) (afterS q (l.getD k 0)) (takeS p (afterS q (l.getD k 0)) (l.getD k 0)) = R) := by
  rw [List.drop_eq_getElem_cons hk] at h
  rw [List.getD_eq_getElem?_getD, List.getElem?_eq_getElem hk]
  simp only [Option.getD_some]
  unfold runS at h
  constructor
  · intro h1
    rw [if_pos h1] at h
    exact h.symm
  · intro h1
    rw [if_neg h1] at h
    exact h
/-- Digits on and on. -/
theorem run_digs {q : Nat} (hq : q = 3 ∨ q = 5 ∨ q = 8) : ∀ (l : List Int) (k : Nat) (p : Pd),
    runS l k q p = runS (l.dropWhile isD) (k + (l.takeWhile isD).length) q ((l.takeWhile isD).foldl (fun p c => takeS p q c) p)
  | [], k, p => rfl
  | c :: l, k, p => by
    by_cases hc : isD c = true
    · have ih := run_digs hq l (k + 1) (takeS p q c)
      have e : afterS q c = q := by
        unfold afterS
        rcases hq with rfl | rfl | rfl <;> simp [hc]
      rw [List.dropWhile_cons_of_pos hc, List.takeWhile_cons_of_pos hc, List.length_cons, List.foldl_cons]
      conv => lhs; unfold runS
      rw [e, if_neg (by omega), ih]
      congr 1
      omega
    · rw [List.dropWhile_cons_of_neg hc, List.takeWhile_cons_of_neg hc]
      rfl
theorem fold_whole : ∀ (d : List Int) (p : Pd), d.foldl (fun p c => takeS p 3 c) p = (p.1, p.2.1 ++ d, p.2.2.1, p.2.2.2.1, p.2.2.2.2)
  | [], p => by simp
  | c :: d, p => by
    rw [List.foldl_cons, fold_whole d]
    simp [takeS]
theorem fold_part : ∀ (d : List Int) (p : Pd), d.foldl (fun p c => takeS p 5 c) p = (p.1, p.2.1 ++ d, p.2.2.1 + d.length, p.2.2.2.1, p.2.2.2.2)
  | [], p => by simp
  | c :: d, p => by
    rw [List.foldl_cons, fold_part d]
    simp [takeS]
    omega
def powS (m : Nat) (d : List Int) : Nat := d.foldl (fun n c => min (n * 10 + (c - 48).toNat) 10000) m
theorem fold_pow : ∀ (d : List Int) (p : Pd), d.foldl (fun p c => takeS p 8 c) p = (p.1, p.2.1, p.2.2.1, p.2.2.2.1, powS p.2.2.2.2 d)
  | [], p => by simp [powS]
  | c :: d, p => by
    rw [List.foldl_cons, fold_pow d]
    simp [takeS, powS]
end Go.Proofs.YtfkoghmbkgbgbaaDoor
