/-
  Losses in bytes, plainly: what is put for a list of losses, and how bytes are read as one.
-/
import Derived.Test.YtgfnohgpmmaocaaDoorQsh
namespace Go.Proofs.YtgfnohgpmmaocaaDoor
open Go.RowKit
set_option linter.unusedVariables false

/-- A LOSS: its path, its Kind, its number. -/
structure Ls where
  path : List Int
  kind : Int
  n : Nat

/-- May it be told? -/
def mayL (x : Ls) : Prop := (1 ≤ x.kind ∧ x.kind ≤ 6 ∧ x.path.length ≤ 64) ∧ ∀ s ∈ x.path, 0 ≤ s ∧ s ≤ 4095
def mayB (x : Ls) : Bool := decide ((1 ≤ x.kind ∧ x.kind ≤ 6 ∧ x.path.length ≤ 64) ∧ ∀ s ∈ x.path, 0 ≤ s ∧ s ≤ 4095)
theorem mayB_iff (x : Ls) : mayB x = true ↔ mayL x := by unfold mayB mayL; exact decide_eq_true_iff
theorem mayB_no {x : Ls} (h : ¬ mayL x) : mayB x = false := by
  cases hb : mayB x with
  | false => rfl
  | true => exact absurd ((mayB_iff x).1 hb) h
theorem all_may (l : List Ls) : l.all mayB = true ↔ ∀ x ∈ l, mayL x := by
  rw [List.all_eq_true]
  exact ⟨fun h x hx => (mayB_iff x).1 (h x hx), fun h x hx => (mayB_iff x).2 (h x hx)⟩

def pathB (p : List Int) : List Int := (p.map fun s => shortL s.toNat).flatten
def oneB (x : Ls) : List Int := shortL x.kind.toNat ++ (shortL x.n ++ (shortL x.path.length ++ pathB x.path))
def lossB (l : List Ls) : List Int := (l.map oneB).flatten
/-- What Build answers: the bytes, and the error. -/
def bldA (l : List Ls) : List Int × Nat := if 2048 < l.length then ([], 8) else if l.all mayB = true then (shortL l.length ++ lossB l, 0) else ([], 1)

/-- How a reader stands: the fault and its place, or 0, 0 and the place. -/
abbrev St := Nat × Nat × Nat
/-- A number from lo to hi is read. -/
def numS (zs : List Int) (s : St) (lo hi why : Nat) : Nat × St :=
  if s.1 ≠ 0 then (0, s)
  else if (rdS (zs.drop s.2.2) 0 0).1 = 0 then (if (rdS (zs.drop s.2.2) 0 0).2.1 < lo ∨ hi < (rdS (zs.drop s.2.2) 0 0).2.1 then (0, (why, s.2.2, 0)) else ((rdS (zs.drop s.2.2) 0 0).2.1, (0, 0, s.2.2 + (rdS (zs.drop s.2.2) 0 0).2.2)))
  else if (rdS (zs.drop s.2.2) 0 0).1 = 3 then (0, (3, zs.length, 0)) else (0, (5, s.2.2 + (rdS (zs.drop s.2.2) 0 0).2.2, 0))
/-- A path's numbers are read. -/
def stepsS (zs : List Int) : Nat → St → List Int × St
  | 0, s => ([], s)
  | k + 1, s => if s.1 ≠ 0 then ([], s) else ((((numS zs s 0 4095 5).1 : Nat) : Int) :: (stepsS zs k (numS zs s 0 4095 5).2).1, (stepsS zs k (numS zs s 0 4095 5).2).2)
def pathS (zs : List Int) (s : St) : List Int × St := stepsS zs (numS zs s 0 64 8).1 (numS zs s 0 64 8).2
def kindS (zs : List Int) (s : St) : Nat × St := numS zs s 1 6 5
def wordS (zs : List Int) (s : St) : Nat × St := numS zs s 0 18446744073709551615 0
/-- A loss is read. -/
def lossS (zs : List Int) (s : St) : Ls × St := (⟨(pathS zs (wordS zs (kindS zs s).2).2).1, ((kindS zs s).1 : Nat), (wordS zs (kindS zs s).2).1⟩, (pathS zs (wordS zs (kindS zs s).2).2).2)
def lsS (zs : List Int) : Nat → St → List Ls × St
  | 0, s => ([], s)
  | k + 1, s => if s.1 ≠ 0 then ([], s) else ((lossS zs s).1 :: (lsS zs k (lossS zs s).2).1, (lsS zs k (lossS zs s).2).2)
def allS (zs : List Int) : List Ls × St := lsS zs (numS zs (0, 0, 0) 0 2048 8).1 (numS zs (0, 0, 0) 0 2048 8).2
/-- The end: nothing may stand behind. -/
def endS (zs : List Int) (s : St) : St := if s.1 = 0 ∧ s.2.2 < zs.length then (10, s.2.2, 0) else s
/-- What Parse answers. -/
def parA (zs : List Int) : List Ls × Nat × Nat := if (endS zs (allS zs).2).1 ≠ 0 then ([], (endS zs (allS zs).2).1, (endS zs (allS zs).2).2.1) else ((allS zs).1, 0, 0)

theorem numS_bad (zs : List Int) (s : St) (lo hi why : Nat) (h : s.1 ≠ 0) : numS zs s lo hi why = (0, s) := by simp [numS, h]
theorem stepsS_bad (zs : List Int) (k : Nat) (s : St) (h : s.1 ≠ 0) : stepsS zs k s = ([], s) := by cases k <;> simp [stepsS, h]
theorem lsS_bad (zs : List Int) (k : Nat) (s : St) (h : s.1 ≠ 0) : lsS zs k s = ([], s) := by cases k <;> simp [lsS, h]
theorem pathS_bad (zs : List Int) (s : St) (h : s.1 ≠ 0) : pathS zs s = ([], s) := by simp [pathS, numS_bad _ _ _ _ _ h, stepsS]
theorem lossS_bad (zs : List Int) (s : St) (h : s.1 ≠ 0) : (lossS zs s).2 = s := by simp [lossS, kindS, wordS, numS_bad _ _ _ _ _ h, pathS_bad _ _ h]

/-- A state that may be: fine, within the bytes, or a fault. -/
def OkS (zs : List Int) (s : St) : Prop := (s.1 = 0 → s.2.1 = 0 ∧ s.2.2 ≤ zs.length)

theorem numS_ok (zs : List Int) (hz : ∀ c ∈ zs, 0 ≤ c ∧ c < 256) (s : St) (lo hi why : Nat) (h0 : s.1 = 0) (h : (numS zs s lo hi why).2.1 = 0) (hw : why ≠ 0 ∨ (lo = 0 ∧ 18446744073709551615 ≤ hi)) :
    ∃ m p, numS zs s lo hi why = (m, (0, 0, p)) ∧ lo ≤ m ∧ m ≤ hi ∧ m < 18446744073709551616 ∧ zs.drop s.2.2 = shortL m ++ zs.drop p ∧ p = s.2.2 + cg m ∧ (s.2.2 ≤ zs.length → p ≤ zs.length) ∧ rdS (zs.drop s.2.2) 0 0 = (0, m, cg m) := by
  obtain ⟨y, f, p⟩ := s
  subst h0
  unfold numS at h ⊢
  simp only [ne_eq, not_true_eq_false, if_false] at h ⊢
  rcases hr : rdS (zs.drop p) 0 0 with ⟨r1, m, k⟩
  have hzd : ∀ c ∈ zs.drop p, 0 ≤ c ∧ c < 256 := fun c hc => hz c (List.mem_of_mem_drop hc)
  rw [hr] at h
  simp only at h
  by_cases h1 : r1 = 0
  · subst h1
    obtain ⟨g1, g2, g3, g4, g5⟩ := rd_whole _ m k hzd hr
    simp only [if_true] at h ⊢
    by_cases h2 : m < lo ∨ hi < m
    · rw [if_pos h2] at h
      simp only at h
      rcases hw with hw | ⟨rfl, hw⟩
      · exact absurd h hw
      · omega
    · rw [if_neg h2]
      refine ⟨m, p + k, rfl, by omega, by omega, g1, ?_, by rw [g5], fun hp => ?_, by rw [g5]⟩
      · rw [← g4, ← List.drop_drop]
        exact (List.take_append_drop k _).symm
      · rw [List.length_drop] at g3
        omega
  · rw [if_neg h1] at h
    by_cases h3 : r1 = 3
    · rw [if_pos h3] at h; simp at h
    · rw [if_neg h3] at h; simp at h
theorem numS_may (zs : List Int) (hz : ∀ c ∈ zs, 0 ≤ c ∧ c < 256) (s : St) (lo hi why : Nat) (h : OkS zs s) (hw : why ≠ 0 ∨ (lo = 0 ∧ 18446744073709551615 ≤ hi)) : OkS zs (numS zs s lo hi why).2 := by
  by_cases h0 : s.1 = 0
  · intro h1
    obtain ⟨m, p, e, _, _, _, _, _, hp, _⟩ := numS_ok zs hz s lo hi why h0 h1 hw
    rw [e]
    exact ⟨rfl, hp (h h0).2⟩
  · rw [numS_bad _ _ _ _ _ h0]; exact h
/-- A number that stands there is read. -/
theorem numS_put (zs : List Int) (p m lo hi why : Nat) (r : List Int) (hm : m < 18446744073709551616) (h : zs.drop p = shortL m ++ r) (h1 : lo ≤ m) (h2 : m ≤ hi) : numS zs (0, 0, p) lo hi why = (m, (0, 0, p + cg m)) := by
  unfold numS
  simp only [ne_eq, not_true_eq_false, if_false]
  rw [h, rd_short m hm r]
  simp only [if_true]
  rw [if_neg (by omega)]
end Go.Proofs.YtgfnohgpmmaocaaDoor
