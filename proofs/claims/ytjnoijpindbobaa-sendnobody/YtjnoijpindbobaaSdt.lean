/-
  What is acked is told no more: the plain part.
-/
import Derived.Test.YtjnoijpindbobaaSdn
namespace Go.Proofs.Ytjnoijpindbobaa
open Go.RowKit
set_option linter.unusedVariables false
theorem bey_L (s : St) (z x : Int) : (beyA s z).L x = if x = z then (s.L z).map (fun e => { e with there := true }) else s.L x := by
  unfold beyA
  cases hL : s.L z with
  | none =>
    show s.L x = _
    split
    · rename_i h; rw [h, hL]; rfl
    · rfl
  | some e => rfl
theorem bits_there (s : St) (k bits : Int) : ∀ (j : Nat) (z : Int) (e : Ent), (bitsA s k bits j).L z = some e → (∃ e0, s.L z = some e0) ∧ ∀ i, i < j → bitB bits i = true → z = k + 2 + (i : Int) → e.there = true
  | 0, z, e, h => ⟨⟨e, h⟩, fun i hi => by omega⟩
  | j + 1, z, e, h => by
    unfold bitsA at h
    by_cases hb : bitB bits j = true
    · rw [if_pos hb, bey_L] at h
      by_cases hz : z = k + 2 + (j : Int)
      · rw [if_pos hz] at h
        rw [← hz] at h
        cases hL : (bitsA s k bits j).L z with
        | none => rw [hL] at h; cases h
        | some e1 =>
          rw [hL] at h
          simp at h
          refine ⟨(bits_there s k bits j z e1 hL).1, fun i hi hb2 hz2 => ?_⟩
          rw [← h]
      · rw [if_neg hz] at h
        have ih := bits_there s k bits j z e h
        refine ⟨ih.1, fun i hi hb2 hz2 => ?_⟩
        by_cases hij : i = j
        · subst hij; exact absurd hz2 hz
        · exact ih.2 i (by omega) hb2 hz2
    · rw [if_neg hb] at h
      have ih := bits_there s k bits j z e h
      refine ⟨ih.1, fun i hi hb2 hz2 => ?_⟩
      by_cases hij : i = j
      · subst hij; exact absurd hb2 hb
      · exact ih.2 i (by omega) hb2 hz2
theorem pops_L : ∀ (n : Nat) (s : St) (z : Int) (e : Ent), (popsF n s).L z = some e → s.L z = some e
  | 0, s, z, e, h => h
  | n + 1, s, z, e, h => by
    unfold popsF at h
    split at h
    · split at h
      · have h1 := pops_L n _ z e h
        have h2 : (if z ≤ s.base then none else s.L z) = some e := h1
        split at h2
        · cases h2
        · exact h2
      · exact h
    · exact h
theorem ack_there {s : St} {k bits c z : Int} {e : Ent} (h : (ackA s k bits c).L z = some e) : k < z ∧ ∀ i : Nat, i < 64 → bitB bits i = true → z = k + 2 + (i : Int) → e.there = true := by
  have h1 := pops_L 64 _ z e h
  have h2 := bits_there (finA s k) k bits 64 z e h1
  refine ⟨?_, h2.2⟩
  obtain ⟨e0, h3⟩ := h2.1
  have h3 : (if z ≤ k then none else s.L z) = some e0 := h3
  split at h3
  · cases h3
  · omega
theorem due_tell {s : St} {now : Int} : ∀ (k : Nat) (p : Int × List Int), p ∈ dueL s now k → s.base ≤ p.1 ∧ p.1 < s.base + (k : Int) ∧ ∃ e, s.L p.1 = some e ∧ tellB now e = true
  | 0, p, h => by simp [dueL] at h
  | k + 1, p, h => by
    unfold dueL at h
    rcases List.mem_append.1 h with h | h
    · obtain ⟨h1, h2, h3⟩ := due_tell k p h
      exact ⟨h1, by omega, h3⟩
    · cases hL : s.L (s.base + (k : Int)) with
      | none => rw [hL] at h; simp at h
      | some e =>
        rw [hL] at h
        by_cases ht : tellB now e = true
        · simp [ht] at h
          subst h
          exact ⟨by show s.base ≤ s.base + (k : Int); omega, by show s.base + (k : Int) < _; omega, e, hL, ht⟩
        · simp [ht] at h
theorem due_all {s : St} {now : Int} (h : ∀ z, s.base ≤ z → z < s.nxt → ∃ e, s.L z = some e ∧ tellB now e = true) : ∀ k : Nat, (k : Int) ≤ s.nxt - s.base → (dueL s now k).length = k
  | 0, _ => rfl
  | k + 1, hk => by
    obtain ⟨e, h1, h2⟩ := h (s.base + (k : Int)) (by omega) (by omega)
    unfold dueL
    rw [h1]
    simp [h2, due_all h k (by omega)]
/-- All is out at time 0. -/
def Dn (s : St) (i : Nat) : Prop := s.base = 1 ∧ s.nxt = (i : Int) + 1 ∧ s.lim = 100 ∧ s.win = 32
theorem res_all {s : St} {now : Int} (h : Ok s) : ∀ z, (resA s (s.base - 1) 0 now).base ≤ z → z < (resA s (s.base - 1) 0 now).nxt → ∃ e, (resA s (s.base - 1) 0 now).L z = some e ∧ tellB now e = true := by
  intro z h1 h2
  have hf : finA s (s.base - 1) = s := fin_none h (by omega)
  have h1 : (finA s (s.base - 1)).base ≤ z := h1
  rw [hf] at h1
  have h2 : z < s.nxt := h2
  have := (h.inn z).2 ⟨h1, h2⟩
  cases hL : s.L z with
  | none => rw [hL] at this; cases this
  | some e =>
    refine ⟨ren now e, ?_, by simp [tellB, ren]⟩
    show (if z < s.nxt then ((finA s (s.base - 1)).L z).map (ren now) else (finA s (s.base - 1)).L z) = _
    rw [if_pos h2, hf, hL]
    rfl
theorem res_base {s : St} {now : Int} (h : Ok s) : (resA s (s.base - 1) 0 now).base = s.base := by
  show (finA s (s.base - 1)).base = s.base
  rw [fin_none h (by omega)]
end Go.Proofs.Ytjnoijpindbobaa
