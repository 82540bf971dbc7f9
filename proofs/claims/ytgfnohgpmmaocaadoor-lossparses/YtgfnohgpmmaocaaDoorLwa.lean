/-
  Stage 15: losses that were parsed are read again; the walk of the statement on bytes that are parsed.
-/
import Derived.Test.YtgfnohgpmmaocaaDoorLal
import Derived.Test.YtgfnohgpmmaocaaDoorLmf
namespace Go.Proofs.YtgfnohgpmmaocaaDoor
open Go.RowKit
set_option linter.unusedVariables false
set_option linter.unusedSimpArgs false

theorem lsCs_at : ∀ (L : List (Value × Ls)) (i : Nat) (p : Value × Ls), L[i]? = some p → ∀ j, j < 3 → (lsCs L)[i * 3 + j]? = (lsC p)[j]? := by
  intro L
  induction L with
  | nil => intro i p h; simp at h
  | cons q L ih =>
    intro i p h j hj
    have e : lsCs (q :: L) = lsC q ++ lsCs L := rfl
    have hl : (lsC q).length = 3 := rfl
    cases i with
    | zero =>
      simp only [List.getElem?_cons_zero, Option.some.injEq] at h
      subst h
      rw [e, Nat.zero_mul, Nat.zero_add, List.getElem?_append_left (by rw [hl]; exact hj)]
    | succ i =>
      simp only [List.getElem?_cons_succ] at h
      rw [e, List.getElem?_append_right (by rw [hl]; omega), hl, show (i + 1) * 3 + j - 3 = i * 3 + j from by omega]
      exact ih i p h j hj

theorem OwnsK.lss {w : World} {base : Nat} {v : Value} {L : List (Value × Ls)} (h : OwnsK w base v L) (hL : L.length ≤ 2048) : ∃ a cap, v = .slice a L.length cap ∧ (a = none → cap = 0) ∧ L.length ≤ cap ∧ cap ≤ 9223372036854775807 ∧ Hid (Lss w a (L.map Prod.snd)) := by
  obtain ⟨ho, hp⟩ := h
  rcases id ho.2 with ⟨hv, hn⟩ | ⟨g, cap, cur, hv, hg, hc, hnc, hcm, r⟩
  · have e : L = [] := List.eq_nil_of_length_eq_zero hn
    subst e
    exact ⟨none, 0, hv, fun _ => rfl, Nat.le_refl _, by decide, ⟨by simp, .inl rfl⟩⟩
  · refine ⟨some ⟨g, 0, none⟩, cap, hv, (fun hx => by cases hx), hnc, by unfold maxLen at hcm; omega, ⟨by simp [maxLen]; omega, .inr ⟨g, 0, rfl, fun i x hx => ?_⟩⟩⟩
    rw [List.getElem?_map] at hx
    obtain ⟨p, hp1, rfl⟩ := Option.map_eq_some_iff.1 hx
    have hmem : p ∈ L := List.mem_of_getElem? hp1
    obtain ⟨hI, hn64⟩ := hp p hmem
    obtain ⟨pa, pn, pc, e1, e2, e3, e4, e5, e6⟩ := hI.form
    have hcell : ∀ j u, j < 3 → (lsC p)[j]? = some u → w.cell? ⟨g, i * 3 + j, none⟩ = some u := fun j u hj hu => by
      have h1 := ho.cells (g := g) (by rw [hv]; rfl) (i * 3 + j) u (by rw [lsCs_at L i p hp1 j hj]; exact hu)
      rw [addr_add0] at h1
      exact h1
    refine ⟨pa, pc, ⟨?_, ?_, ?_⟩, e6.out, fun y hy hne => ?_, by rw [e2.out]; exact e4, e5, hn64⟩
    · have := hcell 0 _ (by decide) rfl
      rw [e1] at this
      rw [e2.out, Nat.zero_add]
      exact this
    · rw [Nat.zero_add]; exact hcell 1 _ (by decide) rfl
    · rw [Nat.zero_add]; exact hcell 2 _ (by decide) rfl
    · have h9 := e6.out
      rw [hy] at h9
      exact h9.lt hne
end Go.Proofs.YtgfnohgpmmaocaaDoor
