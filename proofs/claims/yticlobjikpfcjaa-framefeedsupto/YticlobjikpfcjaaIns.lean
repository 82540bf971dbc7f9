/-
  Lists of lists of bytes that came in.
-/
import Derived.Test.YticlobjikpfcjaaLoads
import Derived.Deep.Matrix
namespace Go.Proofs.Yticlobjikpfcjaa
open Go.RowKit

/-- How many bytes lists have, all together. -/
def tot (Ls : List (List Int)) : Nat := (Ls.map List.length).sum
theorem tot_append (L M : List (List Int)) : tot (L ++ M) = tot L + tot M := by simp [tot]
theorem tot_take (Ls : List (List Int)) (k : Nat) : tot (Ls.take k) ≤ tot Ls := by
  have h := tot_append (Ls.take k) (Ls.drop k)
  rw [List.take_append_drop] at h
  omega
theorem tot_next {Ls : List (List Int)} {k : Nat} {l : List Int} (h : Ls.take (k + 1) = Ls.take k ++ [l]) : tot (Ls.take (k + 1)) = tot (Ls.take k) + l.length := by
  rw [h, tot_append]
  simp [tot]

/-- WHAT A WALK IS TOLD OF A SLICE OF SLICES OF BYTES THAT CAME IN. -/
def IsRows (w : World) (a : Option Addr) (len cap : Nat) (Ls : List (List Int)) : Prop :=
  Ls.length = len ∧ len ≤ cap ∧ cap ≤ maxLen ∧ (a = none → cap = 0) ∧ Lists w w.heap.size a Ls

theorem rows_in {w : World} {a : Addr} {len cap : Nat} {A : Nat → Option Addr} {L C : Nat → Nat} {Z : Nat → List Int} (hl : len ≤ cap) (hm : cap ≤ maxLen)
    (hall : ∀ r, r < cap → w.cell? (a.add r) = some (.slice (A r) (L r) (C r)) ∧ L r ≤ C r ∧ C r ≤ maxLen ∧ (Z r).length = C r ∧ (∀ n ∈ Z r, (Lit.int .u8 n).wf = true) ∧ (A r = none → C r = 0) ∧
        ∀ a', A r = some a' → 0 ≤ a'.block ∧ ∀ c, c < C r → w.cell? (a'.add c) = some (.int .u8 ((Z r).getD c 0))) :
    IsRows w (some a) len cap ((List.range len).map fun r => (Z r).take (L r)) := by
  refine ⟨by simp, hl, hm, (fun h => by cases h), by simp; omega, ?_⟩
  by_cases h0 : len = 0
  · left; subst h0; simp
  · right
    obtain ⟨b, off, spot⟩ := a
    have hspot : spot = none := by simpa [Addr.add] using World.cell?_spot (hall 0 (by omega)).1
    subst hspot
    refine ⟨b, off, (List.range len).map fun r => .slice (A r) (L r) (C r), rfl, .inl (World.block_lt_of_cell? w _ (hall 0 (by omega)).1), by simp, fun i u hu => ?_⟩
    have hi : i < len := by
      have := (List.getElem?_eq_some_iff.1 hu).1
      simpa using this
    rw [List.getElem?_map, List.getElem?_range hi] at hu
    simp only [Option.map_some, Option.some.injEq] at hu
    subst hu
    obtain ⟨hcell, hL, hC, hZ, hwf, hnil, hrow⟩ := hall i (by omega)
    have hIs : IsRow .u8 w (A i) (L i) (C i) (Z i) := by
      cases hA : A i with
      | none =>
        have hc0 := hnil hA
        have : Z i = [] := List.eq_nil_of_length_eq_zero (by omega)
        exact .inl ⟨rfl, by omega, hc0, this⟩
      | some x => exact .inr ⟨x, rfl, hL, hC, hZ, fun j hj => (hrow x hA).2 j (by omega), hwf⟩
    obtain ⟨hlen, hby⟩ := bytes_of_row hIs
    have hg : ((List.range len).map fun r => (Z r).take (L r)).getD i [] = (Z i).take (L i) := by
      rw [List.getD_eq_getElem?_getD, List.getElem?_map, List.getElem?_range hi]; rfl
    rw [hg]
    refine ⟨?_, A i, C i, by rw [hlen], hby, hnil, by omega, hC, fun x hx hne => ?_⟩
    · by_cases h1 : i = 0
      · subst h1; simpa [Addr.add] using hcell
      · simpa [Addr.add, h1] using hcell
    · rw [hx] at hby
      exact .inl (hby.lt hne)
theorem rows_nil (w : World) : IsRows w none 0 0 [] := ⟨rfl, Nat.le_refl _, Nat.zero_le _, fun _ => rfl, by simp, .inl rfl⟩
end Go.Proofs.Yticlobjikpfcjaa
