/-
  Bytes that a call itself has made, written one by one.
-/
import Derived.Test.YtkjbfnfhgkdjeabOpen
namespace Go.Proofs.Ytkjbfnfhgkdjeab
open Go.RowKit

/-- A SLICE AT THE HEAD OF A ROW OF THE CALL's OWN: block g, the bytes 'zs'. -/
def OwnR (w : World) (base g n cap : Nat) (zs : List Int) : Prop :=
  w.ownsRow base 5 1 (.slice (some ⟨g, 0, none⟩) n cap) n (zs.map (Value.int .u8)) ∧ zs.length = n ∧ (∀ c ∈ zs, 0 ≤ c ∧ c < 256) ∧ base ≤ g

theorem OwnsB.row {w : World} {base : Nat} {v : Value} {zs : List Int} (h : OwnsB w base v zs) (h0 : 0 < zs.length) :
    ∃ g n cap, v = .slice (some ⟨g, 0, none⟩) n cap ∧ Hid (OwnR w base g n cap zs) ∧ Hid (zs.length = n) ∧ n ≤ cap ∧ cap ≤ 9223372036854775807 := by
  obtain ⟨⟨hl, hv⟩, hz⟩ := h
  rcases hv with ⟨rfl, hn⟩ | ⟨g, cap, cur, rfl, hb, hg, hnc, hcm, hcs, htk⟩
  · omega
  · exact ⟨g, zs.length, cap, rfl, ⟨⟨hl, .inr ⟨g, cap, cur, rfl, hb, hg, hnc, hcm, hcs, htk⟩⟩, rfl, hz, hb⟩, rfl, hnc, by simpa [maxLen] using hcm⟩

theorem OwnR.owns {w : World} {base g n cap : Nat} {zs : List Int} (h : OwnR w base g n cap zs) : OwnsB w base (.slice (some ⟨g, 0, none⟩) n cap) zs := by
  obtain ⟨h1, rfl, h3, _⟩ := h
  exact ⟨h1, h3⟩

theorem OwnR.cell {w : World} {base g n cap : Nat} {zs : List Int} (h : OwnR w base g n cap zs) (j : Nat) (hj : j < n) : w.cell? ⟨g, j, none⟩ = some (.int .u8 (zs.getD j 0)) := by
  obtain ⟨h1, rfl, h3, _⟩ := h
  rw [h1.cellAt j (by omega), List.getElem?_map, List.getD_eq_getElem?_getD, List.getElem?_eq_getElem hj]; rfl

theorem OwnR.frozen {w : World} {base g n cap : Nat} {zs : List Int} (h : OwnR w base g n cap zs) (j : Nat) : w.frozen? ⟨g, j, none⟩ = false := h.1.frozenAt j

theorem OwnR.store {w : World} {base g n cap : Nat} {zs : List Int} (h : OwnR w base g n cap zs) (j : Nat) (c : Int) (hc : 0 ≤ c ∧ c < 256) : OwnR (w.setCell ⟨g, j, none⟩ (.int .u8 c)) base g n cap (zs.set j c) := by
  obtain ⟨h1, h2, h3, h4⟩ := h
  refine ⟨?_, by rw [List.length_set]; exact h2, fun d hd => ?_, h4⟩
  · have := (h1.stored j (.int .u8 c)).1
    rwa [← List.map_set] at this
  · rcases List.mem_or_eq_of_mem_set hd with h5 | h5
    · exact h3 d h5
    · rw [h5]; exact hc

theorem OwnR.bytes {w : World} {base g n cap : Nat} {zs : List Int} (h : OwnR w base g n cap zs) : Bytes w (some ⟨g, 0, none⟩) zs := by
  obtain ⟨a, cap', hv, _, _, hb, _⟩ := h.owns.shape
  cases hv
  exact hb

end Go.Proofs.Ytkjbfnfhgkdjeab
