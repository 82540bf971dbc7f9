/-
  Which texts are numbers: nat.Right, and the document's.
-/
import Derived.Test.YtfkoghmbkgbgbaaDoorSame
namespace Go.Proofs.YtfkoghmbkgbgbaaDoor
open Go.RowKit

theorem bs_at (s : ByteArray) {k : Nat} (h : k < s.size) : (bs s).getD k 0 = (((s[k]'h).toNat : Nat) : Int) := by
  unfold bs
  rw [List.getD_eq_getElem?_getD, List.getElem?_map, Array.getElem?_toList, Array.getElem?_eq_getElem (by exact h)]
  rfl
theorem not_empty {s : ByteArray} (h : 0 < s.size) : s.toList.isEmpty = false := by
  rw [ByteArray.toList_eq]
  cases h1 : s.data.toList with
  | nil =>
    have h2 := congrArg List.length h1
    rw [Array.length_toList] at h2
    have h3 : s.size = 0 := h2
    omega
  | cons a l => rfl
theorem empty_size {s : ByteArray} (h : s.size = 0) : s = noS := by
  have h1 : s.data.toList = [] := List.eq_nil_of_length_eq_zero (by rw [Array.length_toList]; exact h)
  have h2 : bs s = bs noS := by unfold bs; rw [h1]; rfl
  exact bs_inj h2
theorem zero_first {s : ByteArray} (hz : (bs s).getD 0 0 = 48) : (s.toList == [48]) = rt s := by
  have e : s.toList = [48] ↔ s.size = 1 := by
    constructor
    · intro h
      rw [ByteArray.toList_eq] at h
      have h2 := congrArg List.length h
      rw [Array.length_toList] at h2
      exact h2
    · intro h
      have h2 : bs s = bs ⟨#[48]⟩ := by
        have hl : (bs s).length = 1 := by rw [bs_len]; exact h
        match hb : bs s, hl with
        | [c], _ =>
          rw [hb] at hz
          have hc : c = 48 := hz
          rw [hc]; rfl
      rw [bs_inj h2, ByteArray.toList_eq]
  rw [Bool.eq_iff_iff, beq_iff_eq, e, rt_iff]
  constructor
  · intro h
    have hl : (bs s).length = 1 := by rw [bs_len]; exact h
    refine ⟨⟨fun h2 => (by rw [h2] at hl; cases hl), fun c hc => ?_, fun _ => hl⟩, by omega⟩
    match hb : bs s, hl with
    | [x], _ =>
      rw [hb] at hz hc
      have hx : x = 48 := hz
      simp only [List.mem_cons, List.not_mem_nil, or_false] at hc
      omega
  · intro h
    have := h.1.2.2 hz
    rwa [bs_len] at this
theorem not_digs {s : ByteArray} {k : Nat} (hk : k < s.size) (h : (bs s).getD k 0 < 48 ∨ 57 < (bs s).getD k 0) : rt s = false := by
  refine rt_not fun hr => ?_
  have h1 : k < (bs s).length := by rw [bs_len]; exact hk
  rw [List.getD_eq_getElem?_getD, List.getElem?_eq_getElem h1] at h
  have h2 := hr.1.2.1 _ (List.getElem_mem h1)
  simp only [Option.getD_some] at h
  omega
theorem all_digs {s : ByteArray} (h0 : 0 < s.size) (h1 : s.size ≤ 800) (hz : (bs s).getD 0 0 ≠ 48 ∨ s.size = 1) (h : ∀ c ∈ (bs s).take s.size, 48 ≤ c ∧ c ≤ 57) : rt s = true := by
  rw [rt_iff]
  rw [List.take_of_length_le (by rw [bs_len]; exact Nat.le_refl _)] at h
  refine ⟨⟨fun h2 => ?_, h, fun h2 => ?_⟩, by rw [bs_len]; exact h1⟩
  · have := bs_len s
    rw [h2, List.length_nil] at this
    omega
  · rcases hz with h3 | h3
    · exact absurd h2 h3
    · rw [bs_len]; exact h3
theorem take_digs {l : List Int} {k : Nat} (h : ∀ c ∈ l.take k, 48 ≤ c ∧ c ≤ 57) (hk : k < l.length) (hc : 48 ≤ l.getD k 0 ∧ l.getD k 0 ≤ 57) : ∀ c ∈ l.take (k + 1), 48 ≤ c ∧ c ≤ 57 := by
  intro c hm
  rw [List.take_succ_eq_append_getElem hk] at hm
  rcases List.mem_append.1 hm with h1 | h1
  · exact h c h1
  · simp only [List.mem_cons, List.not_mem_nil, or_false] at h1
    rw [List.getD_eq_getElem?_getD, List.getElem?_eq_getElem hk] at hc
    rw [h1]; exact hc

end Go.Proofs.YtfkoghmbkgbgbaaDoor
