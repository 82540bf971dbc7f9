/-
  Which texts are numbers: nat.Right, and the document's.
-/
import Derived.Test.YtcnfgmhcbelgoaaDoorSame
namespace Go.Proofs.YtcnfgmhcbelgoaaDoor
open Go.RowKit

theorem bs_at (s : ByteArray) {k : Nat} (h : k < s.size) : (bs s).getD k 0 = (((s[k]'h).toNat : Nat) : Int) := by
  unfold bs
  rw [List.getD_eq_getElem?_getD, List.getElem?_map, Array.getElem?_toList, Array.getElem?_eq_getElem (by exact h)]
  rfl
theorem not_empty {s : ByteArray} (h : 0 < s.size) : s.toList.isEmpty = false := by
  rw [ByteArray.toList_eq]
  cases h1 : s.data.toList with
  | nil =>
    have h2 := congrArg List.length h1
    rw [Array.length_toList] at h2
    have h3 : s.size = 0 := h2
    omega
  | cons a l => rfl
theorem empty_size {s : ByteArray} (h : s.size = 0) : s = noS := by
  have h1 : s.data.toList = [] := List.eq_nil_of_length_eq_zero (by rw [Array.length_toList]; exact h)
  have h2 : bs s = bs noS := by unfold bs; rw [h1]; rfl
  exact bs_inj h2
theorem zero_first {s : ByteArray} (hz : (bs s).getD 0 0 = 48) : (s.toList == [48]) = rt s := by
  have e : s.toList = [48] ↔ s.size = 1 := by
    constructor
    · intro h
      rw [ByteArray.toList_eq] at h
      have h2 := congrArg List.length h
      rw [Array.length_toList] at h2
      exact h2
    · intro h
      have h2 : bs s = bs ⟨#[48]⟩ := by
        have hl : (bs s).length = 1 := by rw [bs_len]; exact h
        match hb : bs s, hl with
        | [c], _ =>
          rw [hb] at hz
          have hc : c = 48 := hz
          rw [hc]; rfl
      rw [bs_inj h2, ByteArray.toList_eq]
  rw [Bool.eq_iff_iff, beq_iff_eq, e, rt_iff]
  constructor
  · intro h
    have hl : (bs s).length = 1 := by rw [bs_len]; exact h
    refine ⟨⟨fun h2 => (by rw [h2] at hl; cases hl), fun c hc => ?_, fun _ => hl⟩, by omega⟩
    match hb : bs s, hl with
    | [x], _ =>
      rw [hb] at hz hc
      have hx : x = 48 := hz
      simp only [List.mem_cons, List.not_mem_nil, or_false] at hc
      omega
  · intro h
    have := h.1.2.2 hz
    rwa [bs_len] at this
theorem not_digs {s : ByteArray} {k : Nat} (hk : k < s.size) (h : (bs s).getD k 0 < 48 ∨ 57 < (bs s).getD k 0) : rt s = false := by
  refine rt_not fun hr => ?_
  have h1 : k < (bs s).length := by rw [bs_len]; exact hk
  rw [List.getD_eq_getElem?_getD, List.getElem?_eq_getElem h1] at h
  have h2 := hr.1.2.1 _ (List.getElem_mem h1)
  simp only [Option.getD_some] at h
  omega
theorem all_digs {s : ByteArray} (h0 : 0 < s.size) (h1 : s.size ≤ 800) (hz : (bs s).getD 0 0 ≠ 48 ∨ s.size = 1) (h : ∀ c ∈ (bs s).take s.size, 48 ≤ c ∧ c ≤ 57) : rt s = true := by
  rw [rt_iff]
  rw [List.take_of_length_le (by rw [bs_len]; exact Nat.le_refl _)] at h
  refine ⟨⟨fun h2 => ?_, h, fun h2 => ?_⟩, by rw [bs_len]; exact h1⟩
  · have := bs_len s
    rw [h2, List.length_nil] at this
    omega
  · rcases hz with h3 | h3
    · exact absurd h2 h3
    · rw [bs_len]; exact h3
theorem take_digs {l : List Int} {k : Nat} (h : ∀ c ∈ l.take k, 48 ≤ c ∧ c ≤ 57) (hk : k < l.length) (hc : 48 ≤ l.getD k 0 ∧ l.getD k 0 ≤ 57) : ∀ c ∈ l.take (k + 1), 48 ≤ c ∧ c ≤ 57 := by
  intro c hm
  rw [List.take_succ_eq_append_getElem hk] at hm
  rcases List.mem_append.1 hm with h1 | h1
  · exact h c h1
  · simp only [List.mem_cons, List.not_mem_nil, or_false] at h1
    rw [List.getD_eq_getElem?_getD, List.getElem?_eq_getElem hk] at hc
    rw [h1]; exact hc

set_option maxHeartbeats 400000 in
theorem right_any (s : ByteArray) (w : World) : Calls Tryd.prog 38 #[.string s] w fun e w' => e = .returned (.bool (rt s)) ∧ w' = w := by
  by_cases h0 : s.size = 0
  · obtain rfl := empty_size h0
    have hr : rt noS = false := rfl
    rw [hr]
    unfold noS
    go_enter Tryd.func38, Tryd.ntmps38
    go_wp2
    go_ret
    exact ⟨rfl, rfl⟩
  have he := not_empty (s := s) (by omega)
  by_cases h1 : 800 < s.size
  · have hr : rt s = false := rt_not fun h => by have := h.2; rw [bs_len] at this; omega
    rw [hr]
    have d1 : decide (800 < ((s.size : Nat) : Int)) = true := by simp; omega
    clear h0 h1
    go_enter Tryd.func38, Tryd.ntmps38
    go_wp2
    go_ret
    exact ⟨rfl, rfl⟩
  have d1 : decide (800 < ((s.size : Nat) : Int)) = false := by simp; omega
  have b0 := bs_at s (k := 0) (by omega)
  have hp : 0 < s.size := by omega
  by_cases hz : (bs s).getD 0 0 = 48
  · have hr : Hid ((s.toList == [48]) = rt s) := zero_first hz
    have e0 : (((s[0]'hp).toNat : Nat) : Int) = 48 := by rw [← b0, hz]
    clear b0 hz h0 h1
    generalize rt s = R at *
    go_enter Tryd.func38, Tryd.ntmps38
    go_wp2
    go_ret
    exact ⟨by rw [hr.out]; rfl, rfl⟩
  have e0 : ((((s[0]'hp).toNat : Nat) : Int) == 48) = false := by rw [← b0]; simpa using hz
  have hall : Hid (∀ k, k < s.size → (bs s).getD k 0 < 48 ∨ 57 < (bs s).getD k 0 → rt s = false) := fun k hk h => not_digs hk h
  have hend : Hid ((∀ c ∈ (bs s).take s.size, 48 ≤ c ∧ c ≤ 57) → rt s = true) := all_digs (by omega) (by omega) (.inl hz)
  clear b0 hz
  generalize rt s = R at *
  go_enter Tryd.func38, Tryd.ntmps38
  go_wp2
  go_loop [18] (fun v => ∃ k : Nat, k ≤ s.size ∧ v = .int .i64 k ∧ Hid (∀ c ∈ (bs s).take k, 48 ≤ c ∧ c ≤ 57)) (fun v => s.size - (intOf v).toNat)
  case atStart => exact ⟨0, Nat.zero_le _, rfl, (by intro c hc; simp at hc)⟩
  case round =>
    obtain ⟨k, hk, rfl, hd⟩ := hrel
    by_cases hlt : k < s.size
    · have bk := bs_at s hlt
      have hC : Hid (_ → _ → _) := fun h1 h2 => take_digs hd.out (by rw [bs_len]; exact hlt) ⟨h1, h2⟩
      have hN := hall.out k hlt
      by_cases hA : (bs s).getD k 0 < 48
      · have d2 : decide ((((s[k]'hlt).toNat : Nat) : Int) < 48) = true := by rw [← bk]; simpa using hA
        obtain rfl := hN (.inl hA)
        clear bk hA
        go_wp2
        go_ret
        exact ⟨rfl, rfl⟩
      by_cases hB : 57 < (bs s).getD k 0
      · have d2 : decide ((((s[k]'hlt).toNat : Nat) : Int) < 48) = false := by rw [← bk]; simpa using hA
        have d3 : decide (57 < (((s[k]'hlt).toNat : Nat) : Int)) = true := by rw [← bk]; simpa using hB
        obtain rfl := hN (.inr hB)
        clear bk hA hB
        go_wp2
        go_ret
        exact ⟨rfl, rfl⟩
      · have d2 : decide ((((s[k]'hlt).toNat : Nat) : Int) < 48) = false := by rw [← bk]; simpa using hA
        have d3 : decide (57 < (((s[k]'hlt).toNat : Nat) : Int)) = false := by rw [← bk]; simpa using hB
        have hC' : Hid _ := hC.out (by omega) (by omega)
        clear bk hA hB hN hC
        go_wp2
        go_round
        case rel => exact ⟨k + 1, by omega, by go_num, hC'⟩
        case measure => simp [intOf]; omega
    · obtain rfl : k = s.size := by omega
      obtain rfl := hend.out hd.out
      go_wp2
      go_ret
      exact ⟨rfl, rfl⟩
end Go.Proofs.YtcnfgmhcbelgoaaDoor
