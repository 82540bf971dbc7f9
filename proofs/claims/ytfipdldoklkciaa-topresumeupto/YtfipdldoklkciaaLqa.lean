/-
  What the receiver has; what the sender and the acks know of it.
-/
import Derived.Test.YtfipdldoklkciaaLlg
namespace Go.Proofs.Ytfipdldoklkciaa
open Go.RowKit
set_option linter.unusedVariables false
/-- The receiver has it, or has answered it. -/
def hasR (r : Rc) (z : Int) : Prop := z ≤ r.tk ∨ (r.L z).isSome = true
theorem has_data {r : Rc} {z : Int} (h : hasR r z) (s : Int) (zs : List Int) : hasR (dataS r s zs) z := by
  unfold dataS
  split
  · rcases h with h | h
    · exact .inl h
    · refine .inr ?_
      show (if z = s then some zs else r.L z).isSome = true
      split
      · rfl
      · exact h
  · exact h
theorem has_take {r : Rc} {z : Int} (h : hasR r z) : hasR (takeS r) z := by
  unfold takeS
  split
  · rcases h with h | h
    · exact .inl (by show z ≤ r.tk + 1; omega)
    · by_cases hz : z = r.tk + 1
      · exact .inl (by show z ≤ r.tk + 1; omega)
      · refine .inr ?_
        show (if z = r.tk + 1 then none else r.L z).isSome = true
        rw [if_neg hz]
        exact h
  · exact h
theorem has_new {r : Rc} {s : Int} {zs : List Int} (h : dataE r s zs.length = 0) : hasR (dataS r s zs) s := by
  unfold dataS
  rw [if_pos h]
  exact .inr (by show (if s = s then some zs else r.L s).isSome = true; rw [if_pos rfl]; rfl)
/-! ### bits -/
theorem bF_nat (f : Nat → Bool) : ∀ n, ∃ k : Nat, bF f n = (k : Int) ∧ k < 2 ^ n ∧ ∀ i, i < n → (k / 2 ^ i % 2 = 1 ↔ f i = true)
  | 0 => ⟨0, rfl, by simp, fun i hi => by omega⟩
  | n + 1 => by
    obtain ⟨k, h1, h2, h3⟩ := bF_nat f n
    by_cases hf : f n = true
    · refine ⟨k + 2 ^ n, ?_, by rw [Nat.pow_succ]; omega, fun i hi => ?_⟩
      · unfold bF
        rw [if_pos hf, h1]
        have : ((2 ^ n : Nat) : Int) = (2 : Int) ^ n := two_int n
        omega
      · by_cases hin : i < n
        · have e : (k + 2 ^ n) / 2 ^ i % 2 = k / 2 ^ i % 2 := by
            obtain ⟨d, rfl⟩ : ∃ d, n = i + 1 + d := ⟨n - i - 1, by omega⟩
            have : 2 ^ (i + 1 + d) = 2 ^ i * (2 * 2 ^ d) := by rw [Nat.pow_add, Nat.pow_succ, Nat.mul_assoc]
            rw [this, Nat.add_mul_div_left _ _ (Nat.pow_pos (by decide)), Nat.add_mul_mod_self_left]
          rw [e]
          exact h3 i hin
        · obtain rfl : i = n := by omega
          have e : (k + 2 ^ i) / 2 ^ i % 2 = 1 := by
            rw [Nat.add_div_right _ (Nat.pow_pos (by decide)), Nat.div_eq_of_lt h2]
          rw [e]
          simp [hf]
    · refine ⟨k, ?_, by rw [Nat.pow_succ]; omega, fun i hi => ?_⟩
      · unfold bF
        rw [if_neg hf, h1]
        try omega
      · by_cases hin : i < n
        · exact h3 i hin
        · obtain rfl : i = n := by omega
          have e : k / 2 ^ i % 2 = 0 := by rw [Nat.div_eq_of_lt h2]
          rw [e]
          simp [hf]
theorem bitB_nat (k i : Nat) (h : k < 18446744073709551616) : bitB (k : Int) i = true ↔ k / 2 ^ i % 2 = 1 := by
  unfold bitB
  have e : (k : Int) / 2 ^ i = ((k / 2 ^ i : Nat) : Int) := by
    rw [← two_int i]
    exact (Int.natCast_ediv k (2 ^ i)).symm
  have hl : k / 2 ^ i < 18446744073709551616 := Nat.lt_of_le_of_lt (Nat.div_le_self _ _) h
  rw [e, show (1 : Int) = ((1 : Nat) : Int) from rfl, u64_and_nat _ 1 hl (by decide), Nat.and_one_is_mod]
  rw [beq_iff_eq]
  omega
theorem bit_ack (f : Nat → Bool) {i : Nat} (hi : i < 64) : bitB (bF f 64) i = true ↔ f i = true := by
  obtain ⟨k, h1, h2, h3⟩ := bF_nat f 64
  rw [h1, bitB_nat k i (by simpa using h2)]
  exact h3 i hi
/-! ### what the sender and the acks know -/
/-- An ack tells what the receiver has. -/
def Tr (r : Rc) (ack bits : Int) : Prop := (∀ z, 1 ≤ z → z ≤ ack → hasR r z) ∧ ∀ i : Nat, i < 64 → bitB bits i = true → hasR r (ack + 2 + (i : Int))
theorem Tr.mono {r r' : Rc} {ack bits : Int} (h : Tr r ack bits) (hm : ∀ z, hasR r z → hasR r' z) : Tr r' ack bits := ⟨fun z h1 h2 => hm z (h.1 z h1 h2), fun i hi hb => hm _ (h.2 i hi hb)⟩
theorem tr_now {r : Rc} (h : Rok r) : Tr r (ackN r) (ackB r) := by
  refine ⟨fun z h1 h2 => ?_, fun i hi hb => ?_⟩
  · by_cases hz : z ≤ r.tk
    · exact .inl hz
    · refine .inr ?_
      have e : z = r.tk + 1 + (((z - r.tk - 1).toNat : Nat) : Int) := by omega
      rw [e]
      exact rdy_in h (by unfold ackN at h2; omega)
  · exact .inr ((bit_ack (ackF r) hi).1 hb)
structure Lv (L : Lk) : Prop where
  bs : ∀ z, 1 ≤ z → z < L.s.base → hasR L.r z
  th : ∀ z e, L.s.L z = some e → e.there = true → hasR L.r z
  tm : ∀ z e, L.s.L z = some e → e.time ≤ L.now + 64
  ak : ∀ g, g ∈ L.n1 → upE g.zs = 0 → (upG g.zs).tok = L.tok → Tr L.r (upG g.zs).ack (upG g.zs).bits
theorem lv_start (tok win : Int) : Lv (l0 tok win) := by
  refine ⟨fun z h1 h2 => ?_, fun z e h => (by cases h), fun z e h => (by cases h), fun g h => (by cases h)⟩
  have : z < 1 := h2
  omega
/-- A sender's view. -/
structure Sv (r : Rc) (now : Int) (s : St) : Prop where
  bs : ∀ z, 1 ≤ z → z < s.base → hasR r z
  th : ∀ z e, s.L z = some e → e.there = true → hasR r z
  tm : ∀ z e, s.L z = some e → e.time ≤ now + 64
theorem Sv.fin {r : Rc} {now : Int} {s : St} (h : Sv r now s) {k : Int} (hk : ∀ z, 1 ≤ z → z ≤ k → hasR r z) : Sv r now (finA s k) := by
  refine ⟨fun z h1 h2 => ?_, fun z e he => ?_, fun z e he => ?_⟩
  · have h2 : z < (if s.base ≤ k then k + 1 else s.base) := h2
    split at h2
    · exact hk z h1 (by omega)
    · exact h.bs z h1 h2
  · have he : (if z ≤ k then none else s.L z) = some e := he
    split at he
    · cases he
    · exact h.th z e he
  · have he : (if z ≤ k then none else s.L z) = some e := he
    split at he
    · cases he
    · exact h.tm z e he
theorem Sv.bey {r : Rc} {now : Int} {s : St} (h : Sv r now s) {k : Int} (hk : hasR r k) : Sv r now (beyA s k) := by
  unfold beyA
  split
  · rename_i e0 he0
    refine ⟨h.bs, fun z e he ht => ?_, fun z e he => ?_⟩
    · have he : (if z = k then some { e0 with there := true } else s.L z) = some e := he
      split at he
      · rename_i hz; rw [hz]; exact hk
      · exact h.th z e he ht
    · have he : (if z = k then some { e0 with there := true } else s.L z) = some e := he
      split at he
      · obtain rfl := Option.some.inj he
        exact h.tm k e0 he0
      · exact h.tm z e he
  · exact h
theorem Sv.bits {r : Rc} {now : Int} {s : St} {ack bits : Int} (h : Sv r now s) (ht : ∀ i : Nat, i < 64 → bitB bits i = true → hasR r (ack + 2 + (i : Int))) : ∀ n, n ≤ 64 → Sv r now (bitsA s ack bits n)
  | 0, _ => h
  | n + 1, hn => by
    rw [bitsA]
    split
    · rename_i hb
      exact (h.bits ht n (by omega)).bey (ht n (by omega) hb)
    · exact h.bits ht n (by omega)
theorem Sv.pops {r : Rc} {now : Int} : ∀ (n : Nat) {s : St}, Sv r now s → Sv r now (popsF n s)
  | 0, s, h => h
  | n + 1, s, h => by
    rw [popsF]
    split
    · rename_i e he
      split
      · rename_i ht
        refine Sv.pops n (h.fin (fun z h1 h2 => ?_))
        by_cases hz : z < s.base
        · exact h.bs z h1 hz
        · obtain rfl : z = s.base := by omega
          exact h.th _ e he ht
      · exact h
    · exact h
theorem Sv.ack {r : Rc} {now : Int} {s : St} {ack bits : Int} (h : Sv r now s) (ht : Tr r ack bits) (c : Int) : Sv r now (ackS s ack bits c) := by
  unfold ackS
  split
  · have h1 := ((h.fin ht.1).bits ht.2 64 (Nat.le_refl _)).pops 64
    unfold ackA
    exact ⟨h1.bs, h1.th, h1.tm⟩
  · exact h
theorem Sv.mono {r r' : Rc} {now : Int} {s : St} (h : Sv r now s) (hm : ∀ z, hasR r z → hasR r' z) : Sv r' now s := ⟨fun z h1 h2 => hm z (h.bs z h1 h2), fun z e h1 h2 => hm z (h.th z e h1 h2), h.tm⟩
theorem Lv.sv {L : Lk} (h : Lv L) : Sv L.r L.now L.s := ⟨h.bs, h.th, h.tm⟩
theorem Lv.of {L : Lk} (h : Sv L.r L.now L.s) (hk : ∀ g, g ∈ L.n1 → upE g.zs = 0 → (upG g.zs).tok = L.tok → Tr L.r (upG g.zs).ack (upG g.zs).bits) : Lv L := ⟨h.bs, h.th, h.tm, hk⟩
end Go.Proofs.Ytfipdldoklkciaa
