/-
  What dividing groups comes to: quotient and rest.
-/
import Derived.Test.YtfamenkefmgnoaaDoorDivide
namespace Go.Proofs.YtfamenkefmgnoaaDoor
open Go.RowKit

theorem upto_desc (n k : Nat) : upto (fun j => n - 1 - j) (k + 1) = upto (fun j => n - 1 - j) k ++ [n - 1 - k] := upto_succ _ _
theorem div_value (d : Int) (hd : 1 ≤ d ∧ d ≤ 1000000) (l : List Int) (hl : Grp 1000000 l) : ∀ k, k ≤ l.length →
    ∃ Qs, (divF d l (upto (fun j => l.length - 1 - j) k)).1 = l.take (l.length - k) ++ Qs ∧ Qs.length = k ∧ Grp 1000000 Qs ∧
      lv 1000000 l = lv 1000000 (l.take (l.length - k)) + 1000000 ^ (l.length - k) * (d * lv 1000000 Qs + (divF d l (upto (fun j => l.length - 1 - j) k)).2) ∧
      0 ≤ (divF d l (upto (fun j => l.length - 1 - j) k)).2 ∧ (divF d l (upto (fun j => l.length - 1 - j) k)).2 < d := by
  intro k
  induction k with
  | zero =>
    intro _
    refine ⟨[], ?_, rfl, grp_nil _, ?_, ?_, ?_⟩
    · show l = l.take (l.length - 0) ++ []
      rw [Nat.sub_zero, List.take_length, List.append_nil]
    · show lv 1000000 l = lv 1000000 (l.take (l.length - 0)) + 1000000 ^ (l.length - 0) * (d * 0 + 0)
      rw [Nat.sub_zero, List.take_length, Int.mul_zero, Int.add_zero, Int.mul_zero, Int.add_zero]
    · show (0 : Int) ≤ 0
      omega
    · show (0 : Int) < d
      omega
  | succ k ih =>
    intro hk
    obtain ⟨Qs, h1, h2, h3, h4, h5, h6⟩ := ih (by omega)
    rw [upto_desc, divF_snoc]
    obtain ⟨st, hst⟩ : ∃ st, divF d l (upto (fun j => l.length - 1 - j) k) = st := ⟨_, rfl⟩
    rw [hst] at h1 h4 h5 h6 ⊢
    obtain ⟨Gs, R⟩ := st
    dsimp only at h1 h4 h5 h6
    subst h1
    obtain ⟨m, hm⟩ : ∃ m, l.length - k = m + 1 := ⟨l.length - k - 1, by omega⟩
    have hm1 : l.length - 1 - k = m := by omega
    have hm2 : l.length - (k + 1) = m := by omega
    rw [hm1, hm2]
    rw [hm] at h4
    have hml : m < l.length := by omega
    have htk := lv_take 1000000 l m hml
    have hx := hl.at hml
    unfold divStep
    dsimp only
    rw [hm]
    have e0 : l.take (m + 1) = l.take m ++ [l.getD m 0] := by
      rw [List.take_succ_eq_append_getElem hml, List.getD_eq_getElem?_getD, List.getElem?_eq_getElem hml]; rfl
    have e1 : (l.take (m + 1) ++ Qs).getD m 0 = l.getD m 0 := by
      rw [List.getD_eq_getElem?_getD, List.getElem?_append_left (by rw [List.length_take]; omega), List.getElem?_take, if_pos (by omega), List.getD_eq_getElem?_getD]
    rw [e1]
    generalize l.getD m 0 = x at *
    have w1 : IntKind.i64.wrap (R * 1000000) = R * 1000000 := wrap_fit (by omega) (by omega)
    rw [w1, wrap_fit (n := R * 1000000 + x) (by omega) (by omega)]
    obtain ⟨M, hM⟩ : ∃ M, R * 1000000 + x = M := ⟨_, rfl⟩
    rw [hM]
    have hM0 : 0 ≤ M := by omega
    have q1 : Int.tdiv M d = M / d := Int.tdiv_eq_ediv_of_nonneg hM0
    have q2 : Int.tmod M d = M % d := Int.tmod_eq_emod_of_nonneg hM0
    have q3 := Int.mul_ediv_add_emod M d
    have q4 : 0 ≤ M % d := Int.emod_nonneg _ (by omega)
    have q5 : M % d < d := Int.emod_lt_of_pos _ (by omega)
    have q6 : 0 ≤ M / d := Int.ediv_nonneg hM0 (by omega)
    have q7 : M / d < 1000000 := by
      refine Int.ediv_lt_of_lt_mul (by omega) ?_
      have : (R + 1) * 1000000 ≤ d * 1000000 := Int.mul_le_mul_of_nonneg_right (by omega) (by omega)
      omega
    rw [q1, q2, wrap_fit (n := M / d) (by omega) (by omega)]
    refine ⟨M / d :: Qs, ?_, by rw [List.length_cons, h2], h3.cons ⟨q6, q7⟩, ?_, q4, q5⟩
    · rw [e0, List.append_assoc, List.set_append_right _ _ (by rw [List.length_take]; omega)]
      have : m - (l.take m).length = 0 := by rw [List.length_take]; omega
      rw [this]
      rfl
    · rw [h4, htk, lv_cons, Int.pow_succ, Int.add_assoc]
      congr 1
      rw [Int.mul_assoc, ← Int.mul_add]
      congr 1
      rw [Int.mul_add d, Int.add_right_comm, q3, ← hM, Int.mul_add 1000000, Int.mul_left_comm d]
      omega
/-- Quotient and rest. -/
theorem div_final (d : Int) (hd : 1 ≤ d ∧ d ≤ 1000000) (l : List Int) (hl : Grp 1000000 l) (n : Nat) (hn : l.length = n) :
    Grp 1000000 (divF d l (upto (fun j => n - 1 - j) n)).1 ∧ lv 1000000 (divF d l (upto (fun j => n - 1 - j) n)).1 = lv 1000000 l / d ∧ (divF d l (upto (fun j => n - 1 - j) n)).2 = lv 1000000 l % d := by
  subst hn
  obtain ⟨Qs, h1, h2, h3, h4, h5, h6⟩ := div_value d hd l hl l.length (Nat.le_refl _)
  rw [Nat.sub_self, List.take_zero, List.nil_append] at h1
  rw [Nat.sub_self, List.take_zero, Int.pow_zero, Int.one_mul] at h4
  rw [h1]
  have h7 : lv 1000000 l = d * lv 1000000 Qs + (divF d l (upto (fun j => l.length - 1 - j) l.length)).2 := by
    rw [h4]
    show 0 + _ = _
    omega
  generalize (divF d l (upto (fun j => l.length - 1 - j) l.length)).2 = R at *
  refine ⟨h3, ?_, ?_⟩
  · rw [h7, Int.add_comm, Int.add_mul_ediv_left _ _ (by omega), Int.ediv_eq_zero_of_lt h5 h6, Int.zero_add]
  · rw [h7, Int.add_comm, Int.add_mul_emod_self_left, Int.emod_eq_of_lt h5 h6]

theorem divide_any (v : Value) (base : Nat) (l : List Int) (d : Int) (w : World) (ho : OwnsI w base v l) (h0 : 0 < l.length) (hl : Grp 1000000 l) (hd : 1 ≤ d ∧ d ≤ 1000000) :
    Calls Tryd.prog 44 #[v, .int .i64 d] w fun e w' => e = .returned (.int .i64 (lv 1000000 l % d)) ∧ (∃ l', OwnsI w' base v l' ∧ l'.length = l.length ∧ Grp 1000000 l' ∧ lv 1000000 l' = lv 1000000 l / d) ∧ w.grownBy w' v.ownBlock := by
  obtain ⟨g, n, cap, rfl, hln, hnc, hcm, hbg⟩ := ho.row h0
  have hlen := divF_len d l (upto (fun j => n - 1 - j) n)
  obtain ⟨h1, h2, h3⟩ := div_final d hd l hl n hln.out
  rw [← h3]
  refine (divide_fold g n cap base l d w ho (by omega) hd).mono ?_
  rintro e w' ⟨rfl, hO, hb⟩
  exact ⟨rfl, ⟨_, hO, hlen, h1, h2⟩, hb⟩
end Go.Proofs.YtfamenkefmgnoaaDoor
