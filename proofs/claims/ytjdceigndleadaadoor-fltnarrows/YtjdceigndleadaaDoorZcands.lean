/-
  Bits of a format that may be widened to some: plain facts, and the document's function as a whole.
-/
import Derived.Test.YtjdceigndleadaaDoorZca
namespace Go.Proofs.YtjdceigndleadaaDoor
open Go.RowKit
set_option linter.unusedVariables false

/-- The bits of 2 bytes that the document tries. -/
def cand2 (S X G : Int) : List Int :=
  if X = 2047 then [S * 32768 + 31 * 1024 + G / 4398046511104]
  else if 1008 < X then (if X - 1008 < 31 then [S * 32768, S * 32768 + (X - 1008) * 1024 + G / 4398046511104] else [S * 32768])
  else if 1051 - X < 64 then [S * 32768, S * 32768 + (4503599627370496 + G) / 2 ^ (1051 - X).toNat] else [S * 32768]
def candN2 (n : Int) : List Int := cand2 (n / 9223372036854775808) (n / 4503599627370496 % 2048) (n % 4503599627370496)
theorem cand_len2 (n : Int) : 0 < (candN2 n).length ∧ (candN2 n).length ≤ 2 := by
  unfold candN2 cand2
  split
  · simp
  · split
    · split <;> simp
    · split <;> simp
theorem zcands2_any (n : Int) (h : 0 ≤ n ∧ n < 18446744073709551616) (w : World) : Calls Tryd.prog 23 #[.int .u64 n, .int .i64 2] w fun e w' => (∃ v, e = .returned v ∧ OwnsW w' w.heap.size v (candN2 n)) ∧ Below w.heap.size w w' := by
  have kS := fun w => zsplit8_any n h.1 (by omega) w
  unfold candN2
  have hS : 0 ≤ n / 9223372036854775808 ∧ n / 9223372036854775808 ≤ 1 := by omega
  have hX : 0 ≤ n / 4503599627370496 % 2048 ∧ n / 4503599627370496 % 2048 < 2048 := by omega
  have hG : 0 ≤ n % 4503599627370496 ∧ n % 4503599627370496 < 4503599627370496 := by omega
  generalize n / 9223372036854775808 = S at *
  generalize n / 4503599627370496 % 2048 = X at *
  generalize n % 4503599627370496 = G at *
  unfold cand2
  by_cases h1 : X = 2047
  · rw [if_pos h1]
    exact zc2_top n S X G hS hX hG h1 w kS
  · rw [if_neg h1]
    by_cases h2 : 1008 < X
    · rw [if_pos h2]
      by_cases h3 : X - 1008 < 31
      · rw [if_pos h3]
        exact zc2_hi n S X G hS hX hG h2 h3 w kS
      · rw [if_neg h3]
        exact zc2_far n S X G hS hX hG h1 h2 h3 w kS
    · rw [if_neg h2]
      by_cases h3 : 1051 - X < 64
      · rw [if_pos h3]
        exact zc2_low n S X G hS hX hG (by omega) h3 w kS
      · rw [if_neg h3]
        exact zc2_deep n S X G hS hX hG (by omega) h3 w kS
theorem cand_room2 {n c : Int} (h : 0 ≤ n ∧ n < 18446744073709551616) (hc : c ∈ candN2 n) : 0 ≤ c ∧ c < 65536 := by
  unfold candN2 cand2 at hc
  have hq := fun h => near_q2 (X := n / 4503599627370496 % 2048) (G := n % 4503599627370496) (by omega) h
  rw [Int.add_comm (n % 4503599627370496)] at hq
  generalize (4503599627370496 + n % 4503599627370496) / 2 ^ (1051 - n / 4503599627370496 % 2048).toNat = Q at *
  split at hc
  · simp at hc; omega
  · split at hc
    · split at hc
      · simp at hc; omega
      · simp at hc; omega
    · have hq' := hq (by omega)
      split at hc
      · simp at hc; omega
      · simp at hc; omega
/-- If the nearest bits are widened to n they are among them. -/
theorem cand_near2 {n : Int} (h : 0 ≤ n ∧ n < 18446744073709551616) (hw : widen2 (near2 n) = n) : near2 n ∈ candN2 n := by
  have hX : 0 ≤ n / 4503599627370496 % 2048 ∧ n / 4503599627370496 % 2048 < 2048 := by omega
  have hG : 0 ≤ n % 4503599627370496 ∧ n % 4503599627370496 < 4503599627370496 := by omega
  have hS : 0 ≤ n / 9223372036854775808 ∧ n / 9223372036854775808 ≤ 1 := by omega
  have hn : n = n / 9223372036854775808 * 9223372036854775808 + n / 4503599627370496 % 2048 * 4503599627370496 + n % 4503599627370496 := by omega
  have hr := near_room2 h
  obtain ⟨jS, jX, jG, je⟩ := split_n2 hr
  unfold candN2 cand2
  by_cases h1 : n / 4503599627370496 % 2048 = 2047
  · rw [if_pos h1]
    have e : near2 n = n / 9223372036854775808 * 32768 + 31 * 1024 + n % 4503599627370496 / 4398046511104 := by
      unfold near2 nr2
      rw [h1, if_pos (by decide)]
      rfl
    rw [e]; simp
  rw [if_neg h1]
  by_cases h2 : 1008 < n / 4503599627370496 % 2048
  · rw [if_pos h2]
    by_cases h3 : n / 4503599627370496 % 2048 - 1008 < 31
    · rw [if_pos h3]
      have e : near2 n = n / 9223372036854775808 * 32768 + (n / 4503599627370496 % 2048 - 1008) * 1024 + n % 4503599627370496 / 4398046511104 := by
        unfold near2 nr2
        rw [if_pos h2, show min (n / 4503599627370496 % 2048 - 1008) 31 = n / 4503599627370496 % 2048 - 1008 from by omega]
      rw [e]; simp
    · exfalso
      have e : near2 n = n / 9223372036854775808 * 32768 + 31 * 1024 + n % 4503599627370496 / 4398046511104 := by
        unfold near2 nr2
        rw [if_pos h2, show min (n / 4503599627370496 % 2048 - 1008) 31 = 31 from by omega]
      have ht : near2 n / 1024 % 32 = 31 := by rw [e]; omega
      unfold widen2 wd2 at hw
      rw [if_pos ht] at hw
      omega
  · rw [if_neg h2]
    by_cases h4 : n / 4503599627370496 % 2048 = 0
    · have e : near2 n = n / 9223372036854775808 * 32768 + n / 4503599627370496 % 2048 * 1024 + n % 4503599627370496 / 4398046511104 := by
        unfold near2 nr2
        rw [if_neg h2, if_neg (by simpa using h4)]
      have hx0 : near2 n / 1024 % 32 = 0 := by rw [e]; omega
      have hg : near2 n % 1024 = n % 4503599627370496 / 4398046511104 := by rw [e]; omega
      have hg0 : n % 4503599627370496 / 4398046511104 = 0 := by
        rcases Decidable.em (n % 4503599627370496 / 4398046511104 = 0) with h5 | h5
        · exact h5
        · exfalso
          unfold widen2 wd2 at hw
          rw [hx0, hg, if_neg (by decide), if_neg (by decide), if_pos h5] at hw
          obtain ⟨x, y, z⟩ := up_low2 (G := n % 4503599627370496 / 4398046511104) (by omega) h5
          obtain ⟨d, e', f, g⟩ := lift_facts x y
          generalize lifted (n % 4503599627370496 / 4398046511104 * 4398046511104) = M at *
          generalize liftN (n % 4503599627370496 / 4398046511104 * 4398046511104) = L at *
          generalize near2 n / 32768 = T at *
          omega
      rw [if_neg (by omega), e, h4, hg0]
      simp
    · have e : near2 n = n / 9223372036854775808 * 32768 + (n % 4503599627370496 + 4503599627370496) / 2 ^ (1051 - n / 4503599627370496 % 2048).toNat := by
        unfold near2 nr2
        rw [if_neg h2, if_pos (by simpa using h4)]
        omega
      by_cases h3 : 1051 - n / 4503599627370496 % 2048 < 64
      · rw [if_pos h3, e, Int.add_comm (n % 4503599627370496)]; simp
      · rw [if_neg h3, e]
        have hq : (n % 4503599627370496 + 4503599627370496) / 2 ^ (1051 - n / 4503599627370496 % 2048).toNat = 0 := by
          refine Int.ediv_eq_zero_of_lt (by omega) ?_
          have h5 : (2 : Int) ^ 64 ≤ 2 ^ (1051 - n / 4503599627370496 % 2048).toNat := by
            rw [← pow_nat, ← pow_nat]
            exact Int.ofNat_le.2 (Nat.pow_le_pow_right (by decide) (by omega))
          generalize (2 : Int) ^ (1051 - n / 4503599627370496 % 2048).toNat = P at *
          omega
        rw [hq]; simp
/-- Whichever is widened to n is the nearest. -/
theorem cand_one2 {n c : Int} (h : 0 ≤ n ∧ n < 18446744073709551616) (hc : c ∈ candN2 n) (hw : widen2 c = n) : c = near2 n := by
  rw [← hw, near_widen2 (cand_room2 h hc)]
theorem cand_none2 {n : Int} (h : 0 ≤ n ∧ n < 18446744073709551616) (hc : ∀ c ∈ candN2 n, widen2 c ≠ n) : ¬ widen2 (near2 n) = n := fun hw => hc _ (cand_near2 h hw) hw
/-- The bits of 4 bytes that the document tries. -/
def cand4 (S X G : Int) : List Int :=
  if X = 2047 then [S * 2147483648 + 255 * 8388608 + G / 536870912]
  else if 896 < X then (if X - 896 < 255 then [S * 2147483648, S * 2147483648 + (X - 896) * 8388608 + G / 536870912] else [S * 2147483648])
  else if 926 - X < 64 then [S * 2147483648, S * 2147483648 + (4503599627370496 + G) / 2 ^ (926 - X).toNat] else [S * 2147483648]
def candN4 (n : Int) : List Int := cand4 (n / 9223372036854775808) (n / 4503599627370496 % 2048) (n % 4503599627370496)
theorem cand_len4 (n : Int) : 0 < (candN4 n).length ∧ (candN4 n).length ≤ 2 := by
  unfold candN4 cand4
  split
  · simp
  · split
    · split <;> simp
    · split <;> simp
theorem zcands4_any (n : Int) (h : 0 ≤ n ∧ n < 18446744073709551616) (w : World) : Calls Tryd.prog 23 #[.int .u64 n, .int .i64 4] w fun e w' => (∃ v, e = .returned v ∧ OwnsW w' w.heap.size v (candN4 n)) ∧ Below w.heap.size w w' := by
  have kS := fun w => zsplit8_any n h.1 (by omega) w
  unfold candN4
  have hS : 0 ≤ n / 9223372036854775808 ∧ n / 9223372036854775808 ≤ 1 := by omega
  have hX : 0 ≤ n / 4503599627370496 % 2048 ∧ n / 4503599627370496 % 2048 < 2048 := by omega
  have hG : 0 ≤ n % 4503599627370496 ∧ n % 4503599627370496 < 4503599627370496 := by omega
  generalize n / 9223372036854775808 = S at *
  generalize n / 4503599627370496 % 2048 = X at *
  generalize n % 4503599627370496 = G at *
  unfold cand4
  by_cases h1 : X = 2047
  · rw [if_pos h1]
    exact zc4_top n S X G hS hX hG h1 w kS
  · rw [if_neg h1]
    by_cases h2 : 896 < X
    · rw [if_pos h2]
      by_cases h3 : X - 896 < 255
      · rw [if_pos h3]
        exact zc4_hi n S X G hS hX hG h2 h3 w kS
      · rw [if_neg h3]
        exact zc4_far n S X G hS hX hG h1 h2 h3 w kS
    · rw [if_neg h2]
      by_cases h3 : 926 - X < 64
      · rw [if_pos h3]
        exact zc4_low n S X G hS hX hG (by omega) h3 w kS
      · rw [if_neg h3]
        exact zc4_deep n S X G hS hX hG (by omega) h3 w kS
theorem cand_room4 {n c : Int} (h : 0 ≤ n ∧ n < 18446744073709551616) (hc : c ∈ candN4 n) : 0 ≤ c ∧ c < 4294967296 := by
  unfold candN4 cand4 at hc
  have hq := fun h => near_q4 (X := n / 4503599627370496 % 2048) (G := n % 4503599627370496) (by omega) h
  rw [Int.add_comm (n % 4503599627370496)] at hq
  generalize (4503599627370496 + n % 4503599627370496) / 2 ^ (926 - n / 4503599627370496 % 2048).toNat = Q at *
  split at hc
  · simp at hc; omega
  · split at hc
    · split at hc
      · simp at hc; omega
      · simp at hc; omega
    · have hq' := hq (by omega)
      split at hc
      · simp at hc; omega
      · simp at hc; omega
/-- If the nearest bits are widened to n they are among them. -/
theorem cand_near4 {n : Int} (h : 0 ≤ n ∧ n < 18446744073709551616) (hw : widen4 (near4 n) = n) : near4 n ∈ candN4 n := by
  have hX : 0 ≤ n / 4503599627370496 % 2048 ∧ n / 4503599627370496 % 2048 < 2048 := by omega
  have hG : 0 ≤ n % 4503599627370496 ∧ n % 4503599627370496 < 4503599627370496 := by omega
  have hS : 0 ≤ n / 9223372036854775808 ∧ n / 9223372036854775808 ≤ 1 := by omega
  have hn : n = n / 9223372036854775808 * 9223372036854775808 + n / 4503599627370496 % 2048 * 4503599627370496 + n % 4503599627370496 := by omega
  have hr := near_room4 h
  obtain ⟨jS, jX, jG, je⟩ := split_n4 hr
  unfold candN4 cand4
  by_cases h1 : n / 4503599627370496 % 2048 = 2047
  · rw [if_pos h1]
    have e : near4 n = n / 9223372036854775808 * 2147483648 + 255 * 8388608 + n % 4503599627370496 / 536870912 := by
      unfold near4 nr4
      rw [h1, if_pos (by decide)]
      rfl
    rw [e]; simp
  rw [if_neg h1]
  by_cases h2 : 896 < n / 4503599627370496 % 2048
  · rw [if_pos h2]
    by_cases h3 : n / 4503599627370496 % 2048 - 896 < 255
    · rw [if_pos h3]
      have e : near4 n = n / 9223372036854775808 * 2147483648 + (n / 4503599627370496 % 2048 - 896) * 8388608 + n % 4503599627370496 / 536870912 := by
        unfold near4 nr4
        rw [if_pos h2, show min (n / 4503599627370496 % 2048 - 896) 255 = n / 4503599627370496 % 2048 - 896 from by omega]
      rw [e]; simp
    · exfalso
      have e : near4 n = n / 9223372036854775808 * 2147483648 + 255 * 8388608 + n % 4503599627370496 / 536870912 := by
        unfold near4 nr4
        rw [if_pos h2, show min (n / 4503599627370496 % 2048 - 896) 255 = 255 from by omega]
      have ht : near4 n / 8388608 % 256 = 255 := by rw [e]; omega
      unfold widen4 wd4 at hw
      rw [if_pos ht] at hw
      omega
  · rw [if_neg h2]
    by_cases h4 : n / 4503599627370496 % 2048 = 0
    · have e : near4 n = n / 9223372036854775808 * 2147483648 + n / 4503599627370496 % 2048 * 8388608 + n % 4503599627370496 / 536870912 := by
        unfold near4 nr4
        rw [if_neg h2, if_neg (by simpa using h4)]
      have hx0 : near4 n / 8388608 % 256 = 0 := by rw [e]; omega
      have hg : near4 n % 8388608 = n % 4503599627370496 / 536870912 := by rw [e]; omega
      have hg0 : n % 4503599627370496 / 536870912 = 0 := by
        rcases Decidable.em (n % 4503599627370496 / 536870912 = 0) with h5 | h5
        · exact h5
        · exfalso
          unfold widen4 wd4 at hw
          rw [hx0, hg, if_neg (by decide), if_neg (by decide), if_pos h5] at hw
          obtain ⟨x, y, z⟩ := up_low4 (G := n % 4503599627370496 / 536870912) (by omega) h5
          obtain ⟨d, e', f, g⟩ := lift_facts x y
          generalize lifted (n % 4503599627370496 / 536870912 * 536870912) = M at *
          generalize liftN (n % 4503599627370496 / 536870912 * 536870912) = L at *
          generalize near4 n / 2147483648 = T at *
          omega
      rw [if_neg (by omega), e, h4, hg0]
      simp
    · have e : near4 n = n / 9223372036854775808 * 2147483648 + (n % 4503599627370496 + 4503599627370496) / 2 ^ (926 - n / 4503599627370496 % 2048).toNat := by
        unfold near4 nr4
        rw [if_neg h2, if_pos (by simpa using h4)]
        omega
      by_cases h3 : 926 - n / 4503599627370496 % 2048 < 64
      · rw [if_pos h3, e, Int.add_comm (n % 4503599627370496)]; simp
      · rw [if_neg h3, e]
        have hq : (n % 4503599627370496 + 4503599627370496) / 2 ^ (926 - n / 4503599627370496 % 2048).toNat = 0 := by
          refine Int.ediv_eq_zero_of_lt (by omega) ?_
          have h5 : (2 : Int) ^ 64 ≤ 2 ^ (926 - n / 4503599627370496 % 2048).toNat := by
            rw [← pow_nat, ← pow_nat]
            exact Int.ofNat_le.2 (Nat.pow_le_pow_right (by decide) (by omega))
          generalize (2 : Int) ^ (926 - n / 4503599627370496 % 2048).toNat = P at *
          omega
        rw [hq]; simp
/-- Whichever is widened to n is the nearest. -/
theorem cand_one4 {n c : Int} (h : 0 ≤ n ∧ n < 18446744073709551616) (hc : c ∈ candN4 n) (hw : widen4 c = n) : c = near4 n := by
  rw [← hw, near_widen4 (cand_room4 h hc)]
theorem cand_none4 {n : Int} (h : 0 ≤ n ∧ n < 18446744073709551616) (hc : ∀ c ∈ candN4 n, widen4 c ≠ n) : ¬ widen4 (near4 n) = n := fun hw => hc _ (cand_near4 h hw) hw
end Go.Proofs.YtjdceigndleadaaDoor
