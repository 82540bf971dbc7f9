/-
  How numbers stand by their bits: plain mathematics.
-/
import Derived.Test.YtjdceigndleadaaDoorFexp
import Derived.Test.YtjdceigndleadaaDoorDlex
namespace Go.Proofs.YtjdceigndleadaaDoor
open Go

def cC (q t : Nat) : Nat := 10 ^ q * 5 ^ t
theorem cC_pos (q t : Nat) : 0 < cC q t := Nat.mul_pos (Nat.pow_pos (by decide)) (Nat.pow_pos (by decide))
theorem ten_pow (k : Nat) : 10 ^ k = 2 ^ k * 5 ^ k := by rw [← Nat.mul_pow]
theorem key_five (m k t q : Nat) (hk : k ≤ t) : m * 5 ^ k * 10 ^ (q + (t - k)) = m * 2 ^ (t - k) * cC q t := by
  obtain ⟨d, rfl⟩ : ∃ d, t = k + d := ⟨t - k, by omega⟩
  unfold cC
  rw [show k + d - k = d from by omega, Nat.pow_add, Nat.pow_add 5, ten_pow d]
  simp only [Nat.mul_assoc, Nat.mul_left_comm, Nat.mul_comm]
theorem key_two (m p t q : Nat) : m * 2 ^ p * 10 ^ (q + t) = m * 2 ^ (p + t) * cC q t := by
  unfold cC
  rw [Nat.pow_add 10, Nat.pow_add, ten_pow t]
  simp only [Nat.mul_assoc, Nat.mul_comm]
/-- A number in parts of 2^-1074. -/
def nV (X G : Int) : Nat := (sizM X G).toNat * 2 ^ (sizP X + 1074).toNat
theorem key_n {X G : Int} (hX : 0 ≤ X ∧ X < 2047) (hG : 0 ≤ G ∧ G < 4503599627370496) : (if sizP X < 0 then fivV X G * 10 ^ (sizP X + 2000).toNat else twoV X G * 10 ^ ((0 : Int) + 2000).toNat) = nV X G * cC 926 1074 := by
  obtain ⟨hm, hp⟩ := siz_in hX hG
  unfold nV
  by_cases hs : sizP X < 0
  · rw [if_pos hs]
    unfold fivV
    have h := key_five (sizM X G).toNat (-sizP X).toNat 1074 926 (by omega)
    rw [show 926 + (1074 - (-sizP X).toNat) = (sizP X + 2000).toNat from by omega, show 1074 - (-sizP X).toNat = (sizP X + 1074).toNat from by omega] at h
    exact h
  · rw [if_neg hs]
    unfold twoV
    have h := key_two (sizM X G).toNat (sizP X).toNat 1074 926
    rw [show (sizP X).toNat + 1074 = (sizP X + 1074).toNat from by omega, show 926 + 1074 = ((0 : Int) + 2000).toNat from by decide] at h
    exact h
theorem nV_zero (G : Int) : nV 0 G = G.toNat := by
  unfold nV sizM sizP
  rw [if_pos rfl, if_pos rfl]
  show G.toNat * 2 ^ 0 = _
  rw [Nat.pow_zero, Nat.mul_one]
theorem nV_some {X : Int} (G : Int) (h : 0 < X) : nV X G = (4503599627370496 + G).toNat * 2 ^ (X - 1).toNat := by
  unfold nV sizM sizP
  rw [if_neg (by omega), if_neg (by omega), show X - 1075 + 1074 = X - 1 from by omega]
theorem nV_low {X G : Int} (hX : 0 ≤ X) (hG : 0 ≤ G ∧ G < 4503599627370496) : nV X G < 4503599627370496 * 2 ^ X.toNat := by
  by_cases h : X = 0
  · subst h
    rw [nV_zero]
    show G.toNat < 4503599627370496 * 2 ^ 0
    rw [Nat.pow_zero]
    omega
  · rw [nV_some G (by omega)]
    have e : (2 : Nat) ^ X.toNat = 2 * 2 ^ (X - 1).toNat := by rw [show X.toNat = (X - 1).toNat + 1 from by omega, Nat.pow_succ, Nat.mul_comm]
    have h2 : (4503599627370496 + G).toNat * 2 ^ (X - 1).toNat < 9007199254740992 * 2 ^ (X - 1).toNat := Nat.mul_lt_mul_of_pos_right (by omega) (Nat.pow_pos (by decide))
    rw [e]
    generalize 2 ^ (X - 1).toNat = P at *
    omega
theorem nV_high {X G : Int} (hX : 0 < X) (hG : 0 ≤ G) : 4503599627370496 * 2 ^ (X - 1).toNat ≤ nV X G := by
  rw [nV_some G hX]
  exact Nat.mul_le_mul_right _ (by omega)
theorem nV_lt {X G Y H : Int} (hX : 0 ≤ X) (hG : 0 ≤ G ∧ G < 4503599627370496) (hY : 0 ≤ Y) (hH : 0 ≤ H ∧ H < 4503599627370496) (h : X * 4503599627370496 + G < Y * 4503599627370496 + H) : nV X G < nV Y H := by
  by_cases he : X = Y
  · subst he
    have hgh : G < H := by omega
    by_cases h0 : X = 0
    · subst h0
      rw [nV_zero, nV_zero]; omega
    · rw [nV_some G (by omega), nV_some H (by omega)]
      exact Nat.mul_lt_mul_of_pos_right (by omega) (Nat.pow_pos (by decide))
  · have hxy : X < Y := by omega
    have h1 := nV_low hX hG
    have h2 := nV_high (X := Y) (G := H) (by omega) hH.1
    have h3 : 2 ^ X.toNat ≤ 2 ^ (Y - 1).toNat := Nat.pow_le_pow_right (by decide) (by omega)
    have h4 : 4503599627370496 * 2 ^ X.toNat ≤ 4503599627370496 * 2 ^ (Y - 1).toNat := Nat.mul_le_mul_left _ h3
    omega
/-- Which number bits without a sign are. -/
theorem ex_key {X G : Int} (hX : 0 ≤ X ∧ X < 2047) (hG : 0 ≤ G ∧ G < 4503599627370496) : ∃ U Z, exA false X G = ((false, U, Z), 0) ∧ rtN false U Z = true ∧ key (bs U) Z = nV X G * cC 926 1074 := by
  rcases ex_cases (X := X) (G := G) (by omega) hG with ⟨h, -⟩ | ⟨-, hz, h⟩ | ⟨-, -, U, Z, h, -, hk⟩
  · omega
  · refine ⟨zS, 0, h false, rtN_zero, ?_⟩
    have h0 : nV X G = 0 := by unfold nV; rw [hz]; simp
    rw [h0, Nat.zero_mul]
    unfold key
    rw [bs_z, show valS [48] = 0 from by decide, Nat.zero_mul]
  · refine ⟨U, Z, h false, ?_, by rw [hk, key_n hX hG]⟩
    have h1 := h false
    unfold exA at h1
    rw [if_neg (by omega)] at h1
    split at h1
    · exact make_right h1
    · exact make_right h1
/-- The greater bits are the greater number. -/
theorem ex_order {X G Y H : Int} (hX : 0 ≤ X ∧ X < 2047) (hG : 0 ≤ G ∧ G < 4503599627370496) (hY : 0 ≤ Y ∧ Y < 2047) (hH : 0 ≤ H ∧ H < 4503599627370496) :
    ∃ U Z V T, exA false X G = ((false, U, Z), 0) ∧ exA false Y H = ((false, V, T), 0) ∧ orderA (false, U, Z) (false, V, T) = (cmpI (X * 4503599627370496 + G) (Y * 4503599627370496 + H), 0) := by
  obtain ⟨U, Z, e1, r1, k1⟩ := ex_key hX hG
  obtain ⟨V, T, e2, r2, k2⟩ := ex_key hY hH
  refine ⟨U, Z, V, T, e1, e2, ?_⟩
  unfold orderA
  rw [if_pos ⟨r1, r2⟩]
  have hs : cmpI (skey false (bs U) Z) (skey false (bs V) T) = cmpN (nV X G) (nV Y H) := by
    unfold skey
    rw [if_neg (by decide), if_neg (by decide), ← cmpN_int, k1, k2]
    exact cmpN_scale (cC_pos _ _)
  show (cmpI (skey false (bs U) Z) (skey false (bs V) T), (0 : Int)) = _
  rw [hs, cmpN_int]
  have h3 : ∀ {X G Y H : Int}, 0 ≤ X → 0 ≤ G ∧ G < 4503599627370496 → 0 ≤ Y → 0 ≤ H ∧ H < 4503599627370496 → X * 4503599627370496 + G < Y * 4503599627370496 + H → ((nV X G : Nat) : Int) < ((nV Y H : Nat) : Int) := fun a b c d e => Int.ofNat_lt.2 (nV_lt a b c d e)
  rcases Int.lt_trichotomy (X * 4503599627370496 + G) (Y * 4503599627370496 + H) with h | h | h
  · have h1 := h3 hX.1 hG hY.1 hH h
    unfold cmpI
    rw [if_pos h1, if_pos h]
  · have e : X = Y ∧ G = H := by omega
    obtain ⟨rfl, rfl⟩ := e
    rw [cmpI_zero.2 rfl, cmpI_zero.2 rfl]
  · have h1 := h3 hY.1 hH hX.1 hG h
    unfold cmpI
    rw [if_neg (by omega), if_pos h1, if_neg (by omega), if_pos h]
end Go.Proofs.YtjdceigndleadaaDoor
