/-
  Binary numbers by their bits, as whole numbers: what it is to widen and to narrow. No program is named here.
-/
import Derived.Lib.BitFns
import Derived.Lib.ItoaNum
namespace Go.Proofs.YtjdceigndleadaaGreatDoor
open Go
set_option linter.unusedVariables false

theorem pow_nat (k : Nat) : ((2 ^ k : Nat) : Int) = (2 : Int) ^ k := Int.natCast_pow 2 k
/-- How far bits of 52 are lifted until the highest one stands ahead of them. -/
def liftN (m : Int) : Nat := 53 - Lib.bitLen m.toNat
/-- Bits as the highest one stands ahead. -/
def lifted (m : Int) : Int := m * 2 ^ liftN m
theorem lift_facts {m : Int} (h0 : 0 < m) (h1 : m < 4503599627370496) : Lib.bitLen m.toNat + liftN m = 53 ∧ 1 ≤ liftN m ∧ 4503599627370496 ≤ lifted m ∧ lifted m < 9007199254740992 := by
  obtain ⟨k, rfl⟩ : ∃ k : Nat, m = k := ⟨m.toNat, by omega⟩
  have hb : 1 ≤ Lib.bitLen k ∧ 2 ^ (Lib.bitLen k - 1) ≤ k ∧ k < 2 ^ Lib.bitLen k := Lib.bitLenAux_bounds 64 k (by omega) (by omega)
  have hl : Lib.bitLen k ≤ 52 := Lib.bitLen_le k 52 (by decide) (by omega)
  unfold lifted liftN
  rw [Int.toNat_natCast]
  generalize Lib.bitLen k = L at *
  refine ⟨by omega, by omega, ?_⟩
  rw [← pow_nat, ← Int.natCast_mul]
  have e1 : 2 ^ (L - 1) * 2 ^ (53 - L) = 2 ^ 52 := by rw [← Nat.pow_add]; congr 1; omega
  have e2 : 2 ^ L * 2 ^ (53 - L) = 2 ^ 53 := by rw [← Nat.pow_add]; congr 1; omega
  have h3 : 2 ^ (L - 1) * 2 ^ (53 - L) ≤ k * 2 ^ (53 - L) := Nat.mul_le_mul_right _ hb.2.1
  have h4 : k * 2 ^ (53 - L) < 2 ^ L * 2 ^ (53 - L) := Nat.mul_lt_mul_of_pos_right hb.2.2 (Nat.pow_pos (by decide))
  rw [e1] at h3
  rw [e2] at h4
  omega
/-- Bits at least 2^j are lifted by 52 - j at most. -/
theorem lift_le {m : Int} {j : Nat} (h0 : (2 : Int) ^ j ≤ m) (h1 : m < 4503599627370496) : liftN m + j ≤ 52 := by
  have hp : (0 : Int) < 2 ^ j := Int.pow_pos (by decide)
  obtain ⟨e, l1, -, l3⟩ := lift_facts (by omega : 0 < m) h1
  unfold lifted at l3
  generalize liftN m = L at *
  have h2 : (2 : Int) ^ j * 2 ^ L ≤ m * 2 ^ L := Int.mul_le_mul_of_nonneg_right h0 (Int.le_of_lt (Int.pow_pos (by decide)))
  rw [← Int.pow_add] at h2
  rcases Nat.lt_or_ge 52 (L + j) with h | h
  · exfalso
    have h3 : (2 : Int) ^ 53 ≤ 2 ^ (j + L) := by
      rw [← pow_nat, ← pow_nat]
      exact Int.ofNat_le.2 (Nat.pow_le_pow_right (by decide) (by omega))
    omega
  · exact h
/-- To widen bits of 2 bytes: of sign, exponent and fraction. -/
def wd2 (S X G : Int) : Int :=
  if X = 31 then S * 9223372036854775808 + 2047 * 4503599627370496 + G * 4398046511104
  else if X ≠ 0 then S * 9223372036854775808 + (X + 1008) * 4503599627370496 + G * 4398046511104
  else if G ≠ 0 then S * 9223372036854775808 + (1009 - (liftN (G * 4398046511104) : Int)) * 4503599627370496 + (lifted (G * 4398046511104) - 4503599627370496)
  else S * 9223372036854775808 + X * 4503599627370496 + G * 4398046511104
def widen2 (n : Int) : Int := wd2 (n / 32768) (n / 1024 % 32) (n % 1024)
/-- The nearest bits of 2 bytes. -/
def nr2 (S X G : Int) : Int :=
  if 1008 < X then S * 32768 + min (X - 1008) 31 * 1024 + G / 4398046511104
  else if X ≠ 0 then S * 32768 + 0 * 1024 + (G + 4503599627370496) / 2 ^ (1051 - X).toNat
  else S * 32768 + X * 1024 + G / 4398046511104
def near2 (n : Int) : Int := nr2 (n / 9223372036854775808) (n / 4503599627370496 % 2048) (n % 4503599627370496)
theorem split_n2 {n : Int} (h : 0 ≤ n ∧ n < 65536) : (0 ≤ n / 32768 ∧ n / 32768 ≤ 1) ∧ (0 ≤ n / 1024 % 32 ∧ n / 1024 % 32 < 32) ∧ (0 ≤ n % 1024 ∧ n % 1024 < 1024) ∧ n = n / 32768 * 32768 + n / 1024 % 32 * 1024 + n % 1024 := by omega
theorem up_low2 {G : Int} (h : 0 ≤ G ∧ G < 1024) (h0 : G ≠ 0) : 0 < G * 4398046511104 ∧ G * 4398046511104 < 4503599627370496 ∧ liftN (G * 4398046511104) ≤ 10 := by
  refine ⟨by omega, by omega, ?_⟩
  have := lift_le (m := G * 4398046511104) (j := 42) (by show (2 : Int) ^ 42 ≤ _; omega) (by omega)
  omega
theorem wd_room2 {S X G : Int} (hS : 0 ≤ S ∧ S ≤ 1) (hX : 0 ≤ X ∧ X < 32) (hG : 0 ≤ G ∧ G < 1024) : 0 ≤ wd2 S X G ∧ wd2 S X G < 18446744073709551616 := by
  unfold wd2
  split
  · omega
  · split
    · omega
    · split
      · rename_i h0
        obtain ⟨a, b, c⟩ := up_low2 hG h0
        obtain ⟨d, e, f, g⟩ := lift_facts a b
        generalize lifted (G * 4398046511104) = M at *
        generalize liftN (G * 4398046511104) = L at *
        omega
      · omega
theorem near_wd2 {S X G : Int} (hS : 0 ≤ S ∧ S ≤ 1) (hX : 0 ≤ X ∧ X < 32) (hG : 0 ≤ G ∧ G < 1024) : near2 (wd2 S X G) = S * 32768 + X * 1024 + G := by
  unfold wd2
  split
  · rename_i h1
    subst h1
    unfold near2 nr2
    have a : (S * 9223372036854775808 + 2047 * 4503599627370496 + G * 4398046511104) / 9223372036854775808 = S := by omega
    have b : (S * 9223372036854775808 + 2047 * 4503599627370496 + G * 4398046511104) / 4503599627370496 % 2048 = 2047 := by omega
    have c : (S * 9223372036854775808 + 2047 * 4503599627370496 + G * 4398046511104) % 4503599627370496 = G * 4398046511104 := by omega
    rw [a, b, c, if_pos (by decide)]
    omega
  · split
    · rename_i h1 h2
      unfold near2 nr2
      have a : (S * 9223372036854775808 + (X + 1008) * 4503599627370496 + G * 4398046511104) / 9223372036854775808 = S := by omega
      have b : (S * 9223372036854775808 + (X + 1008) * 4503599627370496 + G * 4398046511104) / 4503599627370496 % 2048 = X + 1008 := by omega
      have c : (S * 9223372036854775808 + (X + 1008) * 4503599627370496 + G * 4398046511104) % 4503599627370496 = G * 4398046511104 := by omega
      rw [a, b, c, if_pos (by omega)]
      omega
    · split
      · rename_i h1 h2 h3
        obtain ⟨x, y, z⟩ := up_low2 hG h3
        obtain ⟨d, e, f, g⟩ := lift_facts x y
        have hM : lifted (G * 4398046511104) = G * 4398046511104 * 2 ^ liftN (G * 4398046511104) := rfl
        generalize lifted (G * 4398046511104) = M at *
        generalize liftN (G * 4398046511104) = L at *
        have h2' : X = 0 := Decidable.not_not.1 h2
        unfold near2 nr2
        have a : (S * 9223372036854775808 + (1009 - (L : Int)) * 4503599627370496 + (M - 4503599627370496)) / 9223372036854775808 = S := by omega
        have b : (S * 9223372036854775808 + (1009 - (L : Int)) * 4503599627370496 + (M - 4503599627370496)) / 4503599627370496 % 2048 = 1009 - (L : Int) := by omega
        have c : (S * 9223372036854775808 + (1009 - (L : Int)) * 4503599627370496 + (M - 4503599627370496)) % 4503599627370496 = M - 4503599627370496 := by omega
        rw [a, b, c, if_neg (by omega), if_pos (by omega)]
        have e1 : (1051 - (1009 - (L : Int))).toNat = 42 + L := by omega
        have e2 : M - 4503599627370496 + 4503599627370496 = M := by omega
        have e3 : G * 4398046511104 * 2 ^ L / 2 ^ (42 + L) = G := by
          have hp : (2 : Int) ^ (42 + L) = 4398046511104 * 2 ^ L := by rw [Int.pow_add]; rfl
          have hp0 : (2 : Int) ^ (42 + L) ≠ 0 := Int.ne_of_gt (Int.pow_pos (by decide))
          rw [Int.mul_assoc, ← hp]
          exact Int.mul_ediv_cancel _ hp0
        rw [e1, e2, hM, e3, h2']
      · rename_i h1 h2 h3
        have h2' : X = 0 := Decidable.not_not.1 h2
        have h3' : G = 0 := Decidable.not_not.1 h3
        subst h2' h3'
        unfold near2 nr2
        have a : (S * 9223372036854775808 + 0 * 4503599627370496 + 0 * 4398046511104) / 9223372036854775808 = S := by omega
        have b : (S * 9223372036854775808 + 0 * 4503599627370496 + 0 * 4398046511104) / 4503599627370496 % 2048 = 0 := by omega
        have c : (S * 9223372036854775808 + 0 * 4503599627370496 + 0 * 4398046511104) % 4503599627370496 = 0 := by omega
        rw [a, b, c, if_neg (by decide), if_neg (by decide)]
        omega
/-- WHAT WAS WIDENED IS NARROWED TO THE SAME BITS. -/
theorem near_widen2 {c : Int} (h : 0 ≤ c ∧ c < 65536) : near2 (widen2 c) = c := by
  obtain ⟨hS, hX, hG, e⟩ := split_n2 h
  unfold widen2
  rw [near_wd2 hS hX hG]
  exact e.symm
theorem widen_room2 {c : Int} (h : 0 ≤ c ∧ c < 65536) : 0 ≤ widen2 c ∧ widen2 c < 18446744073709551616 := by
  obtain ⟨hS, hX, hG, -⟩ := split_n2 h
  exact wd_room2 hS hX hG
theorem near_q2 {X G : Int} (hG : 0 ≤ G ∧ G < 4503599627370496) (hX : X ≤ 1008) : 0 ≤ (G + 4503599627370496) / 2 ^ (1051 - X).toNat ∧ (G + 4503599627370496) / 2 ^ (1051 - X).toNat < 1024 := by
  have hp : (0 : Int) < 2 ^ (1051 - X).toNat := Int.pow_pos (by decide)
  refine ⟨Int.ediv_nonneg (by omega) (Int.le_of_lt hp), Int.ediv_lt_of_lt_mul hp ?_⟩
  have h1 : (2 : Int) ^ 43 ≤ 2 ^ (1051 - X).toNat := by
    rw [← pow_nat, ← pow_nat]
    exact Int.ofNat_le.2 (Nat.pow_le_pow_right (by decide) (by omega))
  generalize (2 : Int) ^ (1051 - X).toNat = P at *
  omega
theorem near_room2 {n : Int} (h : 0 ≤ n ∧ n < 18446744073709551616) : 0 ≤ near2 n ∧ near2 n < 65536 := by
  unfold near2 nr2
  split
  · omega
  · split
    · have := near_q2 (X := n / 4503599627370496 % 2048) (G := n % 4503599627370496) (by omega) (by omega)
      generalize (n % 4503599627370496 + 4503599627370496) / 2 ^ (1051 - n / 4503599627370496 % 2048).toNat = Q at *
      omega
    · omega
/-- To widen bits of 4 bytes: of sign, exponent and fraction. -/
def wd4 (S X G : Int) : Int :=
  if X = 255 then S * 9223372036854775808 + 2047 * 4503599627370496 + G * 536870912
  else if X ≠ 0 then S * 9223372036854775808 + (X + 896) * 4503599627370496 + G * 536870912
  else if G ≠ 0 then S * 9223372036854775808 + (897 - (liftN (G * 536870912) : Int)) * 4503599627370496 + (lifted (G * 536870912) - 4503599627370496)
  else S * 9223372036854775808 + X * 4503599627370496 + G * 536870912
def widen4 (n : Int) : Int := wd4 (n / 2147483648) (n / 8388608 % 256) (n % 8388608)
/-- The nearest bits of 4 bytes. -/
def nr4 (S X G : Int) : Int :=
  if 896 < X then S * 2147483648 + min (X - 896) 255 * 8388608 + G / 536870912
  else if X ≠ 0 then S * 2147483648 + 0 * 8388608 + (G + 4503599627370496) / 2 ^ (926 - X).toNat
  else S * 2147483648 + X * 8388608 + G / 536870912
def near4 (n : Int) : Int := nr4 (n / 9223372036854775808) (n / 4503599627370496 % 2048) (n % 4503599627370496)
theorem split_n4 {n : Int} (h : 0 ≤ n ∧ n < 4294967296) : (0 ≤ n / 2147483648 ∧ n / 2147483648 ≤ 1) ∧ (0 ≤ n / 8388608 % 256 ∧ n / 8388608 % 256 < 256) ∧ (0 ≤ n % 8388608 ∧ n % 8388608 < 8388608) ∧ n = n / 2147483648 * 2147483648 + n / 8388608 % 256 * 8388608 + n % 8388608 := by omega
theorem up_low4 {G : Int} (h : 0 ≤ G ∧ G < 8388608) (h0 : G ≠ 0) : 0 < G * 536870912 ∧ G * 536870912 < 4503599627370496 ∧ liftN (G * 536870912) ≤ 23 := by
  refine ⟨by omega, by omega, ?_⟩
  have := lift_le (m := G * 536870912) (j := 29) (by show (2 : Int) ^ 29 ≤ _; omega) (by omega)
  omega
theorem wd_room4 {S X G : Int} (hS : 0 ≤ S ∧ S ≤ 1) (hX : 0 ≤ X ∧ X < 256) (hG : 0 ≤ G ∧ G < 8388608) : 0 ≤ wd4 S X G ∧ wd4 S X G < 18446744073709551616 := by
  unfold wd4
  split
  · omega
  · split
    · omega
    · split
      · rename_i h0
        obtain ⟨a, b, c⟩ := up_low4 hG h0
        obtain ⟨d, e, f, g⟩ := lift_facts a b
        generalize lifted (G * 536870912) = M at *
        generalize liftN (G * 536870912) = L at *
        omega
      · omega
theorem near_wd4 {S X G : Int} (hS : 0 ≤ S ∧ S ≤ 1) (hX : 0 ≤ X ∧ X < 256) (hG : 0 ≤ G ∧ G < 8388608) : near4 (wd4 S X G) = S * 2147483648 + X * 8388608 + G := by
  unfold wd4
  split
  · rename_i h1
    subst h1
    unfold near4 nr4
    have a : (S * 9223372036854775808 + 2047 * 4503599627370496 + G * 536870912) / 9223372036854775808 = S := by omega
    have b : (S * 9223372036854775808 + 2047 * 4503599627370496 + G * 536870912) / 4503599627370496 % 2048 = 2047 := by omega
    have c : (S * 9223372036854775808 + 2047 * 4503599627370496 + G * 536870912) % 4503599627370496 = G * 536870912 := by omega
    rw [a, b, c, if_pos (by decide)]
    omega
  · split
    · rename_i h1 h2
      unfold near4 nr4
      have a : (S * 9223372036854775808 + (X + 896) * 4503599627370496 + G * 536870912) / 9223372036854775808 = S := by omega
      have b : (S * 9223372036854775808 + (X + 896) * 4503599627370496 + G * 536870912) / 4503599627370496 % 2048 = X + 896 := by omega
      have c : (S * 9223372036854775808 + (X + 896) * 4503599627370496 + G * 536870912) % 4503599627370496 = G * 536870912 := by omega
      rw [a, b, c, if_pos (by omega)]
      omega
    · split
      · rename_i h1 h2 h3
        obtain ⟨x, y, z⟩ := up_low4 hG h3
        obtain ⟨d, e, f, g⟩ := lift_facts x y
        have hM : lifted (G * 536870912) = G * 536870912 * 2 ^ liftN (G * 536870912) := rfl
        generalize lifted (G * 536870912) = M at *
        generalize liftN (G * 536870912) = L at *
        have h2' : X = 0 := Decidable.not_not.1 h2
        unfold near4 nr4
        have a : (S * 9223372036854775808 + (897 - (L : Int)) * 4503599627370496 + (M - 4503599627370496)) / 9223372036854775808 = S := by omega
        have b : (S * 9223372036854775808 + (897 - (L : Int)) * 4503599627370496 + (M - 4503599627370496)) / 4503599627370496 % 2048 = 897 - (L : Int) := by omega
        have c : (S * 9223372036854775808 + (897 - (L : Int)) * 4503599627370496 + (M - 4503599627370496)) % 4503599627370496 = M - 4503599627370496 := by omega
        rw [a, b, c, if_neg (by omega), if_pos (by omega)]
        have e1 : (926 - (897 - (L : Int))).toNat = 29 + L := by omega
        have e2 : M - 4503599627370496 + 4503599627370496 = M := by omega
        have e3 : G * 536870912 * 2 ^ L / 2 ^ (29 + L) = G := by
          have hp : (2 : Int) ^ (29 + L) = 536870912 * 2 ^ L := by rw [Int.pow_add]; rfl
          have hp0 : (2 : Int) ^ (29 + L) ≠ 0 := Int.ne_of_gt (Int.pow_pos (by decide))
          rw [Int.mul_assoc, ← hp]
          exact Int.mul_ediv_cancel _ hp0
        rw [e1, e2, hM, e3, h2']
      · rename_i h1 h2 h3
        have h2' : X = 0 := Decidable.not_not.1 h2
        have h3' : G = 0 := Decidable.not_not.1 h3
        subst h2' h3'
        unfold near4 nr4
        have a : (S * 9223372036854775808 + 0 * 4503599627370496 + 0 * 536870912) / 9223372036854775808 = S := by omega
        have b : (S * 9223372036854775808 + 0 * 4503599627370496 + 0 * 536870912) / 4503599627370496 % 2048 = 0 := by omega
        have c : (S * 9223372036854775808 + 0 * 4503599627370496 + 0 * 536870912) % 4503599627370496 = 0 := by omega
        rw [a, b, c, if_neg (by decide), if_neg (by decide)]
        omega
/-- WHAT WAS WIDENED IS NARROWED TO THE SAME BITS. -/
theorem near_widen4 {c : Int} (h : 0 ≤ c ∧ c < 4294967296) : near4 (widen4 c) = c := by
  obtain ⟨hS, hX, hG, e⟩ := split_n4 h
  unfold widen4
  rw [near_wd4 hS hX hG]
  exact e.symm
theorem widen_room4 {c : Int} (h : 0 ≤ c ∧ c < 4294967296) : 0 ≤ widen4 c ∧ widen4 c < 18446744073709551616 := by
  obtain ⟨hS, hX, hG, -⟩ := split_n4 h
  exact wd_room4 hS hX hG
theorem near_q4 {X G : Int} (hG : 0 ≤ G ∧ G < 4503599627370496) (hX : X ≤ 896) : 0 ≤ (G + 4503599627370496) / 2 ^ (926 - X).toNat ∧ (G + 4503599627370496) / 2 ^ (926 - X).toNat < 8388608 := by
  have hp : (0 : Int) < 2 ^ (926 - X).toNat := Int.pow_pos (by decide)
  refine ⟨Int.ediv_nonneg (by omega) (Int.le_of_lt hp), Int.ediv_lt_of_lt_mul hp ?_⟩
  have h1 : (2 : Int) ^ 30 ≤ 2 ^ (926 - X).toNat := by
    rw [← pow_nat, ← pow_nat]
    exact Int.ofNat_le.2 (Nat.pow_le_pow_right (by decide) (by omega))
  generalize (2 : Int) ^ (926 - X).toNat = P at *
  omega
theorem near_room4 {n : Int} (h : 0 ≤ n ∧ n < 18446744073709551616) : 0 ≤ near4 n ∧ near4 n < 4294967296 := by
  unfold near4 nr4
  split
  · omega
  · split
    · have := near_q4 (X := n / 4503599627370496 % 2048) (G := n % 4503599627370496) (by omega) (by omega)
      generalize (n % 4503599627370496 + 4503599627370496) / 2 ^ (926 - n / 4503599627370496 % 2048).toNat = Q at *
      omega
    · omega
end Go.Proofs.YtjdceigndleadaaGreatDoor
