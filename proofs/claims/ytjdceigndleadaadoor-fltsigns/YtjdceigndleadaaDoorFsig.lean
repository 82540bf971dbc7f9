/-
  The sign turned: plain facts.
-/
import Derived.Test.YtjdceigndleadaaDoorFexp
import Derived.Test.YtjdceigndleadaaDoorFsm
namespace Go.Proofs.YtjdceigndleadaaDoor
open Go

theorem xor_low {x : Nat} (h : x < 2 ^ 63) : x ^^^ 2 ^ 63 = 2 ^ 63 + x := by
  apply Nat.eq_of_testBit_eq
  intro i
  rw [Nat.testBit_xor, Nat.testBit_two_pow]
  rcases Nat.lt_trichotomy i 63 with h1 | h1 | h1
  · rw [Nat.testBit_two_pow_add_gt h1]
    have : decide (63 = i) = false := by simp; omega
    rw [this, Bool.xor_false]
  · subst h1
    rw [Nat.testBit_two_pow_add_eq]
    simp
  · have a : x.testBit i = false := Nat.testBit_lt_two_pow (Nat.lt_of_lt_of_le h (Nat.pow_le_pow_right (by decide) (by omega)))
    have b : (2 ^ 63 + x).testBit i = false := Nat.testBit_lt_two_pow (Nat.lt_of_lt_of_le (show 2 ^ 63 + x < 2 ^ 64 by omega) (Nat.pow_le_pow_right (by decide) (by omega)))
    have : decide (63 = i) = false := by simp; omega
    rw [a, b, this]; rfl
/-- Bits with the sign turned. -/
def flipN (n : Int) : Int := if n < 9223372036854775808 then n + 9223372036854775808 else n - 9223372036854775808
theorem xor_flip {n : Int} (h : 0 ≤ n ∧ n < 18446744073709551616) : bits .xor .u64 n 9223372036854775808 = flipN n := by
  obtain ⟨x, rfl⟩ : ∃ x : Nat, n = x := ⟨n.toNat, by omega⟩
  show IntKind.u64.wrap (((BitVec.ofInt 64 (x : Int)) ^^^ (BitVec.ofInt 64 9223372036854775808)).toNat : Int) = _
  have h1 : (BitVec.ofInt 64 9223372036854775808).toNat = 2 ^ 63 := by decide
  have h2 : (BitVec.ofInt 64 (x : Int)).toNat = x := by
    rw [BitVec.ofInt_natCast, BitVec.toNat_ofNat]; exact Nat.mod_eq_of_lt (by omega)
  rw [BitVec.toNat_xor, h1, h2, IntKind.wrap_u64]
  unfold flipN
  by_cases hx : x < 2 ^ 63
  · rw [xor_low hx, if_pos (by omega)]
    omega
  · obtain ⟨y, rfl⟩ : ∃ y, x = 2 ^ 63 + y := ⟨x - 2 ^ 63, by omega⟩
    rw [← xor_low (by omega : y < 2 ^ 63), Nat.xor_assoc, Nat.xor_self, Nat.xor_zero, if_neg (by rw [xor_low (by omega : y < 2 ^ 63)]; omega), xor_low (by omega : y < 2 ^ 63)]
    omega
theorem flip_facts {n : Int} (h : 0 ≤ n ∧ n < 18446744073709551616) : (0 ≤ flipN n ∧ flipN n < 18446744073709551616) ∧ flipN n / 4503599627370496 % 2048 = n / 4503599627370496 % 2048 ∧ flipN n % 4503599627370496 = n % 4503599627370496 ∧ decide (9223372036854775808 ≤ flipN n) = !decide (9223372036854775808 ≤ n) := by
  unfold flipN
  by_cases h1 : n < 9223372036854775808
  · rw [if_pos h1]
    refine ⟨by omega, by omega, by omega, ?_⟩
    rw [show decide (9223372036854775808 ≤ n) = false from by simp; omega]
    simp
    omega
  · rw [if_neg h1]
    refine ⟨by omega, by omega, by omega, ?_⟩
    rw [show decide (9223372036854775808 ≤ n) = true from by simp; omega]
    simp
    omega
end Go.Proofs.YtjdceigndleadaaDoor
