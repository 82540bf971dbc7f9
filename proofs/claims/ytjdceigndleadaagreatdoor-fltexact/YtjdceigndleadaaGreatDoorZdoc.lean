/-
  The document's side: parts, split, value, made.
-/
import Derived.Test.YtjdceigndleadaaGreatDoorFsm
import Derived.Test.YtjdceigndleadaaGreatDoorFplain
import Derived.BigQuiet
namespace Go.Proofs.YtjdceigndleadaaGreatDoor
open Go.RowKit

theorem zparts2_any (w : World) : Calls Tryz.prog 35 #[.int .i64 2] w fun e w' => e = .returned (.tuple #[.int .i64 5, .int .i64 10]) ∧ w' = w := by
  go_enter Tryz.func35, Tryz.ntmps35
  go_wp2
  go_ret2
  exact ⟨rfl, rfl⟩
set_option maxRecDepth 100000 in
set_option maxHeartbeats 1000000 in
theorem zsplit2_any (n : Int) (h0 : 0 ≤ n) (h1 : n ≤ 18446744073709551615) (w : World) : Calls Tryz.prog 15 #[.int .u64 n, .int .i64 2] w fun e w' => e = .returned (.tuple #[.int .u64 (n / 32768), .int .i64 (n / 1024 % 32), .int .u64 (n % 1024)]) ∧ Below w.heap.size w w' := by
  have kP := zparts2_any
  have u1 : IntKind.i64.wrap 15 = 15 := by decide
  have u2 : IntKind.u64.wrap 1023 = 1023 := by decide
  have u3 : IntKind.u64.wrap 1024 = 1024 := by decide
  have u4 : IntKind.u64.wrap 32 = 32 := by decide
  have u5 : IntKind.u64.wrap 31 = 31 := by decide
  have m1 : bits .and .u64 (n / 1024) 31 = n / 1024 % 32 := and_low 5 (by decide) _ (by omega) (by omega)
  have m2 : bits .and .u64 n 1023 = n % 1024 := and_low 10 (by decide) _ (by omega) (by omega)
  have m3 : IntKind.i64.wrap (n / 1024 % 32) = n / 1024 % 32 := by rw [IntKind.wrap_i64]; omega
  go_enter Tryz.func15, Tryz.ntmps15
  go_wp2_with (go_at_call 35; refine (kP _).mono ?_; rintro e w1 ⟨rfl, hw⟩; obtain rfl : w = w1 := hw.symm)
  go_quiet (fail)
  go_wp2
  try go_ret3
  exact ⟨rfl, ⟨rfl, rfl, rfl, Nat.le_refl _, fun _ _ => rfl⟩⟩
set_option maxRecDepth 100000 in
theorem zvalue2_zero (G : Int) (w : World) : Calls Tryz.prog 16 #[.int .i64 0, .int .u64 G, .int .i64 2] w fun e w' => e = .returned (.tuple #[.int .u64 G, .int .i64 (-24)]) ∧ w' = w := by
  have kP := zparts2_any
  go_enter Tryz.func16, Tryz.ntmps16
  go_wp2_with (go_at_call 35; refine (kP _).mono ?_; rintro e w1 ⟨rfl, hw⟩; obtain rfl : w = w1 := hw.symm)
  go_ret2
  exact ⟨rfl, rfl⟩
set_option maxRecDepth 100000 in
theorem zvalue2_some (X G : Int) (hX : 0 ≤ X ∧ X < 2048) (hx : X ≠ 0) (hG : 0 ≤ G ∧ G < 1024) (w : World) : Calls Tryz.prog 16 #[.int .i64 X, .int .u64 G, .int .i64 2] w fun e w' => e = .returned (.tuple #[.int .u64 (1024 + G), .int .i64 (X - 25)]) ∧ w' = w := by
  have kP := zparts2_any
  have e1 : (X == 0) = false := by simpa using hx
  have u1 : IntKind.u64.wrap (1024 + G) = 1024 + G := by rw [IntKind.wrap_u64]; omega
  have u2 : IntKind.i64.wrap (X - 15) = X - 15 := by rw [IntKind.wrap_i64]; omega
  have u3 : IntKind.i64.wrap (X - 15 - 10) = X - 25 := by rw [IntKind.wrap_i64]; omega
  clear hX hx hG
  go_enter Tryz.func16, Tryz.ntmps16
  go_wp2_with (go_at_call 35; refine (kP _).mono ?_; rintro e w1 ⟨rfl, hw⟩; obtain rfl : w = w1 := hw.symm)
  go_ret2
  exact ⟨rfl, rfl⟩
theorem zparts4_any (w : World) : Calls Tryz.prog 35 #[.int .i64 4] w fun e w' => e = .returned (.tuple #[.int .i64 8, .int .i64 23]) ∧ w' = w := by
  go_enter Tryz.func35, Tryz.ntmps35
  go_wp2
  go_ret2
  exact ⟨rfl, rfl⟩
set_option maxRecDepth 100000 in
set_option maxHeartbeats 1000000 in
theorem zsplit4_any (n : Int) (h0 : 0 ≤ n) (h1 : n ≤ 18446744073709551615) (w : World) : Calls Tryz.prog 15 #[.int .u64 n, .int .i64 4] w fun e w' => e = .returned (.tuple #[.int .u64 (n / 2147483648), .int .i64 (n / 8388608 % 256), .int .u64 (n % 8388608)]) ∧ Below w.heap.size w w' := by
  have kP := zparts4_any
  have u1 : IntKind.i64.wrap 31 = 31 := by decide
  have u2 : IntKind.u64.wrap 8388607 = 8388607 := by decide
  have u3 : IntKind.u64.wrap 8388608 = 8388608 := by decide
  have u4 : IntKind.u64.wrap 256 = 256 := by decide
  have u5 : IntKind.u64.wrap 255 = 255 := by decide
  have m1 : bits .and .u64 (n / 8388608) 255 = n / 8388608 % 256 := and_low 8 (by decide) _ (by omega) (by omega)
  have m2 : bits .and .u64 n 8388607 = n % 8388608 := and_low 23 (by decide) _ (by omega) (by omega)
  have m3 : IntKind.i64.wrap (n / 8388608 % 256) = n / 8388608 % 256 := by rw [IntKind.wrap_i64]; omega
  go_enter Tryz.func15, Tryz.ntmps15
  go_wp2_with (go_at_call 35; refine (kP _).mono ?_; rintro e w1 ⟨rfl, hw⟩; obtain rfl : w = w1 := hw.symm)
  go_quiet (fail)
  go_wp2
  try go_ret3
  exact ⟨rfl, ⟨rfl, rfl, rfl, Nat.le_refl _, fun _ _ => rfl⟩⟩
set_option maxRecDepth 100000 in
theorem zvalue4_zero (G : Int) (w : World) : Calls Tryz.prog 16 #[.int .i64 0, .int .u64 G, .int .i64 4] w fun e w' => e = .returned (.tuple #[.int .u64 G, .int .i64 (-149)]) ∧ w' = w := by
  have kP := zparts4_any
  go_enter Tryz.func16, Tryz.ntmps16
  go_wp2_with (go_at_call 35; refine (kP _).mono ?_; rintro e w1 ⟨rfl, hw⟩; obtain rfl : w = w1 := hw.symm)
  go_ret2
  exact ⟨rfl, rfl⟩
set_option maxRecDepth 100000 in
theorem zvalue4_some (X G : Int) (hX : 0 ≤ X ∧ X < 2048) (hx : X ≠ 0) (hG : 0 ≤ G ∧ G < 8388608) (w : World) : Calls Tryz.prog 16 #[.int .i64 X, .int .u64 G, .int .i64 4] w fun e w' => e = .returned (.tuple #[.int .u64 (8388608 + G), .int .i64 (X - 150)]) ∧ w' = w := by
  have kP := zparts4_any
  have e1 : (X == 0) = false := by simpa using hx
  have u1 : IntKind.u64.wrap (8388608 + G) = 8388608 + G := by rw [IntKind.wrap_u64]; omega
  have u2 : IntKind.i64.wrap (X - 127) = X - 127 := by rw [IntKind.wrap_i64]; omega
  have u3 : IntKind.i64.wrap (X - 127 - 23) = X - 150 := by rw [IntKind.wrap_i64]; omega
  clear hX hx hG
  go_enter Tryz.func16, Tryz.ntmps16
  go_wp2_with (go_at_call 35; refine (kP _).mono ?_; rintro e w1 ⟨rfl, hw⟩; obtain rfl : w = w1 := hw.symm)
  go_ret2
  exact ⟨rfl, rfl⟩
theorem zparts8_any (w : World) : Calls Tryz.prog 35 #[.int .i64 8] w fun e w' => e = .returned (.tuple #[.int .i64 11, .int .i64 52]) ∧ w' = w := by
  go_enter Tryz.func35, Tryz.ntmps35
  go_wp2
  go_ret2
  exact ⟨rfl, rfl⟩
set_option maxRecDepth 100000 in
set_option maxHeartbeats 1000000 in
theorem zsplit8_any (n : Int) (h0 : 0 ≤ n) (h1 : n ≤ 18446744073709551615) (w : World) : Calls Tryz.prog 15 #[.int .u64 n, .int .i64 8] w fun e w' => e = .returned (.tuple #[.int .u64 (n / 9223372036854775808), .int .i64 (n / 4503599627370496 % 2048), .int .u64 (n % 4503599627370496)]) ∧ Below w.heap.size w w' := by
  have kP := zparts8_any
  have u1 : IntKind.i64.wrap 63 = 63 := by decide
  have u2 : IntKind.u64.wrap 4503599627370495 = 4503599627370495 := by decide
  have u3 : IntKind.u64.wrap 4503599627370496 = 4503599627370496 := by decide
  have u4 : IntKind.u64.wrap 2048 = 2048 := by decide
  have u5 : IntKind.u64.wrap 2047 = 2047 := by decide
  have m1 : bits .and .u64 (n / 4503599627370496) 2047 = n / 4503599627370496 % 2048 := and_low 11 (by decide) _ (by omega) (by omega)
  have m2 : bits .and .u64 n 4503599627370495 = n % 4503599627370496 := and_low 52 (by decide) _ (by omega) (by omega)
  have m3 : IntKind.i64.wrap (n / 4503599627370496 % 2048) = n / 4503599627370496 % 2048 := by rw [IntKind.wrap_i64]; omega
  go_enter Tryz.func15, Tryz.ntmps15
  go_wp2_with (go_at_call 35; refine (kP _).mono ?_; rintro e w1 ⟨rfl, hw⟩; obtain rfl : w = w1 := hw.symm)
  go_quiet (fail)
  go_wp2
  try go_ret3
  exact ⟨rfl, ⟨rfl, rfl, rfl, Nat.le_refl _, fun _ _ => rfl⟩⟩
set_option maxRecDepth 100000 in
theorem zvalue8_zero (G : Int) (w : World) : Calls Tryz.prog 16 #[.int .i64 0, .int .u64 G, .int .i64 8] w fun e w' => e = .returned (.tuple #[.int .u64 G, .int .i64 (-1074)]) ∧ w' = w := by
  have kP := zparts8_any
  go_enter Tryz.func16, Tryz.ntmps16
  go_wp2_with (go_at_call 35; refine (kP _).mono ?_; rintro e w1 ⟨rfl, hw⟩; obtain rfl : w = w1 := hw.symm)
  go_ret2
  exact ⟨rfl, rfl⟩
set_option maxRecDepth 100000 in
theorem zvalue8_some (X G : Int) (hX : 0 ≤ X ∧ X < 2048) (hx : X ≠ 0) (hG : 0 ≤ G ∧ G < 4503599627370496) (w : World) : Calls Tryz.prog 16 #[.int .i64 X, .int .u64 G, .int .i64 8] w fun e w' => e = .returned (.tuple #[.int .u64 (4503599627370496 + G), .int .i64 (X - 1075)]) ∧ w' = w := by
  have kP := zparts8_any
  have e1 : (X == 0) = false := by simpa using hx
  have u1 : IntKind.u64.wrap (4503599627370496 + G) = 4503599627370496 + G := by rw [IntKind.wrap_u64]; omega
  have u2 : IntKind.i64.wrap (X - 1023) = X - 1023 := by rw [IntKind.wrap_i64]; omega
  have u3 : IntKind.i64.wrap (X - 1023 - 52) = X - 1075 := by rw [IntKind.wrap_i64]; omega
  clear hX hx hG
  go_enter Tryz.func16, Tryz.ntmps16
  go_wp2_with (go_at_call 35; refine (kP _).mono ?_; rintro e w1 ⟨rfl, hw⟩; obtain rfl : w = w1 := hw.symm)
  go_ret2
  exact ⟨rfl, rfl⟩
theorem made_step {m : Int} {j K : Nat} (hm : 0 < m) (h : m * 2 ^ K < 9007199254740992) (hj : j < K) : 0 < m * 2 ^ j ∧ m * 2 ^ j < 4503599627370496 ∧ m * 2 ^ j * 2 = m * 2 ^ (j + 1) := by
  have hp : (0 : Int) < 2 ^ j := Int.pow_pos (by decide)
  have e : m * 2 ^ j * 2 = m * 2 ^ (j + 1) := by rw [Int.pow_succ, Int.mul_assoc]
  have h1 : (2 : Int) ^ (j + 1) ≤ 2 ^ K := by
    rw [← pow_nat, ← pow_nat]
    exact Int.ofNat_le.2 (Nat.pow_le_pow_right (by decide) hj)
  have h2 : m * 2 ^ (j + 1) ≤ m * 2 ^ K := Int.mul_le_mul_of_nonneg_left h1 (Int.le_of_lt hm)
  have h3 : 0 < m * 2 ^ j := Int.mul_pos hm hp
  exact ⟨h3, by omega, e⟩
end Go.Proofs.YtjdceigndleadaaGreatDoor
