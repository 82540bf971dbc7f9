/-
  The document's side: to widen.
-/
import Derived.Test.YtjdceigndleadaaDoorZdoc
namespace Go.Proofs.YtjdceigndleadaaDoor
open Go.RowKit
set_option linter.unusedVariables false

theorem zwid8_any (n : Int) (w : World) : Calls Tryd.prog 20 #[.int .u64 n, .int .i64 8] w fun e w' => e = .returned (.int .u64 n) ∧ Below w.heap.size w w' := by
  go_enter Tryd.func20, Tryd.ntmps20
  go_wp2
  go_ret
  exact ⟨rfl, Below.refl _ _⟩
set_option maxRecDepth 100000 in
set_option maxHeartbeats 1000000 in
theorem zw2_top (n S X G : Int) (hS : 0 ≤ S ∧ S ≤ 1) (hX : 0 ≤ X ∧ X < 32) (hG : 0 ≤ G ∧ G < 1024) (hc : X = 31) (w : World) (kS : ∀ w, Calls Tryd.prog 36 #[.int .u64 n, .int .i64 2] w fun e w' => e = .returned (.tuple #[.int .u64 S, .int .i64 X, .int .u64 G]) ∧ Below w.heap.size w w') :
    Calls Tryd.prog 20 #[.int .u64 n, .int .i64 2] w fun e w' => e = .returned (.int .u64 (S * 9223372036854775808 + 2047 * 4503599627370496 + G * 4398046511104)) ∧ Below w.heap.size w w' := by
  have kP := zparts2_any
  have v0 : IntKind.u64.wrap (S * 9223372036854775808) = S * 9223372036854775808 := by rw [IntKind.wrap_u64]; omega
  have e1 : (X == 31) = true := by simpa using hc
  have v1 : IntKind.u64.wrap (G * 4398046511104) = G * 4398046511104 := by rw [IntKind.wrap_u64]; omega
  have m1 : bits .or .u64 (S * 9223372036854775808) 9218868437227405312 = S * 9223372036854775808 + 9218868437227405312 := or_hi 63 _ _ (by omega) (by omega) (by omega) (by omega) (by omega) (by omega)
  have m2 : bits .or .u64 (S * 9223372036854775808 + 9218868437227405312) (G * 4398046511104) = S * 9223372036854775808 + 9218868437227405312 + G * 4398046511104 := or_hi 52 _ _ (by omega) (by omega) (by omega) (by omega) (by omega) (by omega)
  clear hS hX hG hc
  go_enter Tryd.func20, Tryd.ntmps20
  go_wp2_with (first
    | (go_at_call 35; refine (kP _).mono ?_; rintro e w1 ⟨rfl, hw⟩; obtain rfl : w = w1 := hw.symm)
    | (go_at_call 36; refine (kS _).mono ?_; rintro e w2 ⟨rfl, d2⟩))
  go_ret
  exact ⟨rfl, d2⟩
set_option maxRecDepth 100000 in
set_option maxHeartbeats 1000000 in
theorem zw2_mid (n S X G : Int) (hS : 0 ≤ S ∧ S ≤ 1) (hX : 0 ≤ X ∧ X < 32) (hG : 0 ≤ G ∧ G < 1024) (hc : X ≠ 31) (hc1 : X ≠ 0) (w : World) (kS : ∀ w, Calls Tryd.prog 36 #[.int .u64 n, .int .i64 2] w fun e w' => e = .returned (.tuple #[.int .u64 S, .int .i64 X, .int .u64 G]) ∧ Below w.heap.size w w') :
    Calls Tryd.prog 20 #[.int .u64 n, .int .i64 2] w fun e w' => e = .returned (.int .u64 (S * 9223372036854775808 + (X + 1008) * 4503599627370496 + G * 4398046511104)) ∧ Below w.heap.size w w' := by
  have kP := zparts2_any
  have v0 : IntKind.u64.wrap (S * 9223372036854775808) = S * 9223372036854775808 := by rw [IntKind.wrap_u64]; omega
  have e1 : (X == 31) = false := by simpa using hc
  have kV := zvalue2_some X G (by omega) hc1 hG
  have e2 : (1024 + G == 0) = false := by simp; omega
  obtain ⟨V, hV⟩ : ∃ V, (X + 1008) * 4503599627370496 + G * 4398046511104 = V := ⟨_, rfl⟩
  have kM : ∀ w, Calls Tryd.prog 38 #[.int .u64 (1024 + G), .int .i64 (X - 25)] w fun e w' => e = .returned (.int .u64 V) ∧ w' = w := fun w => by
    have h := zmade_any (1024 + G) (X - 25) 42 ((1024 + G) * 4398046511104) (by omega) rfl (by omega) (by omega) w
    have e : (X - 25 - ((42 : Nat) : Int) + 1075) * 4503599627370496 + ((1024 + G) * 4398046511104 - 4503599627370496) = V := by omega
    rw [e] at h
    exact h
  have m1 : bits .or .u64 (S * 9223372036854775808) V = S * 9223372036854775808 + V := or_hi 63 _ _ (by omega) (by omega) (by omega) (by omega) (by omega) (by omega)
  have hR : S * 9223372036854775808 + (X + 1008) * 4503599627370496 + G * 4398046511104 = S * 9223372036854775808 + V := by omega
  rw [hR]
  clear hS hX hG hc hc1 hV hR
  go_enter Tryd.func20, Tryd.ntmps20
  go_wp2_with (first
    | (go_at_call 35; refine (kP _).mono ?_; rintro e w1 ⟨rfl, hw⟩; obtain rfl : w = w1 := hw.symm)
    | (go_at_call 36; refine (kS _).mono ?_; rintro e w2 ⟨rfl, d2⟩)
    | (go_at_call 37; refine (kV _).mono ?_; rintro e w3 ⟨rfl, hw3⟩; obtain rfl : w2 = w3 := hw3.symm)
    | (go_at_call 38; refine (kM _).mono ?_; rintro e w4 ⟨rfl, hw4⟩; obtain rfl : w2 = w4 := hw4.symm))
  go_ret
  exact ⟨rfl, d2⟩
set_option maxRecDepth 100000 in
set_option maxHeartbeats 1000000 in
theorem zw2_low (n S X G : Int) (hS : 0 ≤ S ∧ S ≤ 1) (hX : 0 ≤ X ∧ X < 32) (hG : 0 ≤ G ∧ G < 1024) (hc : X = 0) (hc1 : G ≠ 0) (L : Nat) (M : Int) (hL1 : 1 ≤ L ∧ L ≤ 10) (hM : G * 4398046511104 * 2 ^ L = M) (hM1 : 4503599627370496 ≤ M ∧ M < 9007199254740992) (w : World) (kS : ∀ w, Calls Tryd.prog 36 #[.int .u64 n, .int .i64 2] w fun e w' => e = .returned (.tuple #[.int .u64 S, .int .i64 X, .int .u64 G]) ∧ Below w.heap.size w w') :
    Calls Tryd.prog 20 #[.int .u64 n, .int .i64 2] w fun e w' => e = .returned (.int .u64 (S * 9223372036854775808 + (1009 - (L : Int)) * 4503599627370496 + (M - 4503599627370496))) ∧ Below w.heap.size w w' := by
  have kP := zparts2_any
  have v0 : IntKind.u64.wrap (S * 9223372036854775808) = S * 9223372036854775808 := by rw [IntKind.wrap_u64]; omega
  subst hc
  have kV := zvalue2_zero G
  have e2 : (G == 0) = false := by simpa using hc1
  obtain ⟨V, hV⟩ : ∃ V, (1009 - (L : Int)) * 4503599627370496 + (M - 4503599627370496) = V := ⟨_, rfl⟩
  have kM : ∀ w, Calls Tryd.prog 38 #[.int .u64 G, .int .i64 (-24)] w fun e w' => e = .returned (.int .u64 V) ∧ w' = w := fun w => by
    have h := zmade_any G (-24) (42 + L) M (by omega) (by rw [← hM, Int.pow_add, ← Int.mul_assoc]; rfl) hM1 (by omega) w
    have e : ((-24) - ((42 + L : Nat) : Int) + 1075) * 4503599627370496 + (M - 4503599627370496) = V := by omega
    rw [e] at h
    exact h
  have m1 : bits .or .u64 (S * 9223372036854775808) V = S * 9223372036854775808 + V := or_hi 63 _ _ (by omega) (by omega) (by omega) (by omega) (by omega) (by omega)
  have hR : S * 9223372036854775808 + (1009 - (L : Int)) * 4503599627370496 + (M - 4503599627370496) = S * 9223372036854775808 + V := by omega
  rw [hR]
  clear hS hX hG hc1 hV hR hM hM1 hL1
  go_enter Tryd.func20, Tryd.ntmps20
  go_wp2_with (first
    | (go_at_call 35; refine (kP _).mono ?_; rintro e w1 ⟨rfl, hw⟩; obtain rfl : w = w1 := hw.symm)
    | (go_at_call 36; refine (kS _).mono ?_; rintro e w2 ⟨rfl, d2⟩)
    | (go_at_call 37; refine (kV _).mono ?_; rintro e w3 ⟨rfl, hw3⟩; obtain rfl : w2 = w3 := hw3.symm)
    | (go_at_call 38; refine (kM _).mono ?_; rintro e w4 ⟨rfl, hw4⟩; obtain rfl : w2 = w4 := hw4.symm))
  go_ret
  exact ⟨rfl, d2⟩
set_option maxRecDepth 100000 in
set_option maxHeartbeats 1000000 in
theorem zw2_zero (n S X G : Int) (hS : 0 ≤ S ∧ S ≤ 1) (hX : 0 ≤ X ∧ X < 32) (hG : 0 ≤ G ∧ G < 1024) (hc : X = 0) (hc1 : G = 0) (w : World) (kS : ∀ w, Calls Tryd.prog 36 #[.int .u64 n, .int .i64 2] w fun e w' => e = .returned (.tuple #[.int .u64 S, .int .i64 X, .int .u64 G]) ∧ Below w.heap.size w w') :
    Calls Tryd.prog 20 #[.int .u64 n, .int .i64 2] w fun e w' => e = .returned (.int .u64 (S * 9223372036854775808 + X * 4503599627370496 + G * 4398046511104)) ∧ Below w.heap.size w w' := by
  have kP := zparts2_any
  have v0 : IntKind.u64.wrap (S * 9223372036854775808) = S * 9223372036854775808 := by rw [IntKind.wrap_u64]; omega
  subst hc
  subst hc1
  have kV := zvalue2_zero 0
  have hR : S * 9223372036854775808 + 0 * 4503599627370496 + 0 * 4398046511104 = S * 9223372036854775808 := by omega
  rw [hR]
  clear hS hX hG hR
  go_enter Tryd.func20, Tryd.ntmps20
  go_wp2_with (first
    | (go_at_call 35; refine (kP _).mono ?_; rintro e w1 ⟨rfl, hw⟩; obtain rfl : w = w1 := hw.symm)
    | (go_at_call 36; refine (kS _).mono ?_; rintro e w2 ⟨rfl, d2⟩)
    | (go_at_call 37; refine (kV _).mono ?_; rintro e w3 ⟨rfl, hw3⟩; obtain rfl : w2 = w3 := hw3.symm))
  go_ret
  exact ⟨rfl, d2⟩
theorem zwid2_any (n : Int) (h : 0 ≤ n ∧ n < 65536) (w : World) : Calls Tryd.prog 20 #[.int .u64 n, .int .i64 2] w fun e w' => e = .returned (.int .u64 (widen2 n)) ∧ Below w.heap.size w w' := by
  obtain ⟨hS, hX, hG, -⟩ := split_n2 h
  have kS := fun w => zsplit2_any n h.1 (by omega) w
  unfold widen2
  generalize n / 32768 = S at *
  generalize n / 1024 % 32 = X at *
  generalize n % 1024 = G at *
  unfold wd2
  by_cases h1 : X = 31
  · rw [if_pos h1]
    exact zw2_top n S X G hS hX hG h1 w kS
  · rw [if_neg h1]
    by_cases h2 : X = 0
    · rw [if_neg (by simpa using h2)]
      by_cases h3 : G = 0
      · rw [if_neg (by simpa using h3)]
        exact zw2_zero n S X G hS hX hG h2 h3 w kS
      · rw [if_pos h3]
        obtain ⟨x, y, z⟩ := up_low2 hG h3
        obtain ⟨d, e, f, g⟩ := lift_facts x y
        exact zw2_low n S X G hS hX hG h2 h3 _ _ ⟨e, z⟩ rfl ⟨f, g⟩ w kS
    · rw [if_pos h2]
      exact zw2_mid n S X G hS hX hG h1 h2 w kS
set_option maxRecDepth 100000 in
set_option maxHeartbeats 1000000 in
theorem zw4_top (n S X G : Int) (hS : 0 ≤ S ∧ S ≤ 1) (hX : 0 ≤ X ∧ X < 256) (hG : 0 ≤ G ∧ G < 8388608) (hc : X = 255) (w : World) (kS : ∀ w, Calls Tryd.prog 36 #[.int .u64 n, .int .i64 4] w fun e w' => e = .returned (.tuple #[.int .u64 S, .int .i64 X, .int .u64 G]) ∧ Below w.heap.size w w') :
    Calls Tryd.prog 20 #[.int .u64 n, .int .i64 4] w fun e w' => e = .returned (.int .u64 (S * 9223372036854775808 + 2047 * 4503599627370496 + G * 536870912)) ∧ Below w.heap.size w w' := by
  have kP := zparts4_any
  have v0 : IntKind.u64.wrap (S * 9223372036854775808) = S * 9223372036854775808 := by rw [IntKind.wrap_u64]; omega
  have e1 : (X == 255) = true := by simpa using hc
  have v1 : IntKind.u64.wrap (G * 536870912) = G * 536870912 := by rw [IntKind.wrap_u64]; omega
  have m1 : bits .or .u64 (S * 9223372036854775808) 9218868437227405312 = S * 9223372036854775808 + 9218868437227405312 := or_hi 63 _ _ (by omega) (by omega) (by omega) (by omega) (by omega) (by omega)
  have m2 : bits .or .u64 (S * 9223372036854775808 + 9218868437227405312) (G * 536870912) = S * 9223372036854775808 + 9218868437227405312 + G * 536870912 := or_hi 52 _ _ (by omega) (by omega) (by omega) (by omega) (by omega) (by omega)
  clear hS hX hG hc
  go_enter Tryd.func20, Tryd.ntmps20
  go_wp2_with (first
    | (go_at_call 35; refine (kP _).mono ?_; rintro e w1 ⟨rfl, hw⟩; obtain rfl : w = w1 := hw.symm)
    | (go_at_call 36; refine (kS _).mono ?_; rintro e w2 ⟨rfl, d2⟩))
  go_ret
  exact ⟨rfl, d2⟩
set_option maxRecDepth 100000 in
set_option maxHeartbeats 1000000 in
theorem zw4_mid (n S X G : Int) (hS : 0 ≤ S ∧ S ≤ 1) (hX : 0 ≤ X ∧ X < 256) (hG : 0 ≤ G ∧ G < 8388608) (hc : X ≠ 255) (hc1 : X ≠ 0) (w : World) (kS : ∀ w, Calls Tryd.prog 36 #[.int .u64 n, .int .i64 4] w fun e w' => e = .returned (.tuple #[.int .u64 S, .int .i64 X, .int .u64 G]) ∧ Below w.heap.size w w') :
    Calls Tryd.prog 20 #[.int .u64 n, .int .i64 4] w fun e w' => e = .returned (.int .u64 (S * 9223372036854775808 + (X + 896) * 4503599627370496 + G * 536870912)) ∧ Below w.heap.size w w' := by
  have kP := zparts4_any
  have v0 : IntKind.u64.wrap (S * 9223372036854775808) = S * 9223372036854775808 := by rw [IntKind.wrap_u64]; omega
  have e1 : (X == 255) = false := by simpa using hc
  have kV := zvalue4_some X G (by omega) hc1 hG
  have e2 : (8388608 + G == 0) = false := by simp; omega
  obtain ⟨V, hV⟩ : ∃ V, (X + 896) * 4503599627370496 + G * 536870912 = V := ⟨_, rfl⟩
  have kM : ∀ w, Calls Tryd.prog 38 #[.int .u64 (8388608 + G), .int .i64 (X - 150)] w fun e w' => e = .returned (.int .u64 V) ∧ w' = w := fun w => by
    have h := zmade_any (8388608 + G) (X - 150) 29 ((8388608 + G) * 536870912) (by omega) rfl (by omega) (by omega) w
    have e : (X - 150 - ((29 : Nat) : Int) + 1075) * 4503599627370496 + ((8388608 + G) * 536870912 - 4503599627370496) = V := by omega
    rw [e] at h
    exact h
  have m1 : bits .or .u64 (S * 9223372036854775808) V = S * 9223372036854775808 + V := or_hi 63 _ _ (by omega) (by omega) (by omega) (by omega) (by omega) (by omega)
  have hR : S * 9223372036854775808 + (X + 896) * 4503599627370496 + G * 536870912 = S * 9223372036854775808 + V := by omega
  rw [hR]
  clear hS hX hG hc hc1 hV hR
  go_enter Tryd.func20, Tryd.ntmps20
  go_wp2_with (first
    | (go_at_call 35; refine (kP _).mono ?_; rintro e w1 ⟨rfl, hw⟩; obtain rfl : w = w1 := hw.symm)
    | (go_at_call 36; refine (kS _).mono ?_; rintro e w2 ⟨rfl, d2⟩)
    | (go_at_call 37; refine (kV _).mono ?_; rintro e w3 ⟨rfl, hw3⟩; obtain rfl : w2 = w3 := hw3.symm)
    | (go_at_call 38; refine (kM _).mono ?_; rintro e w4 ⟨rfl, hw4⟩; obtain rfl : w2 = w4 := hw4.symm))
  go_ret
  exact ⟨rfl, d2⟩
set_option maxRecDepth 100000 in
set_option maxHeartbeats 1000000 in
theorem zw4_low (n S X G : Int) (hS : 0 ≤ S ∧ S ≤ 1) (hX : 0 ≤ X ∧ X < 256) (hG : 0 ≤ G ∧ G < 8388608) (hc : X = 0) (hc1 : G ≠ 0) (L : Nat) (M : Int) (hL1 : 1 ≤ L ∧ L ≤ 23) (hM : G * 536870912 * 2 ^ L = M) (hM1 : 4503599627370496 ≤ M ∧ M < 9007199254740992) (w : World) (kS : ∀ w, Calls Tryd.prog 36 #[.int .u64 n, .int .i64 4] w fun e w' => e = .returned (.tuple #[.int .u64 S, .int .i64 X, .int .u64 G]) ∧ Below w.heap.size w w') :
    Calls Tryd.prog 20 #[.int .u64 n, .int .i64 4] w fun e w' => e = .returned (.int .u64 (S * 9223372036854775808 + (897 - (L : Int)) * 4503599627370496 + (M - 4503599627370496))) ∧ Below w.heap.size w w' := by
  have kP := zparts4_any
  have v0 : IntKind.u64.wrap (S * 9223372036854775808) = S * 9223372036854775808 := by rw [IntKind.wrap_u64]; omega
  subst hc
  have kV := zvalue4_zero G
  have e2 : (G == 0) = false := by simpa using hc1
  obtain ⟨V, hV⟩ : ∃ V, (897 - (L : Int)) * 4503599627370496 + (M - 4503599627370496) = V := ⟨_, rfl⟩
  have kM : ∀ w, Calls Tryd.prog 38 #[.int .u64 G, .int .i64 (-149)] w fun e w' => e = .returned (.int .u64 V) ∧ w' = w := fun w => by
    have h := zmade_any G (-149) (29 + L) M (by omega) (by rw [← hM, Int.pow_add, ← Int.mul_assoc]; rfl) hM1 (by omega) w
    have e : ((-149) - ((29 + L : Nat) : Int) + 1075) * 4503599627370496 + (M - 4503599627370496) = V := by omega
    rw [e] at h
    exact h
  have m1 : bits .or .u64 (S * 9223372036854775808) V = S * 9223372036854775808 + V := or_hi 63 _ _ (by omega) (by omega) (by omega) (by omega) (by omega) (by omega)
  have hR : S * 9223372036854775808 + (897 - (L : Int)) * 4503599627370496 + (M - 4503599627370496) = S * 9223372036854775808 + V := by omega
  rw [hR]
  clear hS hX hG hc1 hV hR hM hM1 hL1
  go_enter Tryd.func20, Tryd.ntmps20
  go_wp2_with (first
    | (go_at_call 35; refine (kP _).mono ?_; rintro e w1 ⟨rfl, hw⟩; obtain rfl : w = w1 := hw.symm)
    | (go_at_call 36; refine (kS _).mono ?_; rintro e w2 ⟨rfl, d2⟩)
    | (go_at_call 37; refine (kV _).mono ?_; rintro e w3 ⟨rfl, hw3⟩; obtain rfl : w2 = w3 := hw3.symm)
    | (go_at_call 38; refine (kM _).mono ?_; rintro e w4 ⟨rfl, hw4⟩; obtain rfl : w2 = w4 := hw4.symm))
  go_ret
  exact ⟨rfl, d2⟩
set_option maxRecDepth 100000 in
set_option maxHeartbeats 1000000 in
theorem zw4_zero (n S X G : Int) (hS : 0 ≤ S ∧ S ≤ 1) (hX : 0 ≤ X ∧ X < 256) (hG : 0 ≤ G ∧ G < 8388608) (hc : X = 0) (hc1 : G = 0) (w : World) (kS : ∀ w, Calls Tryd.prog 36 #[.int .u64 n, .int .i64 4] w fun e w' => e = .returned (.tuple #[.int .u64 S, .int .i64 X, .int .u64 G]) ∧ Below w.heap.size w w') :
    Calls Tryd.prog 20 #[.int .u64 n, .int .i64 4] w fun e w' => e = .returned (.int .u64 (S * 9223372036854775808 + X * 4503599627370496 + G * 536870912)) ∧ Below w.heap.size w w' := by
  have kP := zparts4_any
  have v0 : IntKind.u64.wrap (S * 9223372036854775808) = S * 9223372036854775808 := by rw [IntKind.wrap_u64]; omega
  subst hc
  subst hc1
  have kV := zvalue4_zero 0
  have hR : S * 9223372036854775808 + 0 * 4503599627370496 + 0 * 536870912 = S * 9223372036854775808 := by omega
  rw [hR]
  clear hS hX hG hR
  go_enter Tryd.func20, Tryd.ntmps20
  go_wp2_with (first
    | (go_at_call 35; refine (kP _).mono ?_; rintro e w1 ⟨rfl, hw⟩; obtain rfl : w = w1 := hw.symm)
    | (go_at_call 36; refine (kS _).mono ?_; rintro e w2 ⟨rfl, d2⟩)
    | (go_at_call 37; refine (kV _).mono ?_; rintro e w3 ⟨rfl, hw3⟩; obtain rfl : w2 = w3 := hw3.symm))
  go_ret
  exact ⟨rfl, d2⟩
theorem zwid4_any (n : Int) (h : 0 ≤ n ∧ n < 4294967296) (w : World) : Calls Tryd.prog 20 #[.int .u64 n, .int .i64 4] w fun e w' => e = .returned (.int .u64 (widen4 n)) ∧ Below w.heap.size w w' := by
  obtain ⟨hS, hX, hG, -⟩ := split_n4 h
  have kS := fun w => zsplit4_any n h.1 (by omega) w
  unfold widen4
  generalize n / 2147483648 = S at *
  generalize n / 8388608 % 256 = X at *
  generalize n % 8388608 = G at *
  unfold wd4
  by_cases h1 : X = 255
  · rw [if_pos h1]
    exact zw4_top n S X G hS hX hG h1 w kS
  · rw [if_neg h1]
    by_cases h2 : X = 0
    · rw [if_neg (by simpa using h2)]
      by_cases h3 : G = 0
      · rw [if_neg (by simpa using h3)]
        exact zw4_zero n S X G hS hX hG h2 h3 w kS
      · rw [if_pos h3]
        obtain ⟨x, y, z⟩ := up_low4 hG h3
        obtain ⟨d, e, f, g⟩ := lift_facts x y
        exact zw4_low n S X G hS hX hG h2 h3 _ _ ⟨e, z⟩ rfl ⟨f, g⟩ w kS
    · rw [if_pos h2]
      exact zw4_mid n S X G hS hX hG h1 h2 w kS
end Go.Proofs.YtjdceigndleadaaDoor
