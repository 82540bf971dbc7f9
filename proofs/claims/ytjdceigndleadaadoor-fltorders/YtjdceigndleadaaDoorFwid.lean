/-
  To widen, and the nearest bits: each format as a whole.
-/
import Derived.Test.YtjdceigndleadaaDoorFplain
import Derived.Test.YtjdceigndleadaaDoorFwa
import Derived.Test.YtjdceigndleadaaDoorFwb
import Derived.Test.YtjdceigndleadaaDoorFna
import Derived.Test.YtjdceigndleadaaDoorFnb
namespace Go.Proofs.YtjdceigndleadaaDoor
open Go.RowKit
set_option linter.unusedVariables false

set_option maxRecDepth 100000 in
theorem fwiden8_any (n : Int) (w : World) : Calls Tryd.prog 19 #[.agg #[.int .i64 8, .int .i64 11, .int .i64 52], .int .u64 n] w fun e w' => e = .returned (.int .u64 n) ∧ Below w.heap.size w w' := by
  have k0 := wide_any
  have r0 := row3_new w 43 (.int .i64 8) (.int .i64 11) (.int .i64 52)
  go_enter Tryd.func19, Tryd.ntmps19
  go_wp2
  go_region_held3 (fun wx => wx.cell? ⟨w.heap.size, 0, none⟩ = some (.int .i64 8) ∧ wx.cell? ⟨w.heap.size, 1, none⟩ = some (.int .i64 11) ∧ wx.cell? ⟨w.heap.size, 2, none⟩ = some (.int .i64 52)) (first | exact r0.at | exact q1.at) (
    (go_at_call 22; refine (k0 _).mono ?_; rintro e w1 ⟨rfl, b1⟩; have d1 := box_drew b1; have q1 := Row3.kept (w := (w.alloc (.cells #[.int .i64 8, .int .i64 11, .int .i64 52] 43)).drew) r0 b1 (alloc_lt _ _)))
  go_wp2
  go_ret
  exact ⟨rfl, d1⟩
theorem fwiden2_any (n : Int) (h : 0 ≤ n ∧ n < 65536) (w : World) : Calls Tryd.prog 19 #[.agg #[.int .i64 2, .int .i64 5, .int .i64 10], .int .u64 n] w fun e w' => e = .returned (.int .u64 (widen2 n)) ∧ Below w.heap.size w w' := by
  obtain ⟨hS, hX, hG, -⟩ := split_n2 h
  have kS := fun w => split2_any n h.1 (by omega) w
  unfold widen2
  generalize n / 32768 = S at *
  generalize n / 1024 % 32 = X at *
  generalize n % 1024 = G at *
  unfold wd2
  by_cases h1 : X = 31
  · rw [if_pos h1]
    exact fw2_all S X G n hS hX hG 2047 (G * 4398046511104) 0 0 (fun _ => ⟨rfl, rfl⟩) (fun h => absurd h1 h) (fun h _ => False.elim (by omega)) (fun h _ => False.elim (by omega)) (by decide) (by omega) w kS
  · rw [if_neg h1]
    by_cases h2 : X = 0
    · rw [if_neg (by simpa using h2)]
      by_cases h3 : G = 0
      · rw [if_neg (by simpa using h3)]
        exact fw2_all S X G n hS hX hG X (G * 4398046511104) 0 0 (fun h => absurd h h1) (fun _ h => absurd h2 h) (fun _ h => absurd h3 h) (fun _ _ => ⟨rfl, rfl⟩) (by omega) (by omega) w kS
      · rw [if_pos h3]
        obtain ⟨x, y, z⟩ := up_low2 hG h3
        obtain ⟨d, e, f, g⟩ := lift_facts x y
        exact fw2_all S X G n hS hX hG _ _ (liftN (G * 4398046511104)) (lifted (G * 4398046511104)) (fun h => absurd h h1) (fun _ h => absurd h2 h) (fun _ _ => ⟨⟨rfl, rfl⟩, d, ⟨e, by omega⟩, rfl, f, g⟩) (fun _ h => absurd h h3) (by omega) (by omega) w kS
    · rw [if_pos h2]
      exact fw2_all S X G n hS hX hG (X + 1008) (G * 4398046511104) 0 0 (fun h => absurd h h1) (fun _ _ => ⟨rfl, rfl⟩) (fun h _ => absurd h h2) (fun h _ => absurd h h2) (by omega) (by omega) w kS
theorem nearest2_any (n : Int) (h : 0 ≤ n ∧ n < 18446744073709551616) (w : World) : Calls Tryd.prog 21 #[.agg #[.int .i64 2, .int .i64 5, .int .i64 10], .int .u64 n] w fun e w' => e = .returned (.int .u64 (near2 n)) ∧ Below w.heap.size w w' := by
  have kS := fun w => split8_any n h.1 (by omega) w
  unfold near2
  have hS : 0 ≤ n / 9223372036854775808 ∧ n / 9223372036854775808 ≤ 1 := by omega
  have hX : 0 ≤ n / 4503599627370496 % 2048 ∧ n / 4503599627370496 % 2048 < 2048 := by omega
  have hG : 0 ≤ n % 4503599627370496 ∧ n % 4503599627370496 < 4503599627370496 := by omega
  generalize n / 9223372036854775808 = S at *
  generalize n / 4503599627370496 % 2048 = X at *
  generalize n % 4503599627370496 = G at *
  have hshl : Op.shift .shr .u64 G .u64 42 = pure (.int .u64 (G / 4398046511104)) := shr_any G 42 (by omega) (by omega) (by decide)
  unfold nr2
  by_cases h1 : 1008 < X
  · rw [if_pos h1]
    exact nr2_all S X G n hS hX hG _ G 42 _ (fun _ => ⟨rfl, rfl, rfl⟩) (fun h _ => False.elim (by omega)) (fun h => False.elim (by omega)) hshl (by omega) (by omega) w kS
  · rw [if_neg h1]
    by_cases h2 : X = 0
    · rw [if_neg (by simpa using h2)]
      exact nr2_all S X G n hS hX hG X G 42 _ (fun h => absurd h h1) (fun _ h => absurd h2 h) (fun _ => ⟨rfl, rfl, rfl⟩) hshl (by omega) (by omega) w kS
    · rw [if_pos h2]
      exact nr2_all S X G n hS hX hG 0 (G + 4503599627370496) (1051 - X) _ (fun h => absurd h h1) (fun _ _ => ⟨rfl, rfl, rfl⟩) (fun h => absurd h h2) (shr_any _ _ (by omega) (by omega) (by omega)) (by decide) (near_q2 hG (by omega)) w kS
theorem fwiden4_any (n : Int) (h : 0 ≤ n ∧ n < 4294967296) (w : World) : Calls Tryd.prog 19 #[.agg #[.int .i64 4, .int .i64 8, .int .i64 23], .int .u64 n] w fun e w' => e = .returned (.int .u64 (widen4 n)) ∧ Below w.heap.size w w' := by
  obtain ⟨hS, hX, hG, -⟩ := split_n4 h
  have kS := fun w => split4_any n h.1 (by omega) w
  unfold widen4
  generalize n / 2147483648 = S at *
  generalize n / 8388608 % 256 = X at *
  generalize n % 8388608 = G at *
  unfold wd4
  by_cases h1 : X = 255
  · rw [if_pos h1]
    exact fw4_all S X G n hS hX hG 2047 (G * 536870912) 0 0 (fun _ => ⟨rfl, rfl⟩) (fun h => absurd h1 h) (fun h _ => False.elim (by omega)) (fun h _ => False.elim (by omega)) (by decide) (by omega) w kS
  · rw [if_neg h1]
    by_cases h2 : X = 0
    · rw [if_neg (by simpa using h2)]
      by_cases h3 : G = 0
      · rw [if_neg (by simpa using h3)]
        exact fw4_all S X G n hS hX hG X (G * 536870912) 0 0 (fun h => absurd h h1) (fun _ h => absurd h2 h) (fun _ h => absurd h3 h) (fun _ _ => ⟨rfl, rfl⟩) (by omega) (by omega) w kS
      · rw [if_pos h3]
        obtain ⟨x, y, z⟩ := up_low4 hG h3
        obtain ⟨d, e, f, g⟩ := lift_facts x y
        exact fw4_all S X G n hS hX hG _ _ (liftN (G * 536870912)) (lifted (G * 536870912)) (fun h => absurd h h1) (fun _ h => absurd h2 h) (fun _ _ => ⟨⟨rfl, rfl⟩, d, ⟨e, by omega⟩, rfl, f, g⟩) (fun _ h => absurd h h3) (by omega) (by omega) w kS
    · rw [if_pos h2]
      exact fw4_all S X G n hS hX hG (X + 896) (G * 536870912) 0 0 (fun h => absurd h h1) (fun _ _ => ⟨rfl, rfl⟩) (fun h _ => absurd h h2) (fun h _ => absurd h h2) (by omega) (by omega) w kS
theorem nearest4_any (n : Int) (h : 0 ≤ n ∧ n < 18446744073709551616) (w : World) : Calls Tryd.prog 21 #[.agg #[.int .i64 4, .int .i64 8, .int .i64 23], .int .u64 n] w fun e w' => e = .returned (.int .u64 (near4 n)) ∧ Below w.heap.size w w' := by
  have kS := fun w => split8_any n h.1 (by omega) w
  unfold near4
  have hS : 0 ≤ n / 9223372036854775808 ∧ n / 9223372036854775808 ≤ 1 := by omega
  have hX : 0 ≤ n / 4503599627370496 % 2048 ∧ n / 4503599627370496 % 2048 < 2048 := by omega
  have hG : 0 ≤ n % 4503599627370496 ∧ n % 4503599627370496 < 4503599627370496 := by omega
  generalize n / 9223372036854775808 = S at *
  generalize n / 4503599627370496 % 2048 = X at *
  generalize n % 4503599627370496 = G at *
  have hshl : Op.shift .shr .u64 G .u64 29 = pure (.int .u64 (G / 536870912)) := shr_any G 29 (by omega) (by omega) (by decide)
  unfold nr4
  by_cases h1 : 896 < X
  · rw [if_pos h1]
    exact nr4_all S X G n hS hX hG _ G 29 _ (fun _ => ⟨rfl, rfl, rfl⟩) (fun h _ => False.elim (by omega)) (fun h => False.elim (by omega)) hshl (by omega) (by omega) w kS
  · rw [if_neg h1]
    by_cases h2 : X = 0
    · rw [if_neg (by simpa using h2)]
      exact nr4_all S X G n hS hX hG X G 29 _ (fun h => absurd h h1) (fun _ h => absurd h2 h) (fun _ => ⟨rfl, rfl, rfl⟩) hshl (by omega) (by omega) w kS
    · rw [if_pos h2]
      exact nr4_all S X G n hS hX hG 0 (G + 4503599627370496) (926 - X) _ (fun h => absurd h h1) (fun _ _ => ⟨rfl, rfl, rfl⟩) (fun h => absurd h h2) (shr_any _ _ (by omega) (by omega) (by omega)) (by decide) (near_q4 hG (by omega)) w kS
end Go.Proofs.YtjdceigndleadaaDoor
