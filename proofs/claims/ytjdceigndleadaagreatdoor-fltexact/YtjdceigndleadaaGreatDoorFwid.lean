/-
  To widen, and the nearest bits: each format as a whole.
-/
import Derived.Test.YtjdceigndleadaaGreatDoorFplain
import Derived.Test.YtjdceigndleadaaGreatDoorFwza
import Derived.Test.YtjdceigndleadaaGreatDoorFwma
import Derived.Test.YtjdceigndleadaaGreatDoorFwla
import Derived.Test.YtjdceigndleadaaGreatDoorFwzb
import Derived.Test.YtjdceigndleadaaGreatDoorFwmb
import Derived.Test.YtjdceigndleadaaGreatDoorFwlb
import Derived.Test.YtjdceigndleadaaGreatDoorFnz
import Derived.Test.YtjdceigndleadaaGreatDoorFnha
import Derived.Test.YtjdceigndleadaaGreatDoorFnl
import Derived.Test.YtjdceigndleadaaGreatDoorFnhb
namespace Go.Proofs.YtjdceigndleadaaGreatDoor
open Go.RowKit

set_option maxRecDepth 100000 in
theorem fwiden8_any (n : Int) (w : World) : Calls Tryz.prog 42 #[.agg #[.int .i64 8, .int .i64 11, .int .i64 52], .int .u64 n] w fun e w' => e = .returned (.int .u64 n) ∧ Below w.heap.size w w' := by
  have k0 := wide_any
  have r0 := row3_new w 34 (.int .i64 8) (.int .i64 11) (.int .i64 52)
  go_enter Tryz.func42, Tryz.ntmps42
  go_wp2
  go_region_held3 (fun wx => wx.cell? ⟨w.heap.size, 0, none⟩ = some (.int .i64 8) ∧ wx.cell? ⟨w.heap.size, 1, none⟩ = some (.int .i64 11) ∧ wx.cell? ⟨w.heap.size, 2, none⟩ = some (.int .i64 52)) (first | exact r0.at | exact q1.at) (
    (go_at_call 11; refine (k0 _).mono ?_; rintro e w1 ⟨rfl, b1⟩; have d1 := box_drew b1; have q1 := Row3.kept (w := (w.alloc (.cells #[.int .i64 8, .int .i64 11, .int .i64 52] 34)).drew) r0 b1 (alloc_lt _ _)))
  go_wp2
  go_ret
  exact ⟨rfl, d1⟩
theorem fwiden2_any (n : Int) (h : 0 ≤ n ∧ n < 65536) (w : World) : Calls Tryz.prog 42 #[.agg #[.int .i64 2, .int .i64 5, .int .i64 10], .int .u64 n] w fun e w' => e = .returned (.int .u64 (widen2 n)) ∧ Below w.heap.size w w' := by
  obtain ⟨hS, hX, hG, -⟩ := split_n2 h
  have kS := fun w => split2_any n h.1 (by omega) w
  unfold widen2
  generalize n / 32768 = S at *
  generalize n / 1024 % 32 = X at *
  generalize n % 1024 = G at *
  unfold wd2
  by_cases h1 : X = 31
  · rw [if_pos h1]
    exact fw2_top S X G n hS hX hG h1 w kS
  · rw [if_neg h1]
    by_cases h2 : X = 0
    · rw [if_neg (by simpa using h2)]
      by_cases h3 : G = 0
      · rw [if_neg (by simpa using h3)]
        exact fw2_zero S X G n hS hX hG h2 h3 w kS
      · rw [if_pos h3]
        obtain ⟨x, y, z⟩ := up_low2 hG h3
        obtain ⟨d, e, f, g⟩ := lift_facts x y
        exact fw2_low S X G n hS hX hG h2 h3 _ _ d ⟨e, by omega⟩ rfl ⟨f, g⟩ w kS
    · rw [if_pos h2]
      exact fw2_mid S X G n hS hX hG h1 h2 w kS
theorem fwiden4_any (n : Int) (h : 0 ≤ n ∧ n < 4294967296) (w : World) : Calls Tryz.prog 42 #[.agg #[.int .i64 4, .int .i64 8, .int .i64 23], .int .u64 n] w fun e w' => e = .returned (.int .u64 (widen4 n)) ∧ Below w.heap.size w w' := by
  obtain ⟨hS, hX, hG, -⟩ := split_n4 h
  have kS := fun w => split4_any n h.1 (by omega) w
  unfold widen4
  generalize n / 2147483648 = S at *
  generalize n / 8388608 % 256 = X at *
  generalize n % 8388608 = G at *
  unfold wd4
  by_cases h1 : X = 255
  · rw [if_pos h1]
    exact fw4_top S X G n hS hX hG h1 w kS
  · rw [if_neg h1]
    by_cases h2 : X = 0
    · rw [if_neg (by simpa using h2)]
      by_cases h3 : G = 0
      · rw [if_neg (by simpa using h3)]
        exact fw4_zero S X G n hS hX hG h2 h3 w kS
      · rw [if_pos h3]
        obtain ⟨x, y, z⟩ := up_low4 hG h3
        obtain ⟨d, e, f, g⟩ := lift_facts x y
        exact fw4_low S X G n hS hX hG h2 h3 _ _ d ⟨e, by omega⟩ rfl ⟨f, g⟩ w kS
    · rw [if_pos h2]
      exact fw4_mid S X G n hS hX hG h1 h2 w kS
theorem nearest2_any (n : Int) (h : 0 ≤ n ∧ n < 18446744073709551616) (w : World) : Calls Tryz.prog 43 #[.agg #[.int .i64 2, .int .i64 5, .int .i64 10], .int .u64 n] w fun e w' => e = .returned (.int .u64 (near2 n)) ∧ Below w.heap.size w w' := by
  have kS := fun w => split8_any n h.1 (by omega) w
  unfold near2
  have hS : 0 ≤ n / 9223372036854775808 ∧ n / 9223372036854775808 ≤ 1 := by omega
  have hX : 0 ≤ n / 4503599627370496 % 2048 ∧ n / 4503599627370496 % 2048 < 2048 := by omega
  have hG : 0 ≤ n % 4503599627370496 ∧ n % 4503599627370496 < 4503599627370496 := by omega
  generalize n / 9223372036854775808 = S at *
  generalize n / 4503599627370496 % 2048 = X at *
  generalize n % 4503599627370496 = G at *
  unfold nr2
  by_cases h1 : 1008 < X
  · rw [if_pos h1]
    exact nr2_hi S X G n hS hX hG h1 _ rfl w kS
  · rw [if_neg h1]
    by_cases h2 : X = 0
    · rw [if_neg (by simpa using h2)]
      exact nr2_zero S X G n hS hX hG h2 w kS
    · rw [if_pos h2]
      exact nr2_low S X G n hS hX hG (by omega) h2 _ rfl w kS
theorem nearest4_any (n : Int) (h : 0 ≤ n ∧ n < 18446744073709551616) (w : World) : Calls Tryz.prog 43 #[.agg #[.int .i64 4, .int .i64 8, .int .i64 23], .int .u64 n] w fun e w' => e = .returned (.int .u64 (near4 n)) ∧ Below w.heap.size w w' := by
  have kS := fun w => split8_any n h.1 (by omega) w
  unfold near4
  have hS : 0 ≤ n / 9223372036854775808 ∧ n / 9223372036854775808 ≤ 1 := by omega
  have hX : 0 ≤ n / 4503599627370496 % 2048 ∧ n / 4503599627370496 % 2048 < 2048 := by omega
  have hG : 0 ≤ n % 4503599627370496 ∧ n % 4503599627370496 < 4503599627370496 := by omega
  generalize n / 9223372036854775808 = S at *
  generalize n / 4503599627370496 % 2048 = X at *
  generalize n % 4503599627370496 = G at *
  unfold nr4
  by_cases h1 : 896 < X
  · rw [if_pos h1]
    exact nr4_hi S X G n hS hX hG h1 _ rfl w kS
  · rw [if_neg h1]
    by_cases h2 : X = 0
    · rw [if_neg (by simpa using h2)]
      exact nr4_zero S X G n hS hX hG h2 w kS
    · rw [if_pos h2]
      exact nr4_low S X G n hS hX hG (by omega) h2 _ rfl w kS
end Go.Proofs.YtjdceigndleadaaGreatDoor
