/-
  The formats, and what they are made of: the small functions of flt.
-/
import Derived.Test.YtjdceigndleadaaGreatDoorNum
import Derived.Deep.RegionHeld3
import Derived.Lib.EndianBits
import Derived.BigQuiet
namespace Go.Proofs.YtjdceigndleadaaGreatDoor
open Go.RowKit

theorem or_hi (i : Nat) (x y : Int) (hx0 : 0 ≤ x) (hx : x % 2 ^ i = 0) (hx1 : x < 2 ^ 64) (hy0 : 0 ≤ y) (hy : y < 2 ^ i) (hy1 : y < 2 ^ 64) : bits .or .u64 x y = x + y :=
  bits_join .u64 64 (by decide) wraps_u64 i x y hx0 hx hx1 hy0 hy hy1
theorem and_low (i : Nat) (hi : i ≤ 64) (x : Int) (hx0 : 0 ≤ x) (hx1 : x < 2 ^ 64) : bits .and .u64 x (2 ^ i - 1) = x % 2 ^ i :=
  bits_mask .u64 64 (by decide) wraps_u64 i hi x hx0 hx1
/-- A struct of three in memory. -/
def Row3 (w : World) (g : Nat) (t : TypeId) (x y z : Value) : Prop := w.heap[g]? = some (.cells #[x, y, z] t (0, 0))
theorem Row3.lt {w : World} {g : Nat} {t : TypeId} {x y z : Value} (h : Row3 w g t x y z) : g < w.heap.size := (Array.getElem?_eq_some_iff.1 h).1
theorem Row3.at {w : World} {g : Nat} {t : TypeId} {x y z : Value} (h : Row3 w g t x y z) : w.cell? ⟨g, 0, none⟩ = some x ∧ w.cell? ⟨g, 1, none⟩ = some y ∧ w.cell? ⟨g, 2, none⟩ = some z := by
  refine ⟨?_, ?_, ?_⟩ <;> exact cell_row h _
theorem Row3.fz {w : World} {g : Nat} {t : TypeId} {x y z : Value} (h : Row3 w g t x y z) (j : Nat) : w.frozen? ⟨g, j, none⟩ = false := by
  unfold Row3 at h
  simp [World.frozen?, h]
theorem Row3.kept {w w' : World} {g : Nat} {t : TypeId} {x y z : Value} (h : Row3 w g t x y z) {B : Nat} (hb : Below B w w') (hB : g < B) : Row3 w' g t x y z := by
  unfold Row3 at h ⊢
  rw [hb.block g hB]; exact h
theorem row3_new (w : World) (t : TypeId) (x y z : Value) : Row3 (w.alloc (.cells #[x, y, z] t)) w.heap.size t x y z := heap_alloc_new w _
theorem Row3.set {w : World} {g : Nat} {t : TypeId} {x y z : Value} (h : Row3 w g t x y z) {a : Addr} (ha : g ≠ a.block) (u : Value) : Row3 (w.setCell a u) g t x y z := by
  unfold Row3 at h ⊢
  rw [Below.heap_setCell w a u g ha]; exact h
theorem Row3.put0 {w : World} {g : Nat} {t : TypeId} {x y z : Value} (h : Row3 w g t x y z) (u : Value) : Row3 (w.setCell ⟨g, 0, none⟩ u) g t u y z := by
  unfold Row3
  rw [heap_setCell_same _ g 0 _ t _ h]; rfl
theorem Row3.put1 {w : World} {g : Nat} {t : TypeId} {x y z : Value} (h : Row3 w g t x y z) (u : Value) : Row3 (w.setCell ⟨g, 1, none⟩ u) g t x u z := by
  unfold Row3
  rw [heap_setCell_same _ g 1 _ t _ h]; rfl
theorem Row3.put2 {w : World} {g : Nat} {t : TypeId} {x y z : Value} (h : Row3 w g t x y z) (u : Value) : Row3 (w.setCell ⟨g, 2, none⟩ u) g t x y u := by
  unfold Row3
  rw [heap_setCell_same _ g 2 _ t _ h]; rfl
theorem formats_any (w : World) : Calls Tryz.prog 25 #[] w fun e w' => e = .returned (.agg #[.int .i64 2, .int .i64 5, .int .i64 10, .int .i64 4, .int .i64 8, .int .i64 23, .int .i64 8, .int .i64 11, .int .i64 52]) ∧ Below w.heap.size w w' := by
  go_enter Tryz.func25, Tryz.ntmps25
  go_wp2
  refine bodyPost_ret (v := .agg #[.int .i64 2, .int .i64 5, .int .i64 10, .int .i64 4, .int .i64 8, .int .i64 23, .int .i64 8, .int .i64 11, .int .i64 52]) (by simp [results, Tryz.results25, go_sem]) rfl ⟨rfl, ?_⟩
  exact alloc_below _ _
theorem idx0 (W : World) : (Instr.index 54 (.agg #[.int .i64 2, .int .i64 5, .int .i64 10, .int .i64 4, .int .i64 8, .int .i64 23, .int .i64 8, .int .i64 11, .int .i64 52]) (.int .i64 0)).run Tryz.prog W = .ok (.agg #[.int .i64 2, .int .i64 5, .int .i64 10]) W := by kernel_rfl
theorem idx1 (W : World) : (Instr.index 54 (.agg #[.int .i64 2, .int .i64 5, .int .i64 10, .int .i64 4, .int .i64 8, .int .i64 23, .int .i64 8, .int .i64 11, .int .i64 52]) (.int .i64 1)).run Tryz.prog W = .ok (.agg #[.int .i64 4, .int .i64 8, .int .i64 23]) W := by kernel_rfl
theorem idx2 (W : World) : (Instr.index 54 (.agg #[.int .i64 2, .int .i64 5, .int .i64 10, .int .i64 4, .int .i64 8, .int .i64 23, .int .i64 8, .int .i64 11, .int .i64 52]) (.int .i64 2)).run Tryz.prog W = .ok (.agg #[.int .i64 8, .int .i64 11, .int .i64 52]) W := by kernel_rfl
theorem fldW0 (W : World) : (Instr.field 34 (.agg #[.int .i64 8, .int .i64 11, .int .i64 52]) 0).run Tryz.prog W = .ok (.int .i64 8) W := by kernel_rfl
theorem fldW2 (W : World) : (Instr.field 34 (.agg #[.int .i64 8, .int .i64 11, .int .i64 52]) 2).run Tryz.prog W = .ok (.int .i64 52) W := by kernel_rfl
theorem fldP0 (x y z : Int) (W : World) : (Instr.field 48 (.agg #[.int .u64 x, .int .u64 y, .int .u64 z]) 0).run Tryz.prog W = .ok (.int .u64 x) W := by kernel_rfl
theorem fldP1 (x y z : Int) (W : World) : (Instr.field 48 (.agg #[.int .u64 x, .int .u64 y, .int .u64 z]) 1).run Tryz.prog W = .ok (.int .u64 y) W := by kernel_rfl
theorem len_any (x : Int) (h0 : 0 ≤ x) (h1 : x ≤ 18446744073709551615) (w : World) : Calls Tryz.prog 61 #[.int .u64 x] w fun e w' => e = .returned (.int .i64 (Lib.bitLen x.toNat)) ∧ w' = w := Any.bits_Len64 lays129 x w h0 h1
set_option maxRecDepth 100000 in
theorem wide_any (w : World) : Calls Tryz.prog 11 #[] w fun e w' => e = .returned (.agg #[.int .i64 8, .int .i64 11, .int .i64 52]) ∧ Below w.heap.size w w' := by
  have k := formats_any
  have hi := idx2
  go_enter Tryz.func11, Tryz.ntmps11
  go_wp2_with (go_at_call 25; refine (k _).mono ?_; rintro e w1 ⟨rfl, b1⟩; obtain ⟨c0, c1, c2⟩ := ((row3_new w 34 (.int .i64 0) (.int .i64 0) (.int .i64 0)).kept b1 (alloc_lt _ _)).at; have f0 := ((row3_new w 34 (.int .i64 0) (.int .i64 0) (.int .i64 0)).kept b1 (alloc_lt _ _)).fz 0; have f1 := ((row3_new w 34 (.int .i64 0) (.int .i64 0) (.int .i64 0)).kept b1 (alloc_lt _ _)).fz 1; have f2 := ((row3_new w 34 (.int .i64 0) (.int .i64 0) (.int .i64 0)).kept b1 (alloc_lt _ _)).fz 2)
  refine bodyPost_ret (v := .agg #[.int .i64 8, .int .i64 11, .int .i64 52]) (by simp [results, Tryz.results11, go_sem, *]) rfl ⟨rfl, ?_⟩
  exact (((box_below b1).setCell (Nat.le_refl _) _).setCell (Nat.le_refl _) _).setCell (Nat.le_refl _) _
theorem top2_any (w : World) : Calls Tryz.prog 22 #[.agg #[.int .i64 2, .int .i64 5, .int .i64 10]] w fun e w' => e = .returned (.int .u64 31) ∧ Below w.heap.size w w' := by
  go_enter Tryz.func22, Tryz.ntmps22
  go_wp2
  go_ret
  exact ⟨rfl, alloc_below _ _⟩
theorem ahead2_any (w : World) : Calls Tryz.prog 26 #[.agg #[.int .i64 2, .int .i64 5, .int .i64 10]] w fun e w' => e = .returned (.int .u64 1024) ∧ Below w.heap.size w w' := by
  go_enter Tryz.func26, Tryz.ntmps26
  go_wp2
  go_ret
  exact ⟨rfl, alloc_below _ _⟩
theorem top4_any (w : World) : Calls Tryz.prog 22 #[.agg #[.int .i64 4, .int .i64 8, .int .i64 23]] w fun e w' => e = .returned (.int .u64 255) ∧ Below w.heap.size w w' := by
  go_enter Tryz.func22, Tryz.ntmps22
  go_wp2
  go_ret
  exact ⟨rfl, alloc_below _ _⟩
theorem ahead4_any (w : World) : Calls Tryz.prog 26 #[.agg #[.int .i64 4, .int .i64 8, .int .i64 23]] w fun e w' => e = .returned (.int .u64 8388608) ∧ Below w.heap.size w w' := by
  go_enter Tryz.func26, Tryz.ntmps26
  go_wp2
  go_ret
  exact ⟨rfl, alloc_below _ _⟩
theorem top8_any (w : World) : Calls Tryz.prog 22 #[.agg #[.int .i64 8, .int .i64 11, .int .i64 52]] w fun e w' => e = .returned (.int .u64 2047) ∧ Below w.heap.size w w' := by
  go_enter Tryz.func22, Tryz.ntmps22
  go_wp2
  go_ret
  exact ⟨rfl, alloc_below _ _⟩
theorem ahead8_any (w : World) : Calls Tryz.prog 26 #[.agg #[.int .i64 8, .int .i64 11, .int .i64 52]] w fun e w' => e = .returned (.int .u64 4503599627370496) ∧ Below w.heap.size w w' := by
  go_enter Tryz.func26, Tryz.ntmps26
  go_wp2
  go_ret
  exact ⟨rfl, alloc_below _ _⟩
set_option maxRecDepth 100000 in
theorem rise2_any (w : World) : Calls Tryz.prog 60 #[.agg #[.int .i64 2, .int .i64 5, .int .i64 10]] w fun e w' => e = .returned (.int .u64 1008) ∧ Below w.heap.size w w' := by
  have k0 := wide_any
  have k8 := top8_any
  have kB := top2_any
  have r0 := row3_new w 34 (.int .i64 2) (.int .i64 5) (.int .i64 10)
  go_enter Tryz.func60, Tryz.ntmps60
  go_wp2
  go_region_held3 (fun wx => wx.cell? ⟨w.heap.size, 0, none⟩ = some (.int .i64 2) ∧ wx.cell? ⟨w.heap.size, 1, none⟩ = some (.int .i64 5) ∧ wx.cell? ⟨w.heap.size, 2, none⟩ = some (.int .i64 10)) (first | exact r0.at | exact q1.at | exact q2.at | exact q3.at) (first
    | (go_at_call 11; refine (k0 _).mono ?_; rintro e w1 ⟨rfl, b1⟩; have d1 := box_drew b1; have q1 := Row3.kept (w := (w.alloc (.cells #[.int .i64 2, .int .i64 5, .int .i64 10] 34)).drew) r0 b1 (alloc_lt _ _))
    | (go_at_call 22; refine (k8 _).mono ?_; rintro e w2 ⟨rfl, b2⟩; have d2 := d1.trans (b2.mono d1.size); have q2 := q1.kept b2 q1.lt; clear k8)
    | (go_at_call 22; refine (kB _).mono ?_; rintro e w3 ⟨rfl, b3⟩; have d3 := d2.trans (b3.mono d2.size); have q3 := q2.kept b3 q2.lt; clear kB))
  go_wp2
  go_ret
  exact ⟨rfl, d3⟩
set_option maxRecDepth 100000 in
theorem rise4_any (w : World) : Calls Tryz.prog 60 #[.agg #[.int .i64 4, .int .i64 8, .int .i64 23]] w fun e w' => e = .returned (.int .u64 896) ∧ Below w.heap.size w w' := by
  have k0 := wide_any
  have k8 := top8_any
  have kB := top4_any
  have r0 := row3_new w 34 (.int .i64 4) (.int .i64 8) (.int .i64 23)
  go_enter Tryz.func60, Tryz.ntmps60
  go_wp2
  go_region_held3 (fun wx => wx.cell? ⟨w.heap.size, 0, none⟩ = some (.int .i64 4) ∧ wx.cell? ⟨w.heap.size, 1, none⟩ = some (.int .i64 8) ∧ wx.cell? ⟨w.heap.size, 2, none⟩ = some (.int .i64 23)) (first | exact r0.at | exact q1.at | exact q2.at | exact q3.at) (first
    | (go_at_call 11; refine (k0 _).mono ?_; rintro e w1 ⟨rfl, b1⟩; have d1 := box_drew b1; have q1 := Row3.kept (w := (w.alloc (.cells #[.int .i64 4, .int .i64 8, .int .i64 23] 34)).drew) r0 b1 (alloc_lt _ _))
    | (go_at_call 22; refine (k8 _).mono ?_; rintro e w2 ⟨rfl, b2⟩; have d2 := d1.trans (b2.mono d1.size); have q2 := q1.kept b2 q1.lt; clear k8)
    | (go_at_call 22; refine (kB _).mono ?_; rintro e w3 ⟨rfl, b3⟩; have d3 := d2.trans (b3.mono d2.size); have q3 := q2.kept b3 q2.lt; clear kB))
  go_wp2
  go_ret
  exact ⟨rfl, d3⟩
theorem room2_any (n : Int) (h0 : 0 ≤ n) (h1 : n ≤ 18446744073709551615) (w : World) : Calls Tryz.prog 41 #[.agg #[.int .i64 2, .int .i64 5, .int .i64 10], .int .u64 n] w fun e w' => e = .returned (.bool (decide (n < 65536))) ∧ Below w.heap.size w w' := by
  have hd : (n / 65536 == 0) = decide (n < 65536) := by rw [Bool.eq_iff_iff, beq_iff_eq, decide_eq_true_iff]; omega
  go_enter Tryz.func41, Tryz.ntmps41
  go_wp2
  go_ret
  exact ⟨by rw [← hd]; rfl, alloc_below _ _⟩
theorem room4_any (n : Int) (h0 : 0 ≤ n) (h1 : n ≤ 18446744073709551615) (w : World) : Calls Tryz.prog 41 #[.agg #[.int .i64 4, .int .i64 8, .int .i64 23], .int .u64 n] w fun e w' => e = .returned (.bool (decide (n < 4294967296))) ∧ Below w.heap.size w w' := by
  have hd : (n / 4294967296 == 0) = decide (n < 4294967296) := by rw [Bool.eq_iff_iff, beq_iff_eq, decide_eq_true_iff]; omega
  go_enter Tryz.func41, Tryz.ntmps41
  go_wp2
  go_ret
  exact ⟨by rw [← hd]; rfl, alloc_below _ _⟩
theorem room8_any (n : Int) (h0 : 0 ≤ n) (h1 : n ≤ 18446744073709551615) (w : World) : Calls Tryz.prog 41 #[.agg #[.int .i64 8, .int .i64 11, .int .i64 52], .int .u64 n] w fun e w' => e = .returned (.bool (decide (n < 18446744073709551616))) ∧ Below w.heap.size w w' := by
  have hd : (n / 18446744073709551616 == 0) = decide (n < 18446744073709551616) := by rw [Bool.eq_iff_iff, beq_iff_eq, decide_eq_true_iff]; omega
  go_enter Tryz.func41, Tryz.ntmps41
  go_wp2
  go_ret
  exact ⟨by rw [← hd]; rfl, alloc_below _ _⟩
theorem pow_int (k : Nat) : ((2 ^ k : Nat) : Int) = (2 : Int) ^ k := Int.natCast_pow 2 k
theorem pow_up {m k : Nat} (h : m ≤ k) : (2 : Int) ^ m ≤ 2 ^ k := by
  rw [← pow_int, ← pow_int]
  exact Int.ofNat_le.2 (Nat.pow_le_pow_right (by decide) h)
theorem shr_any (x y : Int) (h0 : 0 ≤ x) (h1 : x < 18446744073709551616) (hy : 0 ≤ y) : Op.shift .shr .u64 x .u64 y = pure (.int .u64 (x / 2 ^ y.toNat)) := by
  by_cases h : y ≤ 64
  · exact shift_shr .u64 .u64 x y hy h
  · have hm : min y.toNat IntKind.u64.bits = 64 := by show min y.toNat 64 = 64; omega
    have hp : (0 : Int) ≤ 2 ^ 64 := by decide
    have e1 : x / 2 ^ 64 = 0 := Int.ediv_eq_zero_of_lt h0 (by omega)
    have e2 : x / 2 ^ y.toNat = 0 := Int.ediv_eq_zero_of_lt h0 (Int.lt_of_lt_of_le (show x < 2 ^ 64 by omega) (pow_up (by omega)))
    have hy' : ¬ y < 0 := by omega
    rw [e2, ← e1]
    simp only [Op.shift, hm, hy', if_false, Int.fdiv_eq_ediv_of_nonneg _ hp]
theorem near_small (D : Int) (m : Nat) (PF G Q : Int) (hG : 0 ≤ G ∧ G < 4503599627370496) (hD : (m : Int) ≤ D) (hm : (9007199254740992 : Int) = PF * 2 ^ m) (hQ : (G + 4503599627370496) / 2 ^ D.toNat = Q) : 0 ≤ Q ∧ Q < PF := by
  have hp : (0 : Int) < 2 ^ D.toNat := Int.pow_pos (by decide)
  have hpm : (0 : Int) < 2 ^ m := Int.pow_pos (by decide)
  have hPF : 0 < PF := by
    rcases Int.lt_or_le 0 PF with h | h
    · exact h
    · have := Int.mul_nonpos_of_nonpos_of_nonneg h (Int.le_of_lt hpm)
      omega
  rw [← hQ]
  refine ⟨Int.ediv_nonneg (by omega) (Int.le_of_lt hp), ?_⟩
  refine Int.ediv_lt_of_lt_mul hp ?_
  have h1 : (2 : Int) ^ m ≤ 2 ^ D.toNat := pow_up (by omega)
  have h2 : PF * 2 ^ m ≤ PF * 2 ^ D.toNat := Int.mul_le_mul_of_nonneg_left h1 (Int.le_of_lt hPF)
  omega
set_option maxRecDepth 100000 in
set_option maxHeartbeats 1000000 in
theorem join2_any (S X G : Int) (hS : 0 ≤ S ∧ S ≤ 1) (hX : 0 ≤ X ∧ X < 32) (hG : 0 ≤ G ∧ G < 1024) (w : World) : Calls Tryz.prog 62 #[.agg #[.int .i64 2, .int .i64 5, .int .i64 10], .agg #[.int .u64 S, .int .u64 X, .int .u64 G]] w fun e w' => e = .returned (.int .u64 (S * 32768 + X * 1024 + G)) ∧ Below w.heap.size w w' := by
  have u1 : IntKind.i64.wrap 15 = 15 := by decide
  have m1 : bits .or .u64 (S * 32768) (X * 1024) = S * 32768 + X * 1024 := or_hi 15 _ _ (by omega) (by omega) (by omega) (by omega) (by omega) (by omega)
  have m2 : bits .or .u64 (S * 32768 + X * 1024) G = S * 32768 + X * 1024 + G := or_hi 10 _ _ (by omega) (by omega) (by omega) (by omega) (by omega) (by omega)
  have v1 : IntKind.u64.wrap (S * 32768) = S * 32768 := by rw [IntKind.wrap_u64]; omega
  have v2 : IntKind.u64.wrap (X * 1024) = X * 1024 := by rw [IntKind.wrap_u64]; omega
  have d0 : Below w.heap.size w ((w.alloc (.cells #[.int .i64 2, .int .i64 5, .int .i64 10] 34)).alloc (.cells #[.int .u64 S, .int .u64 X, .int .u64 G] 48)) := ((Below.refl _ _).alloc (Nat.le_refl _) _).alloc (by simp) _
  clear hS hX hG
  go_enter Tryz.func62, Tryz.ntmps62
  go_wp2
  go_quiet (fail)
  go_wp2
  go_ret
  exact ⟨rfl, ⟨d0.os, d0.tape, d0.output, d0.size, d0.block⟩⟩
set_option maxRecDepth 100000 in
set_option maxHeartbeats 1000000 in
theorem join4_any (S X G : Int) (hS : 0 ≤ S ∧ S ≤ 1) (hX : 0 ≤ X ∧ X < 256) (hG : 0 ≤ G ∧ G < 8388608) (w : World) : Calls Tryz.prog 62 #[.agg #[.int .i64 4, .int .i64 8, .int .i64 23], .agg #[.int .u64 S, .int .u64 X, .int .u64 G]] w fun e w' => e = .returned (.int .u64 (S * 2147483648 + X * 8388608 + G)) ∧ Below w.heap.size w w' := by
  have u1 : IntKind.i64.wrap 31 = 31 := by decide
  have m1 : bits .or .u64 (S * 2147483648) (X * 8388608) = S * 2147483648 + X * 8388608 := or_hi 31 _ _ (by omega) (by omega) (by omega) (by omega) (by omega) (by omega)
  have m2 : bits .or .u64 (S * 2147483648 + X * 8388608) G = S * 2147483648 + X * 8388608 + G := or_hi 23 _ _ (by omega) (by omega) (by omega) (by omega) (by omega) (by omega)
  have v1 : IntKind.u64.wrap (S * 2147483648) = S * 2147483648 := by rw [IntKind.wrap_u64]; omega
  have v2 : IntKind.u64.wrap (X * 8388608) = X * 8388608 := by rw [IntKind.wrap_u64]; omega
  have d0 : Below w.heap.size w ((w.alloc (.cells #[.int .i64 4, .int .i64 8, .int .i64 23] 34)).alloc (.cells #[.int .u64 S, .int .u64 X, .int .u64 G] 48)) := ((Below.refl _ _).alloc (Nat.le_refl _) _).alloc (by simp) _
  clear hS hX hG
  go_enter Tryz.func62, Tryz.ntmps62
  go_wp2
  go_quiet (fail)
  go_wp2
  go_ret
  exact ⟨rfl, ⟨d0.os, d0.tape, d0.output, d0.size, d0.block⟩⟩
set_option maxRecDepth 100000 in
set_option maxHeartbeats 1000000 in
theorem join8_any (S X G : Int) (hS : 0 ≤ S ∧ S ≤ 1) (hX : 0 ≤ X ∧ X < 2048) (hG : 0 ≤ G ∧ G < 4503599627370496) (w : World) : Calls Tryz.prog 62 #[.agg #[.int .i64 8, .int .i64 11, .int .i64 52], .agg #[.int .u64 S, .int .u64 X, .int .u64 G]] w fun e w' => e = .returned (.int .u64 (S * 9223372036854775808 + X * 4503599627370496 + G)) ∧ Below w.heap.size w w' := by
  have u1 : IntKind.i64.wrap 63 = 63 := by decide
  have m1 : bits .or .u64 (S * 9223372036854775808) (X * 4503599627370496) = S * 9223372036854775808 + X * 4503599627370496 := or_hi 63 _ _ (by omega) (by omega) (by omega) (by omega) (by omega) (by omega)
  have m2 : bits .or .u64 (S * 9223372036854775808 + X * 4503599627370496) G = S * 9223372036854775808 + X * 4503599627370496 + G := or_hi 52 _ _ (by omega) (by omega) (by omega) (by omega) (by omega) (by omega)
  have v1 : IntKind.u64.wrap (S * 9223372036854775808) = S * 9223372036854775808 := by rw [IntKind.wrap_u64]; omega
  have v2 : IntKind.u64.wrap (X * 4503599627370496) = X * 4503599627370496 := by rw [IntKind.wrap_u64]; omega
  have d0 : Below w.heap.size w ((w.alloc (.cells #[.int .i64 8, .int .i64 11, .int .i64 52] 34)).alloc (.cells #[.int .u64 S, .int .u64 X, .int .u64 G] 48)) := ((Below.refl _ _).alloc (Nat.le_refl _) _).alloc (by simp) _
  clear hS hX hG
  go_enter Tryz.func62, Tryz.ntmps62
  go_wp2
  go_quiet (fail)
  go_wp2
  go_ret
  exact ⟨rfl, ⟨d0.os, d0.tape, d0.output, d0.size, d0.block⟩⟩
end Go.Proofs.YtjdceigndleadaaGreatDoor
