/-
  The formats, and what they are made of: the small functions of flt.
  Bits taken apart.
  To widen bits of 2 bytes: the walk of flt.widen.
  To widen bits of 4 bytes: the walk of flt.widen.
  To widen: flt.Widen, every width.
  CBOR items as plain data: an item's beginning, the bytes of a run, the node of a tag, and the tree of an item, or its fault.
-/
import Derived.Test.YtnjbppfanmmifaaGreatDoorH5
import Derived.Test.YtnjbppfanmmifaaGreatDoorH7
import Derived.Test.YtnjbppfanmmifaaGreatDoorH4
import Derived.Deep.RegionHeld3
import Derived.Lib.EndianBits
import Derived.BigQuiet
import Derived.Deep.RegionWith
import Derived.Deep.DeepCutAuto
import Derived.Deep.CutBlock
namespace Go.Proofs.YtnjbppfanmmifaaGreatDoor
open Go.RowKit

theorem or_hi (i : Nat) (x y : Int) (hx0 : 0 ≤ x) (hx : x % 2 ^ i = 0) (hx1 : x < 2 ^ 64) (hy0 : 0 ≤ y) (hy : y < 2 ^ i) (hy1 : y < 2 ^ 64) : bits .or .u64 x y = x + y :=
  bits_join .u64 64 (by decide) wraps_u64 i x y hx0 hx hx1 hy0 hy hy1
theorem and_low (i : Nat) (hi : i ≤ 64) (x : Int) (hx0 : 0 ≤ x) (hx1 : x < 2 ^ 64) : bits .and .u64 x (2 ^ i - 1) = x % 2 ^ i :=
  bits_mask .u64 64 (by decide) wraps_u64 i hi x hx0 hx1
/-- A struct of three in memory. -/
def Row3 (w : World) (g : Nat) (t : TypeId) (x y z : Value) : Prop := w.heap[g]? = some (.cells #[x, y, z] t (0, 0))
theorem Row3.lt {w : World} {g : Nat} {t : TypeId} {x y z : Value} (h : Row3 w g t x y z) : g < w.heap.size := (Array.getElem?_eq_some_iff.1 h).1
theorem Row3.at {w : World} {g : Nat} {t : TypeId} {x y z : Value} (h : Row3 w g t x y z) : w.cell? ⟨g, 0, none⟩ = some x ∧ w.cell? ⟨g, 1, none⟩ = some y ∧ w.cell? ⟨g, 2, none⟩ = some z := by
  refine ⟨?_, ?_, ?_⟩ <;> exact cell_row h _
theorem Row3.fz {w : World} {g : Nat} {t : TypeId} {x y z : Value} (h : Row3 w g t x y z) (j : Nat) : w.frozen? ⟨g, j, none⟩ = false := by
  unfold Row3 at h
  simp [World.frozen?, h]
theorem Row3.kept {w w' : World} {g : Nat} {t : TypeId} {x y z : Value} (h : Row3 w g t x y z) {B : Nat} (hb : Below B w w') (hB : g < B) : Row3 w' g t x y z := by
  unfold Row3 at h ⊢
  rw [hb.block g hB]; exact h
theorem row3_new (w : World) (t : TypeId) (x y z : Value) : Row3 (w.alloc (.cells #[x, y, z] t)) w.heap.size t x y z := heap_alloc_new w _
theorem Row3.set {w : World} {g : Nat} {t : TypeId} {x y z : Value} (h : Row3 w g t x y z) {a : Addr} (ha : g ≠ a.block) (u : Value) : Row3 (w.setCell a u) g t x y z := by
  unfold Row3 at h ⊢
  rw [Below.heap_setCell w a u g ha]; exact h
theorem Row3.put1 {w : World} {g : Nat} {t : TypeId} {x y z : Value} (h : Row3 w g t x y z) (u : Value) : Row3 (w.setCell ⟨g, 1, none⟩ u) g t x u z := by
  unfold Row3
  rw [heap_setCell_same _ g 1 _ t _ h]; rfl
theorem Row3.put2 {w : World} {g : Nat} {t : TypeId} {x y z : Value} (h : Row3 w g t x y z) (u : Value) : Row3 (w.setCell ⟨g, 2, none⟩ u) g t x y u := by
  unfold Row3
  rw [heap_setCell_same _ g 2 _ t _ h]; rfl
theorem formats_any (w : World) : Calls Tryz.prog 152 #[] w fun e w' => e = .returned (.agg #[.int .i64 2, .int .i64 5, .int .i64 10, .int .i64 4, .int .i64 8, .int .i64 23, .int .i64 8, .int .i64 11, .int .i64 52]) ∧ Below w.heap.size w w' := by
  go_enter Tryz.func152, Tryz.ntmps152
  go_wp2
  refine bodyPost_ret (v := .agg #[.int .i64 2, .int .i64 5, .int .i64 10, .int .i64 4, .int .i64 8, .int .i64 23, .int .i64 8, .int .i64 11, .int .i64 52]) (by simp [results, Tryz.results152, go_sem]) rfl ⟨rfl, ?_⟩
  exact alloc_below _ _
theorem idx0 (W : World) : (Instr.index 150 (.agg #[.int .i64 2, .int .i64 5, .int .i64 10, .int .i64 4, .int .i64 8, .int .i64 23, .int .i64 8, .int .i64 11, .int .i64 52]) (.int .i64 0)).run Tryz.prog W = .ok (.agg #[.int .i64 2, .int .i64 5, .int .i64 10]) W := by kernel_rfl
theorem idx1 (W : World) : (Instr.index 150 (.agg #[.int .i64 2, .int .i64 5, .int .i64 10, .int .i64 4, .int .i64 8, .int .i64 23, .int .i64 8, .int .i64 11, .int .i64 52]) (.int .i64 1)).run Tryz.prog W = .ok (.agg #[.int .i64 4, .int .i64 8, .int .i64 23]) W := by kernel_rfl
theorem idx2 (W : World) : (Instr.index 150 (.agg #[.int .i64 2, .int .i64 5, .int .i64 10, .int .i64 4, .int .i64 8, .int .i64 23, .int .i64 8, .int .i64 11, .int .i64 52]) (.int .i64 2)).run Tryz.prog W = .ok (.agg #[.int .i64 8, .int .i64 11, .int .i64 52]) W := by kernel_rfl
theorem fldW0 (W : World) : (Instr.field 149 (.agg #[.int .i64 8, .int .i64 11, .int .i64 52]) 0).run Tryz.prog W = .ok (.int .i64 8) W := by kernel_rfl
theorem fldW2 (W : World) : (Instr.field 149 (.agg #[.int .i64 8, .int .i64 11, .int .i64 52]) 2).run Tryz.prog W = .ok (.int .i64 52) W := by kernel_rfl
theorem len_any (x : Int) (h0 : 0 ≤ x) (h1 : x ≤ 18446744073709551615) (w : World) : Calls Tryz.prog 194 #[.int .u64 x] w fun e w' => e = .returned (.int .i64 (Lib.bitLen x.toNat)) ∧ w' = w := Any.bits_Len64 lays129 x w h0 h1
set_option maxRecDepth 100000 in
theorem wide_any (w : World) : Calls Tryz.prog 155 #[] w fun e w' => e = .returned (.agg #[.int .i64 8, .int .i64 11, .int .i64 52]) ∧ Below w.heap.size w w' := by
  have k := formats_any
  have hi := idx2
  go_enter Tryz.func155, Tryz.ntmps155
  go_wp2_with (go_at_call 152; refine (k _).mono ?_; rintro e w1 ⟨rfl, b1⟩; obtain ⟨c0, c1, c2⟩ := ((row3_new w 149 (.int .i64 0) (.int .i64 0) (.int .i64 0)).kept b1 (alloc_lt _ _)).at; have f0 := ((row3_new w 149 (.int .i64 0) (.int .i64 0) (.int .i64 0)).kept b1 (alloc_lt _ _)).fz 0; have f1 := ((row3_new w 149 (.int .i64 0) (.int .i64 0) (.int .i64 0)).kept b1 (alloc_lt _ _)).fz 1; have f2 := ((row3_new w 149 (.int .i64 0) (.int .i64 0) (.int .i64 0)).kept b1 (alloc_lt _ _)).fz 2)
  refine bodyPost_ret (v := .agg #[.int .i64 8, .int .i64 11, .int .i64 52]) (by simp [results, Tryz.results155, go_sem, *]) rfl ⟨rfl, ?_⟩
  exact (((box_below b1).setCell (Nat.le_refl _) _).setCell (Nat.le_refl _) _).setCell (Nat.le_refl _) _
theorem top2_any (w : World) : Calls Tryz.prog 191 #[.agg #[.int .i64 2, .int .i64 5, .int .i64 10]] w fun e w' => e = .returned (.int .u64 31) ∧ Below w.heap.size w w' := by
  go_enter Tryz.func191, Tryz.ntmps191
  go_wp2
  go_ret
  exact ⟨rfl, alloc_below _ _⟩
theorem ahead2_any (w : World) : Calls Tryz.prog 192 #[.agg #[.int .i64 2, .int .i64 5, .int .i64 10]] w fun e w' => e = .returned (.int .u64 1024) ∧ Below w.heap.size w w' := by
  go_enter Tryz.func192, Tryz.ntmps192
  go_wp2
  go_ret
  exact ⟨rfl, alloc_below _ _⟩
theorem top4_any (w : World) : Calls Tryz.prog 191 #[.agg #[.int .i64 4, .int .i64 8, .int .i64 23]] w fun e w' => e = .returned (.int .u64 255) ∧ Below w.heap.size w w' := by
  go_enter Tryz.func191, Tryz.ntmps191
  go_wp2
  go_ret
  exact ⟨rfl, alloc_below _ _⟩
theorem ahead4_any (w : World) : Calls Tryz.prog 192 #[.agg #[.int .i64 4, .int .i64 8, .int .i64 23]] w fun e w' => e = .returned (.int .u64 8388608) ∧ Below w.heap.size w w' := by
  go_enter Tryz.func192, Tryz.ntmps192
  go_wp2
  go_ret
  exact ⟨rfl, alloc_below _ _⟩
theorem top8_any (w : World) : Calls Tryz.prog 191 #[.agg #[.int .i64 8, .int .i64 11, .int .i64 52]] w fun e w' => e = .returned (.int .u64 2047) ∧ Below w.heap.size w w' := by
  go_enter Tryz.func191, Tryz.ntmps191
  go_wp2
  go_ret
  exact ⟨rfl, alloc_below _ _⟩
theorem ahead8_any (w : World) : Calls Tryz.prog 192 #[.agg #[.int .i64 8, .int .i64 11, .int .i64 52]] w fun e w' => e = .returned (.int .u64 4503599627370496) ∧ Below w.heap.size w w' := by
  go_enter Tryz.func192, Tryz.ntmps192
  go_wp2
  go_ret
  exact ⟨rfl, alloc_below _ _⟩
set_option maxRecDepth 100000 in
theorem rise2_any (w : World) : Calls Tryz.prog 190 #[.agg #[.int .i64 2, .int .i64 5, .int .i64 10]] w fun e w' => e = .returned (.int .u64 1008) ∧ Below w.heap.size w w' := by
  have k0 := wide_any
  have k8 := top8_any
  have kB := top2_any
  have r0 := row3_new w 149 (.int .i64 2) (.int .i64 5) (.int .i64 10)
  go_enter Tryz.func190, Tryz.ntmps190
  go_wp2
  go_region_held3 (fun wx => wx.cell? ⟨w.heap.size, 0, none⟩ = some (.int .i64 2) ∧ wx.cell? ⟨w.heap.size, 1, none⟩ = some (.int .i64 5) ∧ wx.cell? ⟨w.heap.size, 2, none⟩ = some (.int .i64 10)) (first | exact r0.at | exact q1.at | exact q2.at | exact q3.at) (first
    | (go_at_call 155; refine (k0 _).mono ?_; rintro e w1 ⟨rfl, b1⟩; have d1 := box_drew b1; have q1 := Row3.kept (w := (w.alloc (.cells #[.int .i64 2, .int .i64 5, .int .i64 10] 149)).drew) r0 b1 (alloc_lt _ _))
    | (go_at_call 191; refine (k8 _).mono ?_; rintro e w2 ⟨rfl, b2⟩; have d2 := d1.trans (b2.mono d1.size); have q2 := q1.kept b2 q1.lt; clear k8)
    | (go_at_call 191; refine (kB _).mono ?_; rintro e w3 ⟨rfl, b3⟩; have d3 := d2.trans (b3.mono d2.size); have q3 := q2.kept b3 q2.lt; clear kB))
  go_wp2
  go_ret
  exact ⟨rfl, d3⟩
set_option maxRecDepth 100000 in
theorem rise4_any (w : World) : Calls Tryz.prog 190 #[.agg #[.int .i64 4, .int .i64 8, .int .i64 23]] w fun e w' => e = .returned (.int .u64 896) ∧ Below w.heap.size w w' := by
  have k0 := wide_any
  have k8 := top8_any
  have kB := top4_any
  have r0 := row3_new w 149 (.int .i64 4) (.int .i64 8) (.int .i64 23)
  go_enter Tryz.func190, Tryz.ntmps190
  go_wp2
  go_region_held3 (fun wx => wx.cell? ⟨w.heap.size, 0, none⟩ = some (.int .i64 4) ∧ wx.cell? ⟨w.heap.size, 1, none⟩ = some (.int .i64 8) ∧ wx.cell? ⟨w.heap.size, 2, none⟩ = some (.int .i64 23)) (first | exact r0.at | exact q1.at | exact q2.at | exact q3.at) (first
    | (go_at_call 155; refine (k0 _).mono ?_; rintro e w1 ⟨rfl, b1⟩; have d1 := box_drew b1; have q1 := Row3.kept (w := (w.alloc (.cells #[.int .i64 4, .int .i64 8, .int .i64 23] 149)).drew) r0 b1 (alloc_lt _ _))
    | (go_at_call 191; refine (k8 _).mono ?_; rintro e w2 ⟨rfl, b2⟩; have d2 := d1.trans (b2.mono d1.size); have q2 := q1.kept b2 q1.lt; clear k8)
    | (go_at_call 191; refine (kB _).mono ?_; rintro e w3 ⟨rfl, b3⟩; have d3 := d2.trans (b3.mono d2.size); have q3 := q2.kept b3 q2.lt; clear kB))
  go_wp2
  go_ret
  exact ⟨rfl, d3⟩
theorem room2_any (n : Int) (h0 : 0 ≤ n) (h1 : n ≤ 18446744073709551615) (w : World) : Calls Tryz.prog 200 #[.agg #[.int .i64 2, .int .i64 5, .int .i64 10], .int .u64 n] w fun e w' => e = .returned (.bool (decide (n < 65536))) ∧ Below w.heap.size w w' := by
  have hd : (n / 65536 == 0) = decide (n < 65536) := by rw [Bool.eq_iff_iff, beq_iff_eq, decide_eq_true_iff]; omega
  go_enter Tryz.func200, Tryz.ntmps200
  go_wp2
  go_ret
  exact ⟨by rw [← hd]; rfl, alloc_below _ _⟩
theorem room4_any (n : Int) (h0 : 0 ≤ n) (h1 : n ≤ 18446744073709551615) (w : World) : Calls Tryz.prog 200 #[.agg #[.int .i64 4, .int .i64 8, .int .i64 23], .int .u64 n] w fun e w' => e = .returned (.bool (decide (n < 4294967296))) ∧ Below w.heap.size w w' := by
  have hd : (n / 4294967296 == 0) = decide (n < 4294967296) := by rw [Bool.eq_iff_iff, beq_iff_eq, decide_eq_true_iff]; omega
  go_enter Tryz.func200, Tryz.ntmps200
  go_wp2
  go_ret
  exact ⟨by rw [← hd]; rfl, alloc_below _ _⟩
theorem room8_any (n : Int) (h0 : 0 ≤ n) (h1 : n ≤ 18446744073709551615) (w : World) : Calls Tryz.prog 200 #[.agg #[.int .i64 8, .int .i64 11, .int .i64 52], .int .u64 n] w fun e w' => e = .returned (.bool (decide (n < 18446744073709551616))) ∧ Below w.heap.size w w' := by
  have hd : (n / 18446744073709551616 == 0) = decide (n < 18446744073709551616) := by rw [Bool.eq_iff_iff, beq_iff_eq, decide_eq_true_iff]; omega
  go_enter Tryz.func200, Tryz.ntmps200
  go_wp2
  go_ret
  exact ⟨by rw [← hd]; rfl, alloc_below _ _⟩
theorem pow_int (k : Nat) : ((2 ^ k : Nat) : Int) = (2 : Int) ^ k := Int.natCast_pow 2 k
theorem pow_up {m k : Nat} (h : m ≤ k) : (2 : Int) ^ m ≤ 2 ^ k := by
  rw [← pow_int, ← pow_int]
  exact Int.ofNat_le.2 (Nat.pow_le_pow_right (by decide) h)
theorem shr_any (x y : Int) (h0 : 0 ≤ x) (h1 : x < 18446744073709551616) (hy : 0 ≤ y) : Op.shift .shr .u64 x .u64 y = pure (.int .u64 (x / 2 ^ y.toNat)) := by
  by_cases h : y ≤ 64
  · exact shift_shr .u64 .u64 x y hy h
  · have hm : min y.toNat IntKind.u64.bits = 64 := by show min y.toNat 64 = 64; omega
    have hp : (0 : Int) ≤ 2 ^ 64 := by decide
    have e1 : x / 2 ^ 64 = 0 := Int.ediv_eq_zero_of_lt h0 (by omega)
    have e2 : x / 2 ^ y.toNat = 0 := Int.ediv_eq_zero_of_lt h0 (Int.lt_of_lt_of_le (show x < 2 ^ 64 by omega) (pow_up (by omega)))
    have hy' : ¬ y < 0 := by omega
    rw [e2, ← e1]
    simp only [Op.shift, hm, hy', if_false, Int.fdiv_eq_ediv_of_nonneg _ hp]
set_option maxRecDepth 100000 in
set_option maxHeartbeats 1000000 in
theorem join2_any (S X G : Int) (hS : 0 ≤ S ∧ S ≤ 1) (hX : 0 ≤ X ∧ X < 32) (hG : 0 ≤ G ∧ G < 1024) (w : World) : Calls Tryz.prog 193 #[.agg #[.int .i64 2, .int .i64 5, .int .i64 10], .agg #[.int .u64 S, .int .u64 X, .int .u64 G]] w fun e w' => e = .returned (.int .u64 (S * 32768 + X * 1024 + G)) ∧ Below w.heap.size w w' := by
  have u1 : IntKind.i64.wrap 15 = 15 := by decide
  have m1 : bits .or .u64 (S * 32768) (X * 1024) = S * 32768 + X * 1024 := or_hi 15 _ _ (by omega) (by omega) (by omega) (by omega) (by omega) (by omega)
  have m2 : bits .or .u64 (S * 32768 + X * 1024) G = S * 32768 + X * 1024 + G := or_hi 10 _ _ (by omega) (by omega) (by omega) (by omega) (by omega) (by omega)
  have v1 : IntKind.u64.wrap (S * 32768) = S * 32768 := by rw [IntKind.wrap_u64]; omega
  have v2 : IntKind.u64.wrap (X * 1024) = X * 1024 := by rw [IntKind.wrap_u64]; omega
  have d0 : Below w.heap.size w ((w.alloc (.cells #[.int .i64 2, .int .i64 5, .int .i64 10] 149)).alloc (.cells #[.int .u64 S, .int .u64 X, .int .u64 G] 189)) := ((Below.refl _ _).alloc (Nat.le_refl _) _).alloc (by simp) _
  clear hS hX hG
  go_enter Tryz.func193, Tryz.ntmps193
  go_wp2
  go_quiet (fail)
  go_wp2
  go_ret
  exact ⟨rfl, ⟨d0.os, d0.tape, d0.output, d0.size, d0.block⟩⟩
set_option maxRecDepth 100000 in
set_option maxHeartbeats 1000000 in
theorem join4_any (S X G : Int) (hS : 0 ≤ S ∧ S ≤ 1) (hX : 0 ≤ X ∧ X < 256) (hG : 0 ≤ G ∧ G < 8388608) (w : World) : Calls Tryz.prog 193 #[.agg #[.int .i64 4, .int .i64 8, .int .i64 23], .agg #[.int .u64 S, .int .u64 X, .int .u64 G]] w fun e w' => e = .returned (.int .u64 (S * 2147483648 + X * 8388608 + G)) ∧ Below w.heap.size w w' := by
  have u1 : IntKind.i64.wrap 31 = 31 := by decide
  have m1 : bits .or .u64 (S * 2147483648) (X * 8388608) = S * 2147483648 + X * 8388608 := or_hi 31 _ _ (by omega) (by omega) (by omega) (by omega) (by omega) (by omega)
  have m2 : bits .or .u64 (S * 2147483648 + X * 8388608) G = S * 2147483648 + X * 8388608 + G := or_hi 23 _ _ (by omega) (by omega) (by omega) (by omega) (by omega) (by omega)
  have v1 : IntKind.u64.wrap (S * 2147483648) = S * 2147483648 := by rw [IntKind.wrap_u64]; omega
  have v2 : IntKind.u64.wrap (X * 8388608) = X * 8388608 := by rw [IntKind.wrap_u64]; omega
  have d0 : Below w.heap.size w ((w.alloc (.cells #[.int .i64 4, .int .i64 8, .int .i64 23] 149)).alloc (.cells #[.int .u64 S, .int .u64 X, .int .u64 G] 189)) := ((Below.refl _ _).alloc (Nat.le_refl _) _).alloc (by simp) _
  clear hS hX hG
  go_enter Tryz.func193, Tryz.ntmps193
  go_wp2
  go_quiet (fail)
  go_wp2
  go_ret
  exact ⟨rfl, ⟨d0.os, d0.tape, d0.output, d0.size, d0.block⟩⟩
set_option maxRecDepth 100000 in
set_option maxHeartbeats 1000000 in
theorem join8_any (S X G : Int) (hS : 0 ≤ S ∧ S ≤ 1) (hX : 0 ≤ X ∧ X < 2048) (hG : 0 ≤ G ∧ G < 4503599627370496) (w : World) : Calls Tryz.prog 193 #[.agg #[.int .i64 8, .int .i64 11, .int .i64 52], .agg #[.int .u64 S, .int .u64 X, .int .u64 G]] w fun e w' => e = .returned (.int .u64 (S * 9223372036854775808 + X * 4503599627370496 + G)) ∧ Below w.heap.size w w' := by
  have u1 : IntKind.i64.wrap 63 = 63 := by decide
  have m1 : bits .or .u64 (S * 9223372036854775808) (X * 4503599627370496) = S * 9223372036854775808 + X * 4503599627370496 := or_hi 63 _ _ (by omega) (by omega) (by omega) (by omega) (by omega) (by omega)
  have m2 : bits .or .u64 (S * 9223372036854775808 + X * 4503599627370496) G = S * 9223372036854775808 + X * 4503599627370496 + G := or_hi 52 _ _ (by omega) (by omega) (by omega) (by omega) (by omega) (by omega)
  have v1 : IntKind.u64.wrap (S * 9223372036854775808) = S * 9223372036854775808 := by rw [IntKind.wrap_u64]; omega
  have v2 : IntKind.u64.wrap (X * 4503599627370496) = X * 4503599627370496 := by rw [IntKind.wrap_u64]; omega
  have d0 : Below w.heap.size w ((w.alloc (.cells #[.int .i64 8, .int .i64 11, .int .i64 52] 149)).alloc (.cells #[.int .u64 S, .int .u64 X, .int .u64 G] 189)) := ((Below.refl _ _).alloc (Nat.le_refl _) _).alloc (by simp) _
  clear hS hX hG
  go_enter Tryz.func193, Tryz.ntmps193
  go_wp2
  go_quiet (fail)
  go_wp2
  go_ret
  exact ⟨rfl, ⟨d0.os, d0.tape, d0.output, d0.size, d0.block⟩⟩
end Go.Proofs.YtnjbppfanmmifaaGreatDoor
namespace Go.Proofs.YtnjbppfanmmifaaGreatDoor
open Go.RowKit

set_option maxRecDepth 100000 in
set_option maxHeartbeats 1000000 in
theorem split2_any (n : Int) (h0 : 0 ≤ n) (h1 : n ≤ 18446744073709551615) (w : World) : Calls Tryz.prog 189 #[.agg #[.int .i64 2, .int .i64 5, .int .i64 10], .int .u64 n] w fun e w' => e = .returned (.agg #[.int .u64 (n / 32768), .int .u64 (n / 1024 % 32), .int .u64 (n % 1024)]) ∧ Below w.heap.size w w' := by
  have kT := top2_any
  have kA := ahead2_any
  have u1 : IntKind.i64.wrap 15 = 15 := by decide
  have u2 : IntKind.u64.wrap 1023 = 1023 := by decide
  have m1 : bits .and .u64 (n / 1024) 31 = n / 1024 % 32 := and_low 5 (by decide) _ (by omega) (by omega)
  have m2 : bits .and .u64 n 1023 = n % 1024 := and_low 10 (by decide) _ (by omega) (by omega)
  have r0 : Row3 ((w.alloc (.cells #[.int .i64 2, .int .i64 5, .int .i64 10] 149)).alloc (.cells #[.int .u64 0, .int .u64 0, .int .u64 0] 189)) w.heap.size 149 (.int .i64 2) (.int .i64 5) (.int .i64 10) := (row3_new w 149 (.int .i64 2) (.int .i64 5) (.int .i64 10)).kept (alloc_below _ _) (alloc_lt _ _)
  have p0 : Row3 ((w.alloc (.cells #[.int .i64 2, .int .i64 5, .int .i64 10] 149)).alloc (.cells #[.int .u64 0, .int .u64 0, .int .u64 0] 189)) (w.heap.size + 1) 189 (.int .u64 0) (.int .u64 0) (.int .u64 0) := by
    have h := row3_new (w.alloc (.cells #[.int .i64 2, .int .i64 5, .int .i64 10] 149)) 189 (.int .u64 0) (.int .u64 0) (.int .u64 0)
    have e : (w.alloc (.cells #[.int .i64 2, .int .i64 5, .int .i64 10] 149)).heap.size = w.heap.size + 1 := by simp
    rw [e] at h
    exact h
  have d0 : Below w.heap.size w ((w.alloc (.cells #[.int .i64 2, .int .i64 5, .int .i64 10] 149)).alloc (.cells #[.int .u64 0, .int .u64 0, .int .u64 0] 189)) := ((Below.refl _ _).alloc (Nat.le_refl _) _).alloc (by simp) _
  go_enter Tryz.func189, Tryz.ntmps189
  go_wp2
  go_region_held3 (fun wx => wx.cell? ⟨w.heap.size, 0, none⟩ = some (.int .i64 2) ∧ wx.cell? ⟨w.heap.size, 1, none⟩ = some (.int .i64 5) ∧ wx.cell? ⟨w.heap.size, 2, none⟩ = some (.int .i64 10)) (first | exact r0.at | exact q1.at | exact q2.at | exact (((q2.set (by simp) _).set (by simp) _).set (by simp) _).at) (first
    | (go_at_call 191; refine (kT _).mono ?_; rintro e w1 ⟨rfl, b1⟩; have d1 := d0.drew.trans (b1.mono d0.size); have q1 := Row3.kept (w := ((w.alloc (.cells #[.int .i64 2, .int .i64 5, .int .i64 10] 149)).alloc (.cells #[.int .u64 0, .int .u64 0, .int .u64 0] 189)).drew) r0 b1 r0.lt; have p1 := Row3.kept (w := ((w.alloc (.cells #[.int .i64 2, .int .i64 5, .int .i64 10] 149)).alloc (.cells #[.int .u64 0, .int .u64 0, .int .u64 0] 189)).drew) p0 b1 p0.lt)
    | (go_at_call 192; refine (kA _).mono ?_; rintro e w2 ⟨rfl, b2⟩; have d2 := d1.trans (b2.mono d1.size); have q2 := q1.kept b2 q1.lt; have p2 := p1.kept b2 p1.lt; obtain ⟨c0, c1, c2⟩ := p2.at; have f0 := p2.fz 0; have f1 := p2.fz 1; have f2 := p2.fz 2))
  go_wp2
  refine bodyPost_ret (v := .agg #[.int .u64 (n / 32768), .int .u64 (n / 1024 % 32), .int .u64 (n % 1024)]) (by simp [results, Tryz.results189, go_sem, *]) rfl ⟨rfl, ?_⟩
  exact ((d2.setCell (by simp) _).setCell (by simp) _).setCell (by simp) _
set_option maxRecDepth 100000 in
set_option maxHeartbeats 1000000 in
theorem split4_any (n : Int) (h0 : 0 ≤ n) (h1 : n ≤ 18446744073709551615) (w : World) : Calls Tryz.prog 189 #[.agg #[.int .i64 4, .int .i64 8, .int .i64 23], .int .u64 n] w fun e w' => e = .returned (.agg #[.int .u64 (n / 2147483648), .int .u64 (n / 8388608 % 256), .int .u64 (n % 8388608)]) ∧ Below w.heap.size w w' := by
  have kT := top4_any
  have kA := ahead4_any
  have u1 : IntKind.i64.wrap 31 = 31 := by decide
  have u2 : IntKind.u64.wrap 8388607 = 8388607 := by decide
  have m1 : bits .and .u64 (n / 8388608) 255 = n / 8388608 % 256 := and_low 8 (by decide) _ (by omega) (by omega)
  have m2 : bits .and .u64 n 8388607 = n % 8388608 := and_low 23 (by decide) _ (by omega) (by omega)
  have r0 : Row3 ((w.alloc (.cells #[.int .i64 4, .int .i64 8, .int .i64 23] 149)).alloc (.cells #[.int .u64 0, .int .u64 0, .int .u64 0] 189)) w.heap.size 149 (.int .i64 4) (.int .i64 8) (.int .i64 23) := (row3_new w 149 (.int .i64 4) (.int .i64 8) (.int .i64 23)).kept (alloc_below _ _) (alloc_lt _ _)
  have p0 : Row3 ((w.alloc (.cells #[.int .i64 4, .int .i64 8, .int .i64 23] 149)).alloc (.cells #[.int .u64 0, .int .u64 0, .int .u64 0] 189)) (w.heap.size + 1) 189 (.int .u64 0) (.int .u64 0) (.int .u64 0) := by
    have h := row3_new (w.alloc (.cells #[.int .i64 4, .int .i64 8, .int .i64 23] 149)) 189 (.int .u64 0) (.int .u64 0) (.int .u64 0)
    have e : (w.alloc (.cells #[.int .i64 4, .int .i64 8, .int .i64 23] 149)).heap.size = w.heap.size + 1 := by simp
    rw [e] at h
    exact h
  have d0 : Below w.heap.size w ((w.alloc (.cells #[.int .i64 4, .int .i64 8, .int .i64 23] 149)).alloc (.cells #[.int .u64 0, .int .u64 0, .int .u64 0] 189)) := ((Below.refl _ _).alloc (Nat.le_refl _) _).alloc (by simp) _
  go_enter Tryz.func189, Tryz.ntmps189
  go_wp2
  go_region_held3 (fun wx => wx.cell? ⟨w.heap.size, 0, none⟩ = some (.int .i64 4) ∧ wx.cell? ⟨w.heap.size, 1, none⟩ = some (.int .i64 8) ∧ wx.cell? ⟨w.heap.size, 2, none⟩ = some (.int .i64 23)) (first | exact r0.at | exact q1.at | exact q2.at | exact (((q2.set (by simp) _).set (by simp) _).set (by simp) _).at) (first
    | (go_at_call 191; refine (kT _).mono ?_; rintro e w1 ⟨rfl, b1⟩; have d1 := d0.drew.trans (b1.mono d0.size); have q1 := Row3.kept (w := ((w.alloc (.cells #[.int .i64 4, .int .i64 8, .int .i64 23] 149)).alloc (.cells #[.int .u64 0, .int .u64 0, .int .u64 0] 189)).drew) r0 b1 r0.lt; have p1 := Row3.kept (w := ((w.alloc (.cells #[.int .i64 4, .int .i64 8, .int .i64 23] 149)).alloc (.cells #[.int .u64 0, .int .u64 0, .int .u64 0] 189)).drew) p0 b1 p0.lt)
    | (go_at_call 192; refine (kA _).mono ?_; rintro e w2 ⟨rfl, b2⟩; have d2 := d1.trans (b2.mono d1.size); have q2 := q1.kept b2 q1.lt; have p2 := p1.kept b2 p1.lt; obtain ⟨c0, c1, c2⟩ := p2.at; have f0 := p2.fz 0; have f1 := p2.fz 1; have f2 := p2.fz 2))
  go_wp2
  refine bodyPost_ret (v := .agg #[.int .u64 (n / 2147483648), .int .u64 (n / 8388608 % 256), .int .u64 (n % 8388608)]) (by simp [results, Tryz.results189, go_sem, *]) rfl ⟨rfl, ?_⟩
  exact ((d2.setCell (by simp) _).setCell (by simp) _).setCell (by simp) _
set_option maxRecDepth 100000 in
set_option maxHeartbeats 1000000 in
theorem split8_any (n : Int) (h0 : 0 ≤ n) (h1 : n ≤ 18446744073709551615) (w : World) : Calls Tryz.prog 189 #[.agg #[.int .i64 8, .int .i64 11, .int .i64 52], .int .u64 n] w fun e w' => e = .returned (.agg #[.int .u64 (n / 9223372036854775808), .int .u64 (n / 4503599627370496 % 2048), .int .u64 (n % 4503599627370496)]) ∧ Below w.heap.size w w' := by
  have kT := top8_any
  have kA := ahead8_any
  have u1 : IntKind.i64.wrap 63 = 63 := by decide
  have u2 : IntKind.u64.wrap 4503599627370495 = 4503599627370495 := by decide
  have m1 : bits .and .u64 (n / 4503599627370496) 2047 = n / 4503599627370496 % 2048 := and_low 11 (by decide) _ (by omega) (by omega)
  have m2 : bits .and .u64 n 4503599627370495 = n % 4503599627370496 := and_low 52 (by decide) _ (by omega) (by omega)
  have r0 : Row3 ((w.alloc (.cells #[.int .i64 8, .int .i64 11, .int .i64 52] 149)).alloc (.cells #[.int .u64 0, .int .u64 0, .int .u64 0] 189)) w.heap.size 149 (.int .i64 8) (.int .i64 11) (.int .i64 52) := (row3_new w 149 (.int .i64 8) (.int .i64 11) (.int .i64 52)).kept (alloc_below _ _) (alloc_lt _ _)
  have p0 : Row3 ((w.alloc (.cells #[.int .i64 8, .int .i64 11, .int .i64 52] 149)).alloc (.cells #[.int .u64 0, .int .u64 0, .int .u64 0] 189)) (w.heap.size + 1) 189 (.int .u64 0) (.int .u64 0) (.int .u64 0) := by
    have h := row3_new (w.alloc (.cells #[.int .i64 8, .int .i64 11, .int .i64 52] 149)) 189 (.int .u64 0) (.int .u64 0) (.int .u64 0)
    have e : (w.alloc (.cells #[.int .i64 8, .int .i64 11, .int .i64 52] 149)).heap.size = w.heap.size + 1 := by simp
    rw [e] at h
    exact h
  have d0 : Below w.heap.size w ((w.alloc (.cells #[.int .i64 8, .int .i64 11, .int .i64 52] 149)).alloc (.cells #[.int .u64 0, .int .u64 0, .int .u64 0] 189)) := ((Below.refl _ _).alloc (Nat.le_refl _) _).alloc (by simp) _
  go_enter Tryz.func189, Tryz.ntmps189
  go_wp2
  go_region_held3 (fun wx => wx.cell? ⟨w.heap.size, 0, none⟩ = some (.int .i64 8) ∧ wx.cell? ⟨w.heap.size, 1, none⟩ = some (.int .i64 11) ∧ wx.cell? ⟨w.heap.size, 2, none⟩ = some (.int .i64 52)) (first | exact r0.at | exact q1.at | exact q2.at | exact (((q2.set (by simp) _).set (by simp) _).set (by simp) _).at) (first
    | (go_at_call 191; refine (kT _).mono ?_; rintro e w1 ⟨rfl, b1⟩; have d1 := d0.drew.trans (b1.mono d0.size); have q1 := Row3.kept (w := ((w.alloc (.cells #[.int .i64 8, .int .i64 11, .int .i64 52] 149)).alloc (.cells #[.int .u64 0, .int .u64 0, .int .u64 0] 189)).drew) r0 b1 r0.lt; have p1 := Row3.kept (w := ((w.alloc (.cells #[.int .i64 8, .int .i64 11, .int .i64 52] 149)).alloc (.cells #[.int .u64 0, .int .u64 0, .int .u64 0] 189)).drew) p0 b1 p0.lt)
    | (go_at_call 192; refine (kA _).mono ?_; rintro e w2 ⟨rfl, b2⟩; have d2 := d1.trans (b2.mono d1.size); have q2 := q1.kept b2 q1.lt; have p2 := p1.kept b2 p1.lt; obtain ⟨c0, c1, c2⟩ := p2.at; have f0 := p2.fz 0; have f1 := p2.fz 1; have f2 := p2.fz 2))
  go_wp2
  refine bodyPost_ret (v := .agg #[.int .u64 (n / 9223372036854775808), .int .u64 (n / 4503599627370496 % 2048), .int .u64 (n % 4503599627370496)]) (by simp [results, Tryz.results189, go_sem, *]) rfl ⟨rfl, ?_⟩
  exact ((d2.setCell (by simp) _).setCell (by simp) _).setCell (by simp) _
end Go.Proofs.YtnjbppfanmmifaaGreatDoor
namespace Go.Proofs.YtnjbppfanmmifaaGreatDoor
open Go.RowKit
set_option linter.unusedVariables false

set_option maxRecDepth 100000 in
set_option maxHeartbeats 2000000 in
theorem fw2_all (S X G n : Int) (hS : 0 ≤ S ∧ S ≤ 1) (hX : 0 ≤ X ∧ X < 32) (hG : 0 ≤ G ∧ G < 1024) (VX VG : Int) (L : Nat) (M : Int) (h1 : X = 31 → VX = 2047 ∧ VG = G * 4398046511104) (h2 : X ≠ 31 → X ≠ 0 → VX = X + 1008 ∧ VG = G * 4398046511104) (h3 : X = 0 → G ≠ 0 → (VX = 1009 - (L : Int) ∧ VG = M - 4503599627370496) ∧ Lib.bitLen (G * 4398046511104).toNat + L = 53 ∧ (1 ≤ L ∧ L ≤ 52) ∧ G * 4398046511104 * 2 ^ L = M ∧ 4503599627370496 ≤ M ∧ M < 9007199254740992) (h4 : X = 0 → G = 0 → VX = X ∧ VG = G * 4398046511104) (hVX : 0 ≤ VX ∧ VX < 2048) (hVG : 0 ≤ VG ∧ VG < 4503599627370496) (w : World) (kS : ∀ w, Calls Tryz.prog 189 #[.agg #[.int .i64 2, .int .i64 5, .int .i64 10], .int .u64 n] w fun e w' => e = .returned (.agg #[.int .u64 S, .int .u64 X, .int .u64 G]) ∧ Below w.heap.size w w') :
    Calls Tryz.prog 154 #[.agg #[.int .i64 2, .int .i64 5, .int .i64 10], .int .u64 n] w fun e w' => e = .returned (.int .u64 (S * 9223372036854775808 + (VX) * 4503599627370496 + (VG))) ∧ Below w.heap.size w w' := by
  have k0 := wide_any
  have r0 := row3_new w 149 (.int .i64 2) (.int .i64 5) (.int .i64 10)
  have i1 : IntKind.i64.wrap 42 = 42 := by decide
  have v1 : IntKind.u64.wrap (G * 4398046511104) = G * 4398046511104 := by rw [IntKind.wrap_u64]; omega
  have kJ := fun w => join8_any S VX VG hS hVX hVG w
  have kT := top2_any
  have fW := fldW2
  have hX' : Hid (0 ≤ X ∧ X < 32) := hX
  have hG' : Hid (0 ≤ G ∧ G < 1024) := hG
  have hv1 : Hid (X = 31 → VX = 2047 ∧ VG = G * 4398046511104) := h1
  have hv2 : Hid (X ≠ 31 → X ≠ 0 → VX = X + 1008 ∧ VG = G * 4398046511104) := h2
  have hv3 : Hid (X = 0 → G ≠ 0 → (VX = 1009 - (L : Int) ∧ VG = M - 4503599627370496) ∧ Lib.bitLen (G * 4398046511104).toNat + L = 53 ∧ (1 ≤ L ∧ L ≤ 52) ∧ G * 4398046511104 * 2 ^ L = M ∧ 4503599627370496 ≤ M ∧ M < 9007199254740992) := h3
  have hv4 : Hid (X = 0 → G = 0 → VX = X ∧ VG = G * 4398046511104) := h4
  clear h1 h2 h3 h4 hVX hVG
  clear hS hX hG
  go_enter Tryz.func154, Tryz.ntmps154
  go_wp2
  go_region_held3 (fun wx => wx.cell? ⟨w.heap.size, 0, none⟩ = some (.int .i64 2) ∧ wx.cell? ⟨w.heap.size, 1, none⟩ = some (.int .i64 5) ∧ wx.cell? ⟨w.heap.size, 2, none⟩ = some (.int .i64 10)) (first | exact r0.at | exact q1.at) (
    (go_at_call 155; refine (k0 _).mono ?_; rintro e w1 ⟨rfl, b1⟩; have d1 := box_drew b1; have q1 := Row3.kept (w := (w.alloc (.cells #[.int .i64 2, .int .i64 5, .int .i64 10] 149)).drew) r0 b1 (alloc_lt _ _)))
  obtain ⟨c0, c1, c2⟩ := q1.at
  go_wp2_with (go_at_call 189; refine (kS _).mono ?_; rintro e w2 ⟨rfl, b2⟩; have d2 := d1.trans (b2.mono d1.size); have q2 := q1.kept b2 q1.lt)
  have pA := row3_new w2 189 (.int .u64 S) (.int .u64 X) (.int .u64 G)
  have dA := d2.alloc d2.size (.cells #[.int .u64 S, .int .u64 X, .int .u64 G] 189)
  have qA := q2.kept (alloc_below w2 (.cells #[.int .u64 S, .int .u64 X, .int .u64 G] 189)) q2.lt
  have ne : w.heap.size ≠ w2.heap.size := Nat.ne_of_lt q2.lt
  obtain ⟨g0, g1, g2⟩ := qA.at
  go_cut [] (fun wx => Hid (Row3 wx w.heap.size 149 (.int .i64 2) (.int .i64 5) (.int .i64 10)) ∧ Hid (Row3 wx w2.heap.size 189 (.int .u64 S) (.int .u64 X) (.int .u64 (G * 4398046511104))) ∧ Hid (Below w.heap.size w wx))
  case first =>
    go_region_with (first | (go_at_call 155; refine (k0 _).mono ?_; rintro e w3 ⟨rfl, b3⟩; have d3 : Below w.heap.size w w3 := Below.trans (by exact ⟨dA.os, dA.tape, dA.output, dA.size, dA.block⟩) (b3.mono (by exact dA.size)); have p3 : Row3 w3 w2.heap.size 189 (.int .u64 S) (.int .u64 X) (.int .u64 G) := Row3.kept (by exact pA) b3 (by exact pA.lt); have q3 : Row3 w3 w.heap.size 149 (.int .i64 2) (.int .i64 5) (.int .i64 10) := Row3.kept (by exact qA) b3 (by exact qA.lt); obtain ⟨j0, j1, j2⟩ := p3.at; obtain ⟨l0, l1, l2⟩ := q3.at; have z2 := p3.fz 2))
    all_goals
      go_wp2_with fail
      go_meet
      exact ⟨q3.set ne _, p3.put2 _, d3.setCell (Nat.le_of_lt q2.lt) _⟩
  case rest =>
    obtain ⟨q4, p4, d4⟩ := hcut
    obtain ⟨o0, o1, o2⟩ := p4.out.at
    obtain ⟨t0, t1, t2⟩ := q4.out.at
    go_upto_block 0 with fail
    go_cut [] (fun wx => Hid (Row3 wx w2.heap.size 189 (.int .u64 S) (.int .u64 VX) (.int .u64 VG)) ∧ Hid (Below w.heap.size w wx))
    case first =>
      go_wp2_with fail
      go_region_held3 (fun wx => (wx.cell? ⟨w.heap.size, 0, none⟩ = some (.int .i64 2) ∧ wx.cell? ⟨w.heap.size, 1, none⟩ = some (.int .i64 5) ∧ wx.cell? ⟨w.heap.size, 2, none⟩ = some (.int .i64 10)) ∧ wx.cell? ⟨w2.heap.size, 0, none⟩ = some (.int .u64 S) ∧ wx.cell? ⟨w2.heap.size, 1, none⟩ = some (.int .u64 X) ∧ wx.cell? ⟨w2.heap.size, 2, none⟩ = some (.int .u64 (G * 4398046511104))) (first | exact ⟨q4.out.at, p4.out.at⟩ | exact ⟨q5.at, p5.at⟩) (
        (go_at_call 191; refine (kT _).mono ?_; rintro e w5 ⟨rfl, b5⟩; have d5 : Below w.heap.size w w5 := d4.out.drew.trans (b5.mono d4.out.size); have q5 : Row3 w5 w.heap.size 149 (.int .i64 2) (.int .i64 5) (.int .i64 10) := Row3.kept (w := wc.drew) q4.out b5 q4.out.lt; have p5 : Row3 w5 w2.heap.size 189 (.int .u64 S) (.int .u64 X) (.int .u64 (G * 4398046511104)) := Row3.kept (w := wc.drew) p4.out b5 p4.out.lt))
      clear o0 o1 o2 t0 t1 t2
      obtain ⟨o0, o1, o2⟩ := p5.at
      obtain ⟨t0, t1, t2⟩ := q5.at
      by_cases hc : X = 31
      · obtain ⟨q1', q2'⟩ := hv1.out hc
        subst q1' q2'
        have e1 : (X == 31) = true := by simpa using hc
        have k8 := top8_any
        clear hc hv1 hv2 hv3 hv4
        go_wp2_with (first
          | (go_at_call 155; refine (k0 _).mono ?_; rintro e w6 ⟨rfl, b6⟩; have d6 : Below w.heap.size w w6 := d5.trans (b6.mono d5.size); have p6 := p5.kept b6 p5.lt; clear k0)
          | (go_at_call 191; refine (k8 _).mono ?_; rintro e w7 ⟨rfl, b7⟩; have d7 : Below w.heap.size w w7 := d6.trans (b7.mono d6.size); have p7 := p6.kept b7 p6.lt; obtain ⟨y0, y1, y2⟩ := p7.at; have z1 := p7.fz 1))
        go_meet
        exact ⟨p7.put1 _, d7.setCell (Nat.le_of_lt q2.lt) _⟩
      have e1 : (X == 31) = false := by simpa using hc
      by_cases hc1 : X = 0
      · have e2 : (X != 0) = false := by rw [hc1]; rfl
        by_cases hc2 : G = 0
        · obtain ⟨q1', q2'⟩ := hv4.out hc1 hc2
          subst q1' q2'
          have e3 : (G * 4398046511104 != 0) = false := by rw [hc2]; rfl
          have p5' : Hid (Row3 w5 w2.heap.size 189 (.int .u64 S) (.int .u64 VX) (.int .u64 (G * 4398046511104))) := p5
          have d5' : Hid (Below w.heap.size w w5) := d5
          clear hc hc1 hc2 hv1 hv2 hv3 hv4
          go_wp2_with fail
          go_meet
          exact ⟨p5', d5'⟩
        · obtain ⟨⟨q1', q2'⟩, hL, hL1, hM, hM1⟩ := hv3.out hc1 hc2
          have hGG := hG'.out
          have e3 : (G * 4398046511104 != 0) = true := by simp; omega
          have kR := rise2_any
          have kH := ahead8_any
          have kL1 : ∀ w, Calls Tryz.prog 194 #[.int .u64 4503599627370496] w fun e w' => e = .returned (.int .i64 53) ∧ w' = w := fun w => len_any 4503599627370496 (by decide) (by decide) w
          obtain ⟨Lb, hLb⟩ : ∃ Lb, Lib.bitLen (G * 4398046511104).toNat = Lb := ⟨_, rfl⟩
          have kL2 : ∀ w, Calls Tryz.prog 194 #[.int .u64 (G * 4398046511104)] w fun e w' => e = .returned (.int .i64 (Lb : Nat)) ∧ w' = w := fun w => by have h := len_any (G * 4398046511104) (by omega) (by omega) w; rw [hLb] at h; exact h
          have v2 : IntKind.i64.wrap (53 - (Lb : Int)) = (L : Int) := by rw [IntKind.wrap_i64]; omega
          have v3 : IntKind.u64.wrap (L : Int) = (L : Int) := by rw [IntKind.wrap_u64]; omega
          have v4 : IntKind.u64.wrap (1009 - (L : Int)) = 1009 - (L : Int) := by rw [IntKind.wrap_u64]; omega
          have v5 : IntKind.u64.wrap (G * 4398046511104 * 2 ^ L) = M := by rw [IntKind.wrap_u64, hM]; omega
          have v6 : IntKind.u64.wrap (M - 4503599627370496) = M - 4503599627370496 := by rw [IntKind.wrap_u64]; omega
          have v7 : IntKind.u64.wrap 1009 = 1009 := by decide
          have l1 : (0 : Int) ≤ (L : Int) := by omega
          have l2 : (L : Int) ≤ 64 := by omega
          subst q1' q2'
          clear hc hc1 hc2 hv1 hv2 hv3 hv4 hL hL1 hM hM1 hLb hGG
          go_wp2
          go_region_held3 (fun wx => (wx.cell? ⟨w.heap.size, 0, none⟩ = some (.int .i64 2) ∧ wx.cell? ⟨w.heap.size, 1, none⟩ = some (.int .i64 5) ∧ wx.cell? ⟨w.heap.size, 2, none⟩ = some (.int .i64 10)) ∧ wx.cell? ⟨w2.heap.size, 0, none⟩ = some (.int .u64 S) ∧ wx.cell? ⟨w2.heap.size, 1, none⟩ = some (.int .u64 X) ∧ wx.cell? ⟨w2.heap.size, 2, none⟩ = some (.int .u64 (G * 4398046511104))) (first | exact ⟨q5.at, p5.at⟩ | exact ⟨q6.at, p6.at⟩ | exact ⟨q7.at, p7.at⟩) (first
            | (go_at_call 155; refine (k0 _).mono ?_; rintro e w6 ⟨rfl, b6⟩; have d6 : Below w.heap.size w w6 := d5.drew.trans (b6.mono d5.size); have q6 : Row3 w6 w.heap.size 149 (.int .i64 2) (.int .i64 5) (.int .i64 10) := Row3.kept (w := w5.drew) q5 b6 q5.lt; have p6 : Row3 w6 w2.heap.size 189 (.int .u64 S) (.int .u64 X) (.int .u64 (G * 4398046511104)) := Row3.kept (w := w5.drew) p5 b6 p5.lt)
            | (go_at_call 192; refine (kH _).mono ?_; rintro e w7 ⟨rfl, b7⟩; have d7 : Below w.heap.size w w7 := d6.trans (b7.mono d6.size); have q7 := q6.kept b7 q6.lt; have p7 := p6.kept b7 p6.lt)
            | (go_at_call 194; refine (kL1 _).mono ?_; rintro e wl ⟨rfl, hwl⟩; rw [hwl]; clear hwl kL1)
            | (go_at_call 194; refine (kL2 _).mono ?_; rintro e wl ⟨rfl, hwl⟩; rw [hwl]; clear hwl kL2))
          clear o0 o1 o2 t0 t1 t2
          obtain ⟨o0, o1, o2⟩ := p7.at
          obtain ⟨t0, t1, t2⟩ := q7.at
          go_wp2_with (go_at_call 190; refine (kR _).mono ?_; rintro e w8 ⟨rfl, b8⟩; have da : Below w.heap.size w w8 := d7.trans (b8.mono d7.size); have qa := q7.kept b8 q7.lt; have pa := p7.kept b8 p7.lt; obtain ⟨a0, a1, a2⟩ := pa.at; have az := pa.fz 1)
          have pb := pa.put1 (.int .u64 (1009 - (L : Int)))
          have qb := qa.set (a := ⟨w2.heap.size, 1, none⟩) ne (.int .u64 (1009 - (L : Int)))
          have db : Below w.heap.size w (w8.setCell ⟨w2.heap.size, 1, none⟩ (.int .u64 (1009 - (L : Int)))) := da.setCell (Nat.le_of_lt q2.lt) _
          generalize w8.setCell ⟨w2.heap.size, 1, none⟩ (.int .u64 (1009 - (L : Int))) = wb at *
          clear o0 o1 o2 t0 t1 t2 a0 a1 a2 az
          obtain ⟨o0, o1, o2⟩ := pb.at
          obtain ⟨t0, t1, t2⟩ := qb.at
          go_region_with (first
            | (go_at_call 155; refine (k0 _).mono ?_; rintro e wd ⟨rfl, bd⟩; have dd : Below w.heap.size w wd := Below.trans (by exact ⟨db.os, db.tape, db.output, db.size, db.block⟩) (bd.mono (by exact db.size)); have pd : Row3 wd w2.heap.size 189 (.int .u64 S) (.int .u64 (1009 - (L : Int))) (.int .u64 (G * 4398046511104)) := Row3.kept (by exact pb) bd (by exact pb.lt); obtain ⟨x0, x1, x2⟩ := pd.at)
            | (go_at_call 192; refine (kH _).mono ?_; rintro e we ⟨rfl, be⟩; have de : Below w.heap.size w we := Below.trans (by exact dd) (be.mono (by exact dd.size)); have pe : Row3 we w2.heap.size 189 (.int .u64 S) (.int .u64 (1009 - (L : Int))) (.int .u64 (G * 4398046511104)) := Row3.kept (by exact pd) be (by exact pd.lt); obtain ⟨y0, y1, y2⟩ := pe.at; have z2 := pe.fz 2))
          all_goals
            go_wp2_with fail
            go_meet
            exact ⟨pe.put2 _, de.setCell (Nat.le_of_lt q2.lt) _⟩
      · obtain ⟨q1', q2'⟩ := hv2.out hc hc1
        subst q1' q2'
        have e2 : (X != 0) = true := by simpa using hc1
        have kR := rise2_any
        have v2 : IntKind.u64.wrap (X + 1008) = X + 1008 := by have := hX'.out; rw [IntKind.wrap_u64]; omega
        clear hc hc1 hv1 hv2 hv3 hv4
        go_wp2
        go_region_with (first | (go_at_call 190; refine (kR _).mono ?_; rintro e w6 ⟨rfl, b6⟩; have d6 : Below w.heap.size w w6 := Below.trans (by exact ⟨d5.os, d5.tape, d5.output, d5.size, d5.block⟩) (b6.mono (by exact d5.size)); have p6 : Row3 w6 w2.heap.size 189 (.int .u64 S) (.int .u64 X) (.int .u64 (G * 4398046511104)) := Row3.kept (by exact p5) b6 (by exact p5.lt); have q6 : Row3 w6 w.heap.size 149 (.int .i64 2) (.int .i64 5) (.int .i64 10) := Row3.kept (by exact q5) b6 (by exact q5.lt); obtain ⟨x0, x1, x2⟩ := p6.at; obtain ⟨y0, y1, y2⟩ := q6.at; have z1 := p6.fz 1))
        all_goals
          go_wp2_with fail
          go_meet
          exact ⟨p6.put1 _, d6.setCell (Nat.le_of_lt q2.lt) _⟩
    case rest =>
    obtain ⟨p8, d8⟩ := hcut
    clear o0 o1 o2 t0 t1 t2
    obtain ⟨m0, m1, m2⟩ := p8.out.at
    go_wp2
    go_region_held3 (fun wx => wx.cell? ⟨w2.heap.size, 0, none⟩ = some (.int .u64 S) ∧ wx.cell? ⟨w2.heap.size, 1, none⟩ = some (.int .u64 VX) ∧ wx.cell? ⟨w2.heap.size, 2, none⟩ = some (.int .u64 VG)) (first | exact p8.out.at | exact p9.at | exact p10.at) (first
      | (go_at_call 155; refine (k0 _).mono ?_; rintro e w9 ⟨rfl, b9⟩; have d9 : Below w.heap.size w w9 := d8.out.drew.trans (b9.mono d8.out.size); have p9 : Row3 w9 w2.heap.size 189 (.int .u64 S) (.int .u64 VX) (.int .u64 VG) := Row3.kept (w := wc.drew) p8.out b9 p8.out.lt)
      | (go_at_call 193; refine (kJ _).mono ?_; rintro e w10 ⟨rfl, b10⟩; have d10 : Below w.heap.size w w10 := d9.trans (b10.mono d9.size); have p10 := p9.kept b10 p9.lt))
    go_wp2
    go_ret
    exact ⟨rfl, d10⟩
end Go.Proofs.YtnjbppfanmmifaaGreatDoor
namespace Go.Proofs.YtnjbppfanmmifaaGreatDoor
open Go.RowKit
set_option linter.unusedVariables false

set_option maxRecDepth 100000 in
set_option maxHeartbeats 2000000 in
theorem fw4_all (S X G n : Int) (hS : 0 ≤ S ∧ S ≤ 1) (hX : 0 ≤ X ∧ X < 256) (hG : 0 ≤ G ∧ G < 8388608) (VX VG : Int) (L : Nat) (M : Int) (h1 : X = 255 → VX = 2047 ∧ VG = G * 536870912) (h2 : X ≠ 255 → X ≠ 0 → VX = X + 896 ∧ VG = G * 536870912) (h3 : X = 0 → G ≠ 0 → (VX = 897 - (L : Int) ∧ VG = M - 4503599627370496) ∧ Lib.bitLen (G * 536870912).toNat + L = 53 ∧ (1 ≤ L ∧ L ≤ 52) ∧ G * 536870912 * 2 ^ L = M ∧ 4503599627370496 ≤ M ∧ M < 9007199254740992) (h4 : X = 0 → G = 0 → VX = X ∧ VG = G * 536870912) (hVX : 0 ≤ VX ∧ VX < 2048) (hVG : 0 ≤ VG ∧ VG < 4503599627370496) (w : World) (kS : ∀ w, Calls Tryz.prog 189 #[.agg #[.int .i64 4, .int .i64 8, .int .i64 23], .int .u64 n] w fun e w' => e = .returned (.agg #[.int .u64 S, .int .u64 X, .int .u64 G]) ∧ Below w.heap.size w w') :
    Calls Tryz.prog 154 #[.agg #[.int .i64 4, .int .i64 8, .int .i64 23], .int .u64 n] w fun e w' => e = .returned (.int .u64 (S * 9223372036854775808 + (VX) * 4503599627370496 + (VG))) ∧ Below w.heap.size w w' := by
  have k0 := wide_any
  have r0 := row3_new w 149 (.int .i64 4) (.int .i64 8) (.int .i64 23)
  have i1 : IntKind.i64.wrap 29 = 29 := by decide
  have v1 : IntKind.u64.wrap (G * 536870912) = G * 536870912 := by rw [IntKind.wrap_u64]; omega
  have kJ := fun w => join8_any S VX VG hS hVX hVG w
  have kT := top4_any
  have fW := fldW2
  have hX' : Hid (0 ≤ X ∧ X < 256) := hX
  have hG' : Hid (0 ≤ G ∧ G < 8388608) := hG
  have hv1 : Hid (X = 255 → VX = 2047 ∧ VG = G * 536870912) := h1
  have hv2 : Hid (X ≠ 255 → X ≠ 0 → VX = X + 896 ∧ VG = G * 536870912) := h2
  have hv3 : Hid (X = 0 → G ≠ 0 → (VX = 897 - (L : Int) ∧ VG = M - 4503599627370496) ∧ Lib.bitLen (G * 536870912).toNat + L = 53 ∧ (1 ≤ L ∧ L ≤ 52) ∧ G * 536870912 * 2 ^ L = M ∧ 4503599627370496 ≤ M ∧ M < 9007199254740992) := h3
  have hv4 : Hid (X = 0 → G = 0 → VX = X ∧ VG = G * 536870912) := h4
  clear h1 h2 h3 h4 hVX hVG
  clear hS hX hG
  go_enter Tryz.func154, Tryz.ntmps154
  go_wp2
  go_region_held3 (fun wx => wx.cell? ⟨w.heap.size, 0, none⟩ = some (.int .i64 4) ∧ wx.cell? ⟨w.heap.size, 1, none⟩ = some (.int .i64 8) ∧ wx.cell? ⟨w.heap.size, 2, none⟩ = some (.int .i64 23)) (first | exact r0.at | exact q1.at) (
    (go_at_call 155; refine (k0 _).mono ?_; rintro e w1 ⟨rfl, b1⟩; have d1 := box_drew b1; have q1 := Row3.kept (w := (w.alloc (.cells #[.int .i64 4, .int .i64 8, .int .i64 23] 149)).drew) r0 b1 (alloc_lt _ _)))
  obtain ⟨c0, c1, c2⟩ := q1.at
  go_wp2_with (go_at_call 189; refine (kS _).mono ?_; rintro e w2 ⟨rfl, b2⟩; have d2 := d1.trans (b2.mono d1.size); have q2 := q1.kept b2 q1.lt)
  have pA := row3_new w2 189 (.int .u64 S) (.int .u64 X) (.int .u64 G)
  have dA := d2.alloc d2.size (.cells #[.int .u64 S, .int .u64 X, .int .u64 G] 189)
  have qA := q2.kept (alloc_below w2 (.cells #[.int .u64 S, .int .u64 X, .int .u64 G] 189)) q2.lt
  have ne : w.heap.size ≠ w2.heap.size := Nat.ne_of_lt q2.lt
  obtain ⟨g0, g1, g2⟩ := qA.at
  go_cut [] (fun wx => Hid (Row3 wx w.heap.size 149 (.int .i64 4) (.int .i64 8) (.int .i64 23)) ∧ Hid (Row3 wx w2.heap.size 189 (.int .u64 S) (.int .u64 X) (.int .u64 (G * 536870912))) ∧ Hid (Below w.heap.size w wx))
  case first =>
    go_region_with (first | (go_at_call 155; refine (k0 _).mono ?_; rintro e w3 ⟨rfl, b3⟩; have d3 : Below w.heap.size w w3 := Below.trans (by exact ⟨dA.os, dA.tape, dA.output, dA.size, dA.block⟩) (b3.mono (by exact dA.size)); have p3 : Row3 w3 w2.heap.size 189 (.int .u64 S) (.int .u64 X) (.int .u64 G) := Row3.kept (by exact pA) b3 (by exact pA.lt); have q3 : Row3 w3 w.heap.size 149 (.int .i64 4) (.int .i64 8) (.int .i64 23) := Row3.kept (by exact qA) b3 (by exact qA.lt); obtain ⟨j0, j1, j2⟩ := p3.at; obtain ⟨l0, l1, l2⟩ := q3.at; have z2 := p3.fz 2))
    all_goals
      go_wp2_with fail
      go_meet
      exact ⟨q3.set ne _, p3.put2 _, d3.setCell (Nat.le_of_lt q2.lt) _⟩
  case rest =>
    obtain ⟨q4, p4, d4⟩ := hcut
    obtain ⟨o0, o1, o2⟩ := p4.out.at
    obtain ⟨t0, t1, t2⟩ := q4.out.at
    go_upto_block 0 with fail
    go_cut [] (fun wx => Hid (Row3 wx w2.heap.size 189 (.int .u64 S) (.int .u64 VX) (.int .u64 VG)) ∧ Hid (Below w.heap.size w wx))
    case first =>
      go_wp2_with fail
      go_region_held3 (fun wx => (wx.cell? ⟨w.heap.size, 0, none⟩ = some (.int .i64 4) ∧ wx.cell? ⟨w.heap.size, 1, none⟩ = some (.int .i64 8) ∧ wx.cell? ⟨w.heap.size, 2, none⟩ = some (.int .i64 23)) ∧ wx.cell? ⟨w2.heap.size, 0, none⟩ = some (.int .u64 S) ∧ wx.cell? ⟨w2.heap.size, 1, none⟩ = some (.int .u64 X) ∧ wx.cell? ⟨w2.heap.size, 2, none⟩ = some (.int .u64 (G * 536870912))) (first | exact ⟨q4.out.at, p4.out.at⟩ | exact ⟨q5.at, p5.at⟩) (
        (go_at_call 191; refine (kT _).mono ?_; rintro e w5 ⟨rfl, b5⟩; have d5 : Below w.heap.size w w5 := d4.out.drew.trans (b5.mono d4.out.size); have q5 : Row3 w5 w.heap.size 149 (.int .i64 4) (.int .i64 8) (.int .i64 23) := Row3.kept (w := wc.drew) q4.out b5 q4.out.lt; have p5 : Row3 w5 w2.heap.size 189 (.int .u64 S) (.int .u64 X) (.int .u64 (G * 536870912)) := Row3.kept (w := wc.drew) p4.out b5 p4.out.lt))
      clear o0 o1 o2 t0 t1 t2
      obtain ⟨o0, o1, o2⟩ := p5.at
      obtain ⟨t0, t1, t2⟩ := q5.at
      by_cases hc : X = 255
      · obtain ⟨q1', q2'⟩ := hv1.out hc
        subst q1' q2'
        have e1 : (X == 255) = true := by simpa using hc
        have k8 := top8_any
        clear hc hv1 hv2 hv3 hv4
        go_wp2_with (first
          | (go_at_call 155; refine (k0 _).mono ?_; rintro e w6 ⟨rfl, b6⟩; have d6 : Below w.heap.size w w6 := d5.trans (b6.mono d5.size); have p6 := p5.kept b6 p5.lt; clear k0)
          | (go_at_call 191; refine (k8 _).mono ?_; rintro e w7 ⟨rfl, b7⟩; have d7 : Below w.heap.size w w7 := d6.trans (b7.mono d6.size); have p7 := p6.kept b7 p6.lt; obtain ⟨y0, y1, y2⟩ := p7.at; have z1 := p7.fz 1))
        go_meet
        exact ⟨p7.put1 _, d7.setCell (Nat.le_of_lt q2.lt) _⟩
      have e1 : (X == 255) = false := by simpa using hc
      by_cases hc1 : X = 0
      · have e2 : (X != 0) = false := by rw [hc1]; rfl
        by_cases hc2 : G = 0
        · obtain ⟨q1', q2'⟩ := hv4.out hc1 hc2
          subst q1' q2'
          have e3 : (G * 536870912 != 0) = false := by rw [hc2]; rfl
          have p5' : Hid (Row3 w5 w2.heap.size 189 (.int .u64 S) (.int .u64 VX) (.int .u64 (G * 536870912))) := p5
          have d5' : Hid (Below w.heap.size w w5) := d5
          clear hc hc1 hc2 hv1 hv2 hv3 hv4
          go_wp2_with fail
          go_meet
          exact ⟨p5', d5'⟩
        · obtain ⟨⟨q1', q2'⟩, hL, hL1, hM, hM1⟩ := hv3.out hc1 hc2
          have hGG := hG'.out
          have e3 : (G * 536870912 != 0) = true := by simp; omega
          have kR := rise4_any
          have kH := ahead8_any
          have kL1 : ∀ w, Calls Tryz.prog 194 #[.int .u64 4503599627370496] w fun e w' => e = .returned (.int .i64 53) ∧ w' = w := fun w => len_any 4503599627370496 (by decide) (by decide) w
          obtain ⟨Lb, hLb⟩ : ∃ Lb, Lib.bitLen (G * 536870912).toNat = Lb := ⟨_, rfl⟩
          have kL2 : ∀ w, Calls Tryz.prog 194 #[.int .u64 (G * 536870912)] w fun e w' => e = .returned (.int .i64 (Lb : Nat)) ∧ w' = w := fun w => by have h := len_any (G * 536870912) (by omega) (by omega) w; rw [hLb] at h; exact h
          have v2 : IntKind.i64.wrap (53 - (Lb : Int)) = (L : Int) := by rw [IntKind.wrap_i64]; omega
          have v3 : IntKind.u64.wrap (L : Int) = (L : Int) := by rw [IntKind.wrap_u64]; omega
          have v4 : IntKind.u64.wrap (897 - (L : Int)) = 897 - (L : Int) := by rw [IntKind.wrap_u64]; omega
          have v5 : IntKind.u64.wrap (G * 536870912 * 2 ^ L) = M := by rw [IntKind.wrap_u64, hM]; omega
          have v6 : IntKind.u64.wrap (M - 4503599627370496) = M - 4503599627370496 := by rw [IntKind.wrap_u64]; omega
          have v7 : IntKind.u64.wrap 897 = 897 := by decide
          have l1 : (0 : Int) ≤ (L : Int) := by omega
          have l2 : (L : Int) ≤ 64 := by omega
          subst q1' q2'
          clear hc hc1 hc2 hv1 hv2 hv3 hv4 hL hL1 hM hM1 hLb hGG
          go_wp2
          go_region_held3 (fun wx => (wx.cell? ⟨w.heap.size, 0, none⟩ = some (.int .i64 4) ∧ wx.cell? ⟨w.heap.size, 1, none⟩ = some (.int .i64 8) ∧ wx.cell? ⟨w.heap.size, 2, none⟩ = some (.int .i64 23)) ∧ wx.cell? ⟨w2.heap.size, 0, none⟩ = some (.int .u64 S) ∧ wx.cell? ⟨w2.heap.size, 1, none⟩ = some (.int .u64 X) ∧ wx.cell? ⟨w2.heap.size, 2, none⟩ = some (.int .u64 (G * 536870912))) (first | exact ⟨q5.at, p5.at⟩ | exact ⟨q6.at, p6.at⟩ | exact ⟨q7.at, p7.at⟩) (first
            | (go_at_call 155; refine (k0 _).mono ?_; rintro e w6 ⟨rfl, b6⟩; have d6 : Below w.heap.size w w6 := d5.drew.trans (b6.mono d5.size); have q6 : Row3 w6 w.heap.size 149 (.int .i64 4) (.int .i64 8) (.int .i64 23) := Row3.kept (w := w5.drew) q5 b6 q5.lt; have p6 : Row3 w6 w2.heap.size 189 (.int .u64 S) (.int .u64 X) (.int .u64 (G * 536870912)) := Row3.kept (w := w5.drew) p5 b6 p5.lt)
            | (go_at_call 192; refine (kH _).mono ?_; rintro e w7 ⟨rfl, b7⟩; have d7 : Below w.heap.size w w7 := d6.trans (b7.mono d6.size); have q7 := q6.kept b7 q6.lt; have p7 := p6.kept b7 p6.lt)
            | (go_at_call 194; refine (kL1 _).mono ?_; rintro e wl ⟨rfl, hwl⟩; rw [hwl]; clear hwl kL1)
            | (go_at_call 194; refine (kL2 _).mono ?_; rintro e wl ⟨rfl, hwl⟩; rw [hwl]; clear hwl kL2))
          clear o0 o1 o2 t0 t1 t2
          obtain ⟨o0, o1, o2⟩ := p7.at
          obtain ⟨t0, t1, t2⟩ := q7.at
          go_wp2_with (go_at_call 190; refine (kR _).mono ?_; rintro e w8 ⟨rfl, b8⟩; have da : Below w.heap.size w w8 := d7.trans (b8.mono d7.size); have qa := q7.kept b8 q7.lt; have pa := p7.kept b8 p7.lt; obtain ⟨a0, a1, a2⟩ := pa.at; have az := pa.fz 1)
          have pb := pa.put1 (.int .u64 (897 - (L : Int)))
          have qb := qa.set (a := ⟨w2.heap.size, 1, none⟩) ne (.int .u64 (897 - (L : Int)))
          have db : Below w.heap.size w (w8.setCell ⟨w2.heap.size, 1, none⟩ (.int .u64 (897 - (L : Int)))) := da.setCell (Nat.le_of_lt q2.lt) _
          generalize w8.setCell ⟨w2.heap.size, 1, none⟩ (.int .u64 (897 - (L : Int))) = wb at *
          clear o0 o1 o2 t0 t1 t2 a0 a1 a2 az
          obtain ⟨o0, o1, o2⟩ := pb.at
          obtain ⟨t0, t1, t2⟩ := qb.at
          go_region_with (first
            | (go_at_call 155; refine (k0 _).mono ?_; rintro e wd ⟨rfl, bd⟩; have dd : Below w.heap.size w wd := Below.trans (by exact ⟨db.os, db.tape, db.output, db.size, db.block⟩) (bd.mono (by exact db.size)); have pd : Row3 wd w2.heap.size 189 (.int .u64 S) (.int .u64 (897 - (L : Int))) (.int .u64 (G * 536870912)) := Row3.kept (by exact pb) bd (by exact pb.lt); obtain ⟨x0, x1, x2⟩ := pd.at)
            | (go_at_call 192; refine (kH _).mono ?_; rintro e we ⟨rfl, be⟩; have de : Below w.heap.size w we := Below.trans (by exact dd) (be.mono (by exact dd.size)); have pe : Row3 we w2.heap.size 189 (.int .u64 S) (.int .u64 (897 - (L : Int))) (.int .u64 (G * 536870912)) := Row3.kept (by exact pd) be (by exact pd.lt); obtain ⟨y0, y1, y2⟩ := pe.at; have z2 := pe.fz 2))
          all_goals
            go_wp2_with fail
            go_meet
            exact ⟨pe.put2 _, de.setCell (Nat.le_of_lt q2.lt) _⟩
      · obtain ⟨q1', q2'⟩ := hv2.out hc hc1
        subst q1' q2'
        have e2 : (X != 0) = true := by simpa using hc1
        have kR := rise4_any
        have v2 : IntKind.u64.wrap (X + 896) = X + 896 := by have := hX'.out; rw [IntKind.wrap_u64]; omega
        clear hc hc1 hv1 hv2 hv3 hv4
        go_wp2
        go_region_with (first | (go_at_call 190; refine (kR _).mono ?_; rintro e w6 ⟨rfl, b6⟩; have d6 : Below w.heap.size w w6 := Below.trans (by exact ⟨d5.os, d5.tape, d5.output, d5.size, d5.block⟩) (b6.mono (by exact d5.size)); have p6 : Row3 w6 w2.heap.size 189 (.int .u64 S) (.int .u64 X) (.int .u64 (G * 536870912)) := Row3.kept (by exact p5) b6 (by exact p5.lt); have q6 : Row3 w6 w.heap.size 149 (.int .i64 4) (.int .i64 8) (.int .i64 23) := Row3.kept (by exact q5) b6 (by exact q5.lt); obtain ⟨x0, x1, x2⟩ := p6.at; obtain ⟨y0, y1, y2⟩ := q6.at; have z1 := p6.fz 1))
        all_goals
          go_wp2_with fail
          go_meet
          exact ⟨p6.put1 _, d6.setCell (Nat.le_of_lt q2.lt) _⟩
    case rest =>
    obtain ⟨p8, d8⟩ := hcut
    clear o0 o1 o2 t0 t1 t2
    obtain ⟨m0, m1, m2⟩ := p8.out.at
    go_wp2
    go_region_held3 (fun wx => wx.cell? ⟨w2.heap.size, 0, none⟩ = some (.int .u64 S) ∧ wx.cell? ⟨w2.heap.size, 1, none⟩ = some (.int .u64 VX) ∧ wx.cell? ⟨w2.heap.size, 2, none⟩ = some (.int .u64 VG)) (first | exact p8.out.at | exact p9.at | exact p10.at) (first
      | (go_at_call 155; refine (k0 _).mono ?_; rintro e w9 ⟨rfl, b9⟩; have d9 : Below w.heap.size w w9 := d8.out.drew.trans (b9.mono d8.out.size); have p9 : Row3 w9 w2.heap.size 189 (.int .u64 S) (.int .u64 VX) (.int .u64 VG) := Row3.kept (w := wc.drew) p8.out b9 p8.out.lt)
      | (go_at_call 193; refine (kJ _).mono ?_; rintro e w10 ⟨rfl, b10⟩; have d10 : Below w.heap.size w w10 := d9.trans (b10.mono d9.size); have p10 := p9.kept b10 p9.lt))
    go_wp2
    go_ret
    exact ⟨rfl, d10⟩
end Go.Proofs.YtnjbppfanmmifaaGreatDoor
namespace Go.Proofs.YtnjbppfanmmifaaGreatDoor
open Go.RowKit
set_option linter.unusedVariables false

set_option maxRecDepth 100000 in
theorem fwiden8_any (n : Int) (w : World) : Calls Tryz.prog 154 #[.agg #[.int .i64 8, .int .i64 11, .int .i64 52], .int .u64 n] w fun e w' => e = .returned (.int .u64 n) ∧ Below w.heap.size w w' := by
  have k0 := wide_any
  have r0 := row3_new w 149 (.int .i64 8) (.int .i64 11) (.int .i64 52)
  go_enter Tryz.func154, Tryz.ntmps154
  go_wp2
  go_region_held3 (fun wx => wx.cell? ⟨w.heap.size, 0, none⟩ = some (.int .i64 8) ∧ wx.cell? ⟨w.heap.size, 1, none⟩ = some (.int .i64 11) ∧ wx.cell? ⟨w.heap.size, 2, none⟩ = some (.int .i64 52)) (first | exact r0.at | exact q1.at) (
    (go_at_call 155; refine (k0 _).mono ?_; rintro e w1 ⟨rfl, b1⟩; have d1 := box_drew b1; have q1 := Row3.kept (w := (w.alloc (.cells #[.int .i64 8, .int .i64 11, .int .i64 52] 149)).drew) r0 b1 (alloc_lt _ _)))
  go_wp2
  go_ret
  exact ⟨rfl, d1⟩
theorem fwiden2_any (n : Int) (h : 0 ≤ n ∧ n < 65536) (w : World) : Calls Tryz.prog 154 #[.agg #[.int .i64 2, .int .i64 5, .int .i64 10], .int .u64 n] w fun e w' => e = .returned (.int .u64 (widen2 n)) ∧ Below w.heap.size w w' := by
  obtain ⟨hS, hX, hG, -⟩ := split_n2 h
  have kS := fun w => split2_any n h.1 (by omega) w
  unfold widen2
  generalize n / 32768 = S at *
  generalize n / 1024 % 32 = X at *
  generalize n % 1024 = G at *
  unfold wd2
  by_cases h1 : X = 31
  · rw [if_pos h1]
    exact fw2_all S X G n hS hX hG 2047 (G * 4398046511104) 0 0 (fun _ => ⟨rfl, rfl⟩) (fun h => absurd h1 h) (fun h _ => False.elim (by omega)) (fun h _ => False.elim (by omega)) (by decide) (by omega) w kS
  · rw [if_neg h1]
    by_cases h2 : X = 0
    · rw [if_neg (by simpa using h2)]
      by_cases h3 : G = 0
      · rw [if_neg (by simpa using h3)]
        exact fw2_all S X G n hS hX hG X (G * 4398046511104) 0 0 (fun h => absurd h h1) (fun _ h => absurd h2 h) (fun _ h => absurd h3 h) (fun _ _ => ⟨rfl, rfl⟩) (by omega) (by omega) w kS
      · rw [if_pos h3]
        obtain ⟨x, y, z⟩ := up_low2 hG h3
        obtain ⟨d, e, f, g⟩ := lift_facts x y
        exact fw2_all S X G n hS hX hG _ _ (liftN (G * 4398046511104)) (lifted (G * 4398046511104)) (fun h => absurd h h1) (fun _ h => absurd h2 h) (fun _ _ => ⟨⟨rfl, rfl⟩, d, ⟨e, by omega⟩, rfl, f, g⟩) (fun _ h => absurd h h3) (by omega) (by omega) w kS
    · rw [if_pos h2]
      exact fw2_all S X G n hS hX hG (X + 1008) (G * 4398046511104) 0 0 (fun h => absurd h h1) (fun _ _ => ⟨rfl, rfl⟩) (fun h _ => absurd h h2) (fun h _ => absurd h h2) (by omega) (by omega) w kS
theorem fwiden4_any (n : Int) (h : 0 ≤ n ∧ n < 4294967296) (w : World) : Calls Tryz.prog 154 #[.agg #[.int .i64 4, .int .i64 8, .int .i64 23], .int .u64 n] w fun e w' => e = .returned (.int .u64 (widen4 n)) ∧ Below w.heap.size w w' := by
  obtain ⟨hS, hX, hG, -⟩ := split_n4 h
  have kS := fun w => split4_any n h.1 (by omega) w
  unfold widen4
  generalize n / 2147483648 = S at *
  generalize n / 8388608 % 256 = X at *
  generalize n % 8388608 = G at *
  unfold wd4
  by_cases h1 : X = 255
  · rw [if_pos h1]
    exact fw4_all S X G n hS hX hG 2047 (G * 536870912) 0 0 (fun _ => ⟨rfl, rfl⟩) (fun h => absurd h1 h) (fun h _ => False.elim (by omega)) (fun h _ => False.elim (by omega)) (by decide) (by omega) w kS
  · rw [if_neg h1]
    by_cases h2 : X = 0
    · rw [if_neg (by simpa using h2)]
      by_cases h3 : G = 0
      · rw [if_neg (by simpa using h3)]
        exact fw4_all S X G n hS hX hG X (G * 536870912) 0 0 (fun h => absurd h h1) (fun _ h => absurd h2 h) (fun _ h => absurd h3 h) (fun _ _ => ⟨rfl, rfl⟩) (by omega) (by omega) w kS
      · rw [if_pos h3]
        obtain ⟨x, y, z⟩ := up_low4 hG h3
        obtain ⟨d, e, f, g⟩ := lift_facts x y
        exact fw4_all S X G n hS hX hG _ _ (liftN (G * 536870912)) (lifted (G * 536870912)) (fun h => absurd h h1) (fun _ h => absurd h2 h) (fun _ _ => ⟨⟨rfl, rfl⟩, d, ⟨e, by omega⟩, rfl, f, g⟩) (fun _ h => absurd h h3) (by omega) (by omega) w kS
    · rw [if_pos h2]
      exact fw4_all S X G n hS hX hG (X + 896) (G * 536870912) 0 0 (fun h => absurd h h1) (fun _ _ => ⟨rfl, rfl⟩) (fun h _ => absurd h h2) (fun h _ => absurd h h2) (by omega) (by omega) w kS
end Go.Proofs.YtnjbppfanmmifaaGreatDoor
namespace Go.Proofs.YtnjbppfanmmifaaGreatDoor
open Go.RowKit

/-- P7.1: what is widened, or refused. -/
def widenA (n width : Int) : Int × Int := if width = 2 ∧ n < 65536 then (widen2 n, 0) else if width = 4 ∧ n < 4294967296 then (widen4 n, 0) else if width = 8 then (n, 0) else (0, 1)
set_option maxRecDepth 100000 in
set_option maxHeartbeats 2000000 in
theorem widen_any (n width : Int) (hn : 0 ≤ n ∧ n < 18446744073709551616) (w : World) : Calls Tryz.prog 170 #[.int .u64 n, .int .i64 width] w fun e w' => e = .returned (.tuple #[.int .u64 (widenA n width).1, .int .i64 (widenA n width).2]) ∧ Below w.heap.size w w' := by
  obtain ⟨R, hR⟩ : ∃ R, widenA n width = R := ⟨_, rfl⟩
  rw [hR]
  have a0 : Hid (width = 2 ∧ n < 65536 → R = (widen2 n, 0)) := fun h => by rw [← hR]; unfold widenA; rw [if_pos h]
  have a1 : Hid (width = 4 ∧ n < 4294967296 → R = (widen4 n, 0)) := fun h => by rw [← hR]; unfold widenA; rw [if_neg (by omega), if_pos h]
  have a2 : Hid (width = 8 ∧ n < 18446744073709551616 → R = (n, 0)) := fun h => by rw [← hR]; unfold widenA; rw [if_neg (by omega), if_neg (by omega), if_pos h.1]
  have a3 : Hid (¬ (width = 2 ∧ n < 65536) → ¬ (width = 4 ∧ n < 4294967296) → ¬ (width = 8 ∧ n < 18446744073709551616) → R = (0, 1)) := fun h h1 h2 => by rw [← hR]; unfold widenA; rw [if_neg h, if_neg h1, if_neg (by omega)]
  have kF := formats_any
  have hI0 := idx0
  have hI1 := idx1
  have hI2 := idx2
  have hn' : Hid (0 ≤ n ∧ n < 18446744073709551616) := hn
  clear hR hn
  go_enter Tryz.func170, Tryz.ntmps170
  go_wp2_with (go_at_call 152; refine (kF _).mono ?_; rintro e wf ⟨rfl, bf⟩)
  go_loopw [9] (fun iv wr => ∃ k : Nat, k ≤ 3 ∧ iv = .int .i64 k ∧ Hid (1 ≤ k → ¬ (width = 2 ∧ n < 65536)) ∧ Hid (2 ≤ k → ¬ (width = 4 ∧ n < 4294967296)) ∧ Hid (3 ≤ k → ¬ (width = 8 ∧ n < 18446744073709551616)) ∧ Hid (Below w.heap.size w wr)) (fun iv _ => 3 - (intOf iv).toNat)
  case atStart => exact ⟨0, by decide, rfl, (fun h => by omega), (fun h => by omega), (fun h => by omega), bf⟩
  case round =>
    obtain ⟨k, hk, rfl, f1, f2, f3, hbl⟩ := hrel
    have hks : k = 0 ∨ k = 1 ∨ k = 2 ∨ k = 3 := by omega
    rcases hks with rfl | rfl | rfl | rfl
    · by_cases hw : width = 2
      · by_cases hr : n < 65536
        · have hfin := a0.out ⟨hw, hr⟩
          subst hfin
          have kr := room2_any n hn'.out.1 (by have := hn'.out; omega)
          have kw := fwiden2_any n ⟨hn'.out.1, hr⟩
          have hd : decide (n < 65536) = true := by simpa using hr
          rw [hd] at kr
          have he : (((2 : Int)) == width) = true := by rw [hw]; rfl
          clear hd hr hw hk a0 a1 a2 a3 f1 f2 f3
          go_wp2_with (first
            | (go_at_call 200; refine (kr _).mono ?_; rintro e w1 ⟨rfl, b1⟩; have d1 : Below w.heap.size w w1 := (hbl.out.alloc hbl.out.size _).trans (b1.mono (Nat.le_trans hbl.out.size (Nat.le_of_lt (alloc_lt _ _)))); obtain ⟨c0, c1, c2⟩ := ((row3_new wr 149 (.int .i64 2) (.int .i64 5) (.int .i64 10)).kept b1 (alloc_lt _ _)).at)
            | (go_at_call 154; refine (kw _).mono ?_; rintro e w2 ⟨rfl, b2⟩; have d2 : Below w.heap.size w w2 := d1.trans (b2.mono d1.size)))
          go_ret2
          exact ⟨rfl, d2⟩
        · have kr := room2_any n hn'.out.1 (by have := hn'.out; omega)
          have hd : decide (n < 65536) = false := by simpa using hr
          rw [hd] at kr
          have he : (((2 : Int)) == width) = true := by rw [hw]; rfl
          have hx : Hid (¬ (width = 2 ∧ n < 65536)) := fun h => hr h.2
          clear hd hr hw hk
          go_wp2_with (go_at_call 200; refine (kr _).mono ?_; rintro e w1 ⟨rfl, b1⟩; have d1 : Below w.heap.size w w1 := (hbl.out.alloc hbl.out.size _).trans (b1.mono (Nat.le_trans hbl.out.size (Nat.le_of_lt (alloc_lt _ _)))); obtain ⟨c0, c1, c2⟩ := ((row3_new wr 149 (.int .i64 2) (.int .i64 5) (.int .i64 10)).kept b1 (alloc_lt _ _)).at)
          go_roundw
          case rel => exact ⟨1, by decide, by first | rfl | simp, (fun _ => hx.out), (fun h => by omega), (fun h => by omega), d1⟩
          case measure => simp [intOf]
      · have he : (((2 : Int)) == width) = false := by simpa using fun h => hw h.symm
        have hx : Hid (¬ (width = 2 ∧ n < 65536)) := fun h => hw h.1
        clear hw hk
        go_wp2
        go_roundw
        case rel => exact ⟨1, by decide, by first | rfl | simp, (fun _ => hx.out), (fun h => by omega), (fun h => by omega), hbl.out.alloc hbl.out.size _⟩
        case measure => simp [intOf]
    · by_cases hw : width = 4
      · by_cases hr : n < 4294967296
        · have hfin := a1.out ⟨hw, hr⟩
          subst hfin
          have kr := room4_any n hn'.out.1 (by have := hn'.out; omega)
          have kw := fwiden4_any n ⟨hn'.out.1, hr⟩
          have hd : decide (n < 4294967296) = true := by simpa using hr
          rw [hd] at kr
          have he : (((4 : Int)) == width) = true := by rw [hw]; rfl
          clear hd hr hw hk a0 a1 a2 a3 f1 f2 f3
          go_wp2_with (first
            | (go_at_call 200; refine (kr _).mono ?_; rintro e w1 ⟨rfl, b1⟩; have d1 : Below w.heap.size w w1 := (hbl.out.alloc hbl.out.size _).trans (b1.mono (Nat.le_trans hbl.out.size (Nat.le_of_lt (alloc_lt _ _)))); obtain ⟨c0, c1, c2⟩ := ((row3_new wr 149 (.int .i64 4) (.int .i64 8) (.int .i64 23)).kept b1 (alloc_lt _ _)).at)
            | (go_at_call 154; refine (kw _).mono ?_; rintro e w2 ⟨rfl, b2⟩; have d2 : Below w.heap.size w w2 := d1.trans (b2.mono d1.size)))
          go_ret2
          exact ⟨rfl, d2⟩
        · have kr := room4_any n hn'.out.1 (by have := hn'.out; omega)
          have hd : decide (n < 4294967296) = false := by simpa using hr
          rw [hd] at kr
          have he : (((4 : Int)) == width) = true := by rw [hw]; rfl
          have hx : Hid (¬ (width = 4 ∧ n < 4294967296)) := fun h => hr h.2
          clear hd hr hw hk
          go_wp2_with (go_at_call 200; refine (kr _).mono ?_; rintro e w1 ⟨rfl, b1⟩; have d1 : Below w.heap.size w w1 := (hbl.out.alloc hbl.out.size _).trans (b1.mono (Nat.le_trans hbl.out.size (Nat.le_of_lt (alloc_lt _ _)))); obtain ⟨c0, c1, c2⟩ := ((row3_new wr 149 (.int .i64 4) (.int .i64 8) (.int .i64 23)).kept b1 (alloc_lt _ _)).at)
          go_roundw
          case rel => exact ⟨2, by decide, by first | rfl | simp, (fun _ => f1.out (by decide)), (fun _ => hx.out), (fun h => by omega), d1⟩
          case measure => simp [intOf]
      · have he : (((4 : Int)) == width) = false := by simpa using fun h => hw h.symm
        have hx : Hid (¬ (width = 4 ∧ n < 4294967296)) := fun h => hw h.1
        clear hw hk
        go_wp2
        go_roundw
        case rel => exact ⟨2, by decide, by first | rfl | simp, (fun _ => f1.out (by decide)), (fun _ => hx.out), (fun h => by omega), hbl.out.alloc hbl.out.size _⟩
        case measure => simp [intOf]
    · by_cases hw : width = 8
      · by_cases hr : n < 18446744073709551616
        · have hfin := a2.out ⟨hw, hr⟩
          subst hfin
          have kr := room8_any n hn'.out.1 (by have := hn'.out; omega)
          have kw := fwiden8_any n 
          have hd : decide (n < 18446744073709551616) = true := by simpa using hr
          rw [hd] at kr
          have he : (((8 : Int)) == width) = true := by rw [hw]; rfl
          clear hd hr hw hk a0 a1 a2 a3 f1 f2 f3
          go_wp2_with (first
            | (go_at_call 200; refine (kr _).mono ?_; rintro e w1 ⟨rfl, b1⟩; have d1 : Below w.heap.size w w1 := (hbl.out.alloc hbl.out.size _).trans (b1.mono (Nat.le_trans hbl.out.size (Nat.le_of_lt (alloc_lt _ _)))); obtain ⟨c0, c1, c2⟩ := ((row3_new wr 149 (.int .i64 8) (.int .i64 11) (.int .i64 52)).kept b1 (alloc_lt _ _)).at)
            | (go_at_call 154; refine (kw _).mono ?_; rintro e w2 ⟨rfl, b2⟩; have d2 : Below w.heap.size w w2 := d1.trans (b2.mono d1.size)))
          go_ret2
          exact ⟨rfl, d2⟩
        · have kr := room8_any n hn'.out.1 (by have := hn'.out; omega)
          have hd : decide (n < 18446744073709551616) = false := by simpa using hr
          rw [hd] at kr
          have he : (((8 : Int)) == width) = true := by rw [hw]; rfl
          have hx : Hid (¬ (width = 8 ∧ n < 18446744073709551616)) := fun h => hr h.2
          clear hd hr hw hk
          go_wp2_with (go_at_call 200; refine (kr _).mono ?_; rintro e w1 ⟨rfl, b1⟩; have d1 : Below w.heap.size w w1 := (hbl.out.alloc hbl.out.size _).trans (b1.mono (Nat.le_trans hbl.out.size (Nat.le_of_lt (alloc_lt _ _)))); obtain ⟨c0, c1, c2⟩ := ((row3_new wr 149 (.int .i64 8) (.int .i64 11) (.int .i64 52)).kept b1 (alloc_lt _ _)).at)
          go_roundw
          case rel => exact ⟨3, by decide, by first | rfl | simp, (fun _ => f1.out (by decide)), (fun _ => f2.out (by decide)), (fun _ => hx.out), d1⟩
          case measure => simp [intOf]
      · have he : (((8 : Int)) == width) = false := by simpa using fun h => hw h.symm
        have hx : Hid (¬ (width = 8 ∧ n < 18446744073709551616)) := fun h => hw h.1
        clear hw hk
        go_wp2
        go_roundw
        case rel => exact ⟨3, by decide, by first | rfl | simp, (fun _ => f1.out (by decide)), (fun _ => f2.out (by decide)), (fun _ => hx.out), hbl.out.alloc hbl.out.size _⟩
        case measure => simp [intOf]
    · have hfin := a3.out (f1.out (by decide)) (f2.out (by decide)) (f3.out (by decide))
      subst hfin
      clear hk a0 a1 a2 a3 f1 f2 f3
      go_wp2
      go_ret2
      exact ⟨rfl, hbl.out⟩
end Go.Proofs.YtnjbppfanmmifaaGreatDoor
namespace Go.Proofs.YtnjbppfanmmifaaGreatDoor
open Go.RowKit
set_option linter.unusedVariables false
def intT (n : Bool) (d : ByteArray) : Tr := ⟨2, 0, n, d, 0, ⟨#[]⟩, [], [], []⟩
def decT (n : Bool) (d : ByteArray) (x : Int) : Tr := ⟨3, 0, n, d, x, ⟨#[]⟩, [], [], []⟩
def txtT (s : ByteArray) : Tr := ⟨5, 0, false, ⟨#[]⟩, 0, s, [], [], []⟩
def bytT (l : List Int) : Tr := ⟨6, 0, false, ⟨#[]⟩, 0, ⟨#[]⟩, l, [], []⟩
def kindT (k n : Int) : Tr := ⟨k, n, false, ⟨#[]⟩, 0, ⟨#[]⟩, [], [], []⟩
def arrT (kids : List Tr) : Tr := ⟨7, 0, false, ⟨#[]⟩, 0, ⟨#[]⟩, [], [], kids⟩
def mapT (keys kids : List Tr) : Tr := ⟨8, 0, false, ⟨#[]⟩, 0, ⟨#[]⟩, [], keys, kids⟩
def tgT (n : Int) (t : Tr) : Tr := ⟨9, n, false, ⟨#[]⟩, 0, ⟨#[]⟩, [], [], [t]⟩
/-- Trees that are the same, by looking. -/
def eqL (f : Tr → Tr → Bool) : List Tr → List Tr → Bool
  | [], [] => true
  | a :: l, b :: m => f a b && eqL f l m
  | _, _ => false
def eqF : Nat → Tr → Tr → Bool
  | 0, _, _ => false
  | k + 1, a, b => (decide (a.kind = b.kind) && decide (a.num = b.num) && (a.neg == b.neg) && decide (a.dig = b.dig) && decide (a.exp = b.exp) && decide (a.txt = b.txt) && decide (a.bytes = b.bytes)) && (eqL (eqF k) a.keys b.keys && eqL (eqF k) a.kids b.kids)
theorem eqL_iff {f : Tr → Tr → Bool} : ∀ (l m : List Tr), (∀ a ∈ l, ∀ b, f a b = true ↔ a = b) → (eqL f l m = true ↔ l = m)
  | [], [], _ => by simp [eqL]
  | [], _ :: _, _ => by simp [eqL]
  | _ :: _, [], _ => by simp [eqL]
  | a :: l, b :: m, h => by
    have ih := eqL_iff l m fun x hx => h x (List.mem_cons_of_mem _ hx)
    simp only [eqL, Bool.and_eq_true, h a List.mem_cons_self b, ih, List.cons.injEq]
theorem eqF_iff : ∀ (k : Nat) (a b : Tr), a.deep ≤ k → (eqF k a b = true ↔ a = b) := by
  intro k
  induction k with
  | zero => intro a b h; have := Tr.deep_eq a; omega
  | succ k ih =>
    intro a b h
    have hk : ∀ x ∈ a.keys, ∀ y, eqF k x y = true ↔ x = y := fun x hx y => ih x y (by have := Tr.key_deep hx; omega)
    have hi : ∀ x ∈ a.kids, ∀ y, eqF k x y = true ↔ x = y := fun x hx y => ih x y (by have := Tr.kid_deep hx; omega)
    simp only [eqF, Bool.and_eq_true, decide_eq_true_eq, beq_iff_eq, eqL_iff _ _ hk, eqL_iff _ _ hi]
    constructor
    · rintro ⟨⟨⟨⟨⟨⟨⟨h0, h1⟩, h2⟩, h3⟩, h4⟩, h5⟩, h6⟩, h7, h8⟩
      exact Tr.mk_eq h0 h1 h2 h3 h4 h5 h6 h7 h8
    · rintro rfl
      exact ⟨⟨⟨⟨⟨⟨⟨rfl, rfl⟩, rfl⟩, rfl⟩, rfl⟩, rfl⟩, rfl⟩, rfl, rfl⟩
/-- Is a key there already? -/
def hasK (keys : List Tr) (t : Tr) : Bool := keys.any fun u => eqF u.deep u t
theorem hasK_iff (keys : List Tr) (t : Tr) : hasK keys t = true ↔ t ∈ keys := by
  unfold hasK
  rw [List.any_eq_true]
  constructor
  · rintro ⟨u, hu, h⟩
    rw [(eqF_iff _ u t (Nat.le_refl _)).1 h] at hu
    exact hu
  · intro h
    exact ⟨t, h, (eqF_iff _ t t (Nat.le_refl _)).2 rfl⟩
/-- How many bytes an argument has that does not stand in the first one. -/
def hwd (low : Int) : Nat := if low = 24 then 1 else if low = 25 then 2 else if low = 26 then 4 else if low = 27 then 8 else 0
/-- What an item begins with: its place, its major type, its low bits, its argument, and whether bytes of that are missing. -/
structure Hd where
  pl : Nat
  mj : Int
  lo : Int
  n : Nat
  cut : Bool
def Hd.arr (h : Hd) : Array Value := #[.int .i64 h.pl, .int .u8 h.mj, .int .u8 h.lo, .int .u64 h.n, .bool h.cut]
def hdA (zs : List Int) (p : Nat) : Option (Hd × Nat) := match zs[p]? with
  | none => none
  | some c => if c % 32 < 24 then some (⟨p, c / 32, c % 32, (c % 32).toNat, false⟩, p + 1)
    else if zs.length < p + 1 + hwd (c % 32) then some (⟨p, c / 32, c % 32, 0, true⟩, p + 1)
    else some (⟨p, c / 32, c % 32, bytV ((zs.drop (p + 1)).take (hwd (c % 32))), false⟩, p + 1 + hwd (c % 32))
def mayA (h : Hd) : Bool := decide (h.lo ≤ 27) || (decide (h.lo = 31) && (decide (2 ≤ h.mj) && decide (h.mj ≤ 5)))
def isR (h : Hd) : Bool := decide (h.mj = 2) || decide (h.mj = 3)
/-- The bytes that are there of n from q on. -/
def here (zs : List Int) (q n : Nat) : List Int := (zs.drop q).take n
/-- The bytes of a run, and the place behind them. -/
def runA (zs : List Int) (mj : Int) (q n : Nat) : Sum (Int × Nat) (List Int × Nat) :=
  if mj = 3 ∧ whyL (here zs q n) ≠ 0 ∧ (q + atL (here zs q n) < zs.length ∨ q + n = q + atL (here zs q n)) then .inl (6, q + atL (here zs q n))
  else if zs.length < q + n then .inl (3, zs.length) else .inr (here zs q n, q + n)
/-- The bytes of parts. -/
def prtF : Nat → List Int → Int → Nat → Nat → List Int → Sum (Int × Nat) (List Int × Nat)
  | 0, _, _, _, _, _ => .inl (0, 0)
  | k + 1, zs, mj, pl, p, out => match hdA zs p with
    | none => .inl (3, zs.length)
    | some (h, q) => if zs.getD p 0 = 255 then .inr (out, p + 1)
      else if h.mj ≠ mj ∨ ¬ h.lo ≤ 27 then .inl (5, p)
      else if h.cut = true then .inl (3, zs.length)
      else if 4096 - out.length < h.n then .inl (8, pl)
      else match runA zs mj q h.n with
        | .inl f => .inl f
        | .inr (l, r) => prtF k zs mj pl r (out ++ l)
def allA (zs : List Int) (h : Hd) (q : Nat) : Sum (Int × Nat) (List Int × Nat) := if h.lo ≤ 27 then runA zs h.mj q h.n else prtF 5000 zs h.mj h.pl q []
def oneS : ByteArray := ⟨#[49]⟩
def belA (d : ByteArray) : Tr × Int := (intT true (addA d oneS).1, (addA d oneS).2)
/-- An Array of two Int. -/
def prT (t : Tr) : Option (Tr × Tr) := match t.kids with
  | [a, b] => if t.kind = 7 ∧ a.kind = 2 ∧ b.kind = 2 then some (a, b) else none
  | _ => none
def sgn (neg : Bool) (n : Int) : Int := if neg = true then -n else n
def dcm (r : Nm) : Tr := if (wholeA r.1 r.2.1 r.2.2).2 = true then intT r.1 (wholeA r.1 r.2.1 r.2.2).1 else decT r.1 r.2.1 r.2.2
def dcmA (a b : Tr) : Tr × Int := if (towA a.dig).2 = false ∨ 1000000 < (towA a.dig).1 then (zT, 11)
  else if (makeA b.neg b.dig (sgn a.neg (towA a.dig).1)).2 ≠ 0 then (zT, (makeA b.neg b.dig (sgn a.neg (towA a.dig).1)).2)
  else (dcm (makeA b.neg b.dig (sgn a.neg (towA a.dig).1)).1, 0)
def tagA (n : Nat) (t : Tr) : Tr × Int := if n = 2 ∧ t.kind = 6 then (intT false (frbA t.bytes).1, (frbA t.bytes).2)
  else if n = 3 ∧ t.kind = 6 then (if (frbA t.bytes).2 ≠ 0 then (zT, (frbA t.bytes).2) else belA (frbA t.bytes).1)
  else if n = 4 then (match prT t with | some (a, b) => dcmA a b | none => (tgT (n : Nat) t, 0))
  else (tgT (n : Nat) t, 0)
def othA (h : Hd) : Sum (Int × Nat) Tr := if h.lo = 20 then .inr (kindT 1 0) else if h.lo = 21 then .inr (kindT 1 1) else if h.lo = 22 then .inr (kindT 0 0)
  else if h.lo = 25 ∨ h.lo = 26 ∨ h.lo = 27 then .inr (kindT 4 (widenA (h.n : Nat) (hwd h.lo : Nat)).1)
  else if h.lo = 24 ∧ h.n < 32 then .inl (5, h.pl + 1) else .inr (kindT 10 (h.n : Nat))
def limA (h : Hd) : Option Nat := if h.lo ≤ 27 then some h.n else none
/-- Is there more of an Array or a Map? The place behind what tells. -/
def gonA (zs : List Int) (p : Nat) (lim : Option Nat) : Sum (Int × Nat) (Bool × Nat) := match lim with
  | some 0 => .inr (false, p)
  | some (_ + 1) => .inr (true, p)
  | none => match zs[p]? with
    | none => .inl (3, zs.length)
    | some c => if c = 255 then .inr (false, p + 1) else .inr (true, p)
/-- What is behind an item's first bytes, those in it read by f. -/
def bodA (zs : List Int) (h : Hd) (q m : Nat) (f : Nat → Option Nat → Sum (Int × Nat) (Tr × Nat × Nat)) : Sum (Int × Nat) (Tr × Nat × Nat) :=
  if h.mj = 0 then .inr (intT false (txt h.n), q, m)
  else if h.mj = 1 then .inr ((belA (txt h.n)).1, q, m)
  else if h.mj = 2 then (match allA zs h q with | .inl e => .inl e | .inr (l, r) => .inr (bytT l, r, m))
  else if h.mj = 3 then (match allA zs h q with | .inl e => .inl e | .inr (l, r) => .inr (txtT (strOfNums l), r, m))
  else if h.mj = 4 then f 1 (limA h)
  else if h.mj = 5 then f 2 (limA h)
  else if h.mj = 6 then (match f 0 none with | .inl e => .inl e | .inr (t, r, n) => if (tagA h.n t).2 ≠ 0 then .inl (11, h.pl) else .inr ((tagA h.n t).1, r, n))
  else (match othA h with | .inl e => .inl e | .inr t => .inr (t, q, m))
/-- AN ITEM (0), the rest of an Array (1), of a Map (2), in the depth d, from p on, m nodes begun: the fault, or the tree, the place behind it, the nodes begun then. -/
def rcF : Nat → List Int → Nat → Nat → Nat → Nat → Option Nat → List Tr → List Tr → Sum (Int × Nat) (Tr × Nat × Nat)
  | 0, _, _, _, _, _, _, _, _ => .inl (0, 0)
  | k + 1, zs, 0, d, p, m, _, _, _ => match hdA zs p with
    | none => .inl (3, zs.length)
    | some (h, q) => if mayA h = false then .inl (5, p)
      else if 1024 < m + 1 ∨ (isR h = true ∧ 4096 < h.n) then .inl (8, p)
      else if 24 < d then .inl (7, p)
      else if h.cut = true then .inl (3, zs.length)
      else bodA zs h q (m + 1) fun j lim => rcF k zs j (d + 1) q (m + 1) lim [] []
  | k + 1, zs, 1, d, p, m, lim, _, kids => match gonA zs p lim with
    | .inl f => .inl f
    | .inr (false, q) => .inr (arrT kids, q, m)
    | .inr (true, _) => match rcF k zs 0 d p m none [] [] with
      | .inl f => .inl f
      | .inr (t, q, n) => rcF k zs 1 d q n (lim.map (· - 1)) [] (kids ++ [t])
  | k + 1, zs, _ + 2, d, p, m, lim, keys, kids => match gonA zs p lim with
    | .inl f => .inl f
    | .inr (false, q) => .inr (mapT keys kids, q, m)
    | .inr (true, _) => match rcF k zs 0 d p m none [] [] with
      | .inl f => .inl f
      | .inr (t, q, n) => if hasK keys t = true then .inl (9, p) else match rcF k zs 0 d q n none [] [] with
        | .inl f => .inl f
        | .inr (u, r, o) => rcF k zs 2 d r o (lim.map (· - 1)) (keys ++ [t]) (kids ++ [u])
/-- Item. -/
def itmA (zs : List Int) (at_ : Int) : Sum (Int × Nat) (Tr × Nat) := if 4096 < zs.length then .inl (8, 0) else if at_ < 0 ∨ (zs.length : Int) ≤ at_ then .inl (3, zs.length)
  else match rcF 10000 zs 0 1 at_.toNat 0 none [] [] with
    | .inl f => .inl f
    | .inr (t, q, _) => .inr (t, q)
/-- Decode. -/
def dcdA (zs : List Int) : Sum (Int × Nat) Tr := match itmA zs 0 with
  | .inl f => .inl f
  | .inr (t, q) => if q ≠ zs.length then .inl (10, q) else .inr t
end Go.Proofs.YtnjbppfanmmifaaGreatDoor
