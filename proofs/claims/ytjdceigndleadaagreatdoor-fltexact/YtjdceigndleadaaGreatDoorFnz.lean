/-
  The nearest bits, where the exponent is 0.
-/
import Derived.Test.YtjdceigndleadaaGreatDoorFspl
import Derived.Test.YtjdceigndleadaaGreatDoorFsm
import Derived.Deep.RegionWith
import Derived.Lib.MinMax
namespace Go.Proofs.YtjdceigndleadaaGreatDoor
open Go.RowKit
set_option linter.unusedVariables false

set_option maxRecDepth 100000 in
set_option maxHeartbeats 2000000 in
theorem nr2_zero (S X G n : Int) (hS : 0 ≤ S ∧ S ≤ 1) (hX : 0 ≤ X ∧ X < 2048) (hG : 0 ≤ G ∧ G < 4503599627370496) (hc : X = 0) (w : World) (kS : ∀ w, Calls Tryz.prog 21 #[.agg #[.int .i64 8, .int .i64 11, .int .i64 52], .int .u64 n] w fun e w' => e = .returned (.agg #[.int .u64 S, .int .u64 X, .int .u64 G]) ∧ Below w.heap.size w w') :
    Calls Tryz.prog 43 #[.agg #[.int .i64 2, .int .i64 5, .int .i64 10], .int .u64 n] w fun e w' => e = .returned (.int .u64 (S * 32768 + (X) * 1024 + (G / 4398046511104))) ∧ Below w.heap.size w w' := by
  have k0 := wide_any
  have kR := rise2_any
  have r0 := row3_new w 34 (.int .i64 2) (.int .i64 5) (.int .i64 10)
  have dw := alloc_below w (.cells #[.int .i64 2, .int .i64 5, .int .i64 10] 34)
  have i1 : IntKind.i64.wrap 42 = 42 := by decide
  have i2 : IntKind.u64.wrap 42 = 42 := by decide
  have fW := fldW2
  have e1 : decide (1008 < X) = false := by rw [hc]; rfl
  have e2 : (X != 0) = false := by rw [hc]; rfl
  have kJ := fun w => join2_any S X (G / 4398046511104) hS (by omega) (by omega) w
  clear hc
  clear hS hX hG
  go_enter Tryz.func43, Tryz.ntmps43
  go_wp2_with (first
    | (go_at_call 11; refine (k0 _).mono ?_; rintro e w1 ⟨rfl, b1⟩; have d1 := box_below b1; have q1 := r0.kept b1 r0.lt; clear k0)
    | (go_at_call 21; refine (kS _).mono ?_; rintro e w2 ⟨rfl, b2⟩; have d2 := d1.trans (b2.mono d1.size); have q2 := q1.kept b2 q1.lt))
  have k0 := wide_any
  have pA := row3_new w2 48 (.int .u64 S) (.int .u64 X) (.int .u64 G)
  have dA := d2.alloc d2.size (.cells #[.int .u64 S, .int .u64 X, .int .u64 G] 48)
  have qA := q2.kept (alloc_below w2 (.cells #[.int .u64 S, .int .u64 X, .int .u64 G] 48)) q2.lt
  have ne : w.heap.size ≠ w2.heap.size := Nat.ne_of_lt q2.lt
  generalize w2.alloc (.cells #[.int .u64 S, .int .u64 X, .int .u64 G] 48) = wA at *
  obtain ⟨g0, g1, g2⟩ := qA.at
  obtain ⟨h0, h1, h2⟩ := pA.at
  go_region_held3 (fun wx => (wx.cell? ⟨w.heap.size, 0, none⟩ = some (.int .i64 2) ∧ wx.cell? ⟨w.heap.size, 1, none⟩ = some (.int .i64 5) ∧ wx.cell? ⟨w.heap.size, 2, none⟩ = some (.int .i64 10)) ∧ wx.cell? ⟨w2.heap.size, 0, none⟩ = some (.int .u64 S) ∧ wx.cell? ⟨w2.heap.size, 1, none⟩ = some (.int .u64 X) ∧ wx.cell? ⟨w2.heap.size, 2, none⟩ = some (.int .u64 G)) (first | exact ⟨qA.at, pA.at⟩ | exact ⟨q3.at, p3.at⟩) (
    (go_at_call 11; refine (k0 _).mono ?_; rintro e w3 ⟨rfl, b3⟩; have d3 : Below w.heap.size w w3 := dA.drew.trans (b3.mono dA.size); have q3 : Row3 w3 w.heap.size 34 (.int .i64 2) (.int .i64 5) (.int .i64 10) := Row3.kept (w := wA.drew) qA b3 qA.lt; have p3 : Row3 w3 w2.heap.size 48 (.int .u64 S) (.int .u64 (X)) (.int .u64 (G)) := Row3.kept (w := wA.drew) pA b3 pA.lt))
  clear g0 g1 g2 h0 h1 h2
  obtain ⟨g0, g1, g2⟩ := q3.at
  obtain ⟨h0, h1, h2⟩ := p3.at
  go_wp2
  go_region_held3 (fun wx => (wx.cell? ⟨w.heap.size, 0, none⟩ = some (.int .i64 2) ∧ wx.cell? ⟨w.heap.size, 1, none⟩ = some (.int .i64 5) ∧ wx.cell? ⟨w.heap.size, 2, none⟩ = some (.int .i64 10)) ∧ wx.cell? ⟨w2.heap.size, 0, none⟩ = some (.int .u64 S) ∧ wx.cell? ⟨w2.heap.size, 1, none⟩ = some (.int .u64 X) ∧ wx.cell? ⟨w2.heap.size, 2, none⟩ = some (.int .u64 G)) (first | exact ⟨q3.at, p3.at⟩ | exact ⟨q4.at, p4.at⟩) (
    (go_at_call 60; refine (kR _).mono ?_; rintro e w4 ⟨rfl, b4⟩; have d4 : Below w.heap.size w w4 := d3.drew.trans (b4.mono d3.size); have q4 : Row3 w4 w.heap.size 34 (.int .i64 2) (.int .i64 5) (.int .i64 10) := Row3.kept (w := w3.drew) q3 b4 q3.lt; have p4 : Row3 w4 w2.heap.size 48 (.int .u64 S) (.int .u64 (X)) (.int .u64 (G)) := Row3.kept (w := w3.drew) p3 b4 p3.lt))
  clear g0 g1 g2 h0 h1 h2
  obtain ⟨g0, g1, g2⟩ := q4.at
  obtain ⟨h0, h1, h2⟩ := p4.at
  have uz := p4.fz 2
  have pz := p4.put2 (.int .u64 (G / 4398046511104))
  have qz := q4.set (a := ⟨w2.heap.size, 2, none⟩) ne (.int .u64 (G / 4398046511104))
  obtain ⟨v0, v1, v2⟩ := pz.at
  obtain ⟨x0, x1, x2⟩ := qz.at
  have dz : Below w.heap.size w (w4.setCell ⟨w2.heap.size, 2, none⟩ (.int .u64 (G / 4398046511104))) := d4.setCell (Nat.le_of_lt q2.lt) _
  go_wp2_with (go_at_call 62; refine (kJ _).mono ?_; rintro e w9 ⟨rfl, b9⟩; have d9 : Below w.heap.size w w9 := dz.trans (b9.mono dz.size))
  go_ret
  exact ⟨by first | rfl | simp, d9⟩
set_option maxRecDepth 100000 in
set_option maxHeartbeats 2000000 in
theorem nr4_zero (S X G n : Int) (hS : 0 ≤ S ∧ S ≤ 1) (hX : 0 ≤ X ∧ X < 2048) (hG : 0 ≤ G ∧ G < 4503599627370496) (hc : X = 0) (w : World) (kS : ∀ w, Calls Tryz.prog 21 #[.agg #[.int .i64 8, .int .i64 11, .int .i64 52], .int .u64 n] w fun e w' => e = .returned (.agg #[.int .u64 S, .int .u64 X, .int .u64 G]) ∧ Below w.heap.size w w') :
    Calls Tryz.prog 43 #[.agg #[.int .i64 4, .int .i64 8, .int .i64 23], .int .u64 n] w fun e w' => e = .returned (.int .u64 (S * 2147483648 + (X) * 8388608 + (G / 536870912))) ∧ Below w.heap.size w w' := by
  have k0 := wide_any
  have kR := rise4_any
  have r0 := row3_new w 34 (.int .i64 4) (.int .i64 8) (.int .i64 23)
  have dw := alloc_below w (.cells #[.int .i64 4, .int .i64 8, .int .i64 23] 34)
  have i1 : IntKind.i64.wrap 29 = 29 := by decide
  have i2 : IntKind.u64.wrap 29 = 29 := by decide
  have fW := fldW2
  have e1 : decide (896 < X) = false := by rw [hc]; rfl
  have e2 : (X != 0) = false := by rw [hc]; rfl
  have kJ := fun w => join4_any S X (G / 536870912) hS (by omega) (by omega) w
  clear hc
  clear hS hX hG
  go_enter Tryz.func43, Tryz.ntmps43
  go_wp2_with (first
    | (go_at_call 11; refine (k0 _).mono ?_; rintro e w1 ⟨rfl, b1⟩; have d1 := box_below b1; have q1 := r0.kept b1 r0.lt; clear k0)
    | (go_at_call 21; refine (kS _).mono ?_; rintro e w2 ⟨rfl, b2⟩; have d2 := d1.trans (b2.mono d1.size); have q2 := q1.kept b2 q1.lt))
  have k0 := wide_any
  have pA := row3_new w2 48 (.int .u64 S) (.int .u64 X) (.int .u64 G)
  have dA := d2.alloc d2.size (.cells #[.int .u64 S, .int .u64 X, .int .u64 G] 48)
  have qA := q2.kept (alloc_below w2 (.cells #[.int .u64 S, .int .u64 X, .int .u64 G] 48)) q2.lt
  have ne : w.heap.size ≠ w2.heap.size := Nat.ne_of_lt q2.lt
  generalize w2.alloc (.cells #[.int .u64 S, .int .u64 X, .int .u64 G] 48) = wA at *
  obtain ⟨g0, g1, g2⟩ := qA.at
  obtain ⟨h0, h1, h2⟩ := pA.at
  go_region_held3 (fun wx => (wx.cell? ⟨w.heap.size, 0, none⟩ = some (.int .i64 4) ∧ wx.cell? ⟨w.heap.size, 1, none⟩ = some (.int .i64 8) ∧ wx.cell? ⟨w.heap.size, 2, none⟩ = some (.int .i64 23)) ∧ wx.cell? ⟨w2.heap.size, 0, none⟩ = some (.int .u64 S) ∧ wx.cell? ⟨w2.heap.size, 1, none⟩ = some (.int .u64 X) ∧ wx.cell? ⟨w2.heap.size, 2, none⟩ = some (.int .u64 G)) (first | exact ⟨qA.at, pA.at⟩ | exact ⟨q3.at, p3.at⟩) (
    (go_at_call 11; refine (k0 _).mono ?_; rintro e w3 ⟨rfl, b3⟩; have d3 : Below w.heap.size w w3 := dA.drew.trans (b3.mono dA.size); have q3 : Row3 w3 w.heap.size 34 (.int .i64 4) (.int .i64 8) (.int .i64 23) := Row3.kept (w := wA.drew) qA b3 qA.lt; have p3 : Row3 w3 w2.heap.size 48 (.int .u64 S) (.int .u64 (X)) (.int .u64 (G)) := Row3.kept (w := wA.drew) pA b3 pA.lt))
  clear g0 g1 g2 h0 h1 h2
  obtain ⟨g0, g1, g2⟩ := q3.at
  obtain ⟨h0, h1, h2⟩ := p3.at
  go_wp2
  go_region_held3 (fun wx => (wx.cell? ⟨w.heap.size, 0, none⟩ = some (.int .i64 4) ∧ wx.cell? ⟨w.heap.size, 1, none⟩ = some (.int .i64 8) ∧ wx.cell? ⟨w.heap.size, 2, none⟩ = some (.int .i64 23)) ∧ wx.cell? ⟨w2.heap.size, 0, none⟩ = some (.int .u64 S) ∧ wx.cell? ⟨w2.heap.size, 1, none⟩ = some (.int .u64 X) ∧ wx.cell? ⟨w2.heap.size, 2, none⟩ = some (.int .u64 G)) (first | exact ⟨q3.at, p3.at⟩ | exact ⟨q4.at, p4.at⟩) (
    (go_at_call 60; refine (kR _).mono ?_; rintro e w4 ⟨rfl, b4⟩; have d4 : Below w.heap.size w w4 := d3.drew.trans (b4.mono d3.size); have q4 : Row3 w4 w.heap.size 34 (.int .i64 4) (.int .i64 8) (.int .i64 23) := Row3.kept (w := w3.drew) q3 b4 q3.lt; have p4 : Row3 w4 w2.heap.size 48 (.int .u64 S) (.int .u64 (X)) (.int .u64 (G)) := Row3.kept (w := w3.drew) p3 b4 p3.lt))
  clear g0 g1 g2 h0 h1 h2
  obtain ⟨g0, g1, g2⟩ := q4.at
  obtain ⟨h0, h1, h2⟩ := p4.at
  have uz := p4.fz 2
  have pz := p4.put2 (.int .u64 (G / 536870912))
  have qz := q4.set (a := ⟨w2.heap.size, 2, none⟩) ne (.int .u64 (G / 536870912))
  obtain ⟨v0, v1, v2⟩ := pz.at
  obtain ⟨x0, x1, x2⟩ := qz.at
  have dz : Below w.heap.size w (w4.setCell ⟨w2.heap.size, 2, none⟩ (.int .u64 (G / 536870912))) := d4.setCell (Nat.le_of_lt q2.lt) _
  go_wp2_with (go_at_call 62; refine (kJ _).mono ?_; rintro e w9 ⟨rfl, b9⟩; have d9 : Below w.heap.size w w9 := dz.trans (b9.mono dz.size))
  go_ret
  exact ⟨by first | rfl | simp, d9⟩
end Go.Proofs.YtjdceigndleadaaGreatDoor
