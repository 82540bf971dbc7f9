/-
  The nearest bits of 2 bytes, where the exponent is high enough.
-/
import Derived.Test.YtjdceigndleadaaGreatDoorFspl
import Derived.Test.YtjdceigndleadaaGreatDoorFsm
import Derived.Deep.RegionWith
import Derived.Lib.MinMax
namespace Go.Proofs.YtjdceigndleadaaGreatDoor
open Go.RowKit
set_option linter.unusedVariables false

set_option maxRecDepth 100000 in
set_option maxHeartbeats 2000000 in
theorem nr2_hi (S X G n : Int) (hS : 0 ≤ S ∧ S ≤ 1) (hX : 0 ≤ X ∧ X < 2048) (hG : 0 ≤ G ∧ G < 4503599627370496) (hc : 1008 < X) (Y : Int) (hY : min (X - 1008) 31 = Y) (w : World) (kS : ∀ w, Calls Tryz.prog 21 #[.agg #[.int .i64 8, .int .i64 11, .int .i64 52], .int .u64 n] w fun e w' => e = .returned (.agg #[.int .u64 S, .int .u64 X, .int .u64 G]) ∧ Below w.heap.size w w') :
    Calls Tryz.prog 43 #[.agg #[.int .i64 2, .int .i64 5, .int .i64 10], .int .u64 n] w fun e w' => e = .returned (.int .u64 (S * 32768 + (Y) * 1024 + (G / 4398046511104))) ∧ Below w.heap.size w w' := by
  have k0 := wide_any
  have kR := rise2_any
  have r0 := row3_new w 34 (.int .i64 2) (.int .i64 5) (.int .i64 10)
  have dw := alloc_below w (.cells #[.int .i64 2, .int .i64 5, .int .i64 10] 34)
  have i1 : IntKind.i64.wrap 42 = 42 := by decide
  have i2 : IntKind.u64.wrap 42 = 42 := by decide
  have fW := fldW2
  have e1 : decide (1008 < X) = true := by simpa using hc
  have e3 : IntKind.u64.wrap (X - 1008) = X - 1008 := by rw [IntKind.wrap_u64]; omega
  have kT := top2_any
  have kJ := fun w => join2_any S Y (G / 4398046511104) hS (by omega) (by omega) w
  clear hc
  clear hS hX hG
  go_enter Tryz.func43, Tryz.ntmps43
  go_wp2_with (first
    | (go_at_call 11; refine (k0 _).mono ?_; rintro e w1 ⟨rfl, b1⟩; have d1 := box_below b1; have q1 := r0.kept b1 r0.lt; clear k0)
    | (go_at_call 21; refine (kS _).mono ?_; rintro e w2 ⟨rfl, b2⟩; have d2 := d1.trans (b2.mono d1.size); have q2 := q1.kept b2 q1.lt))
  have k0 := wide_any
  have pA := row3_new w2 48 (.int .u64 S) (.int .u64 X) (.int .u64 G)
  have dA := d2.alloc d2.size (.cells #[.int .u64 S, .int .u64 X, .int .u64 G] 48)
  have qA := q2.kept (alloc_below w2 (.cells #[.int .u64 S, .int .u64 X, .int .u64 G] 48)) q2.lt
  have ne : w.heap.size ≠ w2.heap.size := Nat.ne_of_lt q2.lt
  generalize w2.alloc (.cells #[.int .u64 S, .int .u64 X, .int .u64 G] 48) = wA at *
  obtain ⟨g0, g1, g2⟩ := qA.at
  obtain ⟨h0, h1, h2⟩ := pA.at
  go_region_held3 (fun wx => (wx.cell? ⟨w.heap.size, 0, none⟩ = some (.int .i64 2) ∧ wx.cell? ⟨w.heap.size, 1, none⟩ = some (.int .i64 5) ∧ wx.cell? ⟨w.heap.size, 2, none⟩ = some (.int .i64 10)) ∧ wx.cell? ⟨w2.heap.size, 0, none⟩ = some (.int .u64 S) ∧ wx.cell? ⟨w2.heap.size, 1, none⟩ = some (.int .u64 X) ∧ wx.cell? ⟨w2.heap.size, 2, none⟩ = some (.int .u64 G)) (first | exact ⟨qA.at, pA.at⟩ | exact ⟨q3.at, p3.at⟩) (
    (go_at_call 11; refine (k0 _).mono ?_; rintro e w3 ⟨rfl, b3⟩; have d3 : Below w.heap.size w w3 := dA.drew.trans (b3.mono dA.size); have q3 : Row3 w3 w.heap.size 34 (.int .i64 2) (.int .i64 5) (.int .i64 10) := Row3.kept (w := wA.drew) qA b3 qA.lt; have p3 : Row3 w3 w2.heap.size 48 (.int .u64 S) (.int .u64 (X)) (.int .u64 (G)) := Row3.kept (w := wA.drew) pA b3 pA.lt))
  clear g0 g1 g2 h0 h1 h2
  obtain ⟨g0, g1, g2⟩ := q3.at
  obtain ⟨h0, h1, h2⟩ := p3.at
  go_wp2
  go_region_held3 (fun wx => (wx.cell? ⟨w.heap.size, 0, none⟩ = some (.int .i64 2) ∧ wx.cell? ⟨w.heap.size, 1, none⟩ = some (.int .i64 5) ∧ wx.cell? ⟨w.heap.size, 2, none⟩ = some (.int .i64 10)) ∧ wx.cell? ⟨w2.heap.size, 0, none⟩ = some (.int .u64 S) ∧ wx.cell? ⟨w2.heap.size, 1, none⟩ = some (.int .u64 X) ∧ wx.cell? ⟨w2.heap.size, 2, none⟩ = some (.int .u64 G)) (first | exact ⟨q3.at, p3.at⟩ | exact ⟨q4.at, p4.at⟩) (
    (go_at_call 60; refine (kR _).mono ?_; rintro e w4 ⟨rfl, b4⟩; have d4 : Below w.heap.size w w4 := d3.drew.trans (b4.mono d3.size); have q4 : Row3 w4 w.heap.size 34 (.int .i64 2) (.int .i64 5) (.int .i64 10) := Row3.kept (w := w3.drew) q3 b4 q3.lt; have p4 : Row3 w4 w2.heap.size 48 (.int .u64 S) (.int .u64 (X)) (.int .u64 (G)) := Row3.kept (w := w3.drew) p3 b4 p3.lt))
  clear g0 g1 g2 h0 h1 h2
  obtain ⟨g0, g1, g2⟩ := q4.at
  obtain ⟨h0, h1, h2⟩ := p4.at
  go_wp2
  go_region_with (first
    | (go_at_call 60; refine (kR _).mono ?_; rintro e w5 ⟨rfl, b5⟩; have d5 : Below w.heap.size w w5 := Below.trans (by exact ⟨d4.os, d4.tape, d4.output, d4.size, d4.block⟩) (b5.mono (by exact d4.size)); have p5 : Row3 w5 w2.heap.size 48 (.int .u64 S) (.int .u64 (X)) (.int .u64 (G)) := Row3.kept (by exact p4) b5 (by exact p4.lt); have q5 : Row3 w5 w.heap.size 34 (.int .i64 2) (.int .i64 5) (.int .i64 10) := Row3.kept (by exact q4) b5 (by exact q4.lt); obtain ⟨l0, l1, l2⟩ := p5.at; obtain ⟨m0, m1, m2⟩ := q5.at)
    | (go_at_call 22; refine (kT _).mono ?_; rintro e w6 ⟨rfl, b6⟩; have d6 : Below w.heap.size w w6 := Below.trans (by exact d5) (b6.mono (by exact d5.size)); have p6 : Row3 w6 w2.heap.size 48 (.int .u64 S) (.int .u64 (X)) (.int .u64 (G)) := Row3.kept (by exact p5) b6 (by exact p5.lt); have q6 : Row3 w6 w.heap.size 34 (.int .i64 2) (.int .i64 5) (.int .i64 10) := Row3.kept (by exact q5) b6 (by exact q5.lt); obtain ⟨n0, n1, n2⟩ := p6.at; obtain ⟨o0, o1, o2⟩ := q6.at; have z1 := p6.fz 1))
  all_goals
    have pb : Row3 (w6.setCell ⟨w2.heap.size, 1, none⟩ (.int .u64 Y)) w2.heap.size 48 (.int .u64 S) (.int .u64 (Y)) (.int .u64 (G)) := p6.put1 _
    have qb : Row3 (w6.setCell ⟨w2.heap.size, 1, none⟩ (.int .u64 Y)) w.heap.size 34 (.int .i64 2) (.int .i64 5) (.int .i64 10) := q6.set ne _
    have db : Below w.heap.size w (w6.setCell ⟨w2.heap.size, 1, none⟩ (.int .u64 Y)) := d6.setCell (Nat.le_of_lt q2.lt) _
    obtain ⟨u0, u1, u2⟩ := pb.at
    obtain ⟨y0, y1, y2⟩ := qb.at
    have uz := pb.fz 2
    have pz := pb.put2 (.int .u64 (G / 4398046511104))
    have qz := qb.set (a := ⟨w2.heap.size, 2, none⟩) ne (.int .u64 (G / 4398046511104))
    have dz : Below w.heap.size w ((w6.setCell ⟨w2.heap.size, 1, none⟩ (.int .u64 Y)).setCell ⟨w2.heap.size, 2, none⟩ (.int .u64 (G / 4398046511104))) := db.setCell (Nat.le_of_lt q2.lt) _
    obtain ⟨v0, v1, v2⟩ := pz.at
    obtain ⟨x0, x1, x2⟩ := qz.at
    go_wp2_with (go_at_call 62; refine (kJ _).mono ?_; rintro e w9 ⟨rfl, b9⟩; have d9 : Below w.heap.size w w9 := dz.trans (b9.mono dz.size))
    go_ret
    exact ⟨by first | rfl | simp, d9⟩
end Go.Proofs.YtjdceigndleadaaGreatDoor
