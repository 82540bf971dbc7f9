/-
  To widen bits of 4 bytes: an exponent that is not 0.
-/
import Derived.Test.YtjdceigndleadaaGreatDoorFspl
import Derived.Test.YtjdceigndleadaaGreatDoorFsm
import Derived.Deep.RegionWith
import Derived.Deep.DeepCutAuto
namespace Go.Proofs.YtjdceigndleadaaGreatDoor
open Go.RowKit
set_option linter.unusedVariables false

set_option maxRecDepth 100000 in
set_option maxHeartbeats 2000000 in
theorem fw4_mid (S X G n : Int) (hS : 0 ≤ S ∧ S ≤ 1) (hX : 0 ≤ X ∧ X < 256) (hG : 0 ≤ G ∧ G < 8388608) (hc : X ≠ 255) (hc1 : X ≠ 0) (w : World) (kS : ∀ w, Calls Tryz.prog 21 #[.agg #[.int .i64 4, .int .i64 8, .int .i64 23], .int .u64 n] w fun e w' => e = .returned (.agg #[.int .u64 S, .int .u64 X, .int .u64 G]) ∧ Below w.heap.size w w') :
    Calls Tryz.prog 42 #[.agg #[.int .i64 4, .int .i64 8, .int .i64 23], .int .u64 n] w fun e w' => e = .returned (.int .u64 (S * 9223372036854775808 + (X + 896) * 4503599627370496 + (G * 536870912))) ∧ Below w.heap.size w w' := by
  have k0 := wide_any
  have r0 := row3_new w 34 (.int .i64 4) (.int .i64 8) (.int .i64 23)
  have i1 : IntKind.i64.wrap 29 = 29 := by decide
  have v1 : IntKind.u64.wrap (G * 536870912) = G * 536870912 := by rw [IntKind.wrap_u64]; omega
  have e1 : (X == 255) = false := by simpa using hc
  have e2 : (X != 0) = true := by simpa using hc1
  have kR := rise4_any
  have v2 : IntKind.u64.wrap (X + 896) = X + 896 := by rw [IntKind.wrap_u64]; omega
  have kJ := fun w => join8_any S (X + 896) (G * 536870912) hS (by omega) (by omega) w
  have kT := top4_any
  have fW := fldW2
  clear hc hc1
  clear hS hX hG
  go_enter Tryz.func42, Tryz.ntmps42
  go_wp2
  go_region_held3 (fun wx => wx.cell? ⟨w.heap.size, 0, none⟩ = some (.int .i64 4) ∧ wx.cell? ⟨w.heap.size, 1, none⟩ = some (.int .i64 8) ∧ wx.cell? ⟨w.heap.size, 2, none⟩ = some (.int .i64 23)) (first | exact r0.at | exact q1.at) (
    (go_at_call 11; refine (k0 _).mono ?_; rintro e w1 ⟨rfl, b1⟩; have d1 := box_drew b1; have q1 := Row3.kept (w := (w.alloc (.cells #[.int .i64 4, .int .i64 8, .int .i64 23] 34)).drew) r0 b1 (alloc_lt _ _)))
  obtain ⟨c0, c1, c2⟩ := q1.at
  go_wp2_with (go_at_call 21; refine (kS _).mono ?_; rintro e w2 ⟨rfl, b2⟩; have d2 := d1.trans (b2.mono d1.size); have q2 := q1.kept b2 q1.lt)
  have pA := row3_new w2 48 (.int .u64 S) (.int .u64 X) (.int .u64 G)
  have dA := d2.alloc d2.size (.cells #[.int .u64 S, .int .u64 X, .int .u64 G] 48)
  have qA := q2.kept (alloc_below w2 (.cells #[.int .u64 S, .int .u64 X, .int .u64 G] 48)) q2.lt
  have ne : w.heap.size ≠ w2.heap.size := Nat.ne_of_lt q2.lt
  obtain ⟨g0, g1, g2⟩ := qA.at
  go_cut [] (fun wx => Hid (Row3 wx w.heap.size 34 (.int .i64 4) (.int .i64 8) (.int .i64 23)) ∧ Hid (Row3 wx w2.heap.size 48 (.int .u64 S) (.int .u64 X) (.int .u64 (G * 536870912))) ∧ Hid (Below w.heap.size w wx))
  case first =>
    go_region_with (first | (go_at_call 11; refine (k0 _).mono ?_; rintro e w3 ⟨rfl, b3⟩; have d3 : Below w.heap.size w w3 := Below.trans (by exact ⟨dA.os, dA.tape, dA.output, dA.size, dA.block⟩) (b3.mono (by exact dA.size)); have p3 : Row3 w3 w2.heap.size 48 (.int .u64 S) (.int .u64 X) (.int .u64 G) := Row3.kept (by exact pA) b3 (by exact pA.lt); have q3 : Row3 w3 w.heap.size 34 (.int .i64 4) (.int .i64 8) (.int .i64 23) := Row3.kept (by exact qA) b3 (by exact qA.lt); obtain ⟨j0, j1, j2⟩ := p3.at; obtain ⟨l0, l1, l2⟩ := q3.at; have z2 := p3.fz 2))
    all_goals
      go_wp2_with fail
      go_meet
      exact ⟨q3.set ne _, p3.put2 _, d3.setCell (Nat.le_of_lt q2.lt) _⟩
  case rest =>
    obtain ⟨q4, p4, d4⟩ := hcut
    obtain ⟨o0, o1, o2⟩ := p4.out.at
    obtain ⟨t0, t1, t2⟩ := q4.out.at
    go_wp2
    go_region_held3 (fun wx => (wx.cell? ⟨w.heap.size, 0, none⟩ = some (.int .i64 4) ∧ wx.cell? ⟨w.heap.size, 1, none⟩ = some (.int .i64 8) ∧ wx.cell? ⟨w.heap.size, 2, none⟩ = some (.int .i64 23)) ∧ wx.cell? ⟨w2.heap.size, 0, none⟩ = some (.int .u64 S) ∧ wx.cell? ⟨w2.heap.size, 1, none⟩ = some (.int .u64 X) ∧ wx.cell? ⟨w2.heap.size, 2, none⟩ = some (.int .u64 (G * 536870912))) (first | exact ⟨q4.out.at, p4.out.at⟩ | exact ⟨q5.at, p5.at⟩) (
      (go_at_call 22; refine (kT _).mono ?_; rintro e w5 ⟨rfl, b5⟩; have d5 : Below w.heap.size w w5 := d4.out.drew.trans (b5.mono d4.out.size); have q5 : Row3 w5 w.heap.size 34 (.int .i64 4) (.int .i64 8) (.int .i64 23) := Row3.kept (w := wc.drew) q4.out b5 q4.out.lt; have p5 : Row3 w5 w2.heap.size 48 (.int .u64 S) (.int .u64 X) (.int .u64 (G * 536870912)) := Row3.kept (w := wc.drew) p4.out b5 p4.out.lt))
    clear o0 o1 o2 t0 t1 t2
    obtain ⟨o0, o1, o2⟩ := p5.at
    obtain ⟨t0, t1, t2⟩ := q5.at
    go_wp2
    go_region_with (first | (go_at_call 60; refine (kR _).mono ?_; rintro e w6 ⟨rfl, b6⟩; have d6 : Below w.heap.size w w6 := Below.trans (by exact ⟨d5.os, d5.tape, d5.output, d5.size, d5.block⟩) (b6.mono (by exact d5.size)); have p6 : Row3 w6 w2.heap.size 48 (.int .u64 S) (.int .u64 X) (.int .u64 (G * 536870912)) := Row3.kept (by exact p5) b6 (by exact p5.lt); have q6 : Row3 w6 w.heap.size 34 (.int .i64 4) (.int .i64 8) (.int .i64 23) := Row3.kept (by exact q5) b6 (by exact q5.lt); obtain ⟨x0, x1, x2⟩ := p6.at; obtain ⟨y0, y1, y2⟩ := q6.at; have z1 := p6.fz 1))
    all_goals
      have p8 : Hid (Row3 ((w6.setCell ⟨w2.heap.size, 1, none⟩ (.int .u64 (X + 896)))) w2.heap.size 48 (.int .u64 S) (.int .u64 (X + 896)) (.int .u64 (G * 536870912))) := p6.put1 _
      have d8 : Hid (Below w.heap.size w ((w6.setCell ⟨w2.heap.size, 1, none⟩ (.int .u64 (X + 896))))) := d6.setCell (Nat.le_of_lt q2.lt) _
      obtain ⟨m0, m1, m2⟩ := p8.out.at
      go_wp2
      go_region_held3 (fun wx => wx.cell? ⟨w2.heap.size, 0, none⟩ = some (.int .u64 S) ∧ wx.cell? ⟨w2.heap.size, 1, none⟩ = some (.int .u64 (X + 896)) ∧ wx.cell? ⟨w2.heap.size, 2, none⟩ = some (.int .u64 (G * 536870912))) (first | exact p8.out.at | exact p9.at | exact p10.at) (first
        | (go_at_call 11; refine (k0 _).mono ?_; rintro e w9 ⟨rfl, b9⟩; have d9 : Below w.heap.size w w9 := d8.out.drew.trans (b9.mono d8.out.size); have p9 : Row3 w9 w2.heap.size 48 (.int .u64 S) (.int .u64 (X + 896)) (.int .u64 (G * 536870912)) := Row3.kept (w := (w6.setCell ⟨w2.heap.size, 1, none⟩ (.int .u64 (X + 896))).drew) p8.out b9 p8.out.lt)
        | (go_at_call 62; refine (kJ _).mono ?_; rintro e w10 ⟨rfl, b10⟩; have d10 : Below w.heap.size w w10 := d9.trans (b10.mono d9.size); have p10 := p9.kept b10 p9.lt))
      go_wp2
      go_ret
      exact ⟨rfl, d10⟩
end Go.Proofs.YtjdceigndleadaaGreatDoor
