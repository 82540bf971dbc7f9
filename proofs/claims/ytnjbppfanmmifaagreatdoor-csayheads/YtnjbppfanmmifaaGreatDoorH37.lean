/-
  The nearest bits of 4 bytes: the walk of flt.nearest.
-/
import Derived.Test.YtnjbppfanmmifaaGreatDoorH9
import Derived.Test.YtnjbppfanmmifaaGreatDoorH8
import Derived.Deep.RegionWith
import Derived.Deep.DeepCutAuto
import Derived.Deep.CutBlock
import Derived.Lib.MinMax
namespace Go.Proofs.YtnjbppfanmmifaaGreatDoor
open Go.RowKit
set_option linter.unusedVariables false

set_option maxRecDepth 100000 in
set_option maxHeartbeats 2000000 in
theorem nr4_all (S X G n : Int) (hS : 0 ≤ S ∧ S ≤ 1) (hX : 0 ≤ X ∧ X < 2048) (hG : 0 ≤ G ∧ G < 4503599627370496) (VX VF VD : Int) (Q : Int) (h1 : 896 < X → VX = min (X - 896) 255 ∧ VF = G ∧ VD = 29) (h2 : X ≤ 896 → X ≠ 0 → VX = 0 ∧ VF = G + 4503599627370496 ∧ VD = 926 - X) (h4 : X = 0 → VX = X ∧ VF = G ∧ VD = 29) (hsh : Op.shift .shr .u64 VF .u64 VD = pure (.int .u64 Q)) (hVX : 0 ≤ VX ∧ VX < 256) (hQ : 0 ≤ Q ∧ Q < 8388608) (w : World) (kS : ∀ w, Calls Tryz.prog 189 #[.agg #[.int .i64 8, .int .i64 11, .int .i64 52], .int .u64 n] w fun e w' => e = .returned (.agg #[.int .u64 S, .int .u64 X, .int .u64 G]) ∧ Below w.heap.size w w') :
    Calls Tryz.prog 153 #[.agg #[.int .i64 4, .int .i64 8, .int .i64 23], .int .u64 n] w fun e w' => e = .returned (.int .u64 (S * 2147483648 + (VX) * 8388608 + (Q))) ∧ Below w.heap.size w w' := by
  have k0 := wide_any
  have kR := rise4_any
  have r0 := row3_new w 149 (.int .i64 4) (.int .i64 8) (.int .i64 23)
  have dw := alloc_below w (.cells #[.int .i64 4, .int .i64 8, .int .i64 23] 149)
  have i1 : IntKind.i64.wrap 29 = 29 := by decide
  have i2 : IntKind.u64.wrap 29 = 29 := by decide
  have fW := fldW2
  have kJ := fun w => join4_any S VX Q hS hVX hQ w
  have hX' : Hid (0 ≤ X ∧ X < 2048) := hX
  have hG' : Hid (0 ≤ G ∧ G < 4503599627370496) := hG
  have hv1 : Hid (896 < X → VX = min (X - 896) 255 ∧ VF = G ∧ VD = 29) := h1
  have hv2 : Hid (X ≤ 896 → X ≠ 0 → VX = 0 ∧ VF = G + 4503599627370496 ∧ VD = 926 - X) := h2
  have hv4 : Hid (X = 0 → VX = X ∧ VF = G ∧ VD = 29) := h4
  clear h1 h2 h4 hVX hQ
  clear hS hX hG
  go_enter Tryz.func153, Tryz.ntmps153
  go_wp2_with (first
    | (go_at_call 155; refine (k0 _).mono ?_; rintro e w1 ⟨rfl, b1⟩; have d1 := box_below b1; have q1 := r0.kept b1 r0.lt; clear k0)
    | (go_at_call 189; refine (kS _).mono ?_; rintro e w2 ⟨rfl, b2⟩; have d2 := d1.trans (b2.mono d1.size); have q2 := q1.kept b2 q1.lt))
  have k0 := wide_any
  have pA := row3_new w2 189 (.int .u64 S) (.int .u64 X) (.int .u64 G)
  have dA := d2.alloc d2.size (.cells #[.int .u64 S, .int .u64 X, .int .u64 G] 189)
  have qA := q2.kept (alloc_below w2 (.cells #[.int .u64 S, .int .u64 X, .int .u64 G] 189)) q2.lt
  have ne : w.heap.size ≠ w2.heap.size := Nat.ne_of_lt q2.lt
  generalize w2.alloc (.cells #[.int .u64 S, .int .u64 X, .int .u64 G] 189) = wA at *
  obtain ⟨g0, g1, g2⟩ := qA.at
  obtain ⟨h0, h1, h2⟩ := pA.at
  go_region_held3 (fun wx => (wx.cell? ⟨w.heap.size, 0, none⟩ = some (.int .i64 4) ∧ wx.cell? ⟨w.heap.size, 1, none⟩ = some (.int .i64 8) ∧ wx.cell? ⟨w.heap.size, 2, none⟩ = some (.int .i64 23)) ∧ wx.cell? ⟨w2.heap.size, 0, none⟩ = some (.int .u64 S) ∧ wx.cell? ⟨w2.heap.size, 1, none⟩ = some (.int .u64 X) ∧ wx.cell? ⟨w2.heap.size, 2, none⟩ = some (.int .u64 G)) (first | exact ⟨qA.at, pA.at⟩ | exact ⟨q3.at, p3.at⟩) (
    (go_at_call 155; refine (k0 _).mono ?_; rintro e w3 ⟨rfl, b3⟩; have d3 : Below w.heap.size w w3 := dA.drew.trans (b3.mono dA.size); have q3 : Row3 w3 w.heap.size 149 (.int .i64 4) (.int .i64 8) (.int .i64 23) := Row3.kept (w := wA.drew) qA b3 qA.lt; have p3 : Row3 w3 w2.heap.size 189 (.int .u64 S) (.int .u64 (X)) (.int .u64 (G)) := Row3.kept (w := wA.drew) pA b3 pA.lt))
  clear g0 g1 g2 h0 h1 h2
  obtain ⟨g0, g1, g2⟩ := q3.at
  obtain ⟨h0, h1, h2⟩ := p3.at
  go_upto_block 0 with fail
  go_cut [6] (fun v wx => v = .int .u64 VD ∧ Hid (Row3 wx w.heap.size 149 (.int .i64 4) (.int .i64 8) (.int .i64 23)) ∧ Hid (Row3 wx w2.heap.size 189 (.int .u64 S) (.int .u64 VX) (.int .u64 VF)) ∧ Hid (Below w.heap.size w wx))
  case first =>
    go_wp2_with fail
    go_region_held3 (fun wx => (wx.cell? ⟨w.heap.size, 0, none⟩ = some (.int .i64 4) ∧ wx.cell? ⟨w.heap.size, 1, none⟩ = some (.int .i64 8) ∧ wx.cell? ⟨w.heap.size, 2, none⟩ = some (.int .i64 23)) ∧ wx.cell? ⟨w2.heap.size, 0, none⟩ = some (.int .u64 S) ∧ wx.cell? ⟨w2.heap.size, 1, none⟩ = some (.int .u64 X) ∧ wx.cell? ⟨w2.heap.size, 2, none⟩ = some (.int .u64 G)) (first | exact ⟨q3.at, p3.at⟩ | exact ⟨q4.at, p4.at⟩) (
      (go_at_call 190; refine (kR _).mono ?_; rintro e w4 ⟨rfl, b4⟩; have d4 : Below w.heap.size w w4 := d3.drew.trans (b4.mono d3.size); have q4 : Row3 w4 w.heap.size 149 (.int .i64 4) (.int .i64 8) (.int .i64 23) := Row3.kept (w := w3.drew) q3 b4 q3.lt; have p4 : Row3 w4 w2.heap.size 189 (.int .u64 S) (.int .u64 (X)) (.int .u64 (G)) := Row3.kept (w := w3.drew) p3 b4 p3.lt))
    clear g0 g1 g2 h0 h1 h2
    obtain ⟨g0, g1, g2⟩ := q4.at
    obtain ⟨h0, h1, h2⟩ := p4.at
    by_cases hc : 896 < X
    · have e1 : decide (896 < X) = true := by simpa using hc
      have hXX := hX'.out
      obtain ⟨q1', q2', q3'⟩ := hv1.out hc
      obtain ⟨Y, hY⟩ : ∃ Y, min (X - 896) 255 = Y := ⟨_, rfl⟩
      rw [hY] at q1'
      have e3 : IntKind.u64.wrap (X - 896) = X - 896 := by rw [IntKind.wrap_u64]; omega
      have kT := top4_any
      have q1s := q1'.symm
      have q2s := q2'.symm
      clear q1' q2'
      subst q1s q2s q3'
      clear hXX hv1 hv2 hv4 hsh k0 kS kJ r0 dw i1 i2 fW hX' hG' pA dA qA q3 p3 d3 d1 q1 d2
      try clear b1 b2 b3 b4
      go_wp2
      clear e1 hc
      go_region_with (first
        | (go_at_call 190; refine (kR _).mono ?_; rintro e w5 ⟨rfl, b5⟩; have d5 : Below w.heap.size w w5 := Below.trans (by exact ⟨d4.os, d4.tape, d4.output, d4.size, d4.block⟩) (b5.mono (by exact d4.size)); have p5 : Row3 w5 w2.heap.size 189 (.int .u64 S) (.int .u64 (X)) (.int .u64 (G)) := Row3.kept (by exact p4) b5 (by exact p4.lt); have q5 : Row3 w5 w.heap.size 149 (.int .i64 4) (.int .i64 8) (.int .i64 23) := Row3.kept (by exact q4) b5 (by exact q4.lt); obtain ⟨l0, l1, l2⟩ := p5.at; obtain ⟨m0, m1, m2⟩ := q5.at)
        | (go_at_call 191; refine (kT _).mono ?_; rintro e w6 ⟨rfl, b6⟩; have d6 : Below w.heap.size w w6 := Below.trans (by exact d5) (b6.mono (by exact d5.size)); have p6 : Row3 w6 w2.heap.size 189 (.int .u64 S) (.int .u64 (X)) (.int .u64 (G)) := Row3.kept (by exact p5) b6 (by exact p5.lt); have q6 : Row3 w6 w.heap.size 149 (.int .i64 4) (.int .i64 8) (.int .i64 23) := Row3.kept (by exact q5) b6 (by exact q5.lt); obtain ⟨n0, n1, n2⟩ := p6.at; obtain ⟨o0, o1, o2⟩ := q6.at; have z1 := p6.fz 1))
      all_goals
        go_wp2_with fail
        go_meet
        exact ⟨rfl, q6.set ne _, p6.put1 _, d6.setCell (Nat.le_of_lt q2.lt) _⟩
    have e1 : decide (896 < X) = false := by simpa using hc
    by_cases hc1 : X = 0
    · have e2 : (X != 0) = false := by rw [hc1]; rfl
      obtain ⟨q1', q2', q3'⟩ := hv4.out hc1
      subst q1' q2' q3'
      have p4' : Hid (Row3 w4 w2.heap.size 189 (.int .u64 S) (.int .u64 VX) (.int .u64 VF)) := p4
      have q4' : Hid (Row3 w4 w.heap.size 149 (.int .i64 4) (.int .i64 8) (.int .i64 23)) := q4
      have d4' : Hid (Below w.heap.size w w4) := d4
      clear hc1 hv1 hv2 hv4 hsh
      go_wp2_with fail
      go_meet
      exact ⟨rfl, q4', p4', d4'⟩
    · have e2 : (X != 0) = true := by simpa using hc1
      have hXX := hX'.out
      have hGG := hG'.out
      obtain ⟨q1', q2', q3'⟩ := hv2.out (by omega) hc1
      have i3 : IntKind.u64.wrap 897 = 897 := by decide
      have i4 : IntKind.u64.wrap (897 - X) = 897 - X := by rw [IntKind.wrap_u64]; omega
      obtain ⟨D2, hD2⟩ : ∃ D2, 926 - X = D2 := ⟨_, rfl⟩
      have i5 : IntKind.u64.wrap (29 + (897 - X)) = D2 := by rw [IntKind.wrap_u64]; omega
      have i6 : IntKind.u64.wrap (G + 4503599627370496) = G + 4503599627370496 := by rw [IntKind.wrap_u64]; omega
      have kH := ahead8_any
      rw [hD2] at q3'
      have q3s := q3'.symm
      clear q3'
      subst q1' q2' q3s
      clear hc1 hXX hGG hv1 hv2 hv4 hsh hD2
      go_wp2
      go_region_held3 (fun wx => (wx.cell? ⟨w.heap.size, 0, none⟩ = some (.int .i64 4) ∧ wx.cell? ⟨w.heap.size, 1, none⟩ = some (.int .i64 8) ∧ wx.cell? ⟨w.heap.size, 2, none⟩ = some (.int .i64 23)) ∧ wx.cell? ⟨w2.heap.size, 0, none⟩ = some (.int .u64 S) ∧ wx.cell? ⟨w2.heap.size, 1, none⟩ = some (.int .u64 X) ∧ wx.cell? ⟨w2.heap.size, 2, none⟩ = some (.int .u64 G)) (first | exact ⟨q4.at, p4.at⟩ | exact ⟨q5.at, p5.at⟩) (
        (go_at_call 190; refine (kR _).mono ?_; rintro e w5 ⟨rfl, b5⟩; have d5 : Below w.heap.size w w5 := d4.drew.trans (b5.mono d4.size); have q5 : Row3 w5 w.heap.size 149 (.int .i64 4) (.int .i64 8) (.int .i64 23) := Row3.kept (w := w4.drew) q4 b5 q4.lt; have p5 : Row3 w5 w2.heap.size 189 (.int .u64 S) (.int .u64 (X)) (.int .u64 (G)) := Row3.kept (w := w4.drew) p4 b5 p4.lt))
      clear g0 g1 g2 h0 h1 h2
      obtain ⟨g0, g1, g2⟩ := q5.at
      obtain ⟨h0, h1, h2⟩ := p5.at
      go_wp2
      go_region_with (first
        | (go_at_call 155; refine (k0 _).mono ?_; rintro e w6 ⟨rfl, b6⟩; have d6 : Below w.heap.size w w6 := Below.trans (by exact ⟨d5.os, d5.tape, d5.output, d5.size, d5.block⟩) (b6.mono (by exact d5.size)); have p6 : Row3 w6 w2.heap.size 189 (.int .u64 S) (.int .u64 (X)) (.int .u64 (G)) := Row3.kept (by exact p5) b6 (by exact p5.lt); have q6 : Row3 w6 w.heap.size 149 (.int .i64 4) (.int .i64 8) (.int .i64 23) := Row3.kept (by exact q5) b6 (by exact q5.lt); obtain ⟨l0, l1, l2⟩ := p6.at)
        | (go_at_call 192; refine (kH _).mono ?_; rintro e w7 ⟨rfl, b7⟩; have d7 : Below w.heap.size w w7 := Below.trans (by exact d6) (b7.mono (by exact d6.size)); have p7 : Row3 w7 w2.heap.size 189 (.int .u64 S) (.int .u64 (X)) (.int .u64 (G)) := Row3.kept (by exact p6) b7 (by exact p6.lt); have q7 : Row3 w7 w.heap.size 149 (.int .i64 4) (.int .i64 8) (.int .i64 23) := Row3.kept (by exact q6) b7 (by exact q6.lt); obtain ⟨n0, n1, n2⟩ := p7.at; have z1 := p7.fz 1; have z2 := p7.fz 2))
      all_goals
        have pe := p7.put2 (.int .u64 (G + 4503599627370496))
        obtain ⟨r0, r1, r2⟩ := pe.at
        have rz := pe.fz 1
        go_wp2_with fail
        go_meet
        exact ⟨rfl, (q7.set ne _).set ne _, pe.put1 _, (d7.setCell (Nat.le_of_lt q2.lt) _).setCell (Nat.le_of_lt q2.lt) _⟩
  case rest =>
  obtain ⟨rfl, qb', pb', db'⟩ := hcut
  have qb := qb'.out
  have pb := pb'.out
  have db := db'.out
  clear qb' pb' db' g0 g1 g2 h0 h1 h2
  obtain ⟨u0, u1, u2⟩ := pb.at
  obtain ⟨y0, y1, y2⟩ := qb.at
  have uz := pb.fz 2
  have pz := pb.put2 (.int .u64 Q)
  have qz := qb.set (a := ⟨w2.heap.size, 2, none⟩) ne (.int .u64 Q)
  have dz : Below w.heap.size w (wc.setCell ⟨w2.heap.size, 2, none⟩ (.int .u64 Q)) := db.setCell (Nat.le_of_lt q2.lt) _
  obtain ⟨v0, v1, v2⟩ := pz.at
  obtain ⟨x0, x1, x2⟩ := qz.at
  go_wp2_with (go_at_call 193; refine (kJ _).mono ?_; rintro e w9 ⟨rfl, b9⟩; have d9 : Below w.heap.size w w9 := dz.trans (b9.mono dz.size))
  go_ret
  exact ⟨by first | rfl | simp, d9⟩
end Go.Proofs.YtnjbppfanmmifaaGreatDoor
