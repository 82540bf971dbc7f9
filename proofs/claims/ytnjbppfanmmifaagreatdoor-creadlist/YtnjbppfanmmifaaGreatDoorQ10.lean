/-
  To widen bits of 2 bytes: the walk of flt.widen.
-/
import Derived.Test.YtnjbppfanmmifaaGreatDoorQ9
import Derived.Test.YtnjbppfanmmifaaGreatDoorQ8
import Derived.Deep.RegionWith
import Derived.Deep.DeepCutAuto
import Derived.Deep.CutBlock
namespace Go.Proofs.YtnjbppfanmmifaaGreatDoor
open Go.RowKit
set_option linter.unusedVariables false

set_option maxRecDepth 100000 in
set_option maxHeartbeats 2000000 in
theorem fw2_all (S X G n : Int) (hS : 0 ≤ S ∧ S ≤ 1) (hX : 0 ≤ X ∧ X < 32) (hG : 0 ≤ G ∧ G < 1024) (VX VG : Int) (L : Nat) (M : Int) (h1 : X = 31 → VX = 2047 ∧ VG = G * 4398046511104) (h2 : X ≠ 31 → X ≠ 0 → VX = X + 1008 ∧ VG = G * 4398046511104) (h3 : X = 0 → G ≠ 0 → (VX = 1009 - (L : Int) ∧ VG = M - 4503599627370496) ∧ Lib.bitLen (G * 4398046511104).toNat + L = 53 ∧ (1 ≤ L ∧ L ≤ 52) ∧ G * 4398046511104 * 2 ^ L = M ∧ 4503599627370496 ≤ M ∧ M < 9007199254740992) (h4 : X = 0 → G = 0 → VX = X ∧ VG = G * 4398046511104) (hVX : 0 ≤ VX ∧ VX < 2048) (hVG : 0 ≤ VG ∧ VG < 4503599627370496) (w : World) (kS : ∀ w, Calls Tryz.prog 189 #[.agg #[.int .i64 2, .int .i64 5, .int .i64 10], .int .u64 n] w fun e w' => e = .returned (.agg #[.int .u64 S, .int .u64 X, .int .u64 G]) ∧ Below w.heap.size w w') :
    Calls Tryz.prog 154 #[.agg #[.int .i64 2, .int .i64 5, .int .i64 10], .int .u64 n] w fun e w' => e = .returned (.int .u64 (S * 9223372036854775808 + (VX) * 4503599627370496 + (VG))) ∧ Below w.heap.size w w' := by
  have k0 := wide_any
  have r0 := row3_new w 149 (.int .i64 2) (.int .i64 5) (.int .i64 10)
  have i1 : IntKind.i64.wrap 42 = 42 := by decide
  have v1 : IntKind.u64.wrap (G * 4398046511104) = G * 4398046511104 := by rw [IntKind.wrap_u64]; omega
  have kJ := fun w => join8_any S VX VG hS hVX hVG w
  have kT := top2_any
  have fW := fldW2
  have hX' : Hid (0 ≤ X ∧ X < 32) := hX
  have hG' : Hid (0 ≤ G ∧ G < 1024) := hG
  have hv1 : Hid (X = 31 → VX = 2047 ∧ VG = G * 4398046511104) := h1
  have hv2 : Hid (X ≠ 31 → X ≠ 0 → VX = X + 1008 ∧ VG = G * 4398046511104) := h2
  have hv3 : Hid (X = 0 → G ≠ 0 → (VX = 1009 - (L : Int) ∧ VG = M - 4503599627370496) ∧ Lib.bitLen (G * 4398046511104).toNat + L = 53 ∧ (1 ≤ L ∧ L ≤ 52) ∧ G * 4398046511104 * 2 ^ L = M ∧ 4503599627370496 ≤ M ∧ M < 9007199254740992) := h3
  have hv4 : Hid (X = 0 → G = 0 → VX = X ∧ VG = G * 4398046511104) := h4
  clear h1 h2 h3 h4 hVX hVG
  clear hS hX hG
  go_enter Tryz.func154, Tryz.ntmps154
  go_wp2
  go_region_held3 (fun wx => wx.cell? ⟨w.heap.size, 0, none⟩ = some (.int .i64 2) ∧ wx.cell? ⟨w.heap.size, 1, none⟩ = some (.int .i64 5) ∧ wx.cell? ⟨w.heap.size, 2, none⟩ = some (.int .i64 10)) (first | exact r0.at | exact q1.at) (
    (go_at_call 155; refine (k0 _).mono ?_; rintro e w1 ⟨rfl, b1⟩; have d1 := box_drew b1; have q1 := Row3.kept (w := (w.alloc (.cells #[.int .i64 2, .int .i64 5, .int .i64 10] 149)).drew) r0 b1 (alloc_lt _ _)))
  obtain ⟨c0, c1, c2⟩ := q1.at
  go_wp2_with (go_at_call 189; refine (kS _).mono ?_; rintro e w2 ⟨rfl, b2⟩; have d2 := d1.trans (b2.mono d1.size); have q2 := q1.kept b2 q1.lt)
  have pA := row3_new w2 189 (.int .u64 S) (.int .u64 X) (.int .u64 G)
  have dA := d2.alloc d2.size (.cells #[.int .u64 S, .int .u64 X, .int .u64 G] 189)
  have qA := q2.kept (alloc_below w2 (.cells #[.int .u64 S, .int .u64 X, .int .u64 G] 189)) q2.lt
  have ne : w.heap.size ≠ w2.heap.size := Nat.ne_of_lt q2.lt
  obtain ⟨g0, g1, g2⟩ := qA.at
  go_cut [] (fun wx => Hid (Row3 wx w.heap.size 149 (.int .i64 2) (.int .i64 5) (.int .i64 10)) ∧ Hid (Row3 wx w2.heap.size 189 (.int .u64 S) (.int .u64 X) (.int .u64 (G * 4398046511104))) ∧ Hid (Below w.heap.size w wx))
  case first =>
    go_region_with (first | (go_at_call 155; refine (k0 _).mono ?_; rintro e w3 ⟨rfl, b3⟩; have d3 : Below w.heap.size w w3 := Below.trans (by exact ⟨dA.os, dA.tape, dA.output, dA.size, dA.block⟩) (b3.mono (by exact dA.size)); have p3 : Row3 w3 w2.heap.size 189 (.int .u64 S) (.int .u64 X) (.int .u64 G) := Row3.kept (by exact pA) b3 (by exact pA.lt); have q3 : Row3 w3 w.heap.size 149 (.int .i64 2) (.int .i64 5) (.int .i64 10) := Row3.kept (by exact qA) b3 (by exact qA.lt); obtain ⟨j0, j1, j2⟩ := p3.at; obtain ⟨l0, l1, l2⟩ := q3.at; have z2 := p3.fz 2))
    all_goals
      go_wp2_with fail
      go_meet
      exact ⟨q3.set ne _, p3.put2 _, d3.setCell (Nat.le_of_lt q2.lt) _⟩
  case rest =>
    obtain ⟨q4, p4, d4⟩ := hcut
    obtain ⟨o0, o1, o2⟩ := p4.out.at
    obtain ⟨t0, t1, t2⟩ := q4.out.at
    go_upto_block 0 with fail
    go_cut [] (fun wx => Hid (Row3 wx w2.heap.size 189 (.int .u64 S) (.int .u64 VX) (.int .u64 VG)) ∧ Hid (Below w.heap.size w wx))
    case first =>
      go_wp2_with fail
      go_region_held3 (fun wx => (wx.cell? ⟨w.heap.size, 0, none⟩ = some (.int .i64 2) ∧ wx.cell? ⟨w.heap.size, 1, none⟩ = some (.int .i64 5) ∧ wx.cell? ⟨w.heap.size, 2, none⟩ = some (.int .i64 10)) ∧ wx.cell? ⟨w2.heap.size, 0, none⟩ = some (.int .u64 S) ∧ wx.cell? ⟨w2.heap.size, 1, none⟩ = some (.int .u64 X) ∧ wx.cell? ⟨w2.heap.size, 2, none⟩ = some (.int .u64 (G * 4398046511104))) (first | exact ⟨q4.out.at, p4.out.at⟩ | exact ⟨q5.at, p5.at⟩) (
        (go_at_call 191; refine (kT _).mono ?_; rintro e w5 ⟨rfl, b5⟩; have d5 : Below w.heap.size w w5 := d4.out.drew.trans (b5.mono d4.out.size); have q5 : Row3 w5 w.heap.size 149 (.int .i64 2) (.int .i64 5) (.int .i64 10) := Row3.kept (w := wc.drew) q4.out b5 q4.out.lt; have p5 : Row3 w5 w2.heap.size 189 (.int .u64 S) (.int .u64 X) (.int .u64 (G * 4398046511104)) := Row3.kept (w := wc.drew) p4.out b5 p4.out.lt))
      clear o0 o1 o2 t0 t1 t2
      obtain ⟨o0, o1, o2⟩ := p5.at
      obtain ⟨t0, t1, t2⟩ := q5.at
      by_cases hc : X = 31
      · obtain ⟨q1', q2'⟩ := hv1.out hc
        subst q1' q2'
        have e1 : (X == 31) = true := by simpa using hc
        have k8 := top8_any
        clear hc hv1 hv2 hv3 hv4
        go_wp2_with (first
          | (go_at_call 155; refine (k0 _).mono ?_; rintro e w6 ⟨rfl, b6⟩; have d6 : Below w.heap.size w w6 := d5.trans (b6.mono d5.size); have p6 := p5.kept b6 p5.lt; clear k0)
          | (go_at_call 191; refine (k8 _).mono ?_; rintro e w7 ⟨rfl, b7⟩; have d7 : Below w.heap.size w w7 := d6.trans (b7.mono d6.size); have p7 := p6.kept b7 p6.lt; obtain ⟨y0, y1, y2⟩ := p7.at; have z1 := p7.fz 1))
        go_meet
        exact ⟨p7.put1 _, d7.setCell (Nat.le_of_lt q2.lt) _⟩
      have e1 : (X == 31) = false := by simpa using hc
      by_cases hc1 : X = 0
      · have e2 : (X != 0) = false := by rw [hc1]; rfl
        by_cases hc2 : G = 0
        · obtain ⟨q1', q2'⟩ := hv4.out hc1 hc2
          subst q1' q2'
          have e3 : (G * 4398046511104 != 0) = false := by rw [hc2]; rfl
          have p5' : Hid (Row3 w5 w2.heap.size 189 (.int .u64 S) (.int .u64 VX) (.int .u64 (G * 4398046511104))) := p5
          have d5' : Hid (Below w.heap.size w w5) := d5
          clear hc hc1 hc2 hv1 hv2 hv3 hv4
          go_wp2_with fail
          go_meet
          exact ⟨p5', d5'⟩
        · obtain ⟨⟨q1', q2'⟩, hL, hL1, hM, hM1⟩ := hv3.out hc1 hc2
          have hGG := hG'.out
          have e3 : (G * 4398046511104 != 0) = true := by simp; omega
          have kR := rise2_any
          have kH := ahead8_any
          have kL1 : ∀ w, Calls Tryz.prog 194 #[.int .u64 4503599627370496] w fun e w' => e = .returned (.int .i64 53) ∧ w' = w := fun w => len_any 4503599627370496 (by decide) (by decide) w
          obtain ⟨Lb, hLb⟩ : ∃ Lb, Lib.bitLen (G * 4398046511104).toNat = Lb := ⟨_, rfl⟩
          have kL2 : ∀ w, Calls Tryz.prog 194 #[.int .u64 (G * 4398046511104)] w fun e w' => e = .returned (.int .i64 (Lb : Nat)) ∧ w' = w := fun w => by have h := len_any (G * 4398046511104) (by omega) (by omega) w; rw [hLb] at h; exact h
          have v2 : IntKind.i64.wrap (53 - (Lb : Int)) = (L : Int) := by rw [IntKind.wrap_i64]; omega
          have v3 : IntKind.u64.wrap (L : Int) = (L : Int) := by rw [IntKind.wrap_u64]; omega
          have v4 : IntKind.u64.wrap (1009 - (L : Int)) = 1009 - (L : Int) := by rw [IntKind.wrap_u64]; omega
          have v5 : IntKind.u64.wrap (G * 4398046511104 * 2 ^ L) = M := by rw [IntKind.wrap_u64, hM]; omega
          have v6 : IntKind.u64.wrap (M - 4503599627370496) = M - 4503599627370496 := by rw [IntKind.wrap_u64]; omega
          have v7 : IntKind.u64.wrap 1009 = 1009 := by decide
          have l1 : (0 : Int) ≤ (L : Int) := by omega
          have l2 : (L : Int) ≤ 64 := by omega
          subst q1' q2'
          clear hc hc1 hc2 hv1 hv2 hv3 hv4 hL hL1 hM hM1 hLb hGG
          go_wp2
          go_region_held3 (fun wx => (wx.cell? ⟨w.heap.size, 0, none⟩ = some (.int .i64 2) ∧ wx.cell? ⟨w.heap.size, 1, none⟩ = some (.int .i64 5) ∧ wx.cell? ⟨w.heap.size, 2, none⟩ = some (.int .i64 10)) ∧ wx.cell? ⟨w2.heap.size, 0, none⟩ = some (.int .u64 S) ∧ wx.cell? ⟨w2.heap.size, 1, none⟩ = some (.int .u64 X) ∧ wx.cell? ⟨w2.heap.size, 2, none⟩ = some (.int .u64 (G * 4398046511104))) (first | exact ⟨q5.at, p5.at⟩ | exact ⟨q6.at, p6.at⟩ | exact ⟨q7.at, p7.at⟩) (first
            | (go_at_call 155; refine (k0 _).mono ?_; rintro e w6 ⟨rfl, b6⟩; have d6 : Below w.heap.size w w6 := d5.drew.trans (b6.mono d5.size); have q6 : Row3 w6 w.heap.size 149 (.int .i64 2) (.int .i64 5) (.int .i64 10) := Row3.kept (w := w5.drew) q5 b6 q5.lt; have p6 : Row3 w6 w2.heap.size 189 (.int .u64 S) (.int .u64 X) (.int .u64 (G * 4398046511104)) := Row3.kept (w := w5.drew) p5 b6 p5.lt)
            | (go_at_call 192; refine (kH _).mono ?_; rintro e w7 ⟨rfl, b7⟩; have d7 : Below w.heap.size w w7 := d6.trans (b7.mono d6.size); have q7 := q6.kept b7 q6.lt; have p7 := p6.kept b7 p6.lt)
            | (go_at_call 194; refine (kL1 _).mono ?_; rintro e wl ⟨rfl, hwl⟩; rw [hwl]; clear hwl kL1)
            | (go_at_call 194; refine (kL2 _).mono ?_; rintro e wl ⟨rfl, hwl⟩; rw [hwl]; clear hwl kL2))
          clear o0 o1 o2 t0 t1 t2
          obtain ⟨o0, o1, o2⟩ := p7.at
          obtain ⟨t0, t1, t2⟩ := q7.at
          go_wp2_with (go_at_call 190; refine (kR _).mono ?_; rintro e w8 ⟨rfl, b8⟩; have da : Below w.heap.size w w8 := d7.trans (b8.mono d7.size); have qa := q7.kept b8 q7.lt; have pa := p7.kept b8 p7.lt; obtain ⟨a0, a1, a2⟩ := pa.at; have az := pa.fz 1)
          have pb := pa.put1 (.int .u64 (1009 - (L : Int)))
          have qb := qa.set (a := ⟨w2.heap.size, 1, none⟩) ne (.int .u64 (1009 - (L : Int)))
          have db : Below w.heap.size w (w8.setCell ⟨w2.heap.size, 1, none⟩ (.int .u64 (1009 - (L : Int)))) := da.setCell (Nat.le_of_lt q2.lt) _
          generalize w8.setCell ⟨w2.heap.size, 1, none⟩ (.int .u64 (1009 - (L : Int))) = wb at *
          clear o0 o1 o2 t0 t1 t2 a0 a1 a2 az
          obtain ⟨o0, o1, o2⟩ := pb.at
          obtain ⟨t0, t1, t2⟩ := qb.at
          go_region_with (first
            | (go_at_call 155; refine (k0 _).mono ?_; rintro e wd ⟨rfl, bd⟩; have dd : Below w.heap.size w wd := Below.trans (by exact ⟨db.os, db.tape, db.output, db.size, db.block⟩) (bd.mono (by exact db.size)); have pd : Row3 wd w2.heap.size 189 (.int .u64 S) (.int .u64 (1009 - (L : Int))) (.int .u64 (G * 4398046511104)) := Row3.kept (by exact pb) bd (by exact pb.lt); obtain ⟨x0, x1, x2⟩ := pd.at)
            | (go_at_call 192; refine (kH _).mono ?_; rintro e we ⟨rfl, be⟩; have de : Below w.heap.size w we := Below.trans (by exact dd) (be.mono (by exact dd.size)); have pe : Row3 we w2.heap.size 189 (.int .u64 S) (.int .u64 (1009 - (L : Int))) (.int .u64 (G * 4398046511104)) := Row3.kept (by exact pd) be (by exact pd.lt); obtain ⟨y0, y1, y2⟩ := pe.at; have z2 := pe.fz 2))
          all_goals
            go_wp2_with fail
            go_meet
            exact ⟨pe.put2 _, de.setCell (Nat.le_of_lt q2.lt) _⟩
      · obtain ⟨q1', q2'⟩ := hv2.out hc hc1
        subst q1' q2'
        have e2 : (X != 0) = true := by simpa using hc1
        have kR := rise2_any
        have v2 : IntKind.u64.wrap (X + 1008) = X + 1008 := by have := hX'.out; rw [IntKind.wrap_u64]; omega
        clear hc hc1 hv1 hv2 hv3 hv4
        go_wp2
        go_region_with (first | (go_at_call 190; refine (kR _).mono ?_; rintro e w6 ⟨rfl, b6⟩; have d6 : Below w.heap.size w w6 := Below.trans (by exact ⟨d5.os, d5.tape, d5.output, d5.size, d5.block⟩) (b6.mono (by exact d5.size)); have p6 : Row3 w6 w2.heap.size 189 (.int .u64 S) (.int .u64 X) (.int .u64 (G * 4398046511104)) := Row3.kept (by exact p5) b6 (by exact p5.lt); have q6 : Row3 w6 w.heap.size 149 (.int .i64 2) (.int .i64 5) (.int .i64 10) := Row3.kept (by exact q5) b6 (by exact q5.lt); obtain ⟨x0, x1, x2⟩ := p6.at; obtain ⟨y0, y1, y2⟩ := q6.at; have z1 := p6.fz 1))
        all_goals
          go_wp2_with fail
          go_meet
          exact ⟨p6.put1 _, d6.setCell (Nat.le_of_lt q2.lt) _⟩
    case rest =>
    obtain ⟨p8, d8⟩ := hcut
    clear o0 o1 o2 t0 t1 t2
    obtain ⟨m0, m1, m2⟩ := p8.out.at
    go_wp2
    go_region_held3 (fun wx => wx.cell? ⟨w2.heap.size, 0, none⟩ = some (.int .u64 S) ∧ wx.cell? ⟨w2.heap.size, 1, none⟩ = some (.int .u64 VX) ∧ wx.cell? ⟨w2.heap.size, 2, none⟩ = some (.int .u64 VG)) (first | exact p8.out.at | exact p9.at | exact p10.at) (first
      | (go_at_call 155; refine (k0 _).mono ?_; rintro e w9 ⟨rfl, b9⟩; have d9 : Below w.heap.size w w9 := d8.out.drew.trans (b9.mono d8.out.size); have p9 : Row3 w9 w2.heap.size 189 (.int .u64 S) (.int .u64 VX) (.int .u64 VG) := Row3.kept (w := wc.drew) p8.out b9 p8.out.lt)
      | (go_at_call 193; refine (kJ _).mono ?_; rintro e w10 ⟨rfl, b10⟩; have d10 : Below w.heap.size w w10 := d9.trans (b10.mono d9.size); have p10 := p9.kept b10 p9.lt))
    go_wp2
    go_ret
    exact ⟨rfl, d10⟩
end Go.Proofs.YtnjbppfanmmifaaGreatDoor
