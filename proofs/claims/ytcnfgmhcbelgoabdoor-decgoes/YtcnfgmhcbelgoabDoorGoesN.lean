/-
  The order of three numbers, walked (N).
-/
import Derived.Test.YtcnfgmhcbelgoabDoorGoes
namespace Go.Proofs.YtcnfgmhcbelgoabDoor
open Go.RowKit
set_option linter.unusedVariables false
set_option maxRecDepth 100000 in
set_option maxHeartbeats 2000000 in
theorem goes_N (n0 : Bool) (s0 : ByteArray) (x0 : Int) (n1 : Bool) (s1 : ByteArray) (x1 : Int) (n2 : Bool) (s2 : ByteArray) (x2 : Int) (w : World) (Y Z f g : Int)
    (k1 : ∀ wx, Calls Tryd.prog 4 #[.agg #[.bool n0, .string s0, .int .i64 x0], .agg #[.bool n1, .string s1, .int .i64 x1]] wx fun e w' => e = .returned (.tuple #[.int .i64 0, .int .i64 1]) ∧ Below wx.heap.size wx w')
    (k2 : ∀ wx, Calls Tryd.prog 4 #[.agg #[.bool n1, .string s1, .int .i64 x1], .agg #[.bool n2, .string s2, .int .i64 x2]] wx fun e w' => e = .returned (.tuple #[.int .i64 Y, .int .i64 f]) ∧ Below wx.heap.size wx w')
    (k3 : ∀ wx, Calls Tryd.prog 4 #[.agg #[.bool n0, .string s0, .int .i64 x0], .agg #[.bool n2, .string s2, .int .i64 x2]] wx fun e w' => e = .returned (.tuple #[.int .i64 Z, .int .i64 g]) ∧ Below wx.heap.size wx w')
    (k4 : ∀ wx, Calls Tryd.prog 4 #[.agg #[.bool n1, .string s1, .int .i64 x1], .agg #[.bool n0, .string s0, .int .i64 x0]] wx fun e w' => e = .returned (.tuple #[.int .i64 0, .int .i64 1]) ∧ Below wx.heap.size wx w')
    (kA : ∀ wx, Below w.heap.size w wx → Calls Tryd.prog 5 #[] wx fun e w' => e = .returned (.bool true) ∧ Below wx.heap.size wx w') :
    Calls Tryd.prog 3 #[.agg #[.bool n0, .string s0, .int .i64 x0], .agg #[.bool n1, .string s1, .int .i64 x1], .agg #[.bool n2, .string s2, .int .i64 x2]] w fun e w' => e = .returned (.bool true) ∧ Below w.heap.size w w' := by
  obtain ⟨t1, t2, t3, -, -⟩ := thr_new w (n0, s0, x0) (n1, s1, x1) (n2, s2, x2)
  have hT0 : Hid (Thr w (((w.alloc (.cells #[.bool n0, .string s0, .int .i64 x0] 23)).alloc (.cells #[.bool n1, .string s1, .int .i64 x1] 23)).alloc (.cells #[.bool n2, .string s2, .int .i64 x2] 23)) (n0, s0, x0) (n1, s1, x1) (n2, s2, x2)) := thr_new w (n0, s0, x0) (n1, s1, x1) (n2, s2, x2)
  obtain ⟨a0, a1, a2⟩ := t1.at
  obtain ⟨b0, b1, b2⟩ := t2.at
  obtain ⟨c0, c1, c2⟩ := t3.at
  dsimp only at a0 a1 a2 b0 b1 b2 c0 c1 c2
  clear t1 t2 t3
  have kA' : Hid (∀ wx, Below w.heap.size w wx → Calls Tryd.prog 5 #[] wx fun e w' => e = .returned (.bool true) ∧ Below wx.heap.size wx w') := kA
  clear kA
  go_enter Tryd.func3, Tryd.ntmps3
  go_wp2_with fail
  refine (k1 _).mono ?_
  rintro e z1 ⟨rfl, q1⟩
  have hT1 : Hid (Thr w z1 (n0, s0, x0) (n1, s1, x1) (n2, s2, x2)) := hT0.out.on q1
  clear hT0 q1
  have v1 := hT1.out
  obtain ⟨p0_1, p1_1, p2_1⟩ := v1.1.at
  obtain ⟨r0_1, r1_1, r2_1⟩ := v1.2.1.at
  obtain ⟨u0_1, u1_1, u2_1⟩ := v1.2.2.1.at
  dsimp only at p0_1 p1_1 p2_1 r0_1 r1_1 r2_1 u0_1 u1_1 u2_1
  clear v1
  go_wp2_with fail
  refine (k2 _).mono ?_
  rintro e z2 ⟨rfl, q2⟩
  have hT2 : Hid (Thr w z2 (n0, s0, x0) (n1, s1, x1) (n2, s2, x2)) := hT1.out.on q2
  clear hT1 q2
  have v2 := hT2.out
  obtain ⟨p0_2, p1_2, p2_2⟩ := v2.1.at
  obtain ⟨r0_2, r1_2, r2_2⟩ := v2.2.1.at
  obtain ⟨u0_2, u1_2, u2_2⟩ := v2.2.2.1.at
  dsimp only at p0_2 p1_2 p2_2 r0_2 r1_2 r2_2 u0_2 u1_2 u2_2
  clear v2
  go_wp2_with fail
  refine (k3 _).mono ?_
  rintro e z3 ⟨rfl, q3⟩
  have hT3 : Hid (Thr w z3 (n0, s0, x0) (n1, s1, x1) (n2, s2, x2)) := hT2.out.on q3
  clear hT2 q3
  have v3 := hT3.out
  obtain ⟨p0_3, p1_3, p2_3⟩ := v3.1.at
  obtain ⟨r0_3, r1_3, r2_3⟩ := v3.2.1.at
  obtain ⟨u0_3, u1_3, u2_3⟩ := v3.2.2.1.at
  dsimp only at p0_3 p1_3 p2_3 r0_3 r1_3 r2_3 u0_3 u1_3 u2_3
  clear v3
  go_wp2_with fail
  refine (k4 _).mono ?_
  rintro e z4 ⟨rfl, q4⟩
  have hT4 : Hid (Thr w z4 (n0, s0, x0) (n1, s1, x1) (n2, s2, x2)) := hT3.out.on q4
  clear hT3 q4
  have v4 := hT4.out
  obtain ⟨p0_4, p1_4, p2_4⟩ := v4.1.at
  obtain ⟨r0_4, r1_4, r2_4⟩ := v4.2.1.at
  obtain ⟨u0_4, u1_4, u2_4⟩ := v4.2.2.1.at
  dsimp only at p0_4 p1_4 p2_4 r0_4 r1_4 r2_4 u0_4 u1_4 u2_4
  clear v4
  have hb4 : Hid (Below w.heap.size w z4) := hT4.out.2.2.2.1
  go_wp2_with (go_at_call 5; refine (kA'.out _ hb4.out).mono ?_; rintro e x9 ⟨rfl, b9⟩)
  go_ret
  exact ⟨rfl, hb4.out.trans (b9.mono hb4.out.size)⟩
end Go.Proofs.YtcnfgmhcbelgoabDoor
