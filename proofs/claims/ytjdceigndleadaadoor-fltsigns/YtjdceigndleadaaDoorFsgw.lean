/-
  The sign turns only the number's sign: the walks.
-/
import Derived.Test.YtjdceigndleadaaDoorFsig
import Derived.Test.YtjdceigndleadaaDoorFalive
namespace Go.Proofs.YtjdceigndleadaaDoor
open Go.RowKit

set_option maxRecDepth 100000 in
set_option maxHeartbeats 2000000 in
theorem sg_nonetrue (n m : Int)  (w : World) (hx : bits .xor .u64 n 9223372036854775808 = m)
    (k1 : ∀ wx, Below w.heap.size w wx → Calls Tryd.prog 13 #[.int .u64 n] wx fun e w' => e = .returned (.tuple #[.agg #[.bool false, .string ⟨#[]⟩, .int .i64 0], .int .i64 12]) ∧ Below wx.heap.size wx w')
    (k2 : ∀ wx, Below w.heap.size w wx → Calls Tryd.prog 13 #[.int .u64 m] wx fun e w' => e = .returned (.tuple #[.agg #[.bool false, .string ⟨#[]⟩, .int .i64 0], .int .i64 12]) ∧ Below wx.heap.size wx w')
    (kn : ∀ wx, Calls Tryd.prog 16 #[.int .u64 n] wx fun e w' => e = .returned (.bool true) ∧ Below wx.heap.size wx w')
    (km : ∀ wx, Calls Tryd.prog 16 #[.int .u64 m] wx fun e w' => e = .returned (.bool false) ∧ Below wx.heap.size wx w')
    (kA : Hid (∀ wx, Below w.heap.size w wx → Calls Tryd.prog 10 #[] wx fun e w' => e = .returned (.bool true) ∧ Below wx.heap.size wx w')) :
    Calls Tryd.prog 7 #[.int .u64 n] w fun e w' => e = .returned (.bool true) ∧ Below w.heap.size w w' := by
  have k1' := k1 w (Below.refl _ _)
  have k2' : Hid _ := k2
  clear k1 k2
  go_enter Tryd.func7, Tryd.ntmps7
  go_wp2_with fail
  refine k1'.mono ?_
  rintro e x1 ⟨rfl, c1⟩
  have r1 := row3_new x1 36 (.bool false) (.string ⟨#[]⟩) (.int .i64 0)
  have d1 := c1.alloc c1.size (.cells #[.bool false, .string ⟨#[]⟩, .int .i64 0] 36)
  go_wp2_with fail
  refine (k2'.out _ d1).mono ?_
  rintro e x2 ⟨rfl, c2⟩
  have d2 := d1.trans (c2.mono d1.size)
  have s2 := r1.kept c2 r1.lt
  have r2 := row3_new x2 36 (.bool false) (.string ⟨#[]⟩) (.int .i64 0)
  have s3 := s2.kept (alloc_below x2 (.cells #[.bool false, .string ⟨#[]⟩, .int .i64 0] 36)) s2.lt
  have d3 := d2.alloc d2.size (.cells #[.bool false, .string ⟨#[]⟩, .int .i64 0] 36)
  have ne : x1.heap.size ≠ x2.heap.size := Nat.ne_of_lt s2.lt
  clear k1' k2' c1 c2 d1 d2 r1 s2
  go_wp2_with fail
  refine (kn _).mono ?_
  rintro e x3 ⟨rfl, c3⟩
  have d4 := d3.trans (c3.mono d3.size)
  have s4 := s3.kept c3 s3.lt
  have r4 := r2.kept c3 r2.lt
  clear c3 d3 s3 r2
  go_wp2_with fail
  refine (km _).mono ?_
  rintro e x4 ⟨rfl, c4⟩
  have d5 := d4.trans (c4.mono d4.size)
  have s5 := s4.kept c4 s4.lt
  have r5 := r4.kept c4 r4.lt
  obtain ⟨p0, p1, p2⟩ := s5.at
  obtain ⟨q0, q1, q2⟩ := r5.at
  clear c4 d4 s4 r4
  go_wp2_with (go_at_call 10; refine (kA.out _ d5).mono ?_; rintro e x9 ⟨rfl, c9⟩)
  go_ret
  exact ⟨rfl, (d5).trans (c9.mono (d5).size)⟩
set_option maxRecDepth 100000 in
set_option maxHeartbeats 2000000 in
theorem sg_nonefalse (n m : Int)  (w : World) (hx : bits .xor .u64 n 9223372036854775808 = m)
    (k1 : ∀ wx, Below w.heap.size w wx → Calls Tryd.prog 13 #[.int .u64 n] wx fun e w' => e = .returned (.tuple #[.agg #[.bool false, .string ⟨#[]⟩, .int .i64 0], .int .i64 12]) ∧ Below wx.heap.size wx w')
    (k2 : ∀ wx, Below w.heap.size w wx → Calls Tryd.prog 13 #[.int .u64 m] wx fun e w' => e = .returned (.tuple #[.agg #[.bool false, .string ⟨#[]⟩, .int .i64 0], .int .i64 12]) ∧ Below wx.heap.size wx w')
    (kn : ∀ wx, Calls Tryd.prog 16 #[.int .u64 n] wx fun e w' => e = .returned (.bool false) ∧ Below wx.heap.size wx w')
    (km : ∀ wx, Calls Tryd.prog 16 #[.int .u64 m] wx fun e w' => e = .returned (.bool true) ∧ Below wx.heap.size wx w')
    (kA : Hid (∀ wx, Below w.heap.size w wx → Calls Tryd.prog 10 #[] wx fun e w' => e = .returned (.bool true) ∧ Below wx.heap.size wx w')) :
    Calls Tryd.prog 7 #[.int .u64 n] w fun e w' => e = .returned (.bool true) ∧ Below w.heap.size w w' := by
  have k1' := k1 w (Below.refl _ _)
  have k2' : Hid _ := k2
  clear k1 k2
  go_enter Tryd.func7, Tryd.ntmps7
  go_wp2_with fail
  refine k1'.mono ?_
  rintro e x1 ⟨rfl, c1⟩
  have r1 := row3_new x1 36 (.bool false) (.string ⟨#[]⟩) (.int .i64 0)
  have d1 := c1.alloc c1.size (.cells #[.bool false, .string ⟨#[]⟩, .int .i64 0] 36)
  go_wp2_with fail
  refine (k2'.out _ d1).mono ?_
  rintro e x2 ⟨rfl, c2⟩
  have d2 := d1.trans (c2.mono d1.size)
  have s2 := r1.kept c2 r1.lt
  have r2 := row3_new x2 36 (.bool false) (.string ⟨#[]⟩) (.int .i64 0)
  have s3 := s2.kept (alloc_below x2 (.cells #[.bool false, .string ⟨#[]⟩, .int .i64 0] 36)) s2.lt
  have d3 := d2.alloc d2.size (.cells #[.bool false, .string ⟨#[]⟩, .int .i64 0] 36)
  have ne : x1.heap.size ≠ x2.heap.size := Nat.ne_of_lt s2.lt
  clear k1' k2' c1 c2 d1 d2 r1 s2
  go_wp2_with fail
  refine (kn _).mono ?_
  rintro e x3 ⟨rfl, c3⟩
  have d4 := d3.trans (c3.mono d3.size)
  have s4 := s3.kept c3 s3.lt
  have r4 := r2.kept c3 r2.lt
  clear c3 d3 s3 r2
  go_wp2_with fail
  refine (km _).mono ?_
  rintro e x4 ⟨rfl, c4⟩
  have d5 := d4.trans (c4.mono d4.size)
  have s5 := s4.kept c4 s4.lt
  have r5 := r4.kept c4 r4.lt
  obtain ⟨p0, p1, p2⟩ := s5.at
  obtain ⟨q0, q1, q2⟩ := r5.at
  clear c4 d4 s4 r4
  go_wp2_with (go_at_call 10; refine (kA.out _ d5).mono ?_; rintro e x9 ⟨rfl, c9⟩)
  go_ret
  exact ⟨rfl, (d5).trans (c9.mono (d5).size)⟩
set_option maxRecDepth 100000 in
set_option maxHeartbeats 2000000 in
theorem sg_zerotrue (n m : Int)  (w : World) (hx : bits .xor .u64 n 9223372036854775808 = m)
    (k1 : ∀ wx, Below w.heap.size w wx → Calls Tryd.prog 13 #[.int .u64 n] wx fun e w' => e = .returned (.tuple #[.agg #[.bool false, .string ⟨#[48]⟩, .int .i64 0], .int .i64 0]) ∧ Below wx.heap.size wx w')
    (k2 : ∀ wx, Below w.heap.size w wx → Calls Tryd.prog 13 #[.int .u64 m] wx fun e w' => e = .returned (.tuple #[.agg #[.bool false, .string ⟨#[48]⟩, .int .i64 0], .int .i64 0]) ∧ Below wx.heap.size wx w')
    (kn : ∀ wx, Calls Tryd.prog 16 #[.int .u64 n] wx fun e w' => e = .returned (.bool true) ∧ Below wx.heap.size wx w')
    (km : ∀ wx, Calls Tryd.prog 16 #[.int .u64 m] wx fun e w' => e = .returned (.bool false) ∧ Below wx.heap.size wx w')
    (kA : Hid (∀ wx, Below w.heap.size w wx → Calls Tryd.prog 10 #[] wx fun e w' => e = .returned (.bool true) ∧ Below wx.heap.size wx w')) :
    Calls Tryd.prog 7 #[.int .u64 n] w fun e w' => e = .returned (.bool true) ∧ Below w.heap.size w w' := by
  have k1' := k1 w (Below.refl _ _)
  have k2' : Hid _ := k2
  clear k1 k2
  go_enter Tryd.func7, Tryd.ntmps7
  go_wp2_with fail
  refine k1'.mono ?_
  rintro e x1 ⟨rfl, c1⟩
  have r1 := row3_new x1 36 (.bool false) (.string ⟨#[48]⟩) (.int .i64 0)
  have d1 := c1.alloc c1.size (.cells #[.bool false, .string ⟨#[48]⟩, .int .i64 0] 36)
  go_wp2_with fail
  refine (k2'.out _ d1).mono ?_
  rintro e x2 ⟨rfl, c2⟩
  have d2 := d1.trans (c2.mono d1.size)
  have s2 := r1.kept c2 r1.lt
  have r2 := row3_new x2 36 (.bool false) (.string ⟨#[48]⟩) (.int .i64 0)
  have s3 := s2.kept (alloc_below x2 (.cells #[.bool false, .string ⟨#[48]⟩, .int .i64 0] 36)) s2.lt
  have d3 := d2.alloc d2.size (.cells #[.bool false, .string ⟨#[48]⟩, .int .i64 0] 36)
  have ne : x1.heap.size ≠ x2.heap.size := Nat.ne_of_lt s2.lt
  clear k1' k2' c1 c2 d1 d2 r1 s2
  go_wp2_with fail
  refine (kn _).mono ?_
  rintro e x3 ⟨rfl, c3⟩
  have d4 := d3.trans (c3.mono d3.size)
  have s4 := s3.kept c3 s3.lt
  have r4 := r2.kept c3 r2.lt
  clear c3 d3 s3 r2
  go_wp2_with fail
  refine (km _).mono ?_
  rintro e x4 ⟨rfl, c4⟩
  have d5 := d4.trans (c4.mono d4.size)
  have s5 := s4.kept c4 s4.lt
  have r5 := r4.kept c4 r4.lt
  obtain ⟨p0, p1, p2⟩ := s5.at
  obtain ⟨q0, q1, q2⟩ := r5.at
  clear c4 d4 s4 r4
  go_wp2_with (go_at_call 10; refine (kA.out _ d5).mono ?_; rintro e x9 ⟨rfl, c9⟩)
  go_ret
  exact ⟨rfl, (d5).trans (c9.mono (d5).size)⟩
set_option maxRecDepth 100000 in
set_option maxHeartbeats 2000000 in
theorem sg_zerofalse (n m : Int)  (w : World) (hx : bits .xor .u64 n 9223372036854775808 = m)
    (k1 : ∀ wx, Below w.heap.size w wx → Calls Tryd.prog 13 #[.int .u64 n] wx fun e w' => e = .returned (.tuple #[.agg #[.bool false, .string ⟨#[48]⟩, .int .i64 0], .int .i64 0]) ∧ Below wx.heap.size wx w')
    (k2 : ∀ wx, Below w.heap.size w wx → Calls Tryd.prog 13 #[.int .u64 m] wx fun e w' => e = .returned (.tuple #[.agg #[.bool false, .string ⟨#[48]⟩, .int .i64 0], .int .i64 0]) ∧ Below wx.heap.size wx w')
    (kn : ∀ wx, Calls Tryd.prog 16 #[.int .u64 n] wx fun e w' => e = .returned (.bool false) ∧ Below wx.heap.size wx w')
    (km : ∀ wx, Calls Tryd.prog 16 #[.int .u64 m] wx fun e w' => e = .returned (.bool true) ∧ Below wx.heap.size wx w')
    (kA : Hid (∀ wx, Below w.heap.size w wx → Calls Tryd.prog 10 #[] wx fun e w' => e = .returned (.bool true) ∧ Below wx.heap.size wx w')) :
    Calls Tryd.prog 7 #[.int .u64 n] w fun e w' => e = .returned (.bool true) ∧ Below w.heap.size w w' := by
  have k1' := k1 w (Below.refl _ _)
  have k2' : Hid _ := k2
  clear k1 k2
  go_enter Tryd.func7, Tryd.ntmps7
  go_wp2_with fail
  refine k1'.mono ?_
  rintro e x1 ⟨rfl, c1⟩
  have r1 := row3_new x1 36 (.bool false) (.string ⟨#[48]⟩) (.int .i64 0)
  have d1 := c1.alloc c1.size (.cells #[.bool false, .string ⟨#[48]⟩, .int .i64 0] 36)
  go_wp2_with fail
  refine (k2'.out _ d1).mono ?_
  rintro e x2 ⟨rfl, c2⟩
  have d2 := d1.trans (c2.mono d1.size)
  have s2 := r1.kept c2 r1.lt
  have r2 := row3_new x2 36 (.bool false) (.string ⟨#[48]⟩) (.int .i64 0)
  have s3 := s2.kept (alloc_below x2 (.cells #[.bool false, .string ⟨#[48]⟩, .int .i64 0] 36)) s2.lt
  have d3 := d2.alloc d2.size (.cells #[.bool false, .string ⟨#[48]⟩, .int .i64 0] 36)
  have ne : x1.heap.size ≠ x2.heap.size := Nat.ne_of_lt s2.lt
  clear k1' k2' c1 c2 d1 d2 r1 s2
  go_wp2_with fail
  refine (kn _).mono ?_
  rintro e x3 ⟨rfl, c3⟩
  have d4 := d3.trans (c3.mono d3.size)
  have s4 := s3.kept c3 s3.lt
  have r4 := r2.kept c3 r2.lt
  clear c3 d3 s3 r2
  go_wp2_with fail
  refine (km _).mono ?_
  rintro e x4 ⟨rfl, c4⟩
  have d5 := d4.trans (c4.mono d4.size)
  have s5 := s4.kept c4 s4.lt
  have r5 := r4.kept c4 r4.lt
  obtain ⟨p0, p1, p2⟩ := s5.at
  obtain ⟨q0, q1, q2⟩ := r5.at
  clear c4 d4 s4 r4
  go_wp2_with (go_at_call 10; refine (kA.out _ d5).mono ?_; rintro e x9 ⟨rfl, c9⟩)
  go_ret
  exact ⟨rfl, (d5).trans (c9.mono (d5).size)⟩
set_option maxRecDepth 100000 in
set_option maxHeartbeats 2000000 in
theorem sg_numtrue (n m : Int) (U : ByteArray) (Z : Int) (hU : U ≠ zS) (w : World) (hx : bits .xor .u64 n 9223372036854775808 = m)
    (k1 : ∀ wx, Below w.heap.size w wx → Calls Tryd.prog 13 #[.int .u64 n] wx fun e w' => e = .returned (.tuple #[.agg #[.bool true, .string U, .int .i64 Z], .int .i64 0]) ∧ Below wx.heap.size wx w')
    (k2 : ∀ wx, Below w.heap.size w wx → Calls Tryd.prog 13 #[.int .u64 m] wx fun e w' => e = .returned (.tuple #[.agg #[.bool false, .string U, .int .i64 Z], .int .i64 0]) ∧ Below wx.heap.size wx w')
    (kn : ∀ wx, Calls Tryd.prog 16 #[.int .u64 n] wx fun e w' => e = .returned (.bool true) ∧ Below wx.heap.size wx w')
    (km : ∀ wx, Calls Tryd.prog 16 #[.int .u64 m] wx fun e w' => e = .returned (.bool false) ∧ Below wx.heap.size wx w')
    (kA : Hid (∀ wx, Below w.heap.size w wx → Calls Tryd.prog 10 #[] wx fun e w' => e = .returned (.bool true) ∧ Below wx.heap.size wx w')) :
    Calls Tryd.prog 7 #[.int .u64 n] w fun e w' => e = .returned (.bool true) ∧ Below w.heap.size w w' := by
  have k1' := k1 w (Below.refl _ _)
  have k2' : Hid _ := k2
  have hz : (U.toList == [48]) = false := by rw [eq_size]; simpa using hU
  clear hU
  clear k1 k2
  go_enter Tryd.func7, Tryd.ntmps7
  go_wp2_with fail
  refine k1'.mono ?_
  rintro e x1 ⟨rfl, c1⟩
  have r1 := row3_new x1 36 (.bool true) (.string U) (.int .i64 Z)
  have d1 := c1.alloc c1.size (.cells #[.bool true, .string U, .int .i64 Z] 36)
  go_wp2_with fail
  refine (k2'.out _ d1).mono ?_
  rintro e x2 ⟨rfl, c2⟩
  have d2 := d1.trans (c2.mono d1.size)
  have s2 := r1.kept c2 r1.lt
  have r2 := row3_new x2 36 (.bool false) (.string U) (.int .i64 Z)
  have s3 := s2.kept (alloc_below x2 (.cells #[.bool false, .string U, .int .i64 Z] 36)) s2.lt
  have d3 := d2.alloc d2.size (.cells #[.bool false, .string U, .int .i64 Z] 36)
  have ne : x1.heap.size ≠ x2.heap.size := Nat.ne_of_lt s2.lt
  have hle : Hid (w.heap.size ≤ x1.heap.size) := c1.size
  clear k1' k2' c1 c2 d1 d2 r1 s2
  go_wp2_with fail
  refine (kn _).mono ?_
  rintro e x3 ⟨rfl, c3⟩
  have d4 := d3.trans (c3.mono d3.size)
  have s4 := s3.kept c3 s3.lt
  have r4 := r2.kept c3 r2.lt
  clear c3 d3 s3 r2
  go_wp2_with fail
  refine (km _).mono ?_
  rintro e x4 ⟨rfl, c4⟩
  have d5 := d4.trans (c4.mono d4.size)
  have s5 := s4.kept c4 s4.lt
  have r5 := r4.kept c4 r4.lt
  obtain ⟨p0, p1, p2⟩ := s5.at
  obtain ⟨q0, q1, q2⟩ := r5.at
  have z0 := s5.fz 0
  have s6 := s5.put0 (.bool false)
  have r6 := r5.set (a := ⟨x1.heap.size, 0, none⟩) (Ne.symm ne) (.bool false)
  obtain ⟨t0, t1, t2⟩ := s6.at
  obtain ⟨v0, v1, v2⟩ := r6.at
  have d6 : Below w.heap.size w (x4.setCell ⟨x1.heap.size, 0, none⟩ (.bool false)) := d5.setCell hle.out _
  clear c4 d4 s4 r4
  go_wp2_with (go_at_call 10; refine (kA.out _ d6).mono ?_; rintro e x9 ⟨rfl, c9⟩)
  go_ret
  exact ⟨rfl, (d6).trans (c9.mono (d6).size)⟩
set_option maxRecDepth 100000 in
set_option maxHeartbeats 2000000 in
theorem sg_numfalse (n m : Int) (U : ByteArray) (Z : Int) (hU : U ≠ zS) (w : World) (hx : bits .xor .u64 n 9223372036854775808 = m)
    (k1 : ∀ wx, Below w.heap.size w wx → Calls Tryd.prog 13 #[.int .u64 n] wx fun e w' => e = .returned (.tuple #[.agg #[.bool false, .string U, .int .i64 Z], .int .i64 0]) ∧ Below wx.heap.size wx w')
    (k2 : ∀ wx, Below w.heap.size w wx → Calls Tryd.prog 13 #[.int .u64 m] wx fun e w' => e = .returned (.tuple #[.agg #[.bool true, .string U, .int .i64 Z], .int .i64 0]) ∧ Below wx.heap.size wx w')
    (kn : ∀ wx, Calls Tryd.prog 16 #[.int .u64 n] wx fun e w' => e = .returned (.bool false) ∧ Below wx.heap.size wx w')
    (km : ∀ wx, Calls Tryd.prog 16 #[.int .u64 m] wx fun e w' => e = .returned (.bool true) ∧ Below wx.heap.size wx w')
    (kA : Hid (∀ wx, Below w.heap.size w wx → Calls Tryd.prog 10 #[] wx fun e w' => e = .returned (.bool true) ∧ Below wx.heap.size wx w')) :
    Calls Tryd.prog 7 #[.int .u64 n] w fun e w' => e = .returned (.bool true) ∧ Below w.heap.size w w' := by
  have k1' := k1 w (Below.refl _ _)
  have k2' : Hid _ := k2
  have hz : (U.toList == [48]) = false := by rw [eq_size]; simpa using hU
  clear hU
  clear k1 k2
  go_enter Tryd.func7, Tryd.ntmps7
  go_wp2_with fail
  refine k1'.mono ?_
  rintro e x1 ⟨rfl, c1⟩
  have r1 := row3_new x1 36 (.bool false) (.string U) (.int .i64 Z)
  have d1 := c1.alloc c1.size (.cells #[.bool false, .string U, .int .i64 Z] 36)
  go_wp2_with fail
  refine (k2'.out _ d1).mono ?_
  rintro e x2 ⟨rfl, c2⟩
  have d2 := d1.trans (c2.mono d1.size)
  have s2 := r1.kept c2 r1.lt
  have r2 := row3_new x2 36 (.bool true) (.string U) (.int .i64 Z)
  have s3 := s2.kept (alloc_below x2 (.cells #[.bool true, .string U, .int .i64 Z] 36)) s2.lt
  have d3 := d2.alloc d2.size (.cells #[.bool true, .string U, .int .i64 Z] 36)
  have ne : x1.heap.size ≠ x2.heap.size := Nat.ne_of_lt s2.lt
  have hle : Hid (w.heap.size ≤ x1.heap.size) := c1.size
  clear k1' k2' c1 c2 d1 d2 r1 s2
  go_wp2_with fail
  refine (kn _).mono ?_
  rintro e x3 ⟨rfl, c3⟩
  have d4 := d3.trans (c3.mono d3.size)
  have s4 := s3.kept c3 s3.lt
  have r4 := r2.kept c3 r2.lt
  clear c3 d3 s3 r2
  go_wp2_with fail
  refine (km _).mono ?_
  rintro e x4 ⟨rfl, c4⟩
  have d5 := d4.trans (c4.mono d4.size)
  have s5 := s4.kept c4 s4.lt
  have r5 := r4.kept c4 r4.lt
  obtain ⟨p0, p1, p2⟩ := s5.at
  obtain ⟨q0, q1, q2⟩ := r5.at
  have z0 := s5.fz 0
  have s6 := s5.put0 (.bool true)
  have r6 := r5.set (a := ⟨x1.heap.size, 0, none⟩) (Ne.symm ne) (.bool true)
  obtain ⟨t0, t1, t2⟩ := s6.at
  obtain ⟨v0, v1, v2⟩ := r6.at
  have d6 : Below w.heap.size w (x4.setCell ⟨x1.heap.size, 0, none⟩ (.bool true)) := d5.setCell hle.out _
  clear c4 d4 s4 r4
  go_wp2_with (go_at_call 10; refine (kA.out _ d6).mono ?_; rintro e x9 ⟨rfl, c9⟩)
  go_ret
  exact ⟨rfl, (d6).trans (c9.mono (d6).size)⟩
end Go.Proofs.YtjdceigndleadaaDoor
