/-
  The greater bits are the greater number: the walks.
-/
import Derived.Test.YtjdceigndleadaaDoorFord
import Derived.Test.YtjdceigndleadaaDoorYsize
import Derived.Test.YtjdceigndleadaaDoorFalive
namespace Go.Proofs.YtjdceigndleadaaDoor
open Go.RowKit

set_option maxRecDepth 100000 in
set_option maxHeartbeats 2000000 in
theorem od_one (a b c d : Int) (n1 : Bool) (s1 : ByteArray) (x1 : Int) (n2 : Bool) (s2 : ByteArray) (x2 : Int) (y2 : Int) (w : World) (hx : bits .and .u64 a 9223372036854775807 = c) (hy : bits .and .u64 b 9223372036854775807 = d)
    (k1 : ∀ wx, Below w.heap.size w wx → Calls Tryd.prog 13 #[.int .u64 c] wx fun e w' => e = .returned (.tuple #[.agg #[.bool n1, .string s1, .int .i64 x1], .int .i64 12]) ∧ Below wx.heap.size wx w')
    (k2 : ∀ wx, Below w.heap.size w wx → Calls Tryd.prog 13 #[.int .u64 d] wx fun e w' => e = .returned (.tuple #[.agg #[.bool n2, .string s2, .int .i64 x2], .int .i64 y2]) ∧ Below wx.heap.size wx w')
    (kf : ∀ wx, Calls Tryd.prog 14 #[.int .u64 c] wx fun e w' => e = .returned (.bool false) ∧ Below wx.heap.size wx w')
    (kA : Hid (∀ wx, Below w.heap.size w wx → Calls Tryd.prog 10 #[] wx fun e w' => e = .returned (.bool true) ∧ Below wx.heap.size wx w')) :
    Calls Tryd.prog 6 #[.int .u64 a, .int .u64 b] w fun e w' => e = .returned (.bool true) ∧ Below w.heap.size w w' := by
  have k1' := k1 w (Below.refl _ _)
  have k2' : Hid _ := k2
  clear k1 k2
  go_enter Tryd.func6, Tryd.ntmps6
  go_wp2_with fail
  refine k1'.mono ?_
  rintro e z1 ⟨rfl, c1⟩
  have r1 := row3_new z1 36 (.bool n1) (.string s1) (.int .i64 x1)
  have d1 := c1.alloc c1.size (.cells #[.bool n1, .string s1, .int .i64 x1] 36)
  go_wp2_with fail
  refine (k2'.out _ d1).mono ?_
  rintro e z2 ⟨rfl, c2⟩
  have d2 := d1.trans (c2.mono d1.size)
  have t2 := r1.kept c2 r1.lt
  have r2 := row3_new z2 36 (.bool n2) (.string s2) (.int .i64 x2)
  have t3 := t2.kept (alloc_below z2 (.cells #[.bool n2, .string s2, .int .i64 x2] 36)) t2.lt
  have d3 := d2.alloc d2.size (.cells #[.bool n2, .string s2, .int .i64 x2] 36)
  clear k1' k2' c1 c2 d1 d2 r1 t2
  go_wp2_with (first
    | (go_at_call 14; refine (kf _).mono ?_; rintro e z3 ⟨rfl, c3⟩; have d4 := d3.trans (c3.mono d3.size))
    | (go_at_call 10; refine (kA.out _ d4).mono ?_; rintro e z9 ⟨rfl, c9⟩))
  go_ret
  exact ⟨rfl, d4.trans (c9.mono d4.size)⟩
set_option maxRecDepth 100000 in
set_option maxHeartbeats 2000000 in
theorem od_two (a b c d : Int) (n1 : Bool) (s1 : ByteArray) (x1 : Int) (n2 : Bool) (s2 : ByteArray) (x2 : Int) (w : World) (hx : bits .and .u64 a 9223372036854775807 = c) (hy : bits .and .u64 b 9223372036854775807 = d)
    (k1 : ∀ wx, Below w.heap.size w wx → Calls Tryd.prog 13 #[.int .u64 c] wx fun e w' => e = .returned (.tuple #[.agg #[.bool n1, .string s1, .int .i64 x1], .int .i64 0]) ∧ Below wx.heap.size wx w')
    (k2 : ∀ wx, Below w.heap.size w wx → Calls Tryd.prog 13 #[.int .u64 d] wx fun e w' => e = .returned (.tuple #[.agg #[.bool n2, .string s2, .int .i64 x2], .int .i64 12]) ∧ Below wx.heap.size wx w')
    (kf : ∀ wx, Calls Tryd.prog 14 #[.int .u64 c] wx fun e w' => e = .returned (.bool true) ∧ Below wx.heap.size wx w')
    (kg : ∀ wx, Calls Tryd.prog 14 #[.int .u64 d] wx fun e w' => e = .returned (.bool false) ∧ Below wx.heap.size wx w')
    (kA : Hid (∀ wx, Below w.heap.size w wx → Calls Tryd.prog 10 #[] wx fun e w' => e = .returned (.bool true) ∧ Below wx.heap.size wx w')) :
    Calls Tryd.prog 6 #[.int .u64 a, .int .u64 b] w fun e w' => e = .returned (.bool true) ∧ Below w.heap.size w w' := by
  have k1' := k1 w (Below.refl _ _)
  have k2' : Hid _ := k2
  clear k1 k2
  go_enter Tryd.func6, Tryd.ntmps6
  go_wp2_with fail
  refine k1'.mono ?_
  rintro e z1 ⟨rfl, c1⟩
  have r1 := row3_new z1 36 (.bool n1) (.string s1) (.int .i64 x1)
  have d1 := c1.alloc c1.size (.cells #[.bool n1, .string s1, .int .i64 x1] 36)
  go_wp2_with fail
  refine (k2'.out _ d1).mono ?_
  rintro e z2 ⟨rfl, c2⟩
  have d2 := d1.trans (c2.mono d1.size)
  have t2 := r1.kept c2 r1.lt
  have r2 := row3_new z2 36 (.bool n2) (.string s2) (.int .i64 x2)
  have t3 := t2.kept (alloc_below z2 (.cells #[.bool n2, .string s2, .int .i64 x2] 36)) t2.lt
  have d3 := d2.alloc d2.size (.cells #[.bool n2, .string s2, .int .i64 x2] 36)
  clear k1' k2' c1 c2 d1 d2 r1 t2
  go_wp2_with fail
  refine (kf _).mono ?_
  rintro e z3 ⟨rfl, c3⟩
  have d4 := d3.trans (c3.mono d3.size)
  go_wp2_with fail
  refine (kg _).mono ?_
  rintro e z4 ⟨rfl, c4⟩
  have d5 := d4.trans (c4.mono d4.size)
  go_wp2_with (go_at_call 10; refine (kA.out _ d5).mono ?_; rintro e z9 ⟨rfl, c9⟩)
  go_ret
  exact ⟨rfl, d5.trans (c9.mono d5.size)⟩
set_option maxRecDepth 100000 in
set_option maxHeartbeats 2000000 in
theorem od_both (a b c d : Int) (n1 : Bool) (s1 : ByteArray) (x1 : Int) (n2 : Bool) (s2 : ByteArray) (x2 : Int) (w : World) (hx : bits .and .u64 a 9223372036854775807 = c) (hy : bits .and .u64 b 9223372036854775807 = d)
    (k1 : ∀ wx, Below w.heap.size w wx → Calls Tryd.prog 13 #[.int .u64 c] wx fun e w' => e = .returned (.tuple #[.agg #[.bool n1, .string s1, .int .i64 x1], .int .i64 0]) ∧ Below wx.heap.size wx w')
    (k2 : ∀ wx, Below w.heap.size w wx → Calls Tryd.prog 13 #[.int .u64 d] wx fun e w' => e = .returned (.tuple #[.agg #[.bool n2, .string s2, .int .i64 x2], .int .i64 0]) ∧ Below wx.heap.size wx w')
    (O : Int) (kO : ∀ wx, Calls Tryd.prog 15 #[.agg #[.bool n1, .string s1, .int .i64 x1], .agg #[.bool n2, .string s2, .int .i64 x2]] wx fun e w' => e = .returned (.tuple #[.int .i64 O, .int .i64 0]) ∧ Below wx.heap.size wx w')
    (L E : Bool) (h1 : decide (O < 0) = L) (h2 : decide (c < d) = L) (h3 : (O == 0) = E) (h4 : (c == d) = E)
    (kA : Hid (∀ wx, Below w.heap.size w wx → Calls Tryd.prog 10 #[] wx fun e w' => e = .returned (.bool true) ∧ Below wx.heap.size wx w')) :
    Calls Tryd.prog 6 #[.int .u64 a, .int .u64 b] w fun e w' => e = .returned (.bool true) ∧ Below w.heap.size w w' := by
  have k1' := k1 w (Below.refl _ _)
  have k2' : Hid _ := k2
  clear k1 k2
  go_enter Tryd.func6, Tryd.ntmps6
  go_wp2_with fail
  refine k1'.mono ?_
  rintro e z1 ⟨rfl, c1⟩
  have r1 := row3_new z1 36 (.bool n1) (.string s1) (.int .i64 x1)
  have d1 := c1.alloc c1.size (.cells #[.bool n1, .string s1, .int .i64 x1] 36)
  go_wp2_with fail
  refine (k2'.out _ d1).mono ?_
  rintro e z2 ⟨rfl, c2⟩
  have d2 := d1.trans (c2.mono d1.size)
  have t2 := r1.kept c2 r1.lt
  have r2 := row3_new z2 36 (.bool n2) (.string s2) (.int .i64 x2)
  have t3 := t2.kept (alloc_below z2 (.cells #[.bool n2, .string s2, .int .i64 x2] 36)) t2.lt
  have d3 := d2.alloc d2.size (.cells #[.bool n2, .string s2, .int .i64 x2] 36)
  clear k1' k2' c1 c2 d1 d2 r1 t2
  obtain ⟨p0, p1, p2⟩ := t3.at
  cases L <;> cases E
  all_goals
    go_wp2_with (first
      | (go_at_call 15; refine (kO _).mono ?_; rintro e z3 ⟨rfl, c3⟩; have d4 := d3.trans (c3.mono d3.size))
      | (go_at_call 10; refine (kA.out _ d4).mono ?_; rintro e z9 ⟨rfl, c9⟩))
    go_ret
    exact ⟨rfl, d4.trans (c9.mono d4.size)⟩
end Go.Proofs.YtjdceigndleadaaDoor
