/-
  The document's side: bits of a format that may be widened to some, case by case.
-/
import Derived.Test.YtjdceigndleadaaDoorZdoc
import Derived.Test.YtjdceigndleadaaDoorWds
namespace Go.Proofs.YtjdceigndleadaaDoor
open Go.RowKit
set_option linter.unusedVariables false

theorem shr_kind (x y : Int) (k : IntKind) (h0 : 0 ≤ y) (h : y ≤ 64) : Op.shift .shr .u64 x k y = pure (.int .u64 (x / 2 ^ y.toNat)) := shift_shr .u64 k x y h0 h
theorem own_one (w : World) (V : Int) : OwnsW (w.alloc (.cells #[.int .u64 V] 22)) w.heap.size (.slice (some ⟨w.heap.size, 0, none⟩) 1 1) [V] := World.ownsRow_lit w #[.int .u64 V] 1 (Nat.le_refl _) (by decide) rfl
theorem two_wd (w : World) (o : Obj) (V : Int) : Wds ((w.alloc o).alloc (.cells #[.int .u64 V] 22)) (some ⟨w.heap.size + 1, 0, none⟩) [V] := by
  have h := one_wd (w.alloc o) V
  have e : (w.alloc o).heap.size = w.heap.size + 1 := by simp
  rw [e] at h
  exact h
set_option maxRecDepth 100000 in
set_option maxHeartbeats 2000000 in
theorem zc2_top (n S X G : Int) (hS : 0 ≤ S ∧ S ≤ 1) (hX : 0 ≤ X ∧ X < 2048) (hG : 0 ≤ G ∧ G < 4503599627370496) (hc : X = 2047) (w : World) (kS : ∀ w, Calls Tryd.prog 36 #[.int .u64 n, .int .i64 8] w fun e w' => e = .returned (.tuple #[.int .u64 S, .int .i64 X, .int .u64 G]) ∧ Below w.heap.size w w') :
    Calls Tryd.prog 23 #[.int .u64 n, .int .i64 2] w fun e w' => (∃ v, e = .returned v ∧ OwnsW w' w.heap.size v [S * 32768 + 31 * 1024 + G / 4398046511104]) ∧ Below w.heap.size w w' := by
  have kP := zparts2_any
  have u1 : IntKind.i64.wrap 15 = 15 := by decide
  have u2 : IntKind.i64.wrap 42 = 42 := by decide
  have u3 : IntKind.u64.wrap 32 = 32 := by decide
  have u4 : IntKind.u64.wrap 31 = 31 := by decide
  have u5 : IntKind.u64.wrap 31744 = 31744 := by decide
  have v0 : IntKind.u64.wrap (S * 32768) = S * 32768 := by rw [IntKind.wrap_u64]; omega
  have e0 : (X == 2047) = true := by simpa using hc
  have m1 : bits .or .u64 (S * 32768) 31744 = S * 32768 + 31744 := or_hi 15 _ _ (by omega) (by omega) (by omega) (by omega) (by omega) (by omega)
  have m2 : bits .or .u64 (S * 32768 + 31744) (G / 4398046511104) = S * 32768 + 31744 + G / 4398046511104 := or_hi 10 _ _ (by omega) (by omega) (by omega) (by omega) (by omega) (by omega)
  have hR : S * 32768 + 31 * 1024 + G / 4398046511104 = S * 32768 + 31744 + G / 4398046511104 := by omega
  rw [hR]
  clear hS hX hG hc hR
  go_enter Tryd.func23, Tryd.ntmps23
  go_wp2_with (first
    | (go_at_call 35; refine (kP _).mono ?_; rintro e w1 ⟨rfl, hw⟩; obtain rfl : w = w1 := hw.symm)
    | (go_at_call 36; refine (kS _).mono ?_; rintro e w2 ⟨rfl, d2⟩; have o2 := own_one w2 (S * 32768); have d3 := d2.alloc d2.size (.cells #[.int .u64 (S * 32768)] 22)))
  go_region_held3 (fun _ => True) (trivial) (fail)
  go_wp2
  go_ret
  refine ⟨⟨_, rfl, ?_⟩, ?_⟩
  · first
      | exact (own_one w2 (S * 32768 + 31744 + G / 4398046511104)).base d2.size
      | exact (own_one w2.drew (S * 32768 + 31744 + G / 4398046511104)).base d2.size
  · first
      | exact d2.alloc d2.size _
      | exact d2.drew.alloc d2.size _
      | exact (d2.alloc d2.size _).drew
set_option maxRecDepth 100000 in
set_option maxHeartbeats 2000000 in
theorem zc4_top (n S X G : Int) (hS : 0 ≤ S ∧ S ≤ 1) (hX : 0 ≤ X ∧ X < 2048) (hG : 0 ≤ G ∧ G < 4503599627370496) (hc : X = 2047) (w : World) (kS : ∀ w, Calls Tryd.prog 36 #[.int .u64 n, .int .i64 8] w fun e w' => e = .returned (.tuple #[.int .u64 S, .int .i64 X, .int .u64 G]) ∧ Below w.heap.size w w') :
    Calls Tryd.prog 23 #[.int .u64 n, .int .i64 4] w fun e w' => (∃ v, e = .returned v ∧ OwnsW w' w.heap.size v [S * 2147483648 + 255 * 8388608 + G / 536870912]) ∧ Below w.heap.size w w' := by
  have kP := zparts4_any
  have u1 : IntKind.i64.wrap 31 = 31 := by decide
  have u2 : IntKind.i64.wrap 29 = 29 := by decide
  have u3 : IntKind.u64.wrap 256 = 256 := by decide
  have u4 : IntKind.u64.wrap 255 = 255 := by decide
  have u5 : IntKind.u64.wrap 2139095040 = 2139095040 := by decide
  have v0 : IntKind.u64.wrap (S * 2147483648) = S * 2147483648 := by rw [IntKind.wrap_u64]; omega
  have e0 : (X == 2047) = true := by simpa using hc
  have m1 : bits .or .u64 (S * 2147483648) 2139095040 = S * 2147483648 + 2139095040 := or_hi 31 _ _ (by omega) (by omega) (by omega) (by omega) (by omega) (by omega)
  have m2 : bits .or .u64 (S * 2147483648 + 2139095040) (G / 536870912) = S * 2147483648 + 2139095040 + G / 536870912 := or_hi 23 _ _ (by omega) (by omega) (by omega) (by omega) (by omega) (by omega)
  have hR : S * 2147483648 + 255 * 8388608 + G / 536870912 = S * 2147483648 + 2139095040 + G / 536870912 := by omega
  rw [hR]
  clear hS hX hG hc hR
  go_enter Tryd.func23, Tryd.ntmps23
  go_wp2_with (first
    | (go_at_call 35; refine (kP _).mono ?_; rintro e w1 ⟨rfl, hw⟩; obtain rfl : w = w1 := hw.symm)
    | (go_at_call 36; refine (kS _).mono ?_; rintro e w2 ⟨rfl, d2⟩; have o2 := own_one w2 (S * 2147483648); have d3 := d2.alloc d2.size (.cells #[.int .u64 (S * 2147483648)] 22)))
  go_region_held3 (fun _ => True) (trivial) (fail)
  go_wp2
  go_ret
  refine ⟨⟨_, rfl, ?_⟩, ?_⟩
  · first
      | exact (own_one w2 (S * 2147483648 + 2139095040 + G / 536870912)).base d2.size
      | exact (own_one w2.drew (S * 2147483648 + 2139095040 + G / 536870912)).base d2.size
  · first
      | exact d2.alloc d2.size _
      | exact d2.drew.alloc d2.size _
      | exact (d2.alloc d2.size _).drew
set_option maxRecDepth 100000 in
set_option maxHeartbeats 2000000 in
theorem zc2_hi (n S X G : Int) (hS : 0 ≤ S ∧ S ≤ 1) (hX : 0 ≤ X ∧ X < 2048) (hG : 0 ≤ G ∧ G < 4503599627370496) (hc : 1008 < X) (hc1 : X - 1008 < 31) (w : World) (kS : ∀ w, Calls Tryd.prog 36 #[.int .u64 n, .int .i64 8] w fun e w' => e = .returned (.tuple #[.int .u64 S, .int .i64 X, .int .u64 G]) ∧ Below w.heap.size w w') :
    Calls Tryd.prog 23 #[.int .u64 n, .int .i64 2] w fun e w' => (∃ v, e = .returned v ∧ OwnsW w' w.heap.size v [S * 32768, S * 32768 + (X - 1008) * 1024 + G / 4398046511104]) ∧ Below w.heap.size w w' := by
  have kP := zparts2_any
  have u1 : IntKind.i64.wrap 15 = 15 := by decide
  have u2 : IntKind.i64.wrap 42 = 42 := by decide
  have u3 : IntKind.u64.wrap 32 = 32 := by decide
  have u4 : IntKind.u64.wrap 31 = 31 := by decide
  have u5 : IntKind.u64.wrap 31744 = 31744 := by decide
  have v0 : IntKind.u64.wrap (S * 32768) = S * 32768 := by rw [IntKind.wrap_u64]; omega
  have y1 : IntKind.i64.wrap (X - 1023) = X - 1023 := by rw [IntKind.wrap_i64]; omega
  obtain ⟨Y, hY⟩ : ∃ Y, X - 1008 = Y := ⟨_, rfl⟩
  have y2 : IntKind.i64.wrap (X - 1023 + 15) = Y := by rw [IntKind.wrap_i64]; omega
  have e0 : (X == 2047) = false := by simp; omega
  have e1 : decide (1 ≤ Y) = true := by simp; omega
  have e2 : decide (Y < 31) = true := by simp; omega
  have e3 : decide (Y < 1) = false := by simp; omega
  have w1 : IntKind.u64.wrap Y = Y := by rw [IntKind.wrap_u64]; omega
  have w2' : IntKind.u64.wrap (Y * 1024) = Y * 1024 := by rw [IntKind.wrap_u64]; omega
  have m1 : bits .or .u64 (S * 32768) (Y * 1024) = S * 32768 + Y * 1024 := or_hi 15 _ _ (by omega) (by omega) (by omega) (by omega) (by omega) (by omega)
  have m2 : bits .or .u64 (S * 32768 + Y * 1024) (G / 4398046511104) = S * 32768 + Y * 1024 + G / 4398046511104 := or_hi 10 _ _ (by omega) (by omega) (by omega) (by omega) (by omega) (by omega)
  have y3 : IntKind.i64.wrap (1 - Y) = 1 - Y := by rw [IntKind.wrap_i64]; omega
  have y4 : IntKind.i64.wrap (1 - Y + 52) = 1 - Y + 52 := by rw [IntKind.wrap_i64]; omega
  have y5 : IntKind.i64.wrap (1 - Y + 52 - 10) = 1 - Y + 52 - 10 := by rw [IntKind.wrap_i64]; omega
  rw [hY]
  obtain ⟨V, hV⟩ : ∃ V, S * 32768 + Y * 1024 + G / 4398046511104 = V := ⟨_, rfl⟩
  rw [hV]
  rw [hV] at m2
  clear hS hX hG hc hc1 hY hV
  go_enter Tryd.func23, Tryd.ntmps23
  go_wp2_with (first
    | (go_at_call 35; refine (kP _).mono ?_; rintro e w1 ⟨rfl, hw⟩; obtain rfl : w = w1 := hw.symm)
    | (go_at_call 36; refine (kS _).mono ?_; rintro e w2 ⟨rfl, d2⟩; have o2 := own_one w2 (S * 32768); have d3 := d2.alloc d2.size (.cells #[.int .u64 (S * 32768)] 22)))
  generalize w2.alloc (.cells #[.int .u64 (S * 32768)] 22) = w3 at *
  go_region_held3 (fun _ => True) (trivial) (first
    | (refine step_append_wds (by rfl) _ _ (by rfl) w2.heap.size (.slice (some ⟨w2.heap.size, 0, none⟩) 1 1) [S * 32768] [V] (by rfl) (by first | exact o2.alloc _ | exact OwnsW.alloc (w := w3.drew) o2 _) _ 1 1 (by rfl) rfl (by first | exact one_wd w3 V | exact one_wd w3.drew V) (by simp) (by first | exact Nat.le_trans (Nat.le_of_lt o2.ge.2) (Nat.le_of_lt (alloc_lt w3 _)) | exact Nat.le_trans (Nat.le_of_lt o2.ge.2) (Nat.le_of_lt (alloc_lt w3.drew _))) ?_; intro v4 w4 ho4 hg4; have d4 : Below w2.heap.size w3 w4 := (by first | exact grownW_below (((Below.refl w2.heap.size w3)).alloc (Nat.le_of_lt o2.ge.2) _) (o2.alloc _) hg4 (Nat.le_trans (Nat.le_of_lt o2.ge.2) (Nat.le_of_lt (alloc_lt w3 _))) | exact grownW_below (((Below.refl w2.heap.size w3).drew).alloc (Nat.le_of_lt o2.ge.2) _) (OwnsW.alloc (w := w3.drew) o2 _) hg4 (Nat.le_trans (Nat.le_of_lt o2.ge.2) (Nat.le_of_lt (alloc_lt w3.drew _)))); have d5 : Below w.heap.size w w4 := d3.trans (d4.mono d2.size)))
  go_wp2
  go_ret
  exact ⟨⟨_, rfl, ho4.base d2.size⟩, d5⟩
set_option maxRecDepth 100000 in
set_option maxHeartbeats 2000000 in
theorem zc4_hi (n S X G : Int) (hS : 0 ≤ S ∧ S ≤ 1) (hX : 0 ≤ X ∧ X < 2048) (hG : 0 ≤ G ∧ G < 4503599627370496) (hc : 896 < X) (hc1 : X - 896 < 255) (w : World) (kS : ∀ w, Calls Tryd.prog 36 #[.int .u64 n, .int .i64 8] w fun e w' => e = .returned (.tuple #[.int .u64 S, .int .i64 X, .int .u64 G]) ∧ Below w.heap.size w w') :
    Calls Tryd.prog 23 #[.int .u64 n, .int .i64 4] w fun e w' => (∃ v, e = .returned v ∧ OwnsW w' w.heap.size v [S * 2147483648, S * 2147483648 + (X - 896) * 8388608 + G / 536870912]) ∧ Below w.heap.size w w' := by
  have kP := zparts4_any
  have u1 : IntKind.i64.wrap 31 = 31 := by decide
  have u2 : IntKind.i64.wrap 29 = 29 := by decide
  have u3 : IntKind.u64.wrap 256 = 256 := by decide
  have u4 : IntKind.u64.wrap 255 = 255 := by decide
  have u5 : IntKind.u64.wrap 2139095040 = 2139095040 := by decide
  have v0 : IntKind.u64.wrap (S * 2147483648) = S * 2147483648 := by rw [IntKind.wrap_u64]; omega
  have y1 : IntKind.i64.wrap (X - 1023) = X - 1023 := by rw [IntKind.wrap_i64]; omega
  obtain ⟨Y, hY⟩ : ∃ Y, X - 896 = Y := ⟨_, rfl⟩
  have y2 : IntKind.i64.wrap (X - 1023 + 127) = Y := by rw [IntKind.wrap_i64]; omega
  have e0 : (X == 2047) = false := by simp; omega
  have e1 : decide (1 ≤ Y) = true := by simp; omega
  have e2 : decide (Y < 255) = true := by simp; omega
  have e3 : decide (Y < 1) = false := by simp; omega
  have w1 : IntKind.u64.wrap Y = Y := by rw [IntKind.wrap_u64]; omega
  have w2' : IntKind.u64.wrap (Y * 8388608) = Y * 8388608 := by rw [IntKind.wrap_u64]; omega
  have m1 : bits .or .u64 (S * 2147483648) (Y * 8388608) = S * 2147483648 + Y * 8388608 := or_hi 31 _ _ (by omega) (by omega) (by omega) (by omega) (by omega) (by omega)
  have m2 : bits .or .u64 (S * 2147483648 + Y * 8388608) (G / 536870912) = S * 2147483648 + Y * 8388608 + G / 536870912 := or_hi 23 _ _ (by omega) (by omega) (by omega) (by omega) (by omega) (by omega)
  have y3 : IntKind.i64.wrap (1 - Y) = 1 - Y := by rw [IntKind.wrap_i64]; omega
  have y4 : IntKind.i64.wrap (1 - Y + 52) = 1 - Y + 52 := by rw [IntKind.wrap_i64]; omega
  have y5 : IntKind.i64.wrap (1 - Y + 52 - 23) = 1 - Y + 52 - 23 := by rw [IntKind.wrap_i64]; omega
  rw [hY]
  obtain ⟨V, hV⟩ : ∃ V, S * 2147483648 + Y * 8388608 + G / 536870912 = V := ⟨_, rfl⟩
  rw [hV]
  rw [hV] at m2
  clear hS hX hG hc hc1 hY hV
  go_enter Tryd.func23, Tryd.ntmps23
  go_wp2_with (first
    | (go_at_call 35; refine (kP _).mono ?_; rintro e w1 ⟨rfl, hw⟩; obtain rfl : w = w1 := hw.symm)
    | (go_at_call 36; refine (kS _).mono ?_; rintro e w2 ⟨rfl, d2⟩; have o2 := own_one w2 (S * 2147483648); have d3 := d2.alloc d2.size (.cells #[.int .u64 (S * 2147483648)] 22)))
  generalize w2.alloc (.cells #[.int .u64 (S * 2147483648)] 22) = w3 at *
  go_region_held3 (fun _ => True) (trivial) (first
    | (refine step_append_wds (by rfl) _ _ (by rfl) w2.heap.size (.slice (some ⟨w2.heap.size, 0, none⟩) 1 1) [S * 2147483648] [V] (by rfl) (by first | exact o2.alloc _ | exact OwnsW.alloc (w := w3.drew) o2 _) _ 1 1 (by rfl) rfl (by first | exact one_wd w3 V | exact one_wd w3.drew V) (by simp) (by first | exact Nat.le_trans (Nat.le_of_lt o2.ge.2) (Nat.le_of_lt (alloc_lt w3 _)) | exact Nat.le_trans (Nat.le_of_lt o2.ge.2) (Nat.le_of_lt (alloc_lt w3.drew _))) ?_; intro v4 w4 ho4 hg4; have d4 : Below w2.heap.size w3 w4 := (by first | exact grownW_below (((Below.refl w2.heap.size w3)).alloc (Nat.le_of_lt o2.ge.2) _) (o2.alloc _) hg4 (Nat.le_trans (Nat.le_of_lt o2.ge.2) (Nat.le_of_lt (alloc_lt w3 _))) | exact grownW_below (((Below.refl w2.heap.size w3).drew).alloc (Nat.le_of_lt o2.ge.2) _) (OwnsW.alloc (w := w3.drew) o2 _) hg4 (Nat.le_trans (Nat.le_of_lt o2.ge.2) (Nat.le_of_lt (alloc_lt w3.drew _)))); have d5 : Below w.heap.size w w4 := d3.trans (d4.mono d2.size)))
  go_wp2
  go_ret
  exact ⟨⟨_, rfl, ho4.base d2.size⟩, d5⟩
set_option maxRecDepth 100000 in
set_option maxHeartbeats 2000000 in
theorem zc2_far (n S X G : Int) (hS : 0 ≤ S ∧ S ≤ 1) (hX : 0 ≤ X ∧ X < 2048) (hG : 0 ≤ G ∧ G < 4503599627370496) (hx : X ≠ 2047) (hc : 1008 < X) (hc1 : ¬ X - 1008 < 31) (w : World) (kS : ∀ w, Calls Tryd.prog 36 #[.int .u64 n, .int .i64 8] w fun e w' => e = .returned (.tuple #[.int .u64 S, .int .i64 X, .int .u64 G]) ∧ Below w.heap.size w w') :
    Calls Tryd.prog 23 #[.int .u64 n, .int .i64 2] w fun e w' => (∃ v, e = .returned v ∧ OwnsW w' w.heap.size v [S * 32768]) ∧ Below w.heap.size w w' := by
  have kP := zparts2_any
  have u1 : IntKind.i64.wrap 15 = 15 := by decide
  have u2 : IntKind.i64.wrap 42 = 42 := by decide
  have u3 : IntKind.u64.wrap 32 = 32 := by decide
  have u4 : IntKind.u64.wrap 31 = 31 := by decide
  have u5 : IntKind.u64.wrap 31744 = 31744 := by decide
  have v0 : IntKind.u64.wrap (S * 32768) = S * 32768 := by rw [IntKind.wrap_u64]; omega
  have y1 : IntKind.i64.wrap (X - 1023) = X - 1023 := by rw [IntKind.wrap_i64]; omega
  obtain ⟨Y, hY⟩ : ∃ Y, X - 1008 = Y := ⟨_, rfl⟩
  have y2 : IntKind.i64.wrap (X - 1023 + 15) = Y := by rw [IntKind.wrap_i64]; omega
  have e0 : (X == 2047) = false := by simp; omega
  have e1 : decide (1 ≤ Y) = true := by simp; omega
  have e2 : decide (Y < 31) = false := by simp; omega
  have e3 : decide (Y < 1) = false := by simp; omega
  have y3 : IntKind.i64.wrap (1 - Y) = 1 - Y := by rw [IntKind.wrap_i64]; omega
  have y4 : IntKind.i64.wrap (1 - Y + 52) = 1 - Y + 52 := by rw [IntKind.wrap_i64]; omega
  have y5 : IntKind.i64.wrap (1 - Y + 52 - 10) = 1 - Y + 52 - 10 := by rw [IntKind.wrap_i64]; omega
  clear hS hX hG hc hc1 hY hx
  go_enter Tryd.func23, Tryd.ntmps23
  go_wp2_with (first
    | (go_at_call 35; refine (kP _).mono ?_; rintro e w1 ⟨rfl, hw⟩; obtain rfl : w = w1 := hw.symm)
    | (go_at_call 36; refine (kS _).mono ?_; rintro e w2 ⟨rfl, d2⟩; have o2 := own_one w2 (S * 32768); have d3 := d2.alloc d2.size (.cells #[.int .u64 (S * 32768)] 22)))
  go_ret
  exact ⟨⟨_, rfl, o2.base d2.size⟩, d3⟩
set_option maxRecDepth 100000 in
set_option maxHeartbeats 2000000 in
theorem zc4_far (n S X G : Int) (hS : 0 ≤ S ∧ S ≤ 1) (hX : 0 ≤ X ∧ X < 2048) (hG : 0 ≤ G ∧ G < 4503599627370496) (hx : X ≠ 2047) (hc : 896 < X) (hc1 : ¬ X - 896 < 255) (w : World) (kS : ∀ w, Calls Tryd.prog 36 #[.int .u64 n, .int .i64 8] w fun e w' => e = .returned (.tuple #[.int .u64 S, .int .i64 X, .int .u64 G]) ∧ Below w.heap.size w w') :
    Calls Tryd.prog 23 #[.int .u64 n, .int .i64 4] w fun e w' => (∃ v, e = .returned v ∧ OwnsW w' w.heap.size v [S * 2147483648]) ∧ Below w.heap.size w w' := by
  have kP := zparts4_any
  have u1 : IntKind.i64.wrap 31 = 31 := by decide
  have u2 : IntKind.i64.wrap 29 = 29 := by decide
  have u3 : IntKind.u64.wrap 256 = 256 := by decide
  have u4 : IntKind.u64.wrap 255 = 255 := by decide
  have u5 : IntKind.u64.wrap 2139095040 = 2139095040 := by decide
  have v0 : IntKind.u64.wrap (S * 2147483648) = S * 2147483648 := by rw [IntKind.wrap_u64]; omega
  have y1 : IntKind.i64.wrap (X - 1023) = X - 1023 := by rw [IntKind.wrap_i64]; omega
  obtain ⟨Y, hY⟩ : ∃ Y, X - 896 = Y := ⟨_, rfl⟩
  have y2 : IntKind.i64.wrap (X - 1023 + 127) = Y := by rw [IntKind.wrap_i64]; omega
  have e0 : (X == 2047) = false := by simp; omega
  have e1 : decide (1 ≤ Y) = true := by simp; omega
  have e2 : decide (Y < 255) = false := by simp; omega
  have e3 : decide (Y < 1) = false := by simp; omega
  have y3 : IntKind.i64.wrap (1 - Y) = 1 - Y := by rw [IntKind.wrap_i64]; omega
  have y4 : IntKind.i64.wrap (1 - Y + 52) = 1 - Y + 52 := by rw [IntKind.wrap_i64]; omega
  have y5 : IntKind.i64.wrap (1 - Y + 52 - 23) = 1 - Y + 52 - 23 := by rw [IntKind.wrap_i64]; omega
  clear hS hX hG hc hc1 hY hx
  go_enter Tryd.func23, Tryd.ntmps23
  go_wp2_with (first
    | (go_at_call 35; refine (kP _).mono ?_; rintro e w1 ⟨rfl, hw⟩; obtain rfl : w = w1 := hw.symm)
    | (go_at_call 36; refine (kS _).mono ?_; rintro e w2 ⟨rfl, d2⟩; have o2 := own_one w2 (S * 2147483648); have d3 := d2.alloc d2.size (.cells #[.int .u64 (S * 2147483648)] 22)))
  go_ret
  exact ⟨⟨_, rfl, o2.base d2.size⟩, d3⟩
set_option maxRecDepth 100000 in
set_option maxHeartbeats 2000000 in
theorem zc2_low (n S X G : Int) (hS : 0 ≤ S ∧ S ≤ 1) (hX : 0 ≤ X ∧ X < 2048) (hG : 0 ≤ G ∧ G < 4503599627370496) (hc : X ≤ 1008) (hc1 : 1051 - X < 64) (w : World) (kS : ∀ w, Calls Tryd.prog 36 #[.int .u64 n, .int .i64 8] w fun e w' => e = .returned (.tuple #[.int .u64 S, .int .i64 X, .int .u64 G]) ∧ Below w.heap.size w w') :
    Calls Tryd.prog 23 #[.int .u64 n, .int .i64 2] w fun e w' => (∃ v, e = .returned v ∧ OwnsW w' w.heap.size v [S * 32768, S * 32768 + (4503599627370496 + G) / 2 ^ (1051 - X).toNat]) ∧ Below w.heap.size w w' := by
  have kP := zparts2_any
  have u1 : IntKind.i64.wrap 15 = 15 := by decide
  have u2 : IntKind.i64.wrap 42 = 42 := by decide
  have u3 : IntKind.u64.wrap 32 = 32 := by decide
  have u4 : IntKind.u64.wrap 31 = 31 := by decide
  have u5 : IntKind.u64.wrap 31744 = 31744 := by decide
  have v0 : IntKind.u64.wrap (S * 32768) = S * 32768 := by rw [IntKind.wrap_u64]; omega
  have y1 : IntKind.i64.wrap (X - 1023) = X - 1023 := by rw [IntKind.wrap_i64]; omega
  obtain ⟨Y, hY⟩ : ∃ Y, X - 1008 = Y := ⟨_, rfl⟩
  have y2 : IntKind.i64.wrap (X - 1023 + 15) = Y := by rw [IntKind.wrap_i64]; omega
  have e0 : (X == 2047) = false := by simp; omega
  obtain ⟨Q, hQ⟩ : ∃ Q, (4503599627370496 + G) / 2 ^ (1051 - X).toNat = Q := ⟨_, rfl⟩
  have hq := near_q2 (X := X) (G := G) hG hc
  rw [Int.add_comm G, hQ] at hq
  have e1 : decide (1 ≤ Y) = false := by simp; omega
  have e3 : decide (Y < 1) = true := by simp; omega
  have y3 : IntKind.i64.wrap (1 - Y) = 1 - Y := by rw [IntKind.wrap_i64]; omega
  have y4 : IntKind.i64.wrap (1 - Y + 52) = 1 - Y + 52 := by rw [IntKind.wrap_i64]; omega
  obtain ⟨D, hD⟩ : ∃ D, 1051 - X = D := ⟨_, rfl⟩
  have y5 : IntKind.i64.wrap (1 - Y + 52 - 10) = D := by rw [IntKind.wrap_i64]; omega
  have e4 : decide (D < 64) = true := by simp; omega
  have y6 : IntKind.u64.wrap (4503599627370496 + G) = 4503599627370496 + G := by rw [IntKind.wrap_u64]; omega
  have hsh : Op.shift .shr .u64 (4503599627370496 + G) .i64 D = pure (.int .u64 Q) := by rw [hD] at hQ; rw [← hQ]; exact shr_kind _ _ _ (by omega) (by omega)
  have m1 : bits .or .u64 (S * 32768) Q = S * 32768 + Q := or_hi 10 _ _ (by omega) (by omega) (by omega) (by omega) (by omega) (by omega)
  rw [hQ]
  obtain ⟨V, hV⟩ : ∃ V, S * 32768 + Q = V := ⟨_, rfl⟩
  rw [hV]
  rw [hV] at m1
  clear hS hX hG hc hc1 hY hQ hq hD hV
  go_enter Tryd.func23, Tryd.ntmps23
  go_wp2_with (first
    | (go_at_call 35; refine (kP _).mono ?_; rintro e w1 ⟨rfl, hw⟩; obtain rfl : w = w1 := hw.symm)
    | (go_at_call 36; refine (kS _).mono ?_; rintro e w2 ⟨rfl, d2⟩; have o2 := own_one w2 (S * 32768); have d3 := d2.alloc d2.size (.cells #[.int .u64 (S * 32768)] 22))
    | (at_builtin; refine wpList_append_wds rfl _ _ rfl w2.heap.size _ [S * 32768] [V] rfl (o2.alloc _) _ 1 1 rfl rfl (by intro h; cases h) (two_wd w2 _ V) (by simp) (Nat.le_trans (Nat.le_of_lt (alloc_lt w2 _)) (Nat.le_of_lt (alloc_lt _ _))) ?_; intro v4 w4 ho4 hg4; have d4 := grownW_below ((Below.refl w2.heap.size (w2.alloc (.cells #[.int .u64 (S * 32768)] 22))).alloc (Nat.le_of_lt o2.ge.2) (.cells #[.int .u64 V] 22)) (o2.alloc _) hg4 (Nat.le_trans (Nat.le_of_lt (alloc_lt w2 _)) (Nat.le_of_lt (alloc_lt _ _))); have d5 : Below w.heap.size w w4 := d3.trans (d4.mono d2.size)))
  go_ret
  exact ⟨⟨_, rfl, ho4.base d2.size⟩, d5⟩
set_option maxRecDepth 100000 in
set_option maxHeartbeats 2000000 in
theorem zc4_low (n S X G : Int) (hS : 0 ≤ S ∧ S ≤ 1) (hX : 0 ≤ X ∧ X < 2048) (hG : 0 ≤ G ∧ G < 4503599627370496) (hc : X ≤ 896) (hc1 : 926 - X < 64) (w : World) (kS : ∀ w, Calls Tryd.prog 36 #[.int .u64 n, .int .i64 8] w fun e w' => e = .returned (.tuple #[.int .u64 S, .int .i64 X, .int .u64 G]) ∧ Below w.heap.size w w') :
    Calls Tryd.prog 23 #[.int .u64 n, .int .i64 4] w fun e w' => (∃ v, e = .returned v ∧ OwnsW w' w.heap.size v [S * 2147483648, S * 2147483648 + (4503599627370496 + G) / 2 ^ (926 - X).toNat]) ∧ Below w.heap.size w w' := by
  have kP := zparts4_any
  have u1 : IntKind.i64.wrap 31 = 31 := by decide
  have u2 : IntKind.i64.wrap 29 = 29 := by decide
  have u3 : IntKind.u64.wrap 256 = 256 := by decide
  have u4 : IntKind.u64.wrap 255 = 255 := by decide
  have u5 : IntKind.u64.wrap 2139095040 = 2139095040 := by decide
  have v0 : IntKind.u64.wrap (S * 2147483648) = S * 2147483648 := by rw [IntKind.wrap_u64]; omega
  have y1 : IntKind.i64.wrap (X - 1023) = X - 1023 := by rw [IntKind.wrap_i64]; omega
  obtain ⟨Y, hY⟩ : ∃ Y, X - 896 = Y := ⟨_, rfl⟩
  have y2 : IntKind.i64.wrap (X - 1023 + 127) = Y := by rw [IntKind.wrap_i64]; omega
  have e0 : (X == 2047) = false := by simp; omega
  obtain ⟨Q, hQ⟩ : ∃ Q, (4503599627370496 + G) / 2 ^ (926 - X).toNat = Q := ⟨_, rfl⟩
  have hq := near_q4 (X := X) (G := G) hG hc
  rw [Int.add_comm G, hQ] at hq
  have e1 : decide (1 ≤ Y) = false := by simp; omega
  have e3 : decide (Y < 1) = true := by simp; omega
  have y3 : IntKind.i64.wrap (1 - Y) = 1 - Y := by rw [IntKind.wrap_i64]; omega
  have y4 : IntKind.i64.wrap (1 - Y + 52) = 1 - Y + 52 := by rw [IntKind.wrap_i64]; omega
  obtain ⟨D, hD⟩ : ∃ D, 926 - X = D := ⟨_, rfl⟩
  have y5 : IntKind.i64.wrap (1 - Y + 52 - 23) = D := by rw [IntKind.wrap_i64]; omega
  have e4 : decide (D < 64) = true := by simp; omega
  have y6 : IntKind.u64.wrap (4503599627370496 + G) = 4503599627370496 + G := by rw [IntKind.wrap_u64]; omega
  have hsh : Op.shift .shr .u64 (4503599627370496 + G) .i64 D = pure (.int .u64 Q) := by rw [hD] at hQ; rw [← hQ]; exact shr_kind _ _ _ (by omega) (by omega)
  have m1 : bits .or .u64 (S * 2147483648) Q = S * 2147483648 + Q := or_hi 23 _ _ (by omega) (by omega) (by omega) (by omega) (by omega) (by omega)
  rw [hQ]
  obtain ⟨V, hV⟩ : ∃ V, S * 2147483648 + Q = V := ⟨_, rfl⟩
  rw [hV]
  rw [hV] at m1
  clear hS hX hG hc hc1 hY hQ hq hD hV
  go_enter Tryd.func23, Tryd.ntmps23
  go_wp2_with (first
    | (go_at_call 35; refine (kP _).mono ?_; rintro e w1 ⟨rfl, hw⟩; obtain rfl : w = w1 := hw.symm)
    | (go_at_call 36; refine (kS _).mono ?_; rintro e w2 ⟨rfl, d2⟩; have o2 := own_one w2 (S * 2147483648); have d3 := d2.alloc d2.size (.cells #[.int .u64 (S * 2147483648)] 22))
    | (at_builtin; refine wpList_append_wds rfl _ _ rfl w2.heap.size _ [S * 2147483648] [V] rfl (o2.alloc _) _ 1 1 rfl rfl (by intro h; cases h) (two_wd w2 _ V) (by simp) (Nat.le_trans (Nat.le_of_lt (alloc_lt w2 _)) (Nat.le_of_lt (alloc_lt _ _))) ?_; intro v4 w4 ho4 hg4; have d4 := grownW_below ((Below.refl w2.heap.size (w2.alloc (.cells #[.int .u64 (S * 2147483648)] 22))).alloc (Nat.le_of_lt o2.ge.2) (.cells #[.int .u64 V] 22)) (o2.alloc _) hg4 (Nat.le_trans (Nat.le_of_lt (alloc_lt w2 _)) (Nat.le_of_lt (alloc_lt _ _))); have d5 : Below w.heap.size w w4 := d3.trans (d4.mono d2.size)))
  go_ret
  exact ⟨⟨_, rfl, ho4.base d2.size⟩, d5⟩
set_option maxRecDepth 100000 in
set_option maxHeartbeats 2000000 in
theorem zc2_deep (n S X G : Int) (hS : 0 ≤ S ∧ S ≤ 1) (hX : 0 ≤ X ∧ X < 2048) (hG : 0 ≤ G ∧ G < 4503599627370496) (hc : X ≤ 1008) (hc1 : ¬ 1051 - X < 64) (w : World) (kS : ∀ w, Calls Tryd.prog 36 #[.int .u64 n, .int .i64 8] w fun e w' => e = .returned (.tuple #[.int .u64 S, .int .i64 X, .int .u64 G]) ∧ Below w.heap.size w w') :
    Calls Tryd.prog 23 #[.int .u64 n, .int .i64 2] w fun e w' => (∃ v, e = .returned v ∧ OwnsW w' w.heap.size v [S * 32768]) ∧ Below w.heap.size w w' := by
  have kP := zparts2_any
  have u1 : IntKind.i64.wrap 15 = 15 := by decide
  have u2 : IntKind.i64.wrap 42 = 42 := by decide
  have u3 : IntKind.u64.wrap 32 = 32 := by decide
  have u4 : IntKind.u64.wrap 31 = 31 := by decide
  have u5 : IntKind.u64.wrap 31744 = 31744 := by decide
  have v0 : IntKind.u64.wrap (S * 32768) = S * 32768 := by rw [IntKind.wrap_u64]; omega
  have y1 : IntKind.i64.wrap (X - 1023) = X - 1023 := by rw [IntKind.wrap_i64]; omega
  obtain ⟨Y, hY⟩ : ∃ Y, X - 1008 = Y := ⟨_, rfl⟩
  have y2 : IntKind.i64.wrap (X - 1023 + 15) = Y := by rw [IntKind.wrap_i64]; omega
  have e0 : (X == 2047) = false := by simp; omega
  have e1 : decide (1 ≤ Y) = false := by simp; omega
  have e3 : decide (Y < 1) = true := by simp; omega
  have y3 : IntKind.i64.wrap (1 - Y) = 1 - Y := by rw [IntKind.wrap_i64]; omega
  have y4 : IntKind.i64.wrap (1 - Y + 52) = 1 - Y + 52 := by rw [IntKind.wrap_i64]; omega
  obtain ⟨D, hD⟩ : ∃ D, 1051 - X = D := ⟨_, rfl⟩
  have y5 : IntKind.i64.wrap (1 - Y + 52 - 10) = D := by rw [IntKind.wrap_i64]; omega
  have e4 : decide (D < 64) = false := by simp; omega
  clear hS hX hG hc hc1 hY hD
  go_enter Tryd.func23, Tryd.ntmps23
  go_wp2_with (first
    | (go_at_call 35; refine (kP _).mono ?_; rintro e w1 ⟨rfl, hw⟩; obtain rfl : w = w1 := hw.symm)
    | (go_at_call 36; refine (kS _).mono ?_; rintro e w2 ⟨rfl, d2⟩; have o2 := own_one w2 (S * 32768); have d3 := d2.alloc d2.size (.cells #[.int .u64 (S * 32768)] 22)))
  go_ret
  exact ⟨⟨_, rfl, o2.base d2.size⟩, d3⟩
set_option maxRecDepth 100000 in
set_option maxHeartbeats 2000000 in
theorem zc4_deep (n S X G : Int) (hS : 0 ≤ S ∧ S ≤ 1) (hX : 0 ≤ X ∧ X < 2048) (hG : 0 ≤ G ∧ G < 4503599627370496) (hc : X ≤ 896) (hc1 : ¬ 926 - X < 64) (w : World) (kS : ∀ w, Calls Tryd.prog 36 #[.int .u64 n, .int .i64 8] w fun e w' => e = .returned (.tuple #[.int .u64 S, .int .i64 X, .int .u64 G]) ∧ Below w.heap.size w w') :
    Calls Tryd.prog 23 #[.int .u64 n, .int .i64 4] w fun e w' => (∃ v, e = .returned v ∧ OwnsW w' w.heap.size v [S * 2147483648]) ∧ Below w.heap.size w w' := by
  have kP := zparts4_any
  have u1 : IntKind.i64.wrap 31 = 31 := by decide
  have u2 : IntKind.i64.wrap 29 = 29 := by decide
  have u3 : IntKind.u64.wrap 256 = 256 := by decide
  have u4 : IntKind.u64.wrap 255 = 255 := by decide
  have u5 : IntKind.u64.wrap 2139095040 = 2139095040 := by decide
  have v0 : IntKind.u64.wrap (S * 2147483648) = S * 2147483648 := by rw [IntKind.wrap_u64]; omega
  have y1 : IntKind.i64.wrap (X - 1023) = X - 1023 := by rw [IntKind.wrap_i64]; omega
  obtain ⟨Y, hY⟩ : ∃ Y, X - 896 = Y := ⟨_, rfl⟩
  have y2 : IntKind.i64.wrap (X - 1023 + 127) = Y := by rw [IntKind.wrap_i64]; omega
  have e0 : (X == 2047) = false := by simp; omega
  have e1 : decide (1 ≤ Y) = false := by simp; omega
  have e3 : decide (Y < 1) = true := by simp; omega
  have y3 : IntKind.i64.wrap (1 - Y) = 1 - Y := by rw [IntKind.wrap_i64]; omega
  have y4 : IntKind.i64.wrap (1 - Y + 52) = 1 - Y + 52 := by rw [IntKind.wrap_i64]; omega
  obtain ⟨D, hD⟩ : ∃ D, 926 - X = D := ⟨_, rfl⟩
  have y5 : IntKind.i64.wrap (1 - Y + 52 - 23) = D := by rw [IntKind.wrap_i64]; omega
  have e4 : decide (D < 64) = false := by simp; omega
  clear hS hX hG hc hc1 hY hD
  go_enter Tryd.func23, Tryd.ntmps23
  go_wp2_with (first
    | (go_at_call 35; refine (kP _).mono ?_; rintro e w1 ⟨rfl, hw⟩; obtain rfl : w = w1 := hw.symm)
    | (go_at_call 36; refine (kS _).mono ?_; rintro e w2 ⟨rfl, d2⟩; have o2 := own_one w2 (S * 2147483648); have d3 := d2.alloc d2.size (.cells #[.int .u64 (S * 2147483648)] 22)))
  go_ret
  exact ⟨⟨_, rfl, o2.base d2.size⟩, d3⟩
end Go.Proofs.YtjdceigndleadaaDoor
