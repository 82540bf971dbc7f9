/-
  How two numbers stand: dec.Order.
-/
import Derived.Test.YtcnfgmhcbelgoaaDoorNum
import Derived.Test.YtcnfgmhcbelgoaaDoorCmp
import Derived.Test.YtcnfgmhcbelgoaaDoorDlex
import Derived.Deep.RegionHeld3
namespace Go.Proofs.YtcnfgmhcbelgoaaDoor
open Go.RowKit

theorem sign_any (n : Bool) (s : ByteArray) (x : Int) (w : World) : Calls Tryd.prog 44 #[.agg #[.bool n, .string s, .int .i64 x]] w fun e w' => e = .returned (.int .i64 (signA n s x)) ∧ Below w.heap.size w w' := by
  have hB := box_at w n s x 23
  have kI := iszero_any n s x
  unfold signA
  by_cases hz : n = false ∧ s = zS ∧ x = 0
  · rw [if_pos hz]
    rw [decide_eq_true hz] at kI
    clear hz
    obtain ⟨b0, b1, b2⟩ := hB
    go_enter Tryd.func44, Tryd.ntmps44
    go_wp2_with (go_at_call 39; refine (kI _).mono ?_; rintro e w1 ⟨rfl, hb⟩)
    go_ret
    exact ⟨rfl, box_below hb⟩
  · rw [if_neg hz]
    rw [decide_eq_false hz] at kI
    clear hz
    cases n with
    | true =>
      obtain ⟨b0, b1, b2⟩ := id hB
      go_enter Tryd.func44, Tryd.ntmps44
      go_wp2_with (go_at_call 39; refine (kI _).mono ?_; rintro e w1 ⟨rfl, hb⟩; obtain ⟨c0, c1, c2⟩ := hB.kept hb (alloc_lt _ _))
      go_ret
      exact ⟨rfl, box_below hb⟩
    | false =>
      obtain ⟨b0, b1, b2⟩ := id hB
      go_enter Tryd.func44, Tryd.ntmps44
      go_wp2_with (go_at_call 39; refine (kI _).mono ?_; rintro e w1 ⟨rfl, hb⟩; obtain ⟨c0, c1, c2⟩ := hB.kept hb (alloc_lt _ _))
      go_ret
      exact ⟨rfl, box_below hb⟩
/-- Two numbers, in two blocks. -/
def Two (w wx : World) (n : Bool) (s : ByteArray) (x : Int) (m : Bool) (t : ByteArray) (y : Int) : Prop := NmAt wx w.heap.size n s x ∧ NmAt wx (w.heap.size + 1) m t y
theorem two_new (w : World) (n : Bool) (s : ByteArray) (x : Int) (m : Bool) (t : ByteArray) (y : Int) : Two w ((w.alloc (.cells #[.bool n, .string s, .int .i64 x] 23)).alloc (.cells #[.bool m, .string t, .int .i64 y] 23)) n s x m t y := by
  refine ⟨(box_at w n s x 23).kept (alloc_below _ _) (alloc_lt _ _), ?_⟩
  have h := box_at (w.alloc (.cells #[.bool n, .string s, .int .i64 x] 23)) m t y 23
  have e : (w.alloc (.cells #[.bool n, .string s, .int .i64 x] 23)).heap.size = w.heap.size + 1 := by simp
  rw [e] at h
  exact h
theorem Two.on {w wx wy : World} {n m : Bool} {s t : ByteArray} {x y : Int} (h : Two w wx n s x m t y) {B : Nat} (hb : Below B wx wy) (hB : w.heap.size + 2 ≤ B) : Two w wy n s x m t y :=
  ⟨h.1.kept hb (by omega), h.2.kept hb (by omega)⟩
theorem two_below (w : World) (o o' : Obj) : Below w.heap.size w ((w.alloc o).alloc o') := ((Below.refl _ _).alloc (Nat.le_refl _) _).alloc (by simp) _
theorem two_size (w : World) (o o' : Obj) : ((w.alloc o).alloc o').heap.size = w.heap.size + 2 := by simp
set_option maxHeartbeats 1000000 in
theorem sizes_any (n : Bool) (s : ByteArray) (x : Int) (m : Bool) (t : ByteArray) (y : Int) (w : World) (hs : s.size ≤ 800) (ht : t.size ≤ 800) (hx : -2000 ≤ x ∧ x ≤ 2000) (hy : -2000 ≤ y ∧ y ≤ 2000) :
    Calls Tryd.prog 46 #[.agg #[.bool n, .string s, .int .i64 x], .agg #[.bool m, .string t, .int .i64 y]] w fun e w' => e = .returned (.int .i64 (sizesA s x t y)) ∧ Below w.heap.size w w' := by
  obtain ⟨⟨a0, a1, a2⟩, ⟨b0, b1, b2⟩⟩ := two_new w n s x m t y
  obtain ⟨X, hX⟩ : ∃ X, (s.size : Int) + x = X := ⟨_, rfl⟩
  obtain ⟨Y, hY⟩ : ∃ Y, (t.size : Int) + y = Y := ⟨_, rfl⟩
  have w1 : IntKind.i64.wrap ((s.size : Int) + x) = X := by rw [IntKind.wrap_i64] <;> omega
  have w2 : IntKind.i64.wrap ((t.size : Int) + y) = Y := by rw [IntKind.wrap_i64] <;> omega
  have kC := cmpi_any X Y
  have kS := cmps_any s t
  have hb := two_below w (.cells #[.bool n, .string s, .int .i64 x] 23) (.cells #[.bool m, .string t, .int .i64 y] 23)
  have hR : Hid (sizesA s x t y = if Lib.compareInt X Y ≠ 0 then Lib.compareInt X Y else Lib.compareBytes s.data.toList t.data.toList) := by show _ = _; unfold sizesA; rw [hX, hY]
  clear hX hY hx hy hs ht
  generalize sizesA s x t y = R at *
  generalize Lib.compareInt X Y = C at *
  generalize Lib.compareBytes s.data.toList t.data.toList = D at *
  by_cases h0 : C = 0
  · have hR' := hR.out
    rw [if_neg (by simp [h0])] at hR'
    subst hR'
    subst h0
    clear hR
    go_enter Tryd.func46, Tryd.ntmps46
    go_wp2_with (first
      | (go_at_call 45; refine (kC _).mono ?_; rintro e w3 ⟨rfl, hw⟩; rw [hw]; clear hw)
      | (go_at_call 64; refine (kS _).mono ?_; rintro e w3 ⟨rfl, hw⟩; rw [hw]; clear hw))
    go_ret
    exact ⟨rfl, hb⟩
  · have hR' := hR.out
    rw [if_pos h0] at hR'
    have d0 : (C != 0) = true := by simpa using h0
    subst hR'
    clear hR h0
    go_enter Tryd.func46, Tryd.ntmps46
    go_wp2_with (first
      | (go_at_call 45; refine (kC _).mono ?_; rintro e w3 ⟨rfl, hw⟩; rw [hw]; clear hw))
    go_ret
    exact ⟨rfl, hb⟩
set_option maxHeartbeats 2000000 in
set_option maxRecDepth 100000 in
theorem order_any (n : Bool) (s : ByteArray) (x : Int) (m : Bool) (t : ByteArray) (y : Int) (w : World) :
    Calls Tryd.prog 20 #[.agg #[.bool n, .string s, .int .i64 x], .agg #[.bool m, .string t, .int .i64 y]] w fun e w' => e = .returned (.tuple #[.int .i64 (orderA (n, s, x) (m, t, y)).1, .int .i64 (orderA (n, s, x) (m, t, y)).2]) ∧ Below w.heap.size w w' := by
  have hT := two_new w n s x m t y
  obtain ⟨⟨a0, a1, a2⟩, ⟨b0, b1, b2⟩⟩ := id hT
  have hb := two_below w (.cells #[.bool n, .string s, .int .i64 x] 23) (.cells #[.bool m, .string t, .int .i64 y] 23)
  have hs := two_size w (.cells #[.bool n, .string s, .int .i64 x] 23) (.cells #[.bool m, .string t, .int .i64 y] 23)
  have k1 := dright_any n s x
  have k2 := dright_any m t y
  have hT' : Hid (Two w ((w.alloc (.cells #[.bool n, .string s, .int .i64 x] 23)).alloc (.cells #[.bool m, .string t, .int .i64 y] 23)) n s x m t y) := hT
  have hb' : Hid (Below w.heap.size w ((w.alloc (.cells #[.bool n, .string s, .int .i64 x] 23)).alloc (.cells #[.bool m, .string t, .int .i64 y] 23))) := hb
  have hs' : Hid (((w.alloc (.cells #[.bool n, .string s, .int .i64 x] 23)).alloc (.cells #[.bool m, .string t, .int .i64 y] 23)).heap.size = w.heap.size + 2) := hs
  clear hT hb hs
  cases hr : rtN n s x with
  | false =>
    have hR : orderA (n, s, x) (m, t, y) = (0, 1) := by unfold orderA; rw [if_neg (by rw [hr]; simp)]
    rw [hR]
    rw [hr] at k1
    clear hR hr k2
    go_enter Tryd.func20, Tryd.ntmps20
    go_wp2_with (go_at_call 16; refine (k1 _).mono ?_; rintro e w3 ⟨rfl, b3⟩)
    go_ret2
    exact ⟨rfl, hb'.out.trans (b3.mono (by have := hs'.out; omega))⟩
  | true =>
  rw [hr] at k1
  cases hq : rtN m t y with
  | false =>
    have hR : orderA (n, s, x) (m, t, y) = (0, 1) := by unfold orderA; rw [if_neg (by rw [hq]; simp)]
    rw [hR]
    rw [hq] at k2
    clear hR hr hq
    go_enter Tryd.func20, Tryd.ntmps20
    go_wp2_with fail
    refine (k1 _).mono ?_
    rintro e w3 ⟨rfl, b3⟩
    obtain ⟨⟨c0, c1, c2⟩, ⟨d0, d1, d2⟩⟩ := hT'.out.on b3 (by have := hs'.out; omega)
    go_wp2_with fail
    refine (k2 _).mono ?_
    rintro e w4 ⟨rfl, b4⟩
    have b34 := b3.trans (b4.mono b3.size)
    go_wp2
    go_ret2
    exact ⟨rfl, hb'.out.trans (b34.mono (by have := hs'.out; omega))⟩
  | true =>
  rw [hq] at k2
  have hR : orderA (n, s, x) (m, t, y) = (cmpI (skey n (bs s) x) (skey m (bs t) y), 0) := by unfold orderA; rw [if_pos ⟨hr, hq⟩]
  rw [hR]
  clear hR
  have kS := sign_any
  by_cases h0 : signA n s x = signA m t y
  · have hv := order_alike hr hq h0
    have kZ := fun w => sizes_any n s x m t y w (rt_size (rtN_rt hr)).2 (rt_size (rtN_rt hq)).2 (rtN_exp hr) (rtN_exp hq)
    have hsm := sizes_small s x t y
    have hS1 : -1 ≤ signA n s x ∧ signA n s x ≤ 1 := by rcases sign_cases hr with ⟨h, _⟩ | ⟨h, _⟩ | ⟨h, _⟩ <;> omega
    have k5 := kS n s x
    have k6 := kS m t y
    rw [← h0] at k6
    clear kS hr hq h0
    rw [← hv]
    clear hv
    generalize signA n s x = S at *
    generalize sizesA s x t y = Z at *
    obtain ⟨V, hV⟩ : ∃ V, S * Z = V := ⟨_, rfl⟩
    have wZ : IntKind.i64.wrap (S * Z) = V := by
      rw [← hV]
      have : S = -1 ∨ S = 0 ∨ S = 1 := by omega
      rcases this with rfl | rfl | rfl <;> (rw [IntKind.wrap_i64] <;> omega)
    rw [hV]
    clear hsm hS1 hV
    go_enter Tryd.func20, Tryd.ntmps20
    go_wp2_with fail
    refine (k1 _).mono ?_
    rintro e w3 ⟨rfl, b3⟩
    have hT3 := hT'.out.on b3 (by have := hs'.out; omega)
    obtain ⟨⟨c0, c1, c2⟩, ⟨d0, d1, d2⟩⟩ := id hT3
    go_wp2_with fail
    refine (k2 _).mono ?_
    rintro e w4 ⟨rfl, b4⟩
    have s3 : w.heap.size + 2 ≤ w3.heap.size := by have := hs'.out; have := b3.size; omega
    have hT4 : Hid (Two w w4 n s x m t y) := hT3.on b4 s3
    have b4' : Hid (Below w.heap.size w w4) := hb'.out.trans ((b3.mono (by have := hs'.out; omega)).trans (b4.mono (by omega)))
    have s4 : w.heap.size + 2 ≤ w4.heap.size := Nat.le_trans s3 b4.size
    clear b3 b4 hT3 hT' hb' hs'
    go_wp2
    go_region_held3 (fun wx => (wx.cell? ⟨w.heap.size, 0, none⟩ = some (.bool n) ∧ wx.cell? ⟨w.heap.size, 1, none⟩ = some (.string s) ∧ wx.cell? ⟨w.heap.size, 2, none⟩ = some (.int .i64 x)) ∧ wx.cell? ⟨w.heap.size + 1, 0, none⟩ = some (.bool m) ∧ wx.cell? ⟨w.heap.size + 1, 1, none⟩ = some (.string t) ∧ wx.cell? ⟨w.heap.size + 1, 2, none⟩ = some (.int .i64 y)) (first | exact hT4.out | exact hT5.out | exact hT6.out) (first
      | (go_at_call 44; refine (k5 _).mono ?_; rintro e w5 ⟨rfl, q5⟩; have hT5 : Hid (Two w w5 n s x m t y) := Two.on (wx := w4.drew) hT4.out q5 s4; have r5 : Hid (Below w.heap.size w w5) := (b4'.out.drew).trans (q5.mono (by show _ ≤ w4.heap.size; omega)); have s5 : w.heap.size + 2 ≤ w5.heap.size := Nat.le_trans s4 q5.size)
      | (go_at_call 44; refine (k6 _).mono ?_; rintro e w6 ⟨rfl, q6⟩; have hT6 : Hid (Two w w6 n s x m t y) := hT5.out.on q6 s5; have b6' : Hid (Below w.heap.size w w6) := r5.out.trans (q6.mono (by omega)); have s6 : w.heap.size + 2 ≤ w6.heap.size := Nat.le_trans s5 q6.size))
    go_wp2
    go_region_held3 (fun wx => (wx.cell? ⟨w.heap.size, 0, none⟩ = some (.bool n) ∧ wx.cell? ⟨w.heap.size, 1, none⟩ = some (.string s) ∧ wx.cell? ⟨w.heap.size, 2, none⟩ = some (.int .i64 x)) ∧ wx.cell? ⟨w.heap.size + 1, 0, none⟩ = some (.bool m) ∧ wx.cell? ⟨w.heap.size + 1, 1, none⟩ = some (.string t) ∧ wx.cell? ⟨w.heap.size + 1, 2, none⟩ = some (.int .i64 y)) (first | exact hT6.out | exact hT7.out | exact hT8.out) (first
      | (go_at_call 44; refine (k5 _).mono ?_; rintro e w7 ⟨rfl, q7⟩; have hT7 : Hid (Two w w7 n s x m t y) := Two.on (wx := w6.drew) hT6.out q7 s6; have r7 : Hid (Below w.heap.size w w7) := (b6'.out.drew).trans (q7.mono (by show _ ≤ w6.heap.size; omega)); have s7 : w.heap.size + 2 ≤ w7.heap.size := Nat.le_trans s6 q7.size)
      | (go_at_call 46; refine (kZ _).mono ?_; rintro e w8 ⟨rfl, q8⟩; have hT8 : Hid (Two w w8 n s x m t y) := hT7.out.on q8 s7; have b8' : Hid (Below w.heap.size w w8) := r7.out.trans (q8.mono (by omega)); have s8 : w.heap.size + 2 ≤ w8.heap.size := Nat.le_trans s7 q8.size))
    go_wp2
    go_ret2
    exact ⟨rfl, b8'.out⟩
  · have hv := order_apart hr hq h0
    have k5 := kS n s x
    have k6 := kS m t y
    have kC := cmpi_any (signA n s x) (signA m t y)
    have d5 : (signA n s x != signA m t y) = true := by simpa using h0
    rw [hv] at kC
    clear kS hr hq h0 hv
    generalize signA n s x = S at *
    generalize signA m t y = Z at *
    generalize cmpI (skey n (bs s) x) (skey m (bs t) y) = V at *
    go_enter Tryd.func20, Tryd.ntmps20
    go_wp2_with fail
    refine (k1 _).mono ?_
    rintro e w3 ⟨rfl, b3⟩
    have hT3 := hT'.out.on b3 (by have := hs'.out; omega)
    obtain ⟨⟨c0, c1, c2⟩, ⟨d0, d1, d2⟩⟩ := id hT3
    go_wp2_with fail
    refine (k2 _).mono ?_
    rintro e w4 ⟨rfl, b4⟩
    have s3 : w.heap.size + 2 ≤ w3.heap.size := by have := hs'.out; have := b3.size; omega
    have hT4 : Hid (Two w w4 n s x m t y) := hT3.on b4 s3
    have b4' : Hid (Below w.heap.size w w4) := hb'.out.trans ((b3.mono (by have := hs'.out; omega)).trans (b4.mono (by omega)))
    have s4 : w.heap.size + 2 ≤ w4.heap.size := Nat.le_trans s3 b4.size
    clear b3 b4 hT3 hT' hb' hs'
    go_wp2
    go_region_held3 (fun wx => (wx.cell? ⟨w.heap.size, 0, none⟩ = some (.bool n) ∧ wx.cell? ⟨w.heap.size, 1, none⟩ = some (.string s) ∧ wx.cell? ⟨w.heap.size, 2, none⟩ = some (.int .i64 x)) ∧ wx.cell? ⟨w.heap.size + 1, 0, none⟩ = some (.bool m) ∧ wx.cell? ⟨w.heap.size + 1, 1, none⟩ = some (.string t) ∧ wx.cell? ⟨w.heap.size + 1, 2, none⟩ = some (.int .i64 y)) (first | exact hT4.out | exact hT5.out | exact hT6.out) (first
      | (go_at_call 44; refine (k5 _).mono ?_; rintro e w5 ⟨rfl, q5⟩; have hT5 : Hid (Two w w5 n s x m t y) := Two.on (wx := w4.drew) hT4.out q5 s4; have r5 : Hid (Below w.heap.size w w5) := (b4'.out.drew).trans (q5.mono (by show _ ≤ w4.heap.size; omega)); have s5 : w.heap.size + 2 ≤ w5.heap.size := Nat.le_trans s4 q5.size)
      | (go_at_call 44; refine (k6 _).mono ?_; rintro e w6 ⟨rfl, q6⟩; have hT6 : Hid (Two w w6 n s x m t y) := hT5.out.on q6 s5; have b6' : Hid (Below w.heap.size w w6) := r5.out.trans (q6.mono (by omega)); have s6 : w.heap.size + 2 ≤ w6.heap.size := Nat.le_trans s5 q6.size))
    go_wp2
    go_region_held3 (fun wx => (wx.cell? ⟨w.heap.size, 0, none⟩ = some (.bool n) ∧ wx.cell? ⟨w.heap.size, 1, none⟩ = some (.string s) ∧ wx.cell? ⟨w.heap.size, 2, none⟩ = some (.int .i64 x)) ∧ wx.cell? ⟨w.heap.size + 1, 0, none⟩ = some (.bool m) ∧ wx.cell? ⟨w.heap.size + 1, 1, none⟩ = some (.string t) ∧ wx.cell? ⟨w.heap.size + 1, 2, none⟩ = some (.int .i64 y)) (first | exact hT6.out | exact hT7.out | exact hT8.out) (first
      | (go_at_call 44; refine (k5 _).mono ?_; rintro e w7 ⟨rfl, q7⟩; have hT7 : Hid (Two w w7 n s x m t y) := Two.on (wx := w6.drew) hT6.out q7 s6; have r7 : Hid (Below w.heap.size w w7) := (b6'.out.drew).trans (q7.mono (by show _ ≤ w6.heap.size; omega)); have s7 : w.heap.size + 2 ≤ w7.heap.size := Nat.le_trans s6 q7.size)
      | (go_at_call 44; refine (k6 _).mono ?_; rintro e w8 ⟨rfl, q8⟩; have hT8 : Hid (Two w w8 n s x m t y) := hT7.out.on q8 s7; have b8' : Hid (Below w.heap.size w w8) := r7.out.trans (q8.mono (by omega)); have s8 : w.heap.size + 2 ≤ w8.heap.size := Nat.le_trans s7 q8.size)
      | (go_at_call 45; refine (kC _).mono ?_; rintro e w9 ⟨rfl, hw9⟩; obtain rfl : w8 = w9 := hw9.symm))
    go_wp2
    go_ret2
    exact ⟨rfl, b8'.out⟩
end Go.Proofs.YtcnfgmhcbelgoaaDoor
