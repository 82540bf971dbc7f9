/-
  Which bits are of a number, its sign, and which number: flt.Finite, Negative, Exact.
-/
import Derived.Test.YtjdceigndleadaaGreatDoorFspl
import Derived.Test.YtjdceigndleadaaGreatDoorFexp
import Derived.BigQuiet
import Derived.Test.YtjdceigndleadaaGreatDoorFmt
import Derived.Test.YtjdceigndleadaaGreatDoorPow
import Derived.Test.YtjdceigndleadaaGreatDoorMake
namespace Go.Proofs.YtjdceigndleadaaGreatDoor
open Go.RowKit

set_option maxRecDepth 100000 in
theorem negative_any (n : Int) (hn : 0 ≤ n ∧ n < 18446744073709551616) (w : World) : Calls Tryz.prog 8 #[.int .u64 n] w fun e w' => e = .returned (.bool (decide (9223372036854775808 ≤ n))) ∧ Below w.heap.size w w' := by
  have k0 := wide_any
  have kS := split8_any n hn.1 (by omega)
  have hf := fldP0
  have hd : (n / 9223372036854775808 != 0) = decide (9223372036854775808 ≤ n) := by rw [Bool.eq_iff_iff, bne_iff_ne, decide_eq_true_iff]; omega
  clear hn
  generalize decide (9223372036854775808 ≤ n) = D at *
  generalize n / 9223372036854775808 = S at *
  generalize n / 4503599627370496 % 2048 = X at *
  generalize n % 4503599627370496 = G at *
  go_enter Tryz.func8, Tryz.ntmps8
  go_wp2_with (first
    | (go_at_call 11; refine (k0 _).mono ?_; rintro e w1 ⟨rfl, d1⟩)
    | (go_at_call 21; refine (kS _).mono ?_; rintro e w2 ⟨rfl, b2⟩; have d2 := d1.trans (b2.mono d1.size)))
  go_ret
  exact ⟨rfl, d2⟩
set_option maxRecDepth 100000 in
theorem finite_any (n : Int) (hn : 0 ≤ n ∧ n < 18446744073709551616) (w : World) : Calls Tryz.prog 6 #[.int .u64 n] w fun e w' => e = .returned (.bool (decide (n / 4503599627370496 % 2048 ≠ 2047))) ∧ Below w.heap.size w w' := by
  have k0 := wide_any
  have k8 := top8_any
  have kS := split8_any n hn.1 (by omega)
  have hf := fldP1
  have hd : (n / 4503599627370496 % 2048 != 2047) = decide (n / 4503599627370496 % 2048 ≠ 2047) := by rw [Bool.eq_iff_iff, bne_iff_ne, decide_eq_true_iff]
  clear hn
  generalize decide (n / 4503599627370496 % 2048 ≠ 2047) = D at *
  generalize n / 9223372036854775808 = S at *
  generalize n / 4503599627370496 % 2048 = X at *
  generalize n % 4503599627370496 = G at *
  go_enter Tryz.func6, Tryz.ntmps6
  go_wp2_with fail
  refine (k0 _).mono ?_
  rintro e w1 ⟨rfl, d1⟩
  go_wp2_with fail
  refine (kS _).mono ?_
  rintro e w2 ⟨rfl, b2⟩
  have d2 := d1.trans (b2.mono d1.size)
  go_wp2_with fail
  refine (k0 _).mono ?_
  rintro e w3 ⟨rfl, b3⟩
  have d3 := d2.trans (b3.mono d2.size)
  go_wp2_with fail
  refine (k8 _).mono ?_
  rintro e w4 ⟨rfl, b4⟩
  have d4 := d3.trans (b4.mono d3.size)
  go_wp2
  go_ret
  exact ⟨rfl, d4⟩
set_option maxRecDepth 100000 in
set_option maxHeartbeats 1000000 in
theorem size_any (n : Int) (hn : 0 ≤ n ∧ n < 18446744073709551616) (w : World) : Calls Tryz.prog 12 #[.agg #[.int .i64 8, .int .i64 11, .int .i64 52], .int .u64 n] w fun e w' => e = .returned (.tuple #[.int .u64 (sizM (n / 4503599627370496 % 2048) (n % 4503599627370496)), .int .i64 (sizP (n / 4503599627370496 % 2048))]) ∧ Below w.heap.size w w' := by
  have k8 := top8_any
  have kA := ahead8_any
  have kS := split8_any n hn.1 (by omega)
  have hX : 0 ≤ n / 4503599627370496 % 2048 ∧ n / 4503599627370496 % 2048 < 2048 := by omega
  have hG : 0 ≤ n % 4503599627370496 ∧ n % 4503599627370496 < 4503599627370496 := by omega
  clear hn
  generalize n / 9223372036854775808 = S at *
  generalize n / 4503599627370496 % 2048 = X at *
  generalize n % 4503599627370496 = G at *
  have i0 : IntKind.u64.wrap 1023 = 1023 := by decide
  have i1 : IntKind.i64.wrap 1023 = 1023 := by decide
  have i2 : IntKind.i64.wrap (-1022) = -1022 := by decide
  have i3 : IntKind.i64.wrap (-1074) = -1074 := by decide
  have i4 : IntKind.i64.wrap (-1075) = -1075 := by decide
  have i5 : IntKind.u64.wrap (4503599627370496 + G) = 4503599627370496 + G := by rw [IntKind.wrap_u64]; omega
  have i6 : IntKind.i64.wrap X = X := by rw [IntKind.wrap_i64]; omega
  have i7 : IntKind.i64.wrap (-1075 + X) = X - 1075 := by rw [IntKind.wrap_i64]; omega
  have r0 := row3_new w 34 (.int .i64 8) (.int .i64 11) (.int .i64 52)
  clear hG
  by_cases hz : X = 0
  · have e1 : (X == 0) = true := by simpa using hz
    have hM : sizM X G = G := by unfold sizM; rw [if_pos hz]
    have hP : sizP X = -1074 := by unfold sizP; rw [if_pos hz]
    rw [hM, hP]
    clear hM hP hz hX i6 i7
    go_enter Tryz.func12, Tryz.ntmps12
    go_wp2_with (go_at_call 21; refine (kS _).mono ?_; rintro e w1 ⟨rfl, b1⟩; have d1 := box_below b1; have q1 := r0.kept b1 r0.lt)
    have pA := row3_new w1 48 (.int .u64 S) (.int .u64 X) (.int .u64 G)
    have dA := d1.alloc d1.size (.cells #[.int .u64 S, .int .u64 X, .int .u64 G] 48)
    have qA := q1.kept (alloc_below w1 (.cells #[.int .u64 S, .int .u64 X, .int .u64 G] 48)) q1.lt
    generalize w1.alloc (.cells #[.int .u64 S, .int .u64 X, .int .u64 G] 48) = wA at *
    go_region_held3 (fun wx => wx.cell? ⟨w.heap.size, 0, none⟩ = some (.int .i64 8) ∧ wx.cell? ⟨w.heap.size, 1, none⟩ = some (.int .i64 11) ∧ wx.cell? ⟨w.heap.size, 2, none⟩ = some (.int .i64 52)) (first | exact qA.at | exact q2.at) (
      (go_at_call 22; refine (k8 _).mono ?_; rintro e w2 ⟨rfl, b2⟩; have d2 : Below w.heap.size w w2 := dA.drew.trans (b2.mono dA.size); have q2 : Row3 w2 w.heap.size 34 (.int .i64 8) (.int .i64 11) (.int .i64 52) := Row3.kept (w := wA.drew) qA b2 qA.lt; have p2 : Row3 w2 w1.heap.size 48 (.int .u64 S) (.int .u64 X) (.int .u64 G) := Row3.kept (w := wA.drew) pA b2 pA.lt))
    obtain ⟨c0, c1, c2⟩ := p2.at
    go_wp2
    go_ret2
    exact ⟨rfl, d2⟩
  · have e1 : (X == 0) = false := by simpa using hz
    have hM : sizM X G = 4503599627370496 + G := by unfold sizM; rw [if_neg hz]
    have hP : sizP X = X - 1075 := by unfold sizP; rw [if_neg hz]
    rw [hM, hP]
    clear hM hP hz hX
    go_enter Tryz.func12, Tryz.ntmps12
    go_wp2_with (go_at_call 21; refine (kS _).mono ?_; rintro e w1 ⟨rfl, b1⟩; have d1 := box_below b1; have q1 := r0.kept b1 r0.lt)
    have pA := row3_new w1 48 (.int .u64 S) (.int .u64 X) (.int .u64 G)
    have dA := d1.alloc d1.size (.cells #[.int .u64 S, .int .u64 X, .int .u64 G] 48)
    have qA := q1.kept (alloc_below w1 (.cells #[.int .u64 S, .int .u64 X, .int .u64 G] 48)) q1.lt
    generalize w1.alloc (.cells #[.int .u64 S, .int .u64 X, .int .u64 G] 48) = wA at *
    go_region_held3 (fun wx => wx.cell? ⟨w.heap.size, 0, none⟩ = some (.int .i64 8) ∧ wx.cell? ⟨w.heap.size, 1, none⟩ = some (.int .i64 11) ∧ wx.cell? ⟨w.heap.size, 2, none⟩ = some (.int .i64 52)) (first | exact qA.at | exact q2.at) (
      (go_at_call 22; refine (k8 _).mono ?_; rintro e w2 ⟨rfl, b2⟩; have d2 : Below w.heap.size w w2 := dA.drew.trans (b2.mono dA.size); have q2 : Row3 w2 w.heap.size 34 (.int .i64 8) (.int .i64 11) (.int .i64 52) := Row3.kept (w := wA.drew) qA b2 qA.lt; have p2 : Row3 w2 w1.heap.size 48 (.int .u64 S) (.int .u64 X) (.int .u64 G) := Row3.kept (w := wA.drew) pA b2 pA.lt))
    obtain ⟨c0, c1, c2⟩ := p2.at
    obtain ⟨o0, o1, o2⟩ := q2.at
    go_wp2
    go_region_held3 (fun wx => (wx.cell? ⟨w.heap.size, 0, none⟩ = some (.int .i64 8) ∧ wx.cell? ⟨w.heap.size, 1, none⟩ = some (.int .i64 11) ∧ wx.cell? ⟨w.heap.size, 2, none⟩ = some (.int .i64 52)) ∧ wx.cell? ⟨w1.heap.size, 0, none⟩ = some (.int .u64 S) ∧ wx.cell? ⟨w1.heap.size, 1, none⟩ = some (.int .u64 X) ∧ wx.cell? ⟨w1.heap.size, 2, none⟩ = some (.int .u64 G)) (first | exact ⟨q2.at, p2.at⟩ | exact ⟨q3.at, p3.at⟩) (
      (go_at_call 26; refine (kA _).mono ?_; rintro e w3 ⟨rfl, b3⟩; have d3 : Below w.heap.size w w3 := d2.drew.trans (b3.mono d2.size); have q3 : Row3 w3 w.heap.size 34 (.int .i64 8) (.int .i64 11) (.int .i64 52) := Row3.kept (w := w2.drew) q2 b3 q2.lt; have p3 : Row3 w3 w1.heap.size 48 (.int .u64 S) (.int .u64 X) (.int .u64 G) := Row3.kept (w := w2.drew) p2 b3 p2.lt))
    go_wp2
    go_ret2
    exact ⟨rfl, d3⟩
theorem short_txt {v : Nat} (h : v < top) : shortA v = (txt v, 0) := by unfold shortA; rw [if_pos h]
theorem mul_num {a b : Nat} (ha : a < top) (hb : b < top) (hab : a * b < top) : mulA (txt a) (txt b) = (txt (a * b), 0) := by
  unfold mulA
  rw [if_pos ⟨rt_txt ha, rt_txt hb⟩, val_txt, val_txt, short_txt hab]
theorem pow_num {b k : Nat} (hb : b ≤ 1000000) (hk : k ≤ 4000) (h : b ^ k < top) : powA (b : Int) (k : Int) = (txt (b ^ k), 0) := by
  unfold powA
  rw [if_pos (by omega), Int.toNat_natCast, Int.toNat_natCast, short_txt h]
set_option maxRecDepth 100000 in
set_option maxHeartbeats 1000000 in
theorem ftimes_any (u b k : Nat) (hu : u < 18446744073709551616) (hut : u < top) (hb : b ≤ 1000000) (hk : k ≤ 4000) (h1 : b ^ k < top) (h2 : u * b ^ k < top) (B : Nat) (w : World) (hT : Tab B w) (hB : B ≤ w.heap.size) :
    Calls Tryz.prog 14 #[.int .u64 (u : Nat), .int .i64 (b : Nat), .int .i64 (k : Nat)] w fun e w' => e = .returned (.string (txt (u * b ^ k))) ∧ Below w.heap.size w w' := by
  have kP := pow_any (b : Int) (k : Int) (by omega) (by omega) w
  rw [pow_num hb hk h1] at kP
  have kM := mul_any (txt u) (txt (b ^ k))
  rw [mul_num hut h1 h2] at kM
  have kW : Hid (∀ wx, Below w.heap.size w wx → Calls Tryz.prog 34 #[.int .u64 (u : Nat)] wx fun e w' => e = .returned (.string (txt u)) ∧ Below wx.heap.size wx w') := fun wx hb => frw_any u hu wx (Lib.TabBelow.here (Lib.TabBelow.on hT (hb.mono hB)))
  clear hT hB hu hut hb hk h1 h2
  generalize txt (b ^ k) = Q at *
  generalize txt (u * b ^ k) = R at *
  generalize txt u = U at *
  go_enter Tryz.func14, Tryz.ntmps14
  go_wp2_with fail
  refine kP.mono ?_
  rintro e w1 ⟨rfl, b1⟩
  go_wp2_with fail
  refine (kW.out _ b1).mono ?_
  rintro e w2 ⟨rfl, b2⟩
  have d2 := b1.trans (b2.mono b1.size)
  go_wp2_with fail
  refine (kM _).mono ?_
  rintro e w3 ⟨rfl, b3⟩
  have d3 := d2.trans (b3.mono d2.size)
  go_wp2
  go_ret
  exact ⟨rfl, d3⟩
theorem small_top {u : Nat} (h : u < 9007199254740992) : u < top := by
  have h3 : ∀ N, 16 ≤ N → u < 10 ^ N := fun N hN => Nat.lt_of_lt_of_le (show u < 10 ^ 16 by omega) (Nat.pow_le_pow_right (by decide) hN)
  unfold top
  exact h3 800 (by decide)
set_option maxRecDepth 100000 in
set_option maxHeartbeats 2000000 in
theorem exact_any (n : Int) (hn : 0 ≤ n ∧ n < 18446744073709551616) (B : Nat) (w : World) (hT : Tab B w) (hB : B ≤ w.heap.size) :
    Calls Tryz.prog 4 #[.int .u64 n] w fun e w' => e = .returned (.tuple #[.agg #[.bool (exactA n).1.1, .string (exactA n).1.2.1, .int .i64 (exactA n).1.2.2], .int .i64 (exactA n).2]) ∧ Below w.heap.size w w' := by
  have k0 := wide_any
  have kF := finite_any n hn
  have kN := negative_any n hn
  have kZ := size_any n hn
  have hX : 0 ≤ n / 4503599627370496 % 2048 ∧ n / 4503599627370496 % 2048 < 2048 := by omega
  have hG : 0 ≤ n % 4503599627370496 ∧ n % 4503599627370496 < 4503599627370496 := by omega
  unfold exactA
  clear hn
  generalize decide (9223372036854775808 ≤ n) = D at *
  generalize n / 4503599627370496 % 2048 = X at *
  generalize n % 4503599627370496 = G at *
  have r0 := row3_new w 24 (.bool false) (.string ⟨#[]⟩) (.int .i64 0)
  unfold exA
  by_cases hx : X = 2047
  · rw [if_pos hx]
    have hd : decide (X ≠ 2047) = false := by simpa using hx
    rw [hd] at kF
    clear hx hd hX hG kZ kN hT hB
    unfold noN noS
    go_enter Tryz.func4, Tryz.ntmps4
    go_wp2_with (go_at_call 6; refine (kF _).mono ?_; rintro e w1 ⟨rfl, b1⟩; have d1 := box_below b1; have r1 := r0.kept b1 r0.lt; obtain ⟨c0, c1, c2⟩ := r1.at; have z0 := r1.fz 0; have z1 := r1.fz 1; have z2 := r1.fz 2)
    refine bodyPost_ret (v := .tuple #[.agg #[.bool false, .string ⟨#[]⟩, .int .i64 0], .int .i64 12]) (by simp [results, Tryz.results4, go_sem, *]) rfl ⟨rfl, ?_⟩
    exact ((d1.setCell (Nat.le_refl _) _).setCell (Nat.le_refl _) _).setCell (Nat.le_refl _) _
  rw [if_neg hx]
  have hd : decide (X ≠ 2047) = true := by simpa using hx
  rw [hd] at kF
  obtain ⟨hm, hp⟩ := siz_in (X := X) (G := G) (by omega) hG
  by_cases hs : sizP X < 0
  · rw [if_pos hs]
    obtain ⟨t1, t2⟩ := low_top (X := X) (G := G) (by omega) hG
    unfold fivV at *
    generalize sizM X G = M at *
    generalize sizP X = P at *
    obtain ⟨u, rfl⟩ : ∃ u : Nat, M = u := ⟨M.toNat, by omega⟩
    obtain ⟨k, hk⟩ : ∃ k : Nat, (-P).toNat = k := ⟨_, rfl⟩
    rw [hk] at t1 t2 ⊢
    rw [Int.toNat_natCast] at t1 ⊢
    have kT : Hid (∀ wx, Below w.heap.size w wx → Calls Tryz.prog 14 #[.int .u64 (u : Nat), .int .i64 5, .int .i64 (k : Nat)] wx fun e w' => e = .returned (.string (txt (u * 5 ^ k))) ∧ Below wx.heap.size wx w') := fun wx hb => ftimes_any u 5 k (by omega) (small_top (by omega)) (by decide) (by omega) t2 t1 B wx (Lib.TabBelow.on hT (hb.mono hB)) (Nat.le_trans hB hb.size)
    have kM := make_any D (txt (u * 5 ^ k)) P
    have e1 : decide (P < 0) = true := by simpa using hs
    have e2 : IntKind.i64.wrap (-P) = (k : Int) := by rw [IntKind.wrap_i64]; omega
    generalize makeA D (txt (u * 5 ^ k)) P = A at *
    obtain ⟨⟨an, sn, ax⟩, ae⟩ := A
    generalize txt (u * 5 ^ k) = T at *
    dsimp only at kM ⊢
    clear hx hd hX hG hm hp hs t1 t2 hk hT hB
    go_enter Tryz.func4, Tryz.ntmps4
    go_wp2_with fail
    refine (kF _).mono ?_
    rintro e w1 ⟨rfl, b1⟩
    have d1 := box_below b1
    have r1 := r0.kept b1 r0.lt
    go_wp2_with fail
    refine (k0 _).mono ?_
    rintro e w2 ⟨rfl, b2⟩
    have d2 := d1.trans (b2.mono d1.size)
    have r2 := r1.kept b2 r1.lt
    go_wp2_with fail
    refine (kZ _).mono ?_
    rintro e w3 ⟨rfl, b3⟩
    have d3 := d2.trans (b3.mono d2.size)
    have r3 := r2.kept b3 r2.lt
    go_wp2_with fail
    refine (kN _).mono ?_
    rintro e w4 ⟨rfl, b4⟩
    have d4 := d3.trans (b4.mono d3.size)
    have r4 := r3.kept b4 r3.lt
    go_wp2_with fail
    refine (kT.out _ d4).mono ?_
    rintro e w5 ⟨rfl, b5⟩
    have d5 := d4.trans (b5.mono d4.size)
    have r5 := r4.kept b5 r4.lt
    go_wp2_with fail
    refine (kM _).mono ?_
    rintro e w6 ⟨rfl, b6⟩
    have d6 := d5.trans (b6.mono d5.size)
    have r6 := r5.kept b6 r5.lt
    obtain ⟨c0, c1, c2⟩ := r6.at
    have z0 := r6.fz 0
    have z1 := r6.fz 1
    have z2 := r6.fz 2
    go_wp2
    refine bodyPost_ret (v := .tuple #[.agg #[.bool an, .string sn, .int .i64 ax], .int .i64 ae]) (by simp [results, Tryz.results4, go_sem, *]) rfl ⟨rfl, ?_⟩
    exact ((d6.setCell (Nat.le_refl _) _).setCell (Nat.le_refl _) _).setCell (Nat.le_refl _) _
  · rw [if_neg hs]
    obtain ⟨t1, t2⟩ := high_top (X := X) (G := G) (by omega) hG
    unfold twoV at *
    generalize sizM X G = M at *
    generalize sizP X = P at *
    obtain ⟨u, rfl⟩ : ∃ u : Nat, M = u := ⟨M.toNat, by omega⟩
    obtain ⟨k, rfl⟩ : ∃ k : Nat, P = k := ⟨P.toNat, by omega⟩
    rw [Int.toNat_natCast] at t1 t2 ⊢
    rw [Int.toNat_natCast] at t1 ⊢
    have kT : Hid (∀ wx, Below w.heap.size w wx → Calls Tryz.prog 14 #[.int .u64 (u : Nat), .int .i64 2, .int .i64 (k : Nat)] wx fun e w' => e = .returned (.string (txt (u * 2 ^ k))) ∧ Below wx.heap.size wx w') := fun wx hb => ftimes_any u 2 k (by omega) (small_top (by omega)) (by decide) (by omega) t2 t1 B wx (Lib.TabBelow.on hT (hb.mono hB)) (Nat.le_trans hB hb.size)
    have kM := make_any D (txt (u * 2 ^ k)) 0
    have e1 : decide ((k : Int) < 0) = false := by simp
    generalize makeA D (txt (u * 2 ^ k)) 0 = A at *
    obtain ⟨⟨an, sn, ax⟩, ae⟩ := A
    generalize txt (u * 2 ^ k) = T at *
    dsimp only at kM ⊢
    clear hx hd hX hG hm hp hs t1 t2 hT hB
    go_enter Tryz.func4, Tryz.ntmps4
    go_wp2_with fail
    refine (kF _).mono ?_
    rintro e w1 ⟨rfl, b1⟩
    have d1 := box_below b1
    have r1 := r0.kept b1 r0.lt
    go_wp2_with fail
    refine (k0 _).mono ?_
    rintro e w2 ⟨rfl, b2⟩
    have d2 := d1.trans (b2.mono d1.size)
    have r2 := r1.kept b2 r1.lt
    go_wp2_with fail
    refine (kZ _).mono ?_
    rintro e w3 ⟨rfl, b3⟩
    have d3 := d2.trans (b3.mono d2.size)
    have r3 := r2.kept b3 r2.lt
    go_wp2_with fail
    refine (kN _).mono ?_
    rintro e w4 ⟨rfl, b4⟩
    have d4 := d3.trans (b4.mono d3.size)
    have r4 := r3.kept b4 r3.lt
    go_wp2_with fail
    refine (kT.out _ d4).mono ?_
    rintro e w5 ⟨rfl, b5⟩
    have d5 := d4.trans (b5.mono d4.size)
    have r5 := r4.kept b5 r4.lt
    go_wp2_with fail
    refine (kM _).mono ?_
    rintro e w6 ⟨rfl, b6⟩
    have d6 := d5.trans (b6.mono d5.size)
    have r6 := r5.kept b6 r5.lt
    obtain ⟨c0, c1, c2⟩ := r6.at
    have z0 := r6.fz 0
    have z1 := r6.fz 1
    have z2 := r6.fz 2
    go_wp2
    refine bodyPost_ret (v := .tuple #[.agg #[.bool an, .string sn, .int .i64 ax], .int .i64 ae]) (by simp [results, Tryz.results4, go_sem, *]) rfl ⟨rfl, ?_⟩
    exact ((d6.setCell (Nat.le_refl _) _).setCell (Nat.le_refl _) _).setCell (Nat.le_refl _) _
end Go.Proofs.YtjdceigndleadaaGreatDoor
