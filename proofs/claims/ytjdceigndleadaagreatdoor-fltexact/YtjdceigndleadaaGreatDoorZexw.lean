/-
  The document's side: Exact, the walk.
-/
import Derived.Test.YtjdceigndleadaaGreatDoorZex
namespace Go.Proofs.YtjdceigndleadaaGreatDoor
open Go.RowKit
set_option linter.unusedVariables false

theorem zval_any (X G : Int) (hX : 0 ≤ X ∧ X < 2048) (hG : 0 ≤ G ∧ G < 4503599627370496) (w : World) : Calls Tryz.prog 16 #[.int .i64 X, .int .u64 G, .int .i64 8] w fun e w' => e = .returned (.tuple #[.int .u64 (sizM X G), .int .i64 (sizP X)]) ∧ w' = w := by
  unfold sizM sizP
  by_cases h : X = 0
  · subst h
    rw [if_pos rfl, if_pos rfl]
    exact zvalue8_zero G w
  · rw [if_neg h, if_neg h]
    exact zvalue8_some X G hX h hG w
set_option maxRecDepth 100000 in
set_option maxHeartbeats 4000000 in
theorem zexact_any (n : Int) (hn : 0 ≤ n ∧ n < 18446744073709551616) (w : World) :
    Calls Tryz.prog 5 #[.int .u64 n] w fun e w' => e = .returned (.tuple #[.agg #[.bool (exactA n).1.1, .string (exactA n).1.2.1, .int .i64 (exactA n).1.2.2], .int .i64 (exactA n).2]) ∧ Below w.heap.size w w' := by
  have kF := zfinite_any n hn
  have kS := zsplit8_any n hn.1 (by omega)
  have hX : 0 ≤ n / 4503599627370496 % 2048 ∧ n / 4503599627370496 % 2048 < 2048 := by omega
  have hG : 0 ≤ n % 4503599627370496 ∧ n % 4503599627370496 < 4503599627370496 := by omega
  have hD : (n / 9223372036854775808 == 1) = decide (9223372036854775808 ≤ n) := by rw [Bool.eq_iff_iff, beq_iff_eq, decide_eq_true_iff]; omega
  unfold exactA
  clear hn
  generalize decide (9223372036854775808 ≤ n) = D at *
  generalize n / 9223372036854775808 = S at *
  generalize n / 4503599627370496 % 2048 = X at *
  generalize n % 4503599627370496 = G at *
  have r0 := row3_new w 24 (.bool false) (.string ⟨#[]⟩) (.int .i64 0)
  by_cases hx : X = 2047
  · rw [show exA D X G = (noN, 12) from by unfold exA; rw [if_pos hx]]
    have hd : decide (X ≠ 2047) = false := by simpa using hx
    rw [hd] at kF
    clear hx hd hX hG kS hD
    unfold noN noS
    go_enter Tryz.func5, Tryz.ntmps5
    go_wp2_with (go_at_call 7; refine (kF _).mono ?_; rintro e w1 ⟨rfl, hw1⟩; rw [hw1]; clear hw1)
    refine bodyPost_ret (v := .tuple #[.agg #[.bool false, .string ⟨#[]⟩, .int .i64 0], .int .i64 12]) (by simp [results, Tryz.results5, go_sem]) rfl ⟨rfl, ?_⟩
    exact alloc_below _ _
  have hK : Hid (Keeps (exA D X G) D (sizM X G).toNat (sizP X)) := keeps_start hx
  have hd : decide (X ≠ 2047) = true := by simpa using hx
  rw [hd] at kF
  obtain ⟨hm, hp⟩ := siz_in (X := X) (G := G) (by omega) hG
  have kV := zval_any X G hX hG
  have kM := ymake_any D
  clear hd hX hG hx
  generalize exA D X G = R at *
  generalize sizM X G = M at *
  generalize sizP X = P at *
  obtain ⟨u0, rfl⟩ : ∃ u : Nat, M = u := ⟨M.toNat, by omega⟩
  rw [Int.toNat_natCast] at hK
  have hu0 : Hid (u0 < 9007199254740992) := by show _ < _; omega
  have hp0 : Hid (-1074 ≤ P ∧ P ≤ 971) := hp
  clear hm hp
  go_enter Tryz.func5, Tryz.ntmps5
  go_wp2_with (first
    | (go_at_call 7; refine (kF _).mono ?_; rintro e w1 ⟨rfl, hw1⟩; rw [hw1]; clear hw1)
    | (go_at_call 15; refine (kS _).mono ?_; rintro e w2 ⟨rfl, b2⟩; have d2 := box_below b2; have r2 := r0.kept b2 r0.lt)
    | (go_at_call 16; refine (kV _).mono ?_; rintro e w3 ⟨rfl, hw3⟩; rw [hw3]; clear hw3))
  clear kF kS kV r0 b2
  go_loop [7, 8] (fun mv pv => ∃ (u : Nat) (p : Int), mv = .int .u64 (u : Nat) ∧ pv = .int .i64 p ∧ Hid (Keeps R D u p) ∧ Hid (u < 9007199254740992) ∧ Hid (-1074 ≤ p ∧ p ≤ 971)) (fun _ pv => (-(intOf pv)).toNat)
  case atStart => exact ⟨u0, P, rfl, rfl, hK, hu0, hp0⟩
  case round =>
    obtain ⟨u, p, rfl, rfl, hk, hu, hpp⟩ := hrel
    clear hK hu0 hp0
    by_cases hp : p < 0
    · have e3 : decide (p < 0) = true := by simpa using hp
      have e4 : decide (0 ≤ p) = false := by simp; omega
      by_cases hz : u = 0
      · subst hz
        have hR : Hid (R = makeA D (txt 0) 0) := keeps_zero hk.out
        have kW := xfrw_any 0 (by decide)
        have k5 := kM (txt 0) 0
        rw [← hR.out] at k5
        clear hk hu hpp hp hR kM
        obtain ⟨⟨an, sn, ax⟩, ae⟩ := R
        generalize txt 0 = T at *
        dsimp only at k5 ⊢
        go_wp2_with fail
        refine (kW _).mono ?_
        rintro e w4 ⟨rfl, b4⟩
        have d4 := d2.trans (b4.mono d2.size)
        have r4 := r2.kept b4 r2.lt
        go_wp2_with fail
        refine (k5 _).mono ?_
        rintro e w7 ⟨rfl, b7⟩
        have d7 := d4.trans (b7.mono (d4).size)
        have r7 := (r4).kept b7 (r4).lt
        have r8 := r7.kept (alloc_below w7 (.cells #[.bool an, .string sn, .int .i64 ax] 24)) r7.lt
        obtain ⟨c0, c1, c2⟩ := r8.at
        have z0 := r8.fz 0
        have z1 := r8.fz 1
        have z2 := r8.fz 2
        have d8 := d7.alloc d7.size (.cells #[.bool an, .string sn, .int .i64 ax] 24)
        go_wp2
        refine bodyPost_ret (v := .tuple #[.agg #[.bool an, .string sn, .int .i64 ax], .int .i64 ae]) (by simp [results, Tryz.results5, go_sem, *]) rfl ⟨rfl, ?_⟩
        exact ((d8.setCell (Nat.le_refl _) _).setCell (Nat.le_refl _) _).setCell (Nat.le_refl _) _
      · have hup : 0 < u := by omega
        have f0 : decide (0 < ((u : Nat) : Int)) = true := by simp; omega
        by_cases hev : u % 2 = 0
        · obtain ⟨v, rfl⟩ : ∃ v, u = 2 * v := ⟨u / 2, by omega⟩
          have hk' : Hid (Keeps R D v (p + 1)) := keeps_step hk.out (by omega) hu.out ⟨hpp.out.1, hp⟩
          have q1 : Int.tmod ((2 * v : Nat) : Int) 2 = 0 := by rw [Int.tmod_eq_emod_of_nonneg (by omega)]; omega
          have q2 : ((2 * v : Nat) : Int) % 2 = 0 := by omega
          have q3 : ((2 * v : Nat) : Int) / 2 = (v : Nat) := by omega
          have q4 : Int.tdiv ((2 * v : Nat) : Int) 2 = (v : Nat) := by rw [Int.tdiv_eq_ediv_of_nonneg (by omega)]; omega
          have q5 : IntKind.u64.wrap ((v : Nat) : Int) = ((v : Nat) : Int) := by have := hu.out; rw [IntKind.wrap_u64]; omega
          have q6 : IntKind.i64.wrap (p + 1) = p + 1 := by have := hpp.out; rw [IntKind.wrap_i64]; omega
          have hv : Hid (v < 9007199254740992) := by have := hu.out; show _ < _; omega
          have hpq : Hid (-1074 ≤ p + 1 ∧ p + 1 ≤ 971) := by have := hpp.out; show _ ∧ _; omega
          have hms : Hid (p < 0) := hp
          clear hk hu hpp hp hev hup hz
          generalize ((2 * v : Nat) : Int) = U2 at *
          go_wp2
          go_round
          case rel => exact ⟨v, p + 1, rfl, rfl, hk', hv, hpq⟩
          case measure => have := hms.out; simp [intOf]; omega
        · have q1 : Int.tmod ((u : Nat) : Int) 2 = 1 := by rw [Int.tmod_eq_emod_of_nonneg (by omega)]; omega
          have q2 : ((u : Nat) : Int) % 2 = 1 := by omega
          obtain ⟨k, hkk⟩ : ∃ k : Nat, (-p).toNat = k := ⟨_, rfl⟩
          have hR := hk.out.2 hp
          rw [hkk] at hR
          have hpb := hpp.out
          obtain ⟨t1, t2⟩ := keeps_top hu.out (k := k) (by omega)
          have kW := xfrw_any u (by have := hu.out; omega)
          have kP := xpow_any 5 (k : Int)
          have hp5 : powA 5 (k : Int) = (txt (5 ^ k), 0) := pow_num (b := 5) (k := k) (by decide) (by omega) t2
          rw [hp5] at kP
          clear hp5
          have kX := xmult_any u (5 ^ k) (small_top hu.out) t2 t1
          have k5 := kM (txt (u * 5 ^ k)) p
          rw [← hR] at k5
          have e5 : IntKind.i64.wrap (-p) = (k : Int) := by rw [IntKind.wrap_i64]; omega
          clear hk hu hpp hp hev hR kM hkk hpb t1 t2 hz
          obtain ⟨⟨an, sn, ax⟩, ae⟩ := R
          generalize txt (u * 5 ^ k) = T at *
          generalize txt (5 ^ k) = T5 at *
          generalize txt u = TU at *
          dsimp only at k5 kP ⊢
          go_wp2_with fail
          refine (kW _).mono ?_
          rintro e w4 ⟨rfl, b4⟩
          have d4 := d2.trans (b4.mono d2.size)
          have r4 := r2.kept b4 r2.lt
          go_wp2_with fail
          refine (kP _).mono ?_
          rintro e w5 ⟨rfl, b5⟩
          have d5 := d4.trans (b5.mono d4.size)
          have r5 := r4.kept b5 r4.lt
          go_wp2_with fail
          refine (kX _).mono ?_
          rintro e w6 ⟨rfl, b6⟩
          have d6 := d5.trans (b6.mono d5.size)
          have r6 := r5.kept b6 r5.lt
          go_wp2_with fail
          refine (k5 _).mono ?_
          rintro e w7 ⟨rfl, b7⟩
          have d7 := d6.trans (b7.mono (d6).size)
          have r7 := (r6).kept b7 (r6).lt
          have r8 := r7.kept (alloc_below w7 (.cells #[.bool an, .string sn, .int .i64 ax] 24)) r7.lt
          obtain ⟨c0, c1, c2⟩ := r8.at
          have z0 := r8.fz 0
          have z1 := r8.fz 1
          have z2 := r8.fz 2
          have d8 := d7.alloc d7.size (.cells #[.bool an, .string sn, .int .i64 ax] 24)
          go_wp2
          refine bodyPost_ret (v := .tuple #[.agg #[.bool an, .string sn, .int .i64 ax], .int .i64 ae]) (by simp [results, Tryz.results5, go_sem, *]) rfl ⟨rfl, ?_⟩
          exact ((d8.setCell (Nat.le_refl _) _).setCell (Nat.le_refl _) _).setCell (Nat.le_refl _) _
    · have e3 : decide (p < 0) = false := by simp; omega
      have e4 : decide (0 ≤ p) = true := by simp; omega
      obtain ⟨k, rfl⟩ : ∃ k : Nat, p = k := ⟨p.toNat, by omega⟩
      have hR := hk.out.1 (by omega)
      rw [Int.toNat_natCast] at hR
      have hpb := hpp.out
      obtain ⟨t1, t2⟩ := keeps_top2 hu.out (k := k) (by omega)
      have kW := xfrw_any u (by have := hu.out; omega)
      have kP := xpow_any 2 (k : Int)
      have hp5 : powA 2 (k : Int) = (txt (2 ^ k), 0) := pow_num (b := 2) (k := k) (by decide) (by omega) t2
      rw [hp5] at kP
      clear hp5
      have kX := xmult_any u (2 ^ k) (small_top hu.out) t2 t1
      have k5 := kM (txt (u * 2 ^ k)) 0
      rw [← hR] at k5
      clear hk hu hpp hp hR kM hpb t1 t2
      obtain ⟨⟨an, sn, ax⟩, ae⟩ := R
      generalize txt (u * 2 ^ k) = T at *
      generalize txt (2 ^ k) = T5 at *
      generalize txt u = TU at *
      dsimp only at k5 kP ⊢
      by_cases hz : u = 0
      · have f0 : decide (0 < ((u : Nat) : Int)) = false := by simp; omega
        have f1 : ¬ 0 < u := by omega
        clear hz
        go_wp2_with fail
        refine (kW _).mono ?_
        rintro e w4 ⟨rfl, b4⟩
        have d4 := d2.trans (b4.mono d2.size)
        have r4 := r2.kept b4 r2.lt
        go_wp2_with fail
        refine (kP _).mono ?_
        rintro e w5 ⟨rfl, b5⟩
        have d5 := d4.trans (b5.mono d4.size)
        have r5 := r4.kept b5 r4.lt
        go_wp2_with fail
        refine (kX _).mono ?_
        rintro e w6 ⟨rfl, b6⟩
        have d6 := d5.trans (b6.mono d5.size)
        have r6 := r5.kept b6 r5.lt
        go_wp2_with fail
        refine (k5 _).mono ?_
        rintro e w7 ⟨rfl, b7⟩
        have d7 := d6.trans (b7.mono (d6).size)
        have r7 := (r6).kept b7 (r6).lt
        have r8 := r7.kept (alloc_below w7 (.cells #[.bool an, .string sn, .int .i64 ax] 24)) r7.lt
        obtain ⟨c0, c1, c2⟩ := r8.at
        have z0 := r8.fz 0
        have z1 := r8.fz 1
        have z2 := r8.fz 2
        have d8 := d7.alloc d7.size (.cells #[.bool an, .string sn, .int .i64 ax] 24)
        go_wp2
        refine bodyPost_ret (v := .tuple #[.agg #[.bool an, .string sn, .int .i64 ax], .int .i64 ae]) (by simp [results, Tryz.results5, go_sem, *]) rfl ⟨rfl, ?_⟩
        exact ((d8.setCell (Nat.le_refl _) _).setCell (Nat.le_refl _) _).setCell (Nat.le_refl _) _
      · have f0 : decide (0 < ((u : Nat) : Int)) = true := by simp; omega
        have f1 : 0 < u := by omega
        by_cases hev : u % 2 = 0
        · have q1 : Int.tmod ((u : Nat) : Int) 2 = 0 := by rw [Int.tmod_eq_emod_of_nonneg (by omega)]; omega
          have q2 : ((u : Nat) : Int) % 2 = 0 := by omega
          clear hz hev
          go_wp2_with fail
          refine (kW _).mono ?_
          rintro e w4 ⟨rfl, b4⟩
          have d4 := d2.trans (b4.mono d2.size)
          have r4 := r2.kept b4 r2.lt
          go_wp2_with fail
          refine (kP _).mono ?_
          rintro e w5 ⟨rfl, b5⟩
          have d5 := d4.trans (b5.mono d4.size)
          have r5 := r4.kept b5 r4.lt
          go_wp2_with fail
          refine (kX _).mono ?_
          rintro e w6 ⟨rfl, b6⟩
          have d6 := d5.trans (b6.mono d5.size)
          have r6 := r5.kept b6 r5.lt
          go_wp2_with fail
          refine (k5 _).mono ?_
          rintro e w7 ⟨rfl, b7⟩
          have d7 := d6.trans (b7.mono (d6).size)
          have r7 := (r6).kept b7 (r6).lt
          have r8 := r7.kept (alloc_below w7 (.cells #[.bool an, .string sn, .int .i64 ax] 24)) r7.lt
          obtain ⟨c0, c1, c2⟩ := r8.at
          have z0 := r8.fz 0
          have z1 := r8.fz 1
          have z2 := r8.fz 2
          have d8 := d7.alloc d7.size (.cells #[.bool an, .string sn, .int .i64 ax] 24)
          go_wp2
          refine bodyPost_ret (v := .tuple #[.agg #[.bool an, .string sn, .int .i64 ax], .int .i64 ae]) (by simp [results, Tryz.results5, go_sem, *]) rfl ⟨rfl, ?_⟩
          exact ((d8.setCell (Nat.le_refl _) _).setCell (Nat.le_refl _) _).setCell (Nat.le_refl _) _
        · have q1 : Int.tmod ((u : Nat) : Int) 2 = 1 := by rw [Int.tmod_eq_emod_of_nonneg (by omega)]; omega
          have q2 : ((u : Nat) : Int) % 2 = 1 := by omega
          clear hz hev
          go_wp2_with fail
          refine (kW _).mono ?_
          rintro e w4 ⟨rfl, b4⟩
          have d4 := d2.trans (b4.mono d2.size)
          have r4 := r2.kept b4 r2.lt
          go_wp2_with fail
          refine (kP _).mono ?_
          rintro e w5 ⟨rfl, b5⟩
          have d5 := d4.trans (b5.mono d4.size)
          have r5 := r4.kept b5 r4.lt
          go_wp2_with fail
          refine (kX _).mono ?_
          rintro e w6 ⟨rfl, b6⟩
          have d6 := d5.trans (b6.mono d5.size)
          have r6 := r5.kept b6 r5.lt
          go_wp2_with fail
          refine (k5 _).mono ?_
          rintro e w7 ⟨rfl, b7⟩
          have d7 := d6.trans (b7.mono (d6).size)
          have r7 := (r6).kept b7 (r6).lt
          have r8 := r7.kept (alloc_below w7 (.cells #[.bool an, .string sn, .int .i64 ax] 24)) r7.lt
          obtain ⟨c0, c1, c2⟩ := r8.at
          have z0 := r8.fz 0
          have z1 := r8.fz 1
          have z2 := r8.fz 2
          have d8 := d7.alloc d7.size (.cells #[.bool an, .string sn, .int .i64 ax] 24)
          go_wp2
          refine bodyPost_ret (v := .tuple #[.agg #[.bool an, .string sn, .int .i64 ax], .int .i64 ae]) (by simp [results, Tryz.results5, go_sem, *]) rfl ⟨rfl, ?_⟩
          exact ((d8.setCell (Nat.le_refl _) _).setCell (Nat.le_refl _) _).setCell (Nat.le_refl _) _
end Go.Proofs.YtjdceigndleadaaGreatDoor
