/-
  Numbers read off the document's own cursor.
-/
import Derived.Test.YtkmbphgcnppohaaRefCur
import Derived.Test.YtkmbphgcnppohaaRefPut
namespace Go.Proofs.Ytkmbphgcnppohaa
open Go.RowKit

theorem rtake_u (r p y f n cap p' y' f' : Nat) (a : Option Addr) (zs xs : List Int) (k : Int) (w : World) (h : RCur w r a n cap zs p y f) (hs : sT zs p y f k = (xs, p', y', f')) :
    Calls Try.prog 21 #[.pointer (some ⟨r, 0, none⟩), .int .i64 k] w fun e w' => ∃ a' m c', e = .returned (.slice a' m c') ∧ Hid (Bytes w' a' xs) ∧ Hid (xs.length = m) ∧ RCur w' r a n cap zs p' y' f' ∧ w.grownBy w' (some r) := by
  have hl : zs.length = n := h.2.2.1
  have hp : p ≤ n := h.2.2.2.1
  unfold sT at hs
  by_cases hy : y = 0
  · subst hy
    simp only [ne_eq, not_true_eq_false, if_false] at hs
    by_cases hk : k < 0
    · rw [if_pos hk] at hs
      cases hs
      refine (rtake_arg r p f n cap a zs k w h hk).mono ?_
      rintro e w' ⟨rfl, hc, hg⟩
      exact ⟨none, 0, 0, rfl, no_bytes _ _, rfl, hc, hg⟩
    · rw [if_neg hk, hl] at hs
      by_cases hx : ((n - p : Nat) : Int) < k
      · rw [if_pos hx] at hs
        cases hs
        refine (rtake_end r p f n cap a zs k w h (by omega) hx).mono ?_
        rintro e w' ⟨rfl, hc, hg⟩
        exact ⟨none, 0, 0, rfl, no_bytes _ _, rfl, hc, hg⟩
      · rw [if_neg hx] at hs
        obtain ⟨j, rfl⟩ : ∃ j : Nat, k = (j : Int) := ⟨k.toNat, by omega⟩
        rw [Int.toNat_natCast] at hs
        cases hs
        have hcn : n ≤ cap := h.2.2.2.2.2.1
        cases a with
        | none =>
          have hc0 : cap = 0 := h.2.2.2.2.2.2.2.1 rfl
          have hn0 : n = 0 := by omega
          have hp0 : p = 0 := by omega
          have hj0 : j = 0 := by omega
          subst hc0
          subst hn0
          subst hp0
          subst hj0
          refine (rtake_none r f zs w h).mono ?_
          rintro e w' ⟨v, rfl, ho, hc, hg⟩
          obtain ⟨a2, n2, cap2, rfl, hl2, -, -, -, hB2⟩ := ho.form
          rw [List.take_zero]
          exact ⟨a2, n2, cap2, rfl, hB2, hl2, hc, hg⟩
        | some x =>
          by_cases hpc : p < cap
          · obtain ⟨b, off, sp⟩ := x
            obtain rfl : sp = none := h.2.2.2.2.2.2.2.2.2 _ rfl (by omega)
            refine (rtake_mid r p f n cap j b off zs w h (by omega) hpc).mono ?_
            rintro e w' ⟨v, rfl, ho, hc, hg⟩
            obtain ⟨a2, n2, cap2, rfl, hl2, -, -, -, hB2⟩ := ho.form
            exact ⟨a2, n2, cap2, rfl, hB2, hl2, hc, hg⟩
          · have hcn' : cap = n := by omega
            have hpn : p = n := by omega
            have hj0 : j = 0 := by omega
            subst hcn'
            subst hpn
            subst hj0
            refine (rtake_last r f p x zs w h).mono ?_
            rintro e w' ⟨v, rfl, ho, hc, hg⟩
            obtain ⟨a2, n2, cap2, rfl, hl2, -, -, -, hB2⟩ := ho.form
            rw [List.take_zero]
            exact ⟨a2, n2, cap2, rfl, hB2, hl2, hc, hg⟩
  · rw [if_pos hy] at hs
    cases hs
    refine (rtake_stop r p y f n cap a zs k w h hy).mono ?_
    rintro e w' ⟨rfl, rfl⟩
    exact ⟨none, 0, 0, rfl, no_bytes _ _, rfl, h, World.grownBy.refl _ _⟩

theorem fails_at (r p f : Nat) (y' f' : Nat) (Y F : Int) (v : Value) (w : World) (h : RAt w r v p 0 f) (hY : Y = (y' : Int)) (hF : F = (f' : Int)) :
    Calls Try.prog 32 #[.pointer (some ⟨r, 0, none⟩), .int .i64 Y, .int .i64 F] w fun e w' => (∃ u, e = .returned u) ∧ RAt w' r v p y' f' ∧ w.grownBy w' (some r) := by
  subst hY
  subst hF
  exact fails_any r p f y' f' v w h

set_option maxHeartbeats 1000000 in
theorem rwide_stop (r p y f n cap : Nat) (a : Option Addr) (zs xs : List Int) (p' y' f' : Nat) (k : Int) (w : World) (h : RCur w r a n cap zs p y f) (hy : y ≠ 0) (hT : Hid (sT zs p y f k = (xs, p', y', f'))) (h8 : Hid (xs.length ≤ 8)) :
    Calls Try.prog 17 #[.pointer (some ⟨r, 0, none⟩), .int .i64 k] w fun e w' => e = .returned (.int .u64 (rdW 0 xs : Nat)) ∧ RCur w' r a n cap zs p' y' f' ∧ w.grownBy w' (some r) := by
  have c2 := h.1.c2
  have hyb : ((y : Int) == 0) = false := by rw [beq_eq_false_iff_ne]; omega
  go_enter Try.func17, Try.ntmps17
  go_wp2_with fail
  refine (rtake_u r p y f n cap p' y' f' a zs xs k w h hT.out).mono ?_
  rintro e w3 ⟨a3, m3, c3, rfl, hB3, hl3, hc3, hg3⟩
  have hm3 : m3 ≤ 8 := by rw [← hl3.out]; exact h8.out
  go_wp2_with fail
  go_loop [6, 7] (fun t i => ∃ j : Nat, j ≤ m3 ∧ i = .int .i64 j ∧ t = .int .u64 (rdW 0 (xs.take j) : Nat)) (fun _ i => m3 - (intOf i).toNat)
  case atStart => exact ⟨0, by omega, rfl, rfl⟩
  case round =>
    obtain ⟨j, hj, rfl, rfl⟩ := hrel
    by_cases hlt : j < m3
    · obtain ⟨hz, _, h0 | ⟨b, off, h1, hcell⟩⟩ := hB3.out
      · have := hl3.out
        rw [h0] at this
        simp at this
        omega
      · subst h1
        obtain ⟨c, hck, hc0, hc1, htk⟩ := next_byte hz hcell (k := j) (by rw [hl3.out]; exact hlt)
        have hA : rdW 0 (xs.take j) < 72057594037927936 := by
          have h2 := rdW_lt (xs.take j) (take_bytes hz j) 0 0 (by simp)
          have h3 : 256 ^ (0 + (xs.take j).length) ≤ 256 ^ 7 := Nat.pow_le_pow_right (by decide) (by rw [List.length_take]; omega)
          omega
        have hs2 : Hid (rdW 0 (xs.take (j + 1)) = rdW 0 (xs.take j) * 256 + c.toNat) := by
          show _ = _
          rw [htk, rdW_snoc]
        clear htk hcell hz
        generalize rdW 0 (xs.take j) = A at *
        have hor := join8 A c hA hc0 hc1
        obtain ⟨B, hB0⟩ : ∃ B : Nat, B = A * 256 + c.toNat := ⟨_, rfl⟩
        rw [← hB0] at hor hs2
        clear hB0
        go_wp2
        go_round
        case rel => exact ⟨j + 1, by omega, by go_num, by rw [hs2.out]⟩
        case measure => simp [intOf]; omega
    · have hf : Hid (rdW 0 (xs.take j) = rdW 0 xs) := by
        show _ = _
        rw [List.take_of_length_le (by rw [hl3.out]; omega)]
      generalize rdW 0 (xs.take j) = A at *
      go_wp2
      go_ret
      exact ⟨by rw [← hf.out]; rfl, hc3, hg3⟩

set_option maxHeartbeats 1000000 in
theorem rwide_ok (r p f n cap : Nat) (a : Option Addr) (zs xs : List Int) (p' y' f' : Nat) (k : Int) (w : World) (h : RCur w r a n cap zs p 0 f) (hk : k = 1 ∨ k = 2 ∨ k = 4 ∨ k = 8) (hT : Hid (sT zs p 0 f k = (xs, p', y', f'))) (h8 : Hid (xs.length ≤ 8)) :
    Calls Try.prog 17 #[.pointer (some ⟨r, 0, none⟩), .int .i64 k] w fun e w' => e = .returned (.int .u64 (rdW 0 xs : Nat)) ∧ RCur w' r a n cap zs p' y' f' ∧ w.grownBy w' (some r) := by
  have c2 := h.1.c2
  have hd : decide (k = 1 ∨ k = 2 ∨ k = 4 ∨ k = 8) = true := by simpa using hk
  clear hk
  go_enter Try.func17, Try.ntmps17
  go_wp2_with fail
  refine (refWidth_any _ _).mono ?_
  rintro e w1 ⟨rfl, rfl⟩
  rw [hd]
  clear hd
  go_wp2_with fail
  refine (rtake_u r p 0 f n cap p' y' f' a zs xs k w1 h hT.out).mono ?_
  rintro e w3 ⟨a3, m3, c3, rfl, hB3, hl3, hc3, hg3⟩
  have hm3 : m3 ≤ 8 := by rw [← hl3.out]; exact h8.out
  go_wp2_with fail
  go_loop [6, 7] (fun t i => ∃ j : Nat, j ≤ m3 ∧ i = .int .i64 j ∧ t = .int .u64 (rdW 0 (xs.take j) : Nat)) (fun _ i => m3 - (intOf i).toNat)
  case atStart => exact ⟨0, by omega, rfl, rfl⟩
  case round =>
    obtain ⟨j, hj, rfl, rfl⟩ := hrel
    by_cases hlt : j < m3
    · obtain ⟨hz, _, h0 | ⟨b, off, h1, hcell⟩⟩ := hB3.out
      · have := hl3.out
        rw [h0] at this
        simp at this
        omega
      · subst h1
        obtain ⟨c, hck, hc0, hc1, htk⟩ := next_byte hz hcell (k := j) (by rw [hl3.out]; exact hlt)
        have hA : rdW 0 (xs.take j) < 72057594037927936 := by
          have h2 := rdW_lt (xs.take j) (take_bytes hz j) 0 0 (by simp)
          have h3 : 256 ^ (0 + (xs.take j).length) ≤ 256 ^ 7 := Nat.pow_le_pow_right (by decide) (by rw [List.length_take]; omega)
          omega
        have hs2 : Hid (rdW 0 (xs.take (j + 1)) = rdW 0 (xs.take j) * 256 + c.toNat) := by
          show _ = _
          rw [htk, rdW_snoc]
        clear htk hcell hz
        generalize rdW 0 (xs.take j) = A at *
        have hor := join8 A c hA hc0 hc1
        obtain ⟨B, hB0⟩ : ∃ B : Nat, B = A * 256 + c.toNat := ⟨_, rfl⟩
        rw [← hB0] at hor hs2
        clear hB0
        go_wp2
        go_round
        case rel => exact ⟨j + 1, by omega, by go_num, by rw [hs2.out]⟩
        case measure => simp [intOf]; omega
    · have hf : Hid (rdW 0 (xs.take j) = rdW 0 xs) := by
        show _ = _
        rw [List.take_of_length_le (by rw [hl3.out]; omega)]
      generalize rdW 0 (xs.take j) = A at *
      go_wp2
      go_ret
      exact ⟨by rw [← hf.out]; rfl, hc3, hg3⟩

set_option maxHeartbeats 1000000 in
theorem rwide_arg (r p f n cap : Nat) (a : Option Addr) (zs xs : List Int) (p' y' f' : Nat) (k : Int) (w : World) (h : RCur w r a n cap zs p 0 f) (hk : ¬ (k = 1 ∨ k = 2 ∨ k = 4 ∨ k = 8)) (hT : Hid (sT zs p 1 p k = (xs, p', y', f'))) (h8 : Hid (xs.length ≤ 8)) :
    Calls Try.prog 17 #[.pointer (some ⟨r, 0, none⟩), .int .i64 k] w fun e w' => e = .returned (.int .u64 (rdW 0 xs : Nat)) ∧ RCur w' r a n cap zs p' y' f' ∧ w.grownBy w' (some r) := by
  have c1 := h.1.c1
  have c2 := h.1.c2
  have hp : p ≤ n := h.2.2.2.1
  have hd : decide (k = 1 ∨ k = 2 ∨ k = 4 ∨ k = 8) = false := by simpa using hk
  clear hk
  go_enter Try.func17, Try.ntmps17
  go_wp2_with fail
  refine (refWidth_any _ _).mono ?_
  rintro e w1 ⟨rfl, rfl⟩
  rw [hd]
  clear hd
  go_wp2_with fail
  refine (fails_any r p f 1 p _ _ h.1).mono ?_
  rintro e w2 ⟨⟨u2, rfl⟩, hc2', hg2⟩
  have hc2 := h.turned hg2 hc2' hp
  clear c1 c2 hc2'
  go_wp2_with fail
  refine (rtake_u r p 1 p n cap p' y' f' a zs xs k w2 hc2 hT.out).mono ?_
  rintro e w3 ⟨a3, m3, c3, rfl, hB3, hl3, hc3, hg3⟩
  have hm3 : m3 ≤ 8 := by rw [← hl3.out]; exact h8.out
  go_wp2_with fail
  go_loop [6, 7] (fun t i => ∃ j : Nat, j ≤ m3 ∧ i = .int .i64 j ∧ t = .int .u64 (rdW 0 (xs.take j) : Nat)) (fun _ i => m3 - (intOf i).toNat)
  case atStart => exact ⟨0, by omega, rfl, rfl⟩
  case round =>
    obtain ⟨j, hj, rfl, rfl⟩ := hrel
    by_cases hlt : j < m3
    · obtain ⟨hz, _, h0 | ⟨b, off, h1, hcell⟩⟩ := hB3.out
      · have := hl3.out
        rw [h0] at this
        simp at this
        omega
      · subst h1
        obtain ⟨c, hck, hc0, hc1, htk⟩ := next_byte hz hcell (k := j) (by rw [hl3.out]; exact hlt)
        have hA : rdW 0 (xs.take j) < 72057594037927936 := by
          have h2 := rdW_lt (xs.take j) (take_bytes hz j) 0 0 (by simp)
          have h3 : 256 ^ (0 + (xs.take j).length) ≤ 256 ^ 7 := Nat.pow_le_pow_right (by decide) (by rw [List.length_take]; omega)
          omega
        have hs2 : Hid (rdW 0 (xs.take (j + 1)) = rdW 0 (xs.take j) * 256 + c.toNat) := by
          show _ = _
          rw [htk, rdW_snoc]
        clear htk hcell hz
        generalize rdW 0 (xs.take j) = A at *
        have hor := join8 A c hA hc0 hc1
        obtain ⟨B, hB0⟩ : ∃ B : Nat, B = A * 256 + c.toNat := ⟨_, rfl⟩
        rw [← hB0] at hor hs2
        clear hB0
        go_wp2
        go_round
        case rel => exact ⟨j + 1, by omega, by go_num, by rw [hs2.out]⟩
        case measure => simp [intOf]; omega
    · have hf : Hid (rdW 0 (xs.take j) = rdW 0 xs) := by
        show _ = _
        rw [List.take_of_length_le (by rw [hl3.out]; omega)]
      generalize rdW 0 (xs.take j) = A at *
      go_wp2
      go_ret
      exact ⟨by rw [← hf.out]; rfl, hc3, hg2.trans hg3⟩

theorem rwide_u (r p y f n cap m p' y' f' : Nat) (a : Option Addr) (zs : List Int) (k : Int) (w : World) (h : RCur w r a n cap zs p y f) (hs : sW zs p y f k = (m, p', y', f')) :
    Calls Try.prog 17 #[.pointer (some ⟨r, 0, none⟩), .int .i64 k] w fun e w' => e = .returned (.int .u64 m) ∧ RCur w' r a n cap zs p' y' f' ∧ w.grownBy w' (some r) := by
  unfold sW at hs
  by_cases hy : y = 0
  · subst hy
    simp only [ne_eq, not_true_eq_false, if_false] at hs
    by_cases hk : k = 1 ∨ k = 2 ∨ k = 4 ∨ k = 8
    · rw [if_neg (fun h0 => h0 hk)] at hs
      have hk0 : ¬ k < 0 := by omega
      by_cases hx : ((zs.length - p : Nat) : Int) < k
      · rw [if_pos hx] at hs
        cases hs
        have hT : sT zs p 0 f k = ([], p, 3, zs.length) := by simp [sT, hk0, hx]
        exact rwide_ok r p f n cap a zs [] _ _ _ k w h hk hT (by show _ ≤ _; simp)
      · rw [if_neg hx] at hs
        cases hs
        have hT : sT zs p 0 f k = ((zs.drop p).take k.toNat, p + k.toNat, 0, f) := by simp [sT, hk0, hx]
        exact rwide_ok r p f n cap a zs _ _ _ _ k w h hk hT (by show _ ≤ _; rw [List.length_take]; omega)
    · rw [if_pos hk] at hs
      cases hs
      have hT : sT zs p 1 p k = ([], p, 1, p) := by simp [sT]
      exact rwide_arg r p f n cap a zs [] _ _ _ k w h hk hT (by show _ ≤ _; simp)
  · rw [if_pos hy] at hs
    cases hs
    have hT : sT zs p y f k = ([], p, y, f) := by simp [sT, hy]
    exact rwide_stop r p y f n cap a zs [] _ _ _ k w h hy hT (by show _ ≤ _; simp)

end Go.Proofs.Ytkmbphgcnppohaa
