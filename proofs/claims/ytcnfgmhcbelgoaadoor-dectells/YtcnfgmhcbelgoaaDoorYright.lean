/-
  The document's side: which numbers are in their form, which bytes are digits.
-/
import Derived.Test.YtcnfgmhcbelgoaaDoorNum
namespace Go.Proofs.YtcnfgmhcbelgoaaDoor
open Go.RowKit

set_option maxRecDepth 100000 in
set_option maxHeartbeats 1000000 in
theorem xright_any (s : ByteArray) (w : World) : Calls Tryd.prog 41 #[.string s] w fun e w' => e = .returned (.bool (rt s)) ∧ w' = w := by
  by_cases h0 : s.size = 0
  · obtain rfl := empty_size h0
    have hr : rt noS = false := rfl
    rw [hr]
    unfold noS
    go_enter Tryd.func41, Tryd.ntmps41
    go_wp2
    go_ret
    exact ⟨rfl, rfl⟩
  have d0 : (((s.size : Nat) : Int) == 0) = false := by rw [beq_eq_false_iff_ne]; omega
  by_cases h1 : 800 < s.size
  · have hr : rt s = false := rt_not fun h => by have := h.2; rw [bs_len] at this; omega
    rw [hr]
    have d1 : decide (800 < ((s.size : Nat) : Int)) = true := by simp; omega
    clear h0 h1
    go_enter Tryd.func41, Tryd.ntmps41
    go_wp2
    go_ret
    exact ⟨rfl, rfl⟩
  have d1 : decide (800 < ((s.size : Nat) : Int)) = false := by simp; omega
  have b0 := bs_at s (k := 0) (by omega)
  have hp : 0 < s.size := by omega
  by_cases hz : (bs s).getD 0 0 = 48 ∧ 1 < s.size
  · have hr : rt s = false := rt_not fun h => by have := h.1.2.2 hz.1; rw [bs_len] at this; omega
    rw [hr]
    have e0 : (((s[0]'hp).toNat : Nat) : Int) = 48 := by rw [← b0, hz.1]
    have d2 : decide (1 < ((s.size : Nat) : Int)) = true := by simp; omega
    clear b0 hz h0 h1
    go_enter Tryd.func41, Tryd.ntmps41
    go_wp2
    go_ret
    exact ⟨rfl, rfl⟩
  have hend : Hid ((∀ c ∈ (bs s).take s.size, 48 ≤ c ∧ c ≤ 57) → rt s = true) := all_digs (by omega) (by omega) (by
    by_cases h : (bs s).getD 0 0 = 48
    · exact .inr (by have : ¬ 1 < s.size := fun h2 => hz ⟨h, h2⟩; omega)
    · exact .inl h)
  have hall : Hid (∀ k, k < s.size → (bs s).getD k 0 < 48 ∨ 57 < (bs s).getD k 0 → rt s = false) := fun k hk h => not_digs hk h
  have hgo : Hid (∀ R, R = rt s → Calls Tryd.prog 41 #[.string s] w fun e w' => e = .returned (.bool R) ∧ w' = w) := by
    intro R hR
    have hend' : Hid ((∀ c ∈ (bs s).take s.size, 48 ≤ c ∧ c ≤ 57) → R = true) := by rw [hR]; exact hend.out
    have hall' : Hid (∀ k, k < s.size → (bs s).getD k 0 < 48 ∨ 57 < (bs s).getD k 0 → R = false) := by rw [hR]; exact hall.out
    clear hR hend hall
    by_cases hz1 : (bs s).getD 0 0 = 48
    · have e0 : (((s[0]'hp).toNat : Nat) : Int) = 48 := by rw [← b0, hz1]
      have d2 : decide (1 < ((s.size : Nat) : Int)) = false := by
        have : ¬ 1 < s.size := fun h2 => hz ⟨hz1, h2⟩
        simp; omega
      clear hz1 hz b0
      go_enter Tryd.func41, Tryd.ntmps41
      go_wp2
      go_loop [3] (fun v => ∃ k : Nat, k ≤ s.size ∧ v = .int .i64 k ∧ Hid (∀ c ∈ (bs s).take k, 48 ≤ c ∧ c ≤ 57)) (fun v => s.size - (intOf v).toNat)
      case atStart => exact ⟨0, Nat.zero_le _, rfl, (by intro c hc; simp at hc)⟩
      case round =>
        obtain ⟨k, hk, rfl, hd⟩ := hrel
        by_cases hlt : k < s.size
        · have bk := bs_at s hlt
          have hC : Hid (_ → _ → _) := fun h1 h2 => take_digs hd.out (by rw [bs_len]; exact hlt) ⟨h1, h2⟩
          have hN := hall'.out k hlt
          by_cases hA : (bs s).getD k 0 < 48
          · have d2 : decide ((((s[k]'hlt).toNat : Nat) : Int) < 48) = true := by rw [← bk]; simpa using hA
            obtain rfl := hN (.inl hA)
            clear bk hA
            go_wp2
            go_ret
            exact ⟨rfl, rfl⟩
          by_cases hB : 57 < (bs s).getD k 0
          · have d2 : decide ((((s[k]'hlt).toNat : Nat) : Int) < 48) = false := by rw [← bk]; simpa using hA
            have d3 : decide (57 < (((s[k]'hlt).toNat : Nat) : Int)) = true := by rw [← bk]; simpa using hB
            obtain rfl := hN (.inr hB)
            clear bk hA hB
            go_wp2
            go_ret
            exact ⟨rfl, rfl⟩
          · have d2 : decide ((((s[k]'hlt).toNat : Nat) : Int) < 48) = false := by rw [← bk]; simpa using hA
            have d3 : decide (57 < (((s[k]'hlt).toNat : Nat) : Int)) = false := by rw [← bk]; simpa using hB
            have hC' : Hid _ := hC.out (by omega) (by omega)
            clear bk hA hB hN hC
            go_wp2
            go_round
            case rel => exact ⟨k + 1, by omega, by go_num, hC'⟩
            case measure => simp [intOf]; omega
        · obtain rfl : k = s.size := by omega
          obtain rfl := hend'.out hd.out
          go_wp2
          go_ret
          exact ⟨rfl, rfl⟩
    · have e0 : ((((s[0]'hp).toNat : Nat) : Int) == 48) = false := by rw [← b0]; simpa using hz1
      clear hz1 hz b0
      go_enter Tryd.func41, Tryd.ntmps41
      go_wp2
      go_loop [3] (fun v => ∃ k : Nat, k ≤ s.size ∧ v = .int .i64 k ∧ Hid (∀ c ∈ (bs s).take k, 48 ≤ c ∧ c ≤ 57)) (fun v => s.size - (intOf v).toNat)
      case atStart => exact ⟨0, Nat.zero_le _, rfl, (by intro c hc; simp at hc)⟩
      case round =>
        obtain ⟨k, hk, rfl, hd⟩ := hrel
        by_cases hlt : k < s.size
        · have bk := bs_at s hlt
          have hC : Hid (_ → _ → _) := fun h1 h2 => take_digs hd.out (by rw [bs_len]; exact hlt) ⟨h1, h2⟩
          have hN := hall'.out k hlt
          by_cases hA : (bs s).getD k 0 < 48
          · have d2 : decide ((((s[k]'hlt).toNat : Nat) : Int) < 48) = true := by rw [← bk]; simpa using hA
            obtain rfl := hN (.inl hA)
            clear bk hA
            go_wp2
            go_ret
            exact ⟨rfl, rfl⟩
          by_cases hB : 57 < (bs s).getD k 0
          · have d2 : decide ((((s[k]'hlt).toNat : Nat) : Int) < 48) = false := by rw [← bk]; simpa using hA
            have d3 : decide (57 < (((s[k]'hlt).toNat : Nat) : Int)) = true := by rw [← bk]; simpa using hB
            obtain rfl := hN (.inr hB)
            clear bk hA hB
            go_wp2
            go_ret
            exact ⟨rfl, rfl⟩
          · have d2 : decide ((((s[k]'hlt).toNat : Nat) : Int) < 48) = false := by rw [← bk]; simpa using hA
            have d3 : decide (57 < (((s[k]'hlt).toNat : Nat) : Int)) = false := by rw [← bk]; simpa using hB
            have hC' : Hid _ := hC.out (by omega) (by omega)
            clear bk hA hB hN hC
            go_wp2
            go_round
            case rel => exact ⟨k + 1, by omega, by go_num, hC'⟩
            case measure => simp [intOf]; omega
        · obtain rfl : k = s.size := by omega
          obtain rfl := hend'.out hd.out
          go_wp2
          go_ret
          exact ⟨rfl, rfl⟩
  exact hgo.out _ rfl
theorem ydigit_any (c : Int) (w : World) : Calls Tryd.prog 27 #[.int .u8 c] w fun e w' => e = .returned (.bool (isD c)) ∧ w' = w := by
  have hr : isD c = (decide (48 ≤ c) && decide (c ≤ 57)) := rfl
  rw [hr]
  clear hr
  by_cases h1 : 48 ≤ c
  · go_enter Tryd.func27, Tryd.ntmps27
    go_wp2
    go_ret
    exact ⟨by simp [h1], rfl⟩
  · go_enter Tryd.func27, Tryd.ntmps27
    go_wp2
    go_ret
    exact ⟨by simp; omega, rfl⟩
set_option maxHeartbeats 1000000 in
theorem yright_any (n : Bool) (s : ByteArray) (x : Int) (w : World) : Calls Tryd.prog 17 #[.agg #[.bool n, .string s, .int .i64 x]] w fun e w' => e = .returned (.bool (rtN n s x)) ∧ Below w.heap.size w w' := by
  have kR := xright_any s
  obtain ⟨b0, b1, b2⟩ := box_at w n s x 23
  have hb := alloc_below w (.cells #[.bool n, .string s, .int .i64 x] 23)
  cases h1 : rt s with
  | false =>
    have hR : rtN n s x = false := by
      cases h : rtN n s x with
      | false => rfl
      | true => rw [rtN_rt h] at h1; cases h1
    rw [hR]
    rw [h1] at kR
    clear hR h1
    go_enter Tryd.func17, Tryd.ntmps17
    go_wp2_with (go_at_call 41; refine (kR _).mono ?_; rintro e w1 ⟨rfl, hw⟩; rw [hw]; clear hw)
    go_ret
    exact ⟨rfl, hb⟩
  | true =>
    rw [h1] at kR
    by_cases hz : s = zS
    · subst hz
      have hR : rtN n zS x = (!n && (x == 0)) := by unfold rtN; rw [if_pos bs_z]
      rw [hR]
      clear hR h1
      unfold zS at *
      cases n with
      | true =>
        go_enter Tryd.func17, Tryd.ntmps17
        go_wp2_with (go_at_call 41; refine (kR _).mono ?_; rintro e w1 ⟨rfl, hw⟩; rw [hw]; clear hw)
        go_ret
        exact ⟨rfl, hb⟩
      | false =>
        go_enter Tryd.func17, Tryd.ntmps17
        go_wp2_with (go_at_call 41; refine (kR _).mono ?_; rintro e w1 ⟨rfl, hw⟩; rw [hw]; clear hw)
        go_ret
        exact ⟨rfl, hb⟩
    · have hz' : (s.toList == [48]) = false := by rw [eq_size]; simpa using hz
      have hR : rtN n s x = ((bs s).getD (s.size - 1) 0 != 48 && (decide (-2000 ≤ x) && decide (x ≤ 2000))) := by
        unfold rtN
        rw [if_neg (fun h => hz ((z_iff s).1 h)), h1, Bool.true_and]
      rw [hR]
      have hsz := rt_size h1
      obtain ⟨m, hm⟩ : ∃ m, s.size - 1 = m := ⟨_, rfl⟩
      have hlt : m < s.size := by omega
      have bk := bs_at s hlt
      rw [hm, bk]
      have w1 : IntKind.i64.wrap (((s.size : Nat) : Int) - 1) = ((m : Nat) : Int) := by rw [IntKind.wrap_i64] <;> omega
      clear hR bk hm hsz h1 hz
      cases e1 : ((((s[m]'hlt).toNat : Nat) : Int) != 48) with
      | false =>
        go_enter Tryd.func17, Tryd.ntmps17
        go_wp2_with (go_at_call 41; refine (kR _).mono ?_; rintro e w1 ⟨rfl, hw⟩; rw [hw]; clear hw)
        go_ret
        exact ⟨rfl, hb⟩
      | true =>
        by_cases h3 : -2000 ≤ x
        · have d3 : decide (-2000 ≤ x) = true := by simpa using h3
          rw [d3]
          clear h3
          go_enter Tryd.func17, Tryd.ntmps17
          go_wp2_with (go_at_call 41; refine (kR _).mono ?_; rintro e w1 ⟨rfl, hw⟩; rw [hw]; clear hw)
          go_ret
          exact ⟨by simp, hb⟩
        · have d3 : decide (-2000 ≤ x) = false := by simpa using h3
          rw [d3]
          clear h3
          go_enter Tryd.func17, Tryd.ntmps17
          go_wp2_with (go_at_call 41; refine (kR _).mono ?_; rintro e w1 ⟨rfl, hw⟩; rw [hw]; clear hw)
          go_ret
          exact ⟨by simp, hb⟩
end Go.Proofs.YtcnfgmhcbelgoaaDoor
