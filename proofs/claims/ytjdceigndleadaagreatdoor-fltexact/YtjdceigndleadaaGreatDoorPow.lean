/-
  Powers: nat.Power.
-/
import Derived.Test.YtjdceigndleadaaGreatDoorMul
namespace Go.Proofs.YtjdceigndleadaaGreatDoor
open Go.RowKit

theorem pow_top {B k n : Nat} (h : (1000000 : Int) ^ 134 ≤ ((B ^ (k + 1) : Nat) : Int)) (hk : k + 1 ≤ n) : shortA (B ^ n) = (noS, 11) := by
  have hB : 1 ≤ B := by
    rcases Nat.eq_zero_or_pos B with h0 | h0
    · subst h0
      rw [Nat.zero_pow (by omega)] at h
      have := pow_pos' (b := 1000000) (by decide) 134
      omega
    · exact h0
  have h1 : B ^ (k + 1) ≤ B ^ n := Nat.pow_le_pow_right hB hk
  have h2 : (10 : Nat) ^ 6 = 1000000 := by decide
  have h3 : ∀ m, (1000000 : Nat) ^ m ≤ B ^ (k + 1) → ∀ t, t ≤ 6 * m → 10 ^ t ≤ B ^ n := fun m hm t ht => by
    rw [← h2, ← Nat.pow_mul] at hm
    exact Nat.le_trans (Nat.pow_le_pow_right (by decide) ht) (Nat.le_trans hm h1)
  have h4 : ∀ m : Nat, (1000000 : Int) ^ m ≤ ((B ^ (k + 1) : Nat) : Int) → (1000000 : Nat) ^ m ≤ B ^ (k + 1) := fun m hm => by
    have e : ((1000000 ^ m : Nat) : Int) = (1000000 : Int) ^ m := Int.natCast_pow 1000000 m
    rw [← e] at hm
    exact Int.ofNat_le.1 hm
  have h5 : top ≤ B ^ n := by
    unfold top
    exact h3 134 (h4 134 h) 800 (by decide)
  unfold shortA
  rw [if_neg (by omega)]
set_option maxRecDepth 100000 in
set_option maxHeartbeats 1000000 in
theorem pow_any (b n : Int) (hb : -9223372036854775808 ≤ b ∧ b ≤ 9223372036854775807) (hn : -9223372036854775808 ≤ n ∧ n ≤ 9223372036854775807) (w : World) :
    Calls Tryz.prog 32 #[.int .i64 b, .int .i64 n] w fun e w' => e = .returned (.tuple #[.string (powA b n).1, .int .i64 (powA b n).2]) ∧ Below w.heap.size w w' := by
  by_cases hok : (0 ≤ b ∧ b ≤ 1000000) ∧ 0 ≤ n ∧ n ≤ 4000
  · obtain ⟨R, hR⟩ : ∃ R, powA b n = R := ⟨_, rfl⟩
    rw [hR]
    obtain ⟨N, rfl⟩ : ∃ N : Nat, n = N := ⟨n.toNat, by omega⟩
    obtain ⟨B, rfl⟩ : ∃ B : Nat, b = B := ⟨b.toNat, by omega⟩
    have hR' : Hid (shortA (B ^ N) = R) := by
      rw [← hR]
      unfold powA
      rw [if_pos hok]
      rfl
    have d1 : decide ((B : Int) < 0) = false := by simp
    have d2 : decide (1000000 < (B : Int)) = false := by simp; omega
    have d3 : decide ((N : Int) < 0) = false := by simp
    have d4 : decide (4000 < (N : Int)) = false := by simp; omega
    have hbB : Hid (0 ≤ (B : Int) ∧ (B : Int) ≤ 1000000) := hok.1
    have hN4 : Hid (N ≤ 4000) := by show _ ≤ _; omega
    clear hb hn hok hR
    have hL : OwnsI (w.alloc (.cells #[.int .i64 1] 3)) w.heap.size (.slice (some ⟨w.heap.size, 0, none⟩) 1 1) [1] := World.ownsRow_lit w #[.int .i64 1] 1 (Nat.le_refl _) (by decide) rfl
    have hb0 : Below w.heap.size w (w.alloc (.cells #[.int .i64 1] 3)) := (Below.refl _ _).alloc (Nat.le_refl _) _
    go_enter Tryz.func32, Tryz.ntmps32
    go_wp2
    go_loopw [6, 23] (fun v i wr => ∃ (k : Nat) (l : List Int), k ≤ N ∧ i = .int .i64 k ∧ Hid (OwnsI wr w.heap.size v l) ∧ Hid (Grp 1000000 l) ∧ Hid (lv 1000000 l = (B ^ k : Nat)) ∧ Hid (l.length ≤ 134) ∧ Hid (Below w.heap.size w wr)) (fun _ i _ => N - (intOf i).toNat)
    case atStart => exact ⟨0, [1], Nat.zero_le _, rfl, hL, (fun x hx => by simp at hx; omega), rfl, (by show 1 ≤ 134; decide), hb0⟩
    case round =>
      obtain ⟨k, l, hk, rfl, hO, hG, hv, hln, hbl⟩ := hrel
      clear hL hb0
      by_cases hlt : k < N
      · have hln' := hln.out
        have kt := times_any _ l w.heap.size wr hO.out hG.out (by omega) B 0 hbB.out (by decide) hbl.out.size
        clear hln'
        go_wp2_with (go_at_call 53; refine kt.mono ?_; rintro e w2 ⟨⟨v', l', rfl, hO2, hG2, hv2, hlen⟩, hb2⟩; refine Hid.out ?_)
        refine Lib.hid ?_
        have hv3 : lv 1000000 l' = ((B ^ (k + 1) : Nat) : Int) := by
          rw [hv2, hv.out, Int.add_zero, Nat.pow_succ, Nat.mul_comm, Int.natCast_mul]
        obtain ⟨a', n', c', rfl, hn', -, hc1, hc2, -⟩ := hO2.form
        by_cases hbig : 134 < n'
        · have hr : Hid (R = (noS, 11)) := by
            rw [← hR'.out]
            refine pow_top (k := k) ?_ (by omega)
            rw [← hv3]
            have h1 := hn'.out
            have h2 := hln.out
            rcases hlen with h3 | ⟨h3, h4⟩
            · omega
            · have h5 : l.length = 134 := by omega
              rwa [h5] at h4
          have dn : decide (134 < (n' : Int)) = true := by simp; omega
          clear hbig hv3 hlen hO2 hG2 hv2
          go_wp2
          go_ret2
          exact ⟨by rw [hr.out]; rfl, hbl.out.trans hb2⟩
        · have dn : decide (134 < (n' : Int)) = false := by simp; omega
          have hO3 : Hid _ := hO2
          have hv4 : Hid _ := hv3
          have hG3 : Hid _ := hG2
          have hl3 : Hid (l'.length ≤ 134) := by show _ ≤ _; rw [hn'.out]; omega
          have wk : IntKind.i64.wrap ((k : Int) + 1) = (k : Int) + 1 := by have := hN4.out; exact wrap_fit (by omega) (by omega)
          clear hbig hv3 hlen hO2 hG2 hv2
          go_wp2
          go_roundw
          case rel => exact ⟨k + 1, l', by omega, by go_num, hO3, hG3, hv4, hl3, hbl.out.trans hb2⟩
          case measure => simp [intOf]; omega
      · obtain rfl : k = N := by omega
        have hln' := hln.out
        have hlt2 := lv_lt (by decide) hG.out
        have ht := tell_any _ l w.heap.size wr hO.out (fun g hg => by have := hG.out g hg; omega) hlt2.1 hlt2.2 (by omega) hbl.out.size
        have hn : (lv 1000000 l).toNat = B ^ k := by rw [hv.out, Int.toNat_natCast]
        rw [hn, hR'.out] at ht
        clear hn hlt2 hln'
        go_wp2_with (go_at_call 54; refine ht.mono ?_; rintro e w9 ⟨rfl, hb9⟩)
        go_ret2
        exact ⟨rfl, hbl.out.trans hb9⟩
  · have e : powA b n = (noS, 1) := by unfold powA; rw [if_neg hok]
    rw [e]
    clear e
    by_cases c1 : b < 0
    · have d1 : decide (b < 0) = true := by simpa using c1
      clear hok c1
      go_enter Tryz.func32, Tryz.ntmps32
      go_wp2
      go_ret2
      exact ⟨rfl, Below.refl _ _⟩
    have d1 : decide (b < 0) = false := by simpa using c1
    by_cases c2 : 1000000 < b
    · have d2 : decide (1000000 < b) = true := by simpa using c2
      clear hok c1 c2
      go_enter Tryz.func32, Tryz.ntmps32
      go_wp2
      go_ret2
      exact ⟨rfl, Below.refl _ _⟩
    have d2 : decide (1000000 < b) = false := by simpa using c2
    by_cases c3 : n < 0
    · have d3 : decide (n < 0) = true := by simpa using c3
      clear hok c1 c2 c3
      go_enter Tryz.func32, Tryz.ntmps32
      go_wp2
      go_ret2
      exact ⟨rfl, Below.refl _ _⟩
    have d3 : decide (n < 0) = false := by simpa using c3
    have d4 : decide (4000 < n) = true := by simp; omega
    clear hok c1 c2 c3
    go_enter Tryz.func32, Tryz.ntmps32
    go_wp2
    go_ret2
    exact ⟨rfl, Below.refl _ _⟩
end Go.Proofs.YtjdceigndleadaaGreatDoor
