/-
  How far a character is begun that is not whole.
-/
import Derived.Test.YtfkoghmbkgbgbaaDoorUwhl
namespace Go.Proofs.YtfkoghmbkgbgbaaDoor
open Go.RowKit

theorem second_none (c : Nat) (w : World) (h : c < 194 ∨ 244 < c) :
    Calls Tryd.prog 65 #[.int .u8 c] w fun e w' => e = .returned (.tuple #[.int .u8 1, .int .u8 0]) ∧ w' = w := by
  have e1 : ((c : Int) == 224) = false := by simp; omega
  have e2 : ((c : Int) == 237) = false := by simp; omega
  have e3 : ((c : Int) == 240) = false := by simp; omega
  have e4 : ((c : Int) == 244) = false := by simp; omega
  go_enter Tryd.func65, Tryd.ntmps65
  go_wp2
  all_goals first | (exfalso; omega) | (go_ret2; exact ⟨rfl, rfl⟩)
theorem second_some (c : Nat) (w : World) (h : 194 ≤ c) (h2 : c ≤ 244) :
    Calls Tryd.prog 65 #[.int .u8 c] w fun e w' => e = .returned (.tuple #[.int .u8 (lo2 c : Nat), .int .u8 (hi2 c : Nat)]) ∧ w' = w := by
  by_cases c1 : c = 224
  · subst c1
    go_enter Tryd.func65, Tryd.ntmps65
    go_wp2
    go_ret2
    exact ⟨rfl, rfl⟩
  by_cases c2 : c = 237
  · subst c2
    go_enter Tryd.func65, Tryd.ntmps65
    go_wp2
    go_ret2
    exact ⟨rfl, rfl⟩
  by_cases c3 : c = 240
  · subst c3
    go_enter Tryd.func65, Tryd.ntmps65
    go_wp2
    go_ret2
    exact ⟨rfl, rfl⟩
  by_cases c4 : c = 244
  · subst c4
    go_enter Tryd.func65, Tryd.ntmps65
    go_wp2
    go_ret2
    exact ⟨rfl, rfl⟩
  have e1 : ((c : Int) == 224) = false := by simp; omega
  have e2 : ((c : Int) == 237) = false := by simp; omega
  have e3 : ((c : Int) == 240) = false := by simp; omega
  have e4 : ((c : Int) == 244) = false := by simp; omega
  have l : Hid (lo2 c = 128) := by show _ = _; unfold lo2; rw [if_neg c1, if_neg c3]
  have u : Hid (hi2 c = 191) := by show _ = _; unfold hi2; rw [if_neg c2, if_neg c4]
  clear c1 c2 c3 c4
  rw [l.out, u.out]
  go_enter Tryd.func65, Tryd.ntmps65
  go_wp2
  all_goals first | (exfalso; omega) | (go_ret2; exact ⟨rfl, rfl⟩)

/-- What the loop meets at its k-th byte. -/
theorem begun_step {zs : List Int} (hbad : ¬ Good zs) (h0 : lenB zs ≠ 0) {k lo hi : Nat} (hk : 1 ≤ k) (hle : k ≤ badB zs) (hr : (k = 1 ∧ lo = lo2 (nth zs 0) ∧ hi = hi2 (nth zs 0)) ∨ (2 ≤ k ∧ lo = 128 ∧ hi = 191)) :
    k < badB zs ↔ (k < zs.length ∧ lo ≤ nth zs k ∧ nth zs k ≤ hi) := by
  rcases bad_cases hbad with ⟨e, k0⟩ | ⟨e, k1, k2⟩ | ⟨e, k1, k2, k3⟩ | ⟨e, k1, k2, k3, k4⟩
  · exact absurd k0 h0
  · unfold ok1 at k2
    obtain rfl : k = 1 := by omega
    rcases hr with ⟨_, rfl, rfl⟩ | ⟨h, _⟩
    · omega
    · omega
  · unfold ok1 at k2
    unfold okK at k3
    rcases hr with ⟨rfl, rfl, rfl⟩ | ⟨h, rfl, rfl⟩
    · omega
    · obtain rfl : k = 2 := by omega
      omega
  · unfold ok1 at k2
    unfold okK at k3 k4
    rcases hr with ⟨rfl, rfl, rfl⟩ | ⟨h, rfl, rfl⟩
    · omega
    · have h3 : k = 2 ∨ k = 3 := by omega
      rcases h3 with rfl | rfl
      · omega
      · omega

set_option maxHeartbeats 1000000 in
theorem begun_any (b off n cap : Nat) (zs : List Int) (w : World) (hl : zs.length = n) (h0 : 0 < n) (hb : Bytes w (some ⟨b, off, none⟩) zs) (hbad : ¬ Good zs) (hn : n ≤ 4611686018427387904) :
    Calls Tryd.prog 44 #[.slice (some ⟨b, off, none⟩) n cap] w fun e w' => e = .returned (.int .i64 (badB zs : Nat)) ∧ w' = w := by
  have hL : Hid (zs.length = n) := hl
  have hB : Hid (Bytes w (some ⟨b, off, none⟩) zs) := hb
  have hbad' : Hid (¬ Good zs) := hbad
  have c0 : w.cell? ⟨b, off, none⟩ = some (.int .u8 (nth zs 0 : Nat)) := hb.nat (i := 0) (by omega)
  have z0 := nth_lt hb.1 0
  have hcs := len_cases (nth zs 0)
  have hlb : lenB zs = lenN (nth zs 0) := rfl
  by_cases hz : lenB zs = 0
  · have k : Calls Tryd.prog 65 #[.int .u8 (nth zs 0 : Nat)] w fun e w' => e = .returned (.tuple #[.int .u8 1, .int .u8 0]) ∧ w' = w := second_none (nth zs 0) w (by omega)
    have hB0 : Hid (badB zs = 0) := by show _ = _; unfold badB; rw [if_pos hz]
    clear hcs hlb hz hb hl hbad
    generalize nth zs 0 = c at *
    go_enter Tryd.func44, Tryd.ntmps44
    go_wp2_with (go_at_call 65; refine k.mono ?_; rintro e w' ⟨rfl, hw⟩; obtain rfl : w = w' := hw.symm)
    go_ret
    rw [hB0.out]
    exact ⟨rfl, rfl⟩
  · have hg1 : lenB zs ≠ 1 := by
      intro h1
      refine hbad ?_
      unfold Good GoodN
      rw [← hlb, h1]
      exact ⟨by omega, fun h => by omega, fun h => by omega, fun h => by omega⟩
    have k : Calls Tryd.prog 65 #[.int .u8 (nth zs 0 : Nat)] w fun e w' => e = .returned (.tuple #[.int .u8 (lo2 (nth zs 0) : Nat), .int .u8 (hi2 (nth zs 0) : Nat)]) ∧ w' = w := second_some (nth zs 0) w (by omega) (by omega)
    have hlo := lo2_cases (nth zs 0)
    have hhi := hi2_cases (nth zs 0)
    have hle : lo2 (nth zs 0) ≤ hi2 (nth zs 0) := by omega
    have hb1 : 1 ≤ badB zs := by
      rcases bad_cases hbad with ⟨e, k0⟩ | ⟨e, k1, k2⟩ | ⟨e, k1, k2, k3⟩ | ⟨e, k1, k2, k3, k4⟩
      · exact absurd k0 hz
      all_goals omega
    have hstep : Hid (∀ k lo hi : Nat, 1 ≤ k → k ≤ badB zs → ((k = 1 ∧ lo = lo2 (nth zs 0) ∧ hi = hi2 (nth zs 0)) ∨ (2 ≤ k ∧ lo = 128 ∧ hi = 191)) → (k < badB zs ↔ (k < n ∧ lo ≤ nth zs k ∧ nth zs k ≤ hi))) := fun k lo hi h1 h2 h3 => by rw [← hL.out]; exact begun_step hbad hz h1 h2 h3
    clear hcs hlb hz hb hl hbad hlo hhi hg1
    generalize lo2 (nth zs 0) = l0 at *
    generalize hi2 (nth zs 0) = u0 at *
    generalize hB3 : badB zs = B at *
    clear hB3
    generalize nth zs 0 = c at *
    go_enter Tryd.func44, Tryd.ntmps44
    go_wp2_with (go_at_call 65; refine k.mono ?_; rintro e w' ⟨rfl, hw⟩; obtain rfl : w = w' := hw.symm)
    go_loop [3, 4, 5] (fun l u i => ∃ k lo hi : Nat, l = .int .u8 lo ∧ u = .int .u8 hi ∧ i = .int .i64 k ∧ 1 ≤ k ∧ k ≤ B ∧ Hid ((k = 1 ∧ lo = l0 ∧ hi = u0) ∨ (2 ≤ k ∧ lo = 128 ∧ hi = 191))) (fun _ _ i => B - (intOf i).toNat)
    case atStart => exact ⟨1, l0, u0, rfl, rfl, rfl, Nat.le_refl _, hb1, .inl ⟨rfl, rfl, rfl⟩⟩
    case round =>
      obtain ⟨k, lo, hi, rfl, rfl, rfl, hk1, hk2, hR⟩ := hrel
      have hs := hstep.out k lo hi hk1 hk2 hR.out
      by_cases hlt : k < B
      · obtain ⟨s1, s2, s3⟩ := hs.1 hlt
        have ck : w.cell? ⟨b, off + k, none⟩ = some (.int .u8 (nth zs k : Nat)) := hB.out.nat (by rw [hL.out]; exact s1)
        clear hs
        generalize nth zs k = d at *
        go_wp2
        go_round
        case rel => exact ⟨k + 1, 128, 191, rfl, rfl, by go_num, by omega, by omega, .inr ⟨by omega, rfl, rfl⟩⟩
        case measure => simp [intOf]; omega
      · have ck : k < n → w.cell? ⟨b, off + k, none⟩ = some (.int .u8 (nth zs k : Nat)) := fun s1 => hB.out.nat (by rw [hL.out]; exact s1)
        have hs' : Hid (¬ (k < n ∧ lo ≤ nth zs k ∧ nth zs k ≤ hi)) := fun h => hlt (hs.2 h)
        obtain rfl : k = B := by omega
        clear hs
        generalize nth zs k = d at *
        go_wp2
        all_goals first | (exfalso; have := hs'.out; omega) | (go_ret; exact ⟨rfl, rfl⟩)
end Go.Proofs.YtfkoghmbkgbgbaaDoor
