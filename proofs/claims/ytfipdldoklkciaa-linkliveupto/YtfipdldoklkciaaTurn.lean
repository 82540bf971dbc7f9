/-
  What one byte does to a check sum that is under way, in the program and in the document's own answer: both are the plain function.
-/
import Derived.Test.YtfipdldoklkciaaOwn
import Derived.Test.YtfipdldoklkciaaPlain
import Derived.WalkKit
import Derived.WalkSpells
import Derived.WalkLawsBesides
namespace Go.Proofs.Ytfipdldoklkciaa
open Go.RowKit

theorem low_bit (m : Nat) (hm : m < 4294967296) : bits .and .u32 (m : Int) 1 = ((m % 2 : Nat) : Int) := by
  rw [show (1 : Int) = ((1 : Nat) : Int) from rfl, u32_and_nat m 1 hm (by decide), nat_mask1]

theorem poly_in (m : Nat) (hm : m < 4294967296) : bits .xor .u32 ((m : Int) / 2) 3988292384 = (((m / 2) ^^^ 3988292384 : Nat) : Int) := by
  rw [show (m : Int) / 2 = ((m / 2 : Nat) : Int) from rfl, show (3988292384 : Int) = ((3988292384 : Nat) : Int) from rfl]
  exact u32_xor_nat _ _ (by omega) (by decide)

theorem bs_odd {m : Nat} (h : m % 2 = 1) : bs m = (m / 2) ^^^ 3988292384 := by unfold bs; rw [if_pos h]
theorem bs_even {m : Nat} (h : m % 2 = 0) : bs m = m / 2 := by unfold bs; rw [if_neg (by omega)]

set_option maxHeartbeats 400000 in
theorem turn_nat (n c : Nat) (w : World) (hn : n < 4294967296) (hc : c < 256) :
    Calls Try.prog 112 #[.int .u32 n, .int .u8 c] w fun e w' => e = .returned (.int .u32 (tb n c)) ∧ w' = w := by
  have hx : Hid (bits .xor .u32 (n : Int) (c : Int) = ((n ^^^ c : Nat) : Int)) := u32_xor_nat n c hn (by omega)
  go_enter Try.func112, Try.ntmps112
  go_wp2
  go_loop [0, 10] (fun s i => ∃ k : Nat, k ≤ 8 ∧ i = .int .i64 k ∧ s = .int .u32 (bsN k (n ^^^ c) : Nat)) (fun _ i => 8 - (intOf i).toNat)
  case atStart => exact ⟨0, by omega, rfl, by rw [hx.out]; rfl⟩
  case round =>
    obtain ⟨k, hk, rfl, rfl⟩ := hrel
    have hm := bsN_lt k (xor32 hn (show c < 4294967296 by omega))
    have hs : Hid (bsN (k + 1) (n ^^^ c) = bs (bsN k (n ^^^ c))) := rfl
    have hfin : Hid (k = 8 → tb n c = bsN k (n ^^^ c)) := by intro h; subst h; rfl
    clear hx
    generalize bsN k (n ^^^ c) = m at *
    by_cases hlt : k < 8
    · rcases Nat.mod_two_eq_zero_or_one m with h2 | h2
      · have hb : bits .and .u32 (m : Int) 1 = 0 := by rw [low_bit m hm, h2]; rfl
        have he : Hid _ := bs_even h2
        clear h2
        go_wp2
        go_round
        case rel => exact ⟨k + 1, by omega, by go_num, by rw [hs.out, he.out]; rfl⟩
        case measure => simp [intOf]; omega
      · have hb : bits .and .u32 (m : Int) 1 = 1 := by rw [low_bit m hm, h2]; rfl
        have hp : Hid _ := poly_in m hm
        have he : Hid _ := bs_odd h2
        clear h2
        go_wp2
        go_round
        case rel => exact ⟨k + 1, by omega, by go_num, by rw [hs.out, he.out, hp.out]⟩
        case measure => simp [intOf]; omega
    · have hz : Hid (tb n c = m) := hfin.out (by omega)
      clear hfin hs
      go_wp2
      go_ret
      exact ⟨by rw [hz.out]; rfl, rfl⟩

set_option maxHeartbeats 400000 in
theorem step_nat (n c : Nat) (w : World) (hn : n < 4294967296) (hc : c < 256) :
    Calls Try.prog 113 #[.int .u32 n, .int .u8 c] w fun e w' => e = .returned (.int .u32 (tb n c)) ∧ w' = w := by
  have hx : Hid (bits .xor .u32 (n : Int) (c : Int) = ((n ^^^ c : Nat) : Int)) := u32_xor_nat n c hn (by omega)
  go_enter Try.func113, Try.ntmps113
  go_wp2
  go_loop [0, 5] (fun s i => ∃ k : Nat, k ≤ 8 ∧ i = .int .i64 k ∧ s = .int .u32 (bsN k (n ^^^ c) : Nat)) (fun _ i => 8 - (intOf i).toNat)
  case atStart => exact ⟨0, by omega, rfl, by rw [hx.out]; rfl⟩
  case round =>
    obtain ⟨k, hk, rfl, rfl⟩ := hrel
    have hm := bsN_lt k (xor32 hn (show c < 4294967296 by omega))
    have hs : Hid (bsN (k + 1) (n ^^^ c) = bs (bsN k (n ^^^ c))) := rfl
    have hfin : Hid (k = 8 → tb n c = bsN k (n ^^^ c)) := by intro h; subst h; rfl
    clear hx
    generalize bsN k (n ^^^ c) = m at *
    by_cases hlt : k < 8
    · rcases Nat.mod_two_eq_zero_or_one m with h2 | h2
      · have hb : bits .and .u32 (m : Int) 1 = 0 := by rw [low_bit m hm, h2]; rfl
        have he : Hid _ := bs_even h2
        clear h2
        go_wp2
        go_round
        case rel => exact ⟨k + 1, by omega, by go_num, by rw [hs.out, he.out]; rfl⟩
        case measure => simp [intOf]; omega
      · have hb : bits .and .u32 (m : Int) 1 = 1 := by rw [low_bit m hm, h2]; rfl
        have hp : Hid _ := poly_in m hm
        have he : Hid _ := bs_odd h2
        clear h2
        go_wp2
        go_round
        case rel => exact ⟨k + 1, by omega, by go_num, by rw [hs.out, he.out, hp.out]⟩
        case measure => simp [intOf]; omega
    · have hz : Hid (tb n c = m) := hfin.out (by omega)
      clear hfin hs
      go_wp2
      go_ret
      exact ⟨by rw [hz.out]; rfl, rfl⟩

/-- The same at numbers of any make. -/
theorem turn_any (n c : Int) (w : World) (h0 : 0 ≤ n) (hn : n < 4294967296) (h1 : 0 ≤ c) (hc : c < 256) :
    Calls Try.prog 112 #[.int .u32 n, .int .u8 c] w fun e w' => e = .returned (.int .u32 (tb n.toNat c.toNat : Nat)) ∧ w' = w := by
  have h := turn_nat n.toNat c.toNat w (by omega) (by omega)
  rwa [Int.toNat_of_nonneg h0, Int.toNat_of_nonneg h1] at h
theorem step_any (n c : Int) (w : World) (h0 : 0 ≤ n) (hn : n < 4294967296) (h1 : 0 ≤ c) (hc : c < 256) :
    Calls Try.prog 113 #[.int .u32 n, .int .u8 c] w fun e w' => e = .returned (.int .u32 (tb n.toNat c.toNat : Nat)) ∧ w' = w := by
  have h := step_nat n.toNat c.toNat w (by omega) (by omega)
  rwa [Int.toNat_of_nonneg h0, Int.toNat_of_nonneg h1] at h
end Go.Proofs.Ytfipdldoklkciaa
