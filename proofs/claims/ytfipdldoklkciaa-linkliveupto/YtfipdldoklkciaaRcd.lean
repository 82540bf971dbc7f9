/-
  How many are ready, and the ack.
-/
import Derived.Test.YtfipdldoklkciaaRcc
import Derived.Lib.EndianBits
namespace Go.Proofs.Ytfipdldoklkciaa
open Go.RowKit
set_option linter.unusedVariables false
/-- HOW MANY CAME WITHOUT A GAP. -/
def rdF (s : Rc) : Nat → Nat → Nat
  | 0, n => n
  | k + 1, n => if (s.L (s.tk + 1 + (n : Int))).isSome = true then rdF s k (n + 1) else n
def rdy (s : Rc) : Nat := rdF s 33 0
theorem rdF_spec (s : Rc) (h : Rok s) : ∀ (k n : Nat), n + k = 33 → (∀ j, j < n → (s.L (s.tk + 1 + (j : Int))).isSome = true) → (∀ j, j < rdF s k n → (s.L (s.tk + 1 + (j : Int))).isSome = true) ∧ s.L (s.tk + 1 + (rdF s k n : Int)) = none
  | 0, n, hn, hj => by
    have := h.inn _ (hj 32 (by omega))
    have := h.w2
    omega
  | k + 1, n, hn, hj => by
    unfold rdF
    split
    · rename_i hs
      exact rdF_spec s h k (n + 1) (by omega) (fun j hlt => by
        by_cases e : j = n
        · rw [e]; exact hs
        · exact hj j (by omega))
    · rename_i hs
      refine ⟨hj, ?_⟩
      cases hL : s.L (s.tk + 1 + (n : Int)) with
      | none => rfl
      | some l => rw [hL] at hs; simp at hs
theorem rdy_in {s : Rc} (h : Rok s) {j : Nat} (hj : j < rdy s) : (s.L (s.tk + 1 + (j : Int))).isSome = true := (rdF_spec s h 33 0 rfl (fun _ h => by omega)).1 j hj
theorem rdy_end {s : Rc} (h : Rok s) : s.L (s.tk + 1 + (rdy s : Int)) = none := (rdF_spec s h 33 0 rfl (fun _ h => by omega)).2
theorem rdy_le {s : Rc} (h : Rok s) : (rdy s : Int) ≤ s.win := by
  by_cases e : rdy s = 0
  · have := h.w1; omega
  · have := h.inn _ (rdy_in h (j := rdy s - 1) (by omega))
    omega
/-- What is ready, if all below n came and n did not. -/
theorem rdy_of {s : Rc} (h : Rok s) {n : Nat} (h1 : ∀ j, j < n → (s.L (s.tk + 1 + (j : Int))).isSome = true) (h2 : s.L (s.tk + 1 + (n : Int)) = none) : rdy s = n := by
  rcases Nat.lt_trichotomy (rdy s) n with k | k | k
  · have := h1 _ k
    rw [rdy_end h] at this
    cases this
  · exact k
  · have := rdy_in h k
    rw [h2] at this
    cases this
theorem ready_any {rb : Nat} {s : Rc} {w : World} (h : Rv w rb s) :
    Calls Try.prog 98 #[.pointer (some ⟨rb, 0, none⟩)] w fun e w' => e = .returned (.int .i64 (rdy s)) ∧ ∃ m, w' = w.drewN m := by
  have k0 := rmade_yes rb w h.c0
  have hR : Hid (Rv w rb s) := h
  have hw2 := h.ok.w2
  have ht1 := h.ok.t1
  have ht2 := h.ok.t2
  clear h
  go_enter Try.func98, Try.ntmps98
  go_wp2_with (go_at_call 94; refine k0.mono ?_; rintro e w1 ⟨rfl, hw1⟩; obtain rfl := hw1.symm; clear k0 hw1)
  go_loopw [3] (fun s3 wr => ∃ (n m : Nat), n ≤ 32 ∧ s3 = .int .i64 (n : Int) ∧ Hid (∀ j, j < n → (s.L (s.tk + 1 + (j : Int))).isSome = true) ∧ wr = w.drewN m) (fun v _ => 33 - (intOf v).toNat)
  case atStart => exact ⟨0, 0, by omega, rfl, fun _ h => by omega, rfl⟩
  case round =>
    obtain ⟨n, m, hn, rfl, hj, rfl⟩ := hrel
    have c2 := (hR.out.dn m).c2
    have hw : IntKind.i64.wrap (s.tk + 1) = s.tk + 1 := by rw [IntKind.wrap_i64]; omega
    have hw' : IntKind.i64.wrap (s.tk + 1 + (n : Int)) = s.tk + 1 + (n : Int) := by rw [IntKind.wrap_i64]; omega
    have k1 := holds_any (s.tk + 1 + (n : Int)) (hR.out.dn m)
    cases hL : (s.L (s.tk + 1 + (n : Int))).isSome with
    | true =>
      rw [hL] at k1
      have hn' : n < 32 := by
        have := hR.out.ok.inn _ hL
        omega
      have hLL : Hid ((s.L (s.tk + 1 + (n : Int))).isSome = true) := hL
      clear hL
      go_wp2_with (go_at_call 99; refine k1.mono ?_; rintro e w1 ⟨rfl, m1, rfl⟩; clear k1)
      refine ⟨⟨n + 1, _, by omega, by simp, fun j hlt => ?_, rfl⟩, by simp [intOf]; omega⟩
      by_cases e : j = n
      · rw [e]; exact hLL.out
      · exact hj.out j (by omega)
    | false =>
      rw [hL] at k1
      have hLL : Hid (rdy s = n) := rdy_of hR.out.ok hj.out (by
        cases hx : s.L (s.tk + 1 + (n : Int)) with
        | none => rfl
        | some l => rw [hx] at hL; cases hL)
      clear hL
      go_wp2_with (go_at_call 99; refine k1.mono ?_; rintro e w1 ⟨rfl, m1, rfl⟩; clear k1)
      go_ret
      exact ⟨by rw [hLL.out]; rfl, _, rfl⟩
/-- The bits of a row of answers. -/
def bF (f : Nat → Bool) : Nat → Int
  | 0 => 0
  | i + 1 => if f i = true then bF f i + 2 ^ i else bF f i
theorem bF_bnd (f : Nat → Bool) : ∀ i, 0 ≤ bF f i ∧ bF f i < 2 ^ i
  | 0 => by simp [bF]
  | i + 1 => by
    have := bF_bnd f i
    have hp : (0 : Int) < 2 ^ i := Int.pow_pos (by decide)
    unfold bF
    rw [Int.pow_succ]
    split <;> omega
theorem two_int (k : Nat) : ((2 ^ k : Nat) : Int) = (2 : Int) ^ k := Int.natCast_pow 2 k
theorem two_up {m k : Nat} (h : m ≤ k) : (2 : Int) ^ m ≤ 2 ^ k := by
  rw [← two_int, ← two_int]
  exact Int.ofNat_le.2 (Nat.pow_le_pow_right (by decide) h)
theorem two_u64 {i : Nat} (h : i < 64) : (2 : Int) ^ i < 18446744073709551616 := by
  have := two_up (m := i) (k := 63) (by omega)
  have e : (2 : Int) ^ 63 = 9223372036854775808 := by decide
  omega
theorem two_lt64 {i : Nat} (h : i < 64) : (2 : Int) ^ i < 2 ^ 64 := by
  have h2 := two_u64 h
  have e : (2 : Int) ^ 64 = 18446744073709551616 := by decide
  omega
theorem bF_or (f : Nat → Bool) (i : Nat) (h : i < 64) : bits .or .u64 (bF f i) (2 ^ i) = bF f i + 2 ^ i := by
  have hb := bF_bnd f i
  have h2 := two_u64 h
  have e : (2 : Int) ^ 64 = 18446744073709551616 := by decide
  exact bits_join_low .u64 64 (by decide) wraps_u64 i _ _ hb.1 hb.2 (by omega) (Int.le_of_lt (Int.pow_pos (by decide))) (Int.emod_self) (by omega)
theorem wrap_two {i : Nat} (h : i < 64) : IntKind.u64.wrap (2 ^ i) = 2 ^ i := wraps_u64 _ (Int.le_of_lt (Int.pow_pos (by decide))) (two_lt64 h)
theorem bF_congr {f g : Nat → Bool} : ∀ (i : Nat), (∀ j, j < i → f j = g j) → bF f i = bF g i
  | 0, _ => rfl
  | i + 1, h => by
    unfold bF
    rw [bF_congr i (fun j hj => h j (by omega)), h i (by omega)]
theorem bF_stop {f : Nat → Bool} {i : Nat} : ∀ (k : Nat), (∀ j, i ≤ j → j < i + k → f j = false) → bF f (i + k) = bF f i
  | 0, _ => rfl
  | k + 1, h => by
    have e : bF f (i + (k + 1)) = if f (i + k) = true then bF f (i + k) + 2 ^ (i + k) else bF f (i + k) := rfl
    rw [e, h (i + k) (by omega) (by omega), if_neg (by decide)]
    exact bF_stop k (fun j h1 h2 => h j h1 (by omega))
/-- THE ACK, AND ITS BITS. -/
def ackN (s : Rc) : Int := s.tk + (rdy s : Int)
def ackF (s : Rc) (i : Nat) : Bool := (s.L (ackN s + 2 + (i : Int))).isSome
def ackB (s : Rc) : Int := bF (ackF s) 64
set_option maxHeartbeats 1000000 in
theorem ack_any {rb : Nat} {s : Rc} {w : World} (h : Rv w rb s) :
    Calls Try.prog 67 #[.pointer (some ⟨rb, 0, none⟩)] w fun e w' => e = .returned (.tuple #[.int .i64 (ackN s), .int .u64 (ackB s), .int .i64 (s.tk + s.win)]) ∧ ∃ m, w' = w.drewN m := by
  have k0 := rmade_yes rb w h.c0
  have hR : Hid (Rv w rb s) := h
  have hw1 := h.ok.w1
  have hw2 := h.ok.w2
  have ht1 := h.ok.t1
  have ht2 := h.ok.t2
  have hrl := rdy_le h.ok
  have c2 := h.c2
  have cX := fun m => (h.dn m).c2
  have k1 := ready_any h
  have kX := fun m => ready_any (h.dn m)
  have hwa : IntKind.i64.wrap (s.tk + (rdy s : Int)) = ackN s := by unfold ackN; rw [IntKind.wrap_i64]; omega
  have hb : Hid (0 ≤ ackN s ∧ ackN s ≤ 4611686018427387904 + 32) := by show _ ∧ _; unfold ackN; omega
  clear h
  go_enter Try.func67, Try.ntmps67
  go_wp2_with (go_at_call 94; refine k0.mono ?_; rintro e w1 ⟨rfl, hw1⟩; obtain rfl := hw1.symm; clear k0 hw1)
  go_quiet ((first | (go_at_call 98; exact Calls.quiet_of k1) | (go_at_call 98; exact Calls.quiet_of (kX _))))
  go_wp2
  clear k1 kX c2 cX hwa
  generalize hA : ackN s = A at *
  have hA' : Hid (ackN s = A) := hA
  clear hA
  go_loopw [6, 18] (fun s6 s18 wr => ∃ (i m : Nat), i ≤ 64 ∧ s6 = .int .u64 (bF (ackF s) i) ∧ s18 = .int .i64 (i : Int) ∧ wr = w.drewN m) (fun _ v _ => 64 - (intOf v).toNat)
  case atStart => exact ⟨0, _, by omega, rfl, rfl, rfl⟩
  case round =>
    obtain ⟨i, m, hi, rfl, rfl, rfl⟩ := hrel
    by_cases hlt : i < 64
    · have hd : decide ((i : Int) < 64) = true := by simp; omega
      have hwb : IntKind.i64.wrap (A + 2) = A + 2 := by have := hb.out; rw [IntKind.wrap_i64]; omega
      have hwc : IntKind.i64.wrap (A + 2 + (i : Int)) = A + 2 + (i : Int) := by have := hb.out; rw [IntKind.wrap_i64]; omega
      have k2 := holds_any (A + 2 + (i : Int)) (hR.out.dn m)
      have hF : ackF s i = (s.L (A + 2 + (i : Int))).isSome := by unfold ackF; rw [hA'.out]
      have hsh := wrap_two hlt
      have hor := bF_or (ackF s) i hlt
      have hN : bF (ackF s) (i + 1) = if ackF s i = true then bF (ackF s) i + 2 ^ i else bF (ackF s) i := rfl
      rw [← hF] at k2
      clear hF
      cases hL : ackF s i with
      | true =>
        rw [hL] at k2 hN
        rw [if_pos rfl] at hN
        rw [← hN] at hor
        have hN' : Hid (bF (ackF s) (i + 1) = bF (ackF s) i + 2 ^ i) := hN
        clear hN
        generalize bF (ackF s) i = b at *
        generalize hb1 : bF (ackF s) (i + 1) = b1 at *
        go_wp2_with (go_at_call 99; refine k2.mono ?_; rintro e w1 ⟨rfl, m1, rfl⟩; clear k2)
        exact ⟨⟨i + 1, _, by omega, by rw [hb1], by simp, rfl⟩, by simp [intOf]; omega⟩
      | false =>
        rw [hL] at k2 hN
        rw [if_neg (by decide)] at hN
        go_wp2_with (go_at_call 99; refine k2.mono ?_; rintro e w1 ⟨rfl, m1, rfl⟩; clear k2)
        exact ⟨⟨i + 1, _, by omega, by rw [hN], by simp, rfl⟩, by simp [intOf]; omega⟩
    · have hd : decide ((i : Int) < 64) = false := by simp; omega
      obtain rfl : i = 64 := by omega
      have k2 := credit_any (hR.out.dn m)
      go_wp2_with (go_at_call 100; refine k2.mono ?_; rintro e w1 ⟨rfl, m1, rfl⟩; clear k2)
      refine bodyPost_ret (v := .tuple #[.int .i64 A, .int .u64 (bF (ackF s) 64), .int .i64 (s.tk + s.win)]) (by simp [results, Try.results67, go_sem]) rfl ?_
      exact ⟨by rw [hA'.out]; rfl, _, rfl⟩
end Go.Proofs.Ytfipdldoklkciaa
