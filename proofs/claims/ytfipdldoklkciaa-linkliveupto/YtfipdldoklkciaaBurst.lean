/-
  Why a burst of four bytes is found: a turn can be undone, so whoever differs in one word of 32 bits differs in the end.
-/
import Derived.Test.YtfipdldoklkciaaPlain
namespace Go.Proofs.Ytfipdldoklkciaa

theorem half_high {n : Nat} (h : n < 4294967296) : (n / 2).testBit 31 = false := Nat.testBit_lt_two_pow (by omega)

theorem xor_cancel {a b c : Nat} (h : a ^^^ c = b ^^^ c) : a = b := by
  have := congrArg (· ^^^ c) h
  simpa [Nat.xor_assoc] using this

/-- A turn can be undone. -/
theorem bs_inj {a b : Nat} (ha : a < 4294967296) (hb : b < 4294967296) (h : bs a = bs b) : a = b := by
  unfold bs at h
  have e1 : (3988292384 : Nat).testBit 31 = true := by decide
  have ta : (a / 2 ^^^ 3988292384).testBit 31 = true := by rw [Nat.testBit_xor, half_high ha, e1]; rfl
  have tb' : (b / 2 ^^^ 3988292384).testBit 31 = true := by rw [Nat.testBit_xor, half_high hb, e1]; rfl
  by_cases pa : a % 2 = 1 <;> by_cases pb : b % 2 = 1
  · rw [if_pos pa, if_pos pb] at h
    have := xor_cancel h
    omega
  · rw [if_pos pa, if_neg pb] at h
    rw [h, half_high hb] at ta
    cases ta
  · rw [if_neg pa, if_pos pb] at h
    rw [← h, half_high ha] at tb'
    cases tb'
  · rw [if_neg pa, if_neg pb] at h
    omega

theorem bsN_inj (k : Nat) {a b : Nat} (ha : a < 4294967296) (hb : b < 4294967296) (h : bsN k a = bsN k b) : a = b := by
  induction k with
  | zero => exact h
  | succ k ih => exact ih (bs_inj (bsN_lt k ha) (bsN_lt k hb) h)

theorem runL_inj (l : List Int) : ∀ {a b : Nat}, a < 4294967296 → b < 4294967296 → (∀ c ∈ l, 0 ≤ c ∧ c < 256) → runL a l = runL b l → a = b := by
  induction l with
  | nil => intro a b _ _ _ h; exact h
  | cons c l ih =>
    intro a b ha hb hl h
    have hc := hl c (by simp)
    have h1 : tb a c.toNat = tb b c.toNat := ih (tb_lt ha (by omega)) (tb_lt hb (by omega)) (fun d hd => hl d (by simp [hd])) h
    exact xor_cancel (bsN_inj 8 (xor32 ha (by omega)) (xor32 hb (by omega)) h1)

theorem bs_shift (x z : Nat) : bs (x ^^^ 2 * z) = bs x ^^^ z := by
  have h1 : (x ^^^ 2 * z) % 2 = x % 2 := by
    have h := Nat.xor_mod_two_pow (a := x) (b := 2 * z) (n := 1)
    rw [show (2 : Nat) ^ 1 = 2 from rfl, Nat.mul_mod_right, Nat.xor_zero] at h
    exact h
  have h2 : (x ^^^ 2 * z) / 2 = x / 2 ^^^ z := by
    rw [Nat.xor_div_two, Nat.mul_div_cancel_left z (by decide)]
  unfold bs
  rw [h1, h2]
  split
  · rw [Nat.xor_assoc, Nat.xor_comm z, ← Nat.xor_assoc]
  · rfl

theorem bsN_shift (k : Nat) : ∀ (x z : Nat), bsN k (x ^^^ 2 ^ k * z) = bsN k x ^^^ z := by
  induction k with
  | zero => intro x z; simp [bsN]
  | succ k ih =>
    intro x z
    show bs (bsN k (x ^^^ 2 ^ (k + 1) * z)) = bs (bsN k x) ^^^ z
    rw [show 2 ^ (k + 1) * z = 2 ^ k * (2 * z) from by rw [Nat.pow_succ, Nat.mul_assoc], ih, bs_shift]

theorem bsN_add (j k n : Nat) : bsN (j + k) n = bsN j (bsN k n) := by
  induction j with
  | zero => rw [Nat.zero_add]; rfl
  | succ j ih => rw [show j + 1 + k = (j + k) + 1 from by omega]; show bs _ = bs _; rw [ih]

/-- Four bytes as a number, the lowest first. -/
def wd (c0 c1 c2 c3 : Int) : Nat := c0.toNat + 256 * c1.toNat + 65536 * c2.toNat + 16777216 * c3.toNat

theorem add_xor8 (a z : Nat) (h : a < 256) : a + 256 * z = a ^^^ 2 ^ 8 * z := by
  have e := Nat.two_pow_add_eq_or_of_lt (i := 8) (b := a) h z
  rw [show (256 : Nat) = 2 ^ 8 from rfl, Nat.add_comm, e]
  apply Nat.eq_of_testBit_eq
  intro i
  rw [Nat.testBit_or, Nat.testBit_xor]
  by_cases hi : i < 8
  · rw [Nat.testBit_two_pow_mul, decide_eq_false (by omega)]; simp
  · rw [Nat.testBit_lt_two_pow (x := a) (i := i) (Nat.lt_of_lt_of_le h (Nat.pow_le_pow_right (n := 2) (i := 8) (j := i) (by decide) (by omega)))]; simp

/-- Four bytes taken in are one word taken in. -/
theorem run_four (n : Nat) (c0 c1 c2 c3 : Int) (h0 : 0 ≤ c0 ∧ c0 < 256) (h1 : 0 ≤ c1 ∧ c1 < 256) (h2 : 0 ≤ c2 ∧ c2 < 256) (_h3 : 0 ≤ c3 ∧ c3 < 256) :
    runL n [c0, c1, c2, c3] = bsN 32 (n ^^^ wd c0 c1 c2 c3) := by
  have a3 : wd c0 c1 c2 c3 = c0.toNat ^^^ 2 ^ 8 * (c1.toNat ^^^ 2 ^ 8 * (c2.toNat ^^^ 2 ^ 8 * c3.toNat)) := by
    rw [← add_xor8 c2.toNat _ (by omega), ← add_xor8 c1.toNat _ (by omega), ← add_xor8 c0.toNat _ (by omega)]
    unfold wd
    omega
  rw [a3, ← Nat.xor_assoc, show (32 : Nat) = 24 + 8 from rfl, bsN_add, bsN_shift, ← Nat.xor_assoc, show (24 : Nat) = 16 + 8 from rfl, bsN_add, bsN_shift, ← Nat.xor_assoc, show (16 : Nat) = 8 + 8 from rfl, bsN_add, bsN_shift]
  rfl

theorem wd_lt (c0 c1 c2 c3 : Int) (h0 : 0 ≤ c0 ∧ c0 < 256) (h1 : 0 ≤ c1 ∧ c1 < 256) (h2 : 0 ≤ c2 ∧ c2 < 256) (h3 : 0 ≤ c3 ∧ c3 < 256) : wd c0 c1 c2 c3 < 4294967296 := by
  unfold wd; omega

theorem wd_inj {c0 c1 c2 c3 d0 d1 d2 d3 : Int} (h0 : 0 ≤ c0 ∧ c0 < 256) (h1 : 0 ≤ c1 ∧ c1 < 256) (h2 : 0 ≤ c2 ∧ c2 < 256) (h3 : 0 ≤ c3 ∧ c3 < 256)
    (k0 : 0 ≤ d0 ∧ d0 < 256) (k1 : 0 ≤ d1 ∧ d1 < 256) (k2 : 0 ≤ d2 ∧ d2 < 256) (k3 : 0 ≤ d3 ∧ d3 < 256) (h : wd c0 c1 c2 c3 = wd d0 d1 d2 d3) : c0 = d0 ∧ c1 = d1 ∧ c2 = d2 ∧ c3 = d3 := by
  unfold wd at h; omega

/-- WHERE FOUR BYTES THAT STAND TOGETHER DIFFER, AND NOTHING ELSE DOES, THE END DIFFERS. -/
theorem burst (n : Nat) (p r : List Int) (c0 c1 c2 c3 d0 d1 d2 d3 : Int) (hn : n < 4294967296) (hp : ∀ c ∈ p, 0 ≤ c ∧ c < 256) (hr : ∀ c ∈ r, 0 ≤ c ∧ c < 256)
    (h0 : 0 ≤ c0 ∧ c0 < 256) (h1 : 0 ≤ c1 ∧ c1 < 256) (h2 : 0 ≤ c2 ∧ c2 < 256) (h3 : 0 ≤ c3 ∧ c3 < 256)
    (k0 : 0 ≤ d0 ∧ d0 < 256) (k1 : 0 ≤ d1 ∧ d1 < 256) (k2 : 0 ≤ d2 ∧ d2 < 256) (k3 : 0 ≤ d3 ∧ d3 < 256)
    (h : runL n (p ++ ([c0, c1, c2, c3] ++ r)) = runL n (p ++ ([d0, d1, d2, d3] ++ r))) : c0 = d0 ∧ c1 = d1 ∧ c2 = d2 ∧ c3 = d3 := by
  have hm := runL_lt p n hn hp
  have wc := wd_lt c0 c1 c2 c3 h0 h1 h2 h3
  have wdd := wd_lt d0 d1 d2 d3 k0 k1 k2 k3
  rw [runL_append, runL_append, runL_append, runL_append, run_four _ _ _ _ _ h0 h1 h2 h3, run_four _ _ _ _ _ k0 k1 k2 k3] at h
  have e1 := runL_inj r (bsN_lt 32 (xor32 hm wc)) (bsN_lt 32 (xor32 hm wdd)) hr h
  have e2 := bsN_inj 32 (xor32 hm wc) (xor32 hm wdd) e1
  rw [Nat.xor_comm, Nat.xor_comm (runL n p)] at e2
  exact wd_inj h0 h1 h2 h3 k0 k1 k2 k3 (xor_cancel e2)

end Go.Proofs.Ytfipdldoklkciaa
