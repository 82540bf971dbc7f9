/-
  The check sum as a plain function on natural numbers, and what its steps keep: no program is named here.
-/
import Derived.Laws.BitsAllLaws
namespace Go.Proofs.Ytfipdldoklkciaa

/-- One turn: a bit to the right, and the polynomial where the bit that left was 1. -/
def bs (n : Nat) : Nat := if n % 2 = 1 then (n / 2) ^^^ 3988292384 else n / 2
/-- So many turns. -/
def bsN : Nat → Nat → Nat
  | 0, n => n
  | k + 1, n => bs (bsN k n)
/-- A byte taken in. -/
def tb (n c : Nat) : Nat := bsN 8 (n ^^^ c)
/-- Bytes taken in, one behind the other. -/
def runL (n : Nat) (l : List Int) : Nat := l.foldl (fun m c => tb m c.toNat) n
/-- The check sum with bytes behind. -/
def moreL (n : Nat) (l : List Int) : Nat := 4294967295 ^^^ runL (4294967295 ^^^ n) l

theorem xor32 {a b : Nat} (ha : a < 4294967296) (hb : b < 4294967296) : a ^^^ b < 4294967296 :=
  Nat.xor_lt_two_pow (n := 32) ha hb

theorem bs_lt {n : Nat} (h : n < 4294967296) : bs n < 4294967296 := by
  unfold bs
  split
  · exact xor32 (by omega) (by decide)
  · omega

theorem bsN_lt (k : Nat) {n : Nat} (h : n < 4294967296) : bsN k n < 4294967296 := by
  induction k with
  | zero => exact h
  | succ k ih => exact bs_lt ih

theorem tb_lt {n c : Nat} (h : n < 4294967296) (hc : c < 256) : tb n c < 4294967296 :=
  bsN_lt 8 (xor32 h (by omega))

theorem runL_snoc (n : Nat) (l : List Int) (c : Int) : runL n (l ++ [c]) = tb (runL n l) c.toNat := by
  simp [runL]

theorem runL_append (n : Nat) (l m : List Int) : runL n (l ++ m) = runL (runL n l) m := by
  simp [runL]

theorem runL_lt (l : List Int) : ∀ (n : Nat), n < 4294967296 → (∀ c ∈ l, 0 ≤ c ∧ c < 256) → runL n l < 4294967296 := by
  induction l with
  | nil => intro n h _; exact h
  | cons c l ih =>
    intro n h hl
    have hc := hl c (by simp)
    exact ih _ (tb_lt h (by omega)) fun d hd => hl d (by simp [hd])

theorem moreL_lt {n : Nat} {l : List Int} (h : n < 4294967296) (hl : ∀ c ∈ l, 0 ≤ c ∧ c < 256) : moreL n l < 4294967296 :=
  xor32 (by decide) (runL_lt l _ (xor32 (by decide) h) hl)

theorem xor_same (a b : Nat) : a ^^^ (a ^^^ b) = b := by
  rw [← Nat.xor_assoc, Nat.xor_self, Nat.zero_xor]

theorem moreL_append (n : Nat) (l m : List Int) : moreL n (l ++ m) = moreL (moreL n l) m := by
  unfold moreL
  rw [runL_append, xor_same]

/-- Nine bytes have their sum. -/
theorem nine : moreL 0 [49, 50, 51, 52, 53, 54, 55, 56, 57] = 3421780262 := by decide +kernel

end Go.Proofs.Ytfipdldoklkciaa
