/-
  The document's side: Finite, Negative, Exact.
-/
import Derived.Test.YtjdceigndleadaaGreatDoorZdoc
import Derived.Test.YtjdceigndleadaaGreatDoorXfrw
import Derived.Test.YtjdceigndleadaaGreatDoorYmake
import Derived.Test.YtjdceigndleadaaGreatDoorFexact
namespace Go.Proofs.YtjdceigndleadaaGreatDoor
open Go.RowKit
set_option linter.unusedVariables false

theorem zfinite_any (n : Int) (hn : 0 ≤ n ∧ n < 18446744073709551616) (w : World) : Calls Tryz.prog 7 #[.int .u64 n] w fun e w' => e = .returned (.bool (decide (n / 4503599627370496 % 2048 ≠ 2047))) ∧ w' = w := by
  have m1 : bits .and .u64 (n / 4503599627370496) 2047 = n / 4503599627370496 % 2048 := and_low 11 (by decide) _ (by omega) (by omega)
  have hd : (n / 4503599627370496 % 2048 != 2047) = decide (n / 4503599627370496 % 2048 ≠ 2047) := by rw [Bool.eq_iff_iff, bne_iff_ne, decide_eq_true_iff]
  clear hn
  generalize decide (n / 4503599627370496 % 2048 ≠ 2047) = D at *
  generalize n / 4503599627370496 % 2048 = X at *
  go_enter Tryz.func7, Tryz.ntmps7
  go_wp2
  go_ret
  exact ⟨rfl, rfl⟩
theorem znegative_any (n : Int) (hn : 0 ≤ n ∧ n < 18446744073709551616) (w : World) : Calls Tryz.prog 9 #[.int .u64 n] w fun e w' => e = .returned (.bool (decide (9223372036854775808 ≤ n))) ∧ w' = w := by
  have hd : (n / 9223372036854775808 == 1) = decide (9223372036854775808 ≤ n) := by rw [Bool.eq_iff_iff, beq_iff_eq, decide_eq_true_iff]; omega
  clear hn
  generalize decide (9223372036854775808 ≤ n) = D at *
  go_enter Tryz.func9, Tryz.ntmps9
  go_wp2
  go_ret
  exact ⟨rfl, rfl⟩
set_option maxRecDepth 100000 in
set_option maxHeartbeats 1000000 in
theorem xmult_any (a b : Nat) (ha : a < top) (hb : b < top) (hab : a * b < top) (w : World) : Calls Tryz.prog 19 #[.string (txt a), .string (txt b)] w fun e w' => e = .returned (.tuple #[.string (txt (a * b)), .int .i64 0]) ∧ Below w.heap.size w w' := by
  have kR := xright_any
  have ra := rt_txt ha
  have rb := rt_txt hb
  have kM := mul_txt a b w ha hb
  have kS := xshort_any (a * b)
  rw [short_small hab] at kS
  have k1 := kR (txt a)
  have k2 := kR (txt b)
  rw [ra] at k1
  rw [rb] at k2
  clear ha hb hab ra rb kR
  generalize txt (a * b) = C at *
  generalize txt a = A at *
  generalize txt b = B at *
  dsimp only at kS
  go_enter Tryz.func19, Tryz.ntmps19
  go_wp2_with fail
  refine (k1 _).mono ?_
  rintro e w1 ⟨rfl, hw⟩
  obtain rfl : w = w1 := hw.symm
  go_wp2_with fail
  refine (k2 _).mono ?_
  rintro e w1 ⟨rfl, hw⟩
  obtain rfl : w = w1 := hw.symm
  go_wp2_with fail
  refine kM.mono ?_
  rintro e w2 ⟨rfl, d2⟩
  go_wp2_with fail
  refine (kS _).mono ?_
  rintro e w3 ⟨rfl, hw⟩
  obtain rfl : w2 = w3 := hw.symm
  go_wp2
  go_ret2
  exact ⟨rfl, d2⟩
/-- What stays the same while twos are taken away. -/
def Keeps (R : Nm × Int) (D : Bool) (u : Nat) (p : Int) : Prop := (0 ≤ p → R = makeA D (txt (u * 2 ^ p.toNat)) 0) ∧ (p < 0 → R = makeA D (txt (u * 5 ^ (-p).toNat)) p)
theorem keeps_top {u k : Nat} (hu : u < 9007199254740992) (hk : k ≤ 1074) : u * 5 ^ k < top ∧ 5 ^ k < top := by
  have h3 : ∀ N, 772 ≤ N → u * 5 ^ k < 10 ^ N ∧ 5 ^ k < 10 ^ N := fun N hN => by
    have h4 := five_top (m := 1) (k := k) (a := 108) (N := N) (by decide) (by omega) hN
    rw [Nat.one_mul] at h4
    exact ⟨five_top (a := 108) (by omega) (by omega) hN, h4⟩
  unfold top
  exact h3 800 (by decide)
theorem keeps_top2 {u k : Nat} (hu : u < 9007199254740992) (hk : k ≤ 971) : u * 2 ^ k < top ∧ 2 ^ k < top := by
  have h3 : ∀ N, 416 ≤ N → u * 2 ^ k < 10 ^ N ∧ 2 ^ k < 10 ^ N := fun N hN => by
    have h4 := two_top (m := 1) (k := k) (a := 100) (N := N) (by decide) (by omega) hN
    rw [Nat.one_mul] at h4
    exact ⟨two_top (a := 100) (by omega) (by omega) hN, h4⟩
  unfold top
  exact h3 800 (by decide)
theorem two_five (u k : Nat) : 2 * u * 5 ^ (k + 1) = u * 5 ^ k * 10 ^ 1 := by
  rw [Nat.pow_succ, Nat.mul_comm 2 u, Nat.mul_assoc, Nat.mul_assoc]
  congr 1
  omega
theorem keeps_step {R : Nm × Int} {D : Bool} {u : Nat} {p : Int} (h : Keeps R D (2 * u) p) (hu : 0 < u) (hu2 : 2 * u < 9007199254740992) (hp : -1074 ≤ p ∧ p < 0) : Keeps R D u (p + 1) := by
  obtain ⟨k, hk⟩ : ∃ k : Nat, p = -((k : Int) + 1) := ⟨(-p - 1).toNat, by omega⟩
  subst hk
  have h1 := h.2 hp.2
  have e : 2 * u * 5 ^ (-(-((k : Int) + 1))).toNat = u * 5 ^ k * 10 ^ 1 := by
    rw [show (-(-((k : Int) + 1))).toNat = k + 1 from by omega]
    exact two_five u k
  have ht := (keeps_top hu2 (k := k + 1) (by omega)).1
  rw [two_five u k] at ht
  rw [e, make_pad D ht _ (Nat.mul_pos hu (Nat.pow_pos (by decide)))] at h1
  constructor
  · intro h2
    have h0 : k = 0 := by omega
    subst h0
    exact h1
  · intro h2
    rw [show (-(-((k : Int) + 1) + 1)).toNat = k from by omega]
    exact h1
theorem keeps_zero {R : Nm × Int} {D : Bool} {p : Int} (h : Keeps R D 0 p) : R = makeA D (txt 0) 0 := by
  rw [make_zero]
  rcases Int.lt_or_le p 0 with h1 | h1
  · have h2 := h.2 h1
    rw [Nat.zero_mul, make_zero] at h2
    exact h2
  · have h2 := h.1 h1
    rw [Nat.zero_mul, make_zero] at h2
    exact h2
theorem keeps_start {D : Bool} {X G : Int} (hx : X ≠ 2047) : Keeps (exA D X G) D (sizM X G).toNat (sizP X) := by
  unfold exA
  rw [if_neg hx]
  constructor
  · intro h
    rw [if_neg (by omega)]; rfl
  · intro h
    rw [if_pos h]; rfl
end Go.Proofs.YtjdceigndleadaaGreatDoor
