/-
  A message's numbers, in the program.
-/
import Derived.Test.YtfipdldoklkciaaLka
import Derived.Lib.EndianBits
import Derived.Lib.Hide
import Derived.Lib.SliceRun
namespace Go.Proofs.Ytfipdldoklkciaa
open Go.RowKit
set_option linter.unusedVariables false
theorem w64 (n : Int) : wrap64 n = IntKind.i64.wrap n := by
  rw [IntKind.wrap_i64]
  unfold wrap64
  omega
theorem from_any (a n b : Int) (w : World) : Calls Try.prog 76 #[.int .i64 a, .int .i64 n, .int .i64 b] w fun e w' => e = .returned (.bool (fromB a n b)) ∧ w' = w := by
  by_cases h0 : a ≤ n
  · have d0 : decide (a ≤ n) = true := by simpa using h0
    by_cases h1 : n ≤ b
    · have d1 : decide (n ≤ b) = true := by simpa using h1
      have e : fromB a n b = true := by simp [fromB, h0, h1]
      rw [e]
      clear h0 h1 e
      go_enter Try.func76, Try.ntmps76
      go_wp2
      go_ret
      all_goals simp_all
    · have d1 : decide (n ≤ b) = false := by simpa using h1
      have e : fromB a n b = false := by simp [fromB]; omega
      rw [e]
      clear h0 h1 e
      go_enter Try.func76, Try.ntmps76
      go_wp2
      go_ret
      all_goals simp_all
  · have d0 : decide (a ≤ n) = false := by simpa using h0
    have e : fromB a n b = false := by simp [fromB]; omega
    rw [e]
    clear h0 e
    go_enter Try.func76, Try.ntmps76
    go_wp2
    go_ret
    all_goals simp_all
def mval (m : Mg) (a : Option Addr) (n c : Nat) : Value := .agg #[.int .i64 m.kind, .int .u64 m.tok, .int .i64 m.ep, .int .i64 m.seq, .int .i64 m.ack, .int .u64 m.bits, .int .i64 m.cred, .int .i64 m.fmt, .slice a n c]
set_option maxRecDepth 100000 in
theorem may_raw (kd tk ep sq ak bt cr fm : Int) (a : Option Addr) (n c : Nat) (w : World) :
    Calls Try.prog 35 #[.agg #[.int .i64 kd, .int .u64 tk, .int .i64 ep, .int .i64 sq, .int .i64 ak, .int .u64 bt, .int .i64 cr, .int .i64 fm, .slice a n c]] w fun e w' => e = .returned (.bool (fromB 1 kd 7 && fromB 0 fm 2 && fromB 0 ep 4611686018427387904 && fromB 0 sq 4611686018427387904 && fromB 0 ak 4611686018427387904 && fromB 0 cr 4611686018427387904)) ∧ Below w.heap.size w w' := by
  have k0 := fun x => from_any 1 kd 7 x
  have k1 := fun x => from_any 0 fm 2 x
  have k2 := fun x => from_any 0 ep 4611686018427387904 x
  have k3 := fun x => from_any 0 sq 4611686018427387904 x
  have k4 := fun x => from_any 0 ak 4611686018427387904 x
  have k5 := fun x => from_any 0 cr 4611686018427387904 x
  cases h0 : fromB 1 kd 7 with
  | false =>
    rw [h0] at k0
    go_enter Try.func35, Try.ntmps35
    go_wp2_with (first | (go_at_call 76; refine (k0 _).mono ?_; rintro e w1 ⟨rfl, hw1⟩; obtain rfl := hw1.symm; clear hw1 k0) | (go_at_call 76; refine (k1 _).mono ?_; rintro e w1 ⟨rfl, hw1⟩; obtain rfl := hw1.symm; clear hw1 k1) | (go_at_call 76; refine (k2 _).mono ?_; rintro e w1 ⟨rfl, hw1⟩; obtain rfl := hw1.symm; clear hw1 k2) | (go_at_call 76; refine (k3 _).mono ?_; rintro e w1 ⟨rfl, hw1⟩; obtain rfl := hw1.symm; clear hw1 k3) | (go_at_call 76; refine (k4 _).mono ?_; rintro e w1 ⟨rfl, hw1⟩; obtain rfl := hw1.symm; clear hw1 k4) | (go_at_call 76; refine (k5 _).mono ?_; rintro e w1 ⟨rfl, hw1⟩; obtain rfl := hw1.symm; clear hw1 k5))
    go_ret
    exact ⟨rfl, (Below.refl w.heap.size w).alloc (Nat.le_refl _) _⟩
  | true =>
    rw [h0] at k0
    cases h1 : fromB 0 fm 2 with
    | false =>
      rw [h1] at k1
      go_enter Try.func35, Try.ntmps35
      go_wp2_with (first | (go_at_call 76; refine (k0 _).mono ?_; rintro e w1 ⟨rfl, hw1⟩; obtain rfl := hw1.symm; clear hw1 k0) | (go_at_call 76; refine (k1 _).mono ?_; rintro e w1 ⟨rfl, hw1⟩; obtain rfl := hw1.symm; clear hw1 k1) | (go_at_call 76; refine (k2 _).mono ?_; rintro e w1 ⟨rfl, hw1⟩; obtain rfl := hw1.symm; clear hw1 k2) | (go_at_call 76; refine (k3 _).mono ?_; rintro e w1 ⟨rfl, hw1⟩; obtain rfl := hw1.symm; clear hw1 k3) | (go_at_call 76; refine (k4 _).mono ?_; rintro e w1 ⟨rfl, hw1⟩; obtain rfl := hw1.symm; clear hw1 k4) | (go_at_call 76; refine (k5 _).mono ?_; rintro e w1 ⟨rfl, hw1⟩; obtain rfl := hw1.symm; clear hw1 k5))
      go_ret
      exact ⟨rfl, (Below.refl w.heap.size w).alloc (Nat.le_refl _) _⟩
    | true =>
      rw [h1] at k1
      cases h2 : fromB 0 ep 4611686018427387904 with
      | false =>
        rw [h2] at k2
        go_enter Try.func35, Try.ntmps35
        go_wp2_with (first | (go_at_call 76; refine (k0 _).mono ?_; rintro e w1 ⟨rfl, hw1⟩; obtain rfl := hw1.symm; clear hw1 k0) | (go_at_call 76; refine (k1 _).mono ?_; rintro e w1 ⟨rfl, hw1⟩; obtain rfl := hw1.symm; clear hw1 k1) | (go_at_call 76; refine (k2 _).mono ?_; rintro e w1 ⟨rfl, hw1⟩; obtain rfl := hw1.symm; clear hw1 k2) | (go_at_call 76; refine (k3 _).mono ?_; rintro e w1 ⟨rfl, hw1⟩; obtain rfl := hw1.symm; clear hw1 k3) | (go_at_call 76; refine (k4 _).mono ?_; rintro e w1 ⟨rfl, hw1⟩; obtain rfl := hw1.symm; clear hw1 k4) | (go_at_call 76; refine (k5 _).mono ?_; rintro e w1 ⟨rfl, hw1⟩; obtain rfl := hw1.symm; clear hw1 k5))
        go_ret
        exact ⟨rfl, (Below.refl w.heap.size w).alloc (Nat.le_refl _) _⟩
      | true =>
        rw [h2] at k2
        cases h3 : fromB 0 sq 4611686018427387904 with
        | false =>
          rw [h3] at k3
          go_enter Try.func35, Try.ntmps35
          go_wp2_with (first | (go_at_call 76; refine (k0 _).mono ?_; rintro e w1 ⟨rfl, hw1⟩; obtain rfl := hw1.symm; clear hw1 k0) | (go_at_call 76; refine (k1 _).mono ?_; rintro e w1 ⟨rfl, hw1⟩; obtain rfl := hw1.symm; clear hw1 k1) | (go_at_call 76; refine (k2 _).mono ?_; rintro e w1 ⟨rfl, hw1⟩; obtain rfl := hw1.symm; clear hw1 k2) | (go_at_call 76; refine (k3 _).mono ?_; rintro e w1 ⟨rfl, hw1⟩; obtain rfl := hw1.symm; clear hw1 k3) | (go_at_call 76; refine (k4 _).mono ?_; rintro e w1 ⟨rfl, hw1⟩; obtain rfl := hw1.symm; clear hw1 k4) | (go_at_call 76; refine (k5 _).mono ?_; rintro e w1 ⟨rfl, hw1⟩; obtain rfl := hw1.symm; clear hw1 k5))
          go_ret
          exact ⟨rfl, (Below.refl w.heap.size w).alloc (Nat.le_refl _) _⟩
        | true =>
          rw [h3] at k3
          cases h4 : fromB 0 ak 4611686018427387904 with
          | false =>
            rw [h4] at k4
            go_enter Try.func35, Try.ntmps35
            go_wp2_with (first | (go_at_call 76; refine (k0 _).mono ?_; rintro e w1 ⟨rfl, hw1⟩; obtain rfl := hw1.symm; clear hw1 k0) | (go_at_call 76; refine (k1 _).mono ?_; rintro e w1 ⟨rfl, hw1⟩; obtain rfl := hw1.symm; clear hw1 k1) | (go_at_call 76; refine (k2 _).mono ?_; rintro e w1 ⟨rfl, hw1⟩; obtain rfl := hw1.symm; clear hw1 k2) | (go_at_call 76; refine (k3 _).mono ?_; rintro e w1 ⟨rfl, hw1⟩; obtain rfl := hw1.symm; clear hw1 k3) | (go_at_call 76; refine (k4 _).mono ?_; rintro e w1 ⟨rfl, hw1⟩; obtain rfl := hw1.symm; clear hw1 k4) | (go_at_call 76; refine (k5 _).mono ?_; rintro e w1 ⟨rfl, hw1⟩; obtain rfl := hw1.symm; clear hw1 k5))
            go_ret
            exact ⟨rfl, (Below.refl w.heap.size w).alloc (Nat.le_refl _) _⟩
          | true =>
            rw [h4] at k4
            cases h5 : fromB 0 cr 4611686018427387904 with
            | false =>
              rw [h5] at k5
              go_enter Try.func35, Try.ntmps35
              go_wp2_with (first | (go_at_call 76; refine (k0 _).mono ?_; rintro e w1 ⟨rfl, hw1⟩; obtain rfl := hw1.symm; clear hw1 k0) | (go_at_call 76; refine (k1 _).mono ?_; rintro e w1 ⟨rfl, hw1⟩; obtain rfl := hw1.symm; clear hw1 k1) | (go_at_call 76; refine (k2 _).mono ?_; rintro e w1 ⟨rfl, hw1⟩; obtain rfl := hw1.symm; clear hw1 k2) | (go_at_call 76; refine (k3 _).mono ?_; rintro e w1 ⟨rfl, hw1⟩; obtain rfl := hw1.symm; clear hw1 k3) | (go_at_call 76; refine (k4 _).mono ?_; rintro e w1 ⟨rfl, hw1⟩; obtain rfl := hw1.symm; clear hw1 k4) | (go_at_call 76; refine (k5 _).mono ?_; rintro e w1 ⟨rfl, hw1⟩; obtain rfl := hw1.symm; clear hw1 k5))
              go_ret
              exact ⟨rfl, (Below.refl w.heap.size w).alloc (Nat.le_refl _) _⟩
            | true =>
              rw [h5] at k5
              go_enter Try.func35, Try.ntmps35
              go_wp2_with (first | (go_at_call 76; refine (k0 _).mono ?_; rintro e w1 ⟨rfl, hw1⟩; obtain rfl := hw1.symm; clear hw1 k0) | (go_at_call 76; refine (k1 _).mono ?_; rintro e w1 ⟨rfl, hw1⟩; obtain rfl := hw1.symm; clear hw1 k1) | (go_at_call 76; refine (k2 _).mono ?_; rintro e w1 ⟨rfl, hw1⟩; obtain rfl := hw1.symm; clear hw1 k2) | (go_at_call 76; refine (k3 _).mono ?_; rintro e w1 ⟨rfl, hw1⟩; obtain rfl := hw1.symm; clear hw1 k3) | (go_at_call 76; refine (k4 _).mono ?_; rintro e w1 ⟨rfl, hw1⟩; obtain rfl := hw1.symm; clear hw1 k4) | (go_at_call 76; refine (k5 _).mono ?_; rintro e w1 ⟨rfl, hw1⟩; obtain rfl := hw1.symm; clear hw1 k5))
              go_ret
              exact ⟨rfl, (Below.refl w.heap.size w).alloc (Nat.le_refl _) _⟩
theorem may_m (m : Mg) (a : Option Addr) (n c : Nat) (w : World) : Calls Try.prog 35 #[mval m a n c] w fun e w' => e = .returned (.bool (mayM m)) ∧ Below w.heap.size w w' := may_raw _ _ _ _ _ _ _ _ a n c w
theorem nums_raw (kd tk ep sq ak bt cr fm : Int) (a : Option Addr) (n c : Nat) (w : World) (h0 : 0 ≤ kd ∧ kd < 18446744073709551616) (h2 : 0 ≤ ep ∧ ep < 18446744073709551616) (h3 : 0 ≤ sq ∧ sq < 18446744073709551616) (h4 : 0 ≤ ak ∧ ak < 18446744073709551616) (h6 : 0 ≤ cr ∧ cr < 18446744073709551616) (h7 : 0 ≤ fm ∧ fm < 18446744073709551616) :
    Calls Try.prog 36 #[.agg #[.int .i64 kd, .int .u64 tk, .int .i64 ep, .int .i64 sq, .int .i64 ak, .int .u64 bt, .int .i64 cr, .int .i64 fm, .slice a n c]] w fun e w' => e = .returned (.agg #[.int .u64 kd, .int .u64 tk, .int .u64 ep, .int .u64 sq, .int .u64 ak, .int .u64 bt, .int .u64 cr, .int .u64 fm]) ∧ Below w.heap.size w w' := by
  have e64 : (2 : Int) ^ 64 = 18446744073709551616 := by decide
  have g0 : IntKind.u64.wrap kd = kd := wraps_u64 _ h0.1 (by omega)
  have g2 : IntKind.u64.wrap ep = ep := wraps_u64 _ h2.1 (by omega)
  have g3 : IntKind.u64.wrap sq = sq := wraps_u64 _ h3.1 (by omega)
  have g4 : IntKind.u64.wrap ak = ak := wraps_u64 _ h4.1 (by omega)
  have g6 : IntKind.u64.wrap cr = cr := wraps_u64 _ h6.1 (by omega)
  have g7 : IntKind.u64.wrap fm = fm := wraps_u64 _ h7.1 (by omega)
  clear h0 h2 h3 h4 h6 h7 e64
  go_enter Try.func36, Try.ntmps36
  go_wp2
  refine bodyPost_ret (v := .agg #[.int .u64 kd, .int .u64 tk, .int .u64 ep, .int .u64 sq, .int .u64 ak, .int .u64 bt, .int .u64 cr, .int .u64 fm]) (by simp [results, Try.results36, go_sem]) rfl ⟨rfl, ?_⟩
  repeat (refine Below.setCell ?_ (by first | exact Nat.le_refl _ | simp) _)
  exact ((Below.refl w.heap.size w).alloc (Nat.le_refl _) _).alloc (by simp) _
theorem msgof_raw (n0 n1 n2 n3 n4 n5 n6 n7 : Int) (a : Option Addr) (n c : Nat) (w : World) :
    Calls Try.prog 45 #[.agg #[.int .u64 n0, .int .u64 n1, .int .u64 n2, .int .u64 n3, .int .u64 n4, .int .u64 n5, .int .u64 n6, .int .u64 n7], .slice a n c] w fun e w' => e = .returned (.agg #[.int .i64 (IntKind.i64.wrap n0), .int .u64 n1, .int .i64 (IntKind.i64.wrap n2), .int .i64 (IntKind.i64.wrap n3), .int .i64 (IntKind.i64.wrap n4), .int .u64 n5, .int .i64 (IntKind.i64.wrap n6), .int .i64 (IntKind.i64.wrap n7), .slice a n c]) ∧ Below w.heap.size w w' := by
  go_enter Try.func45, Try.ntmps45
  go_wp2
  refine bodyPost_ret (v := .agg #[.int .i64 (IntKind.i64.wrap n0), .int .u64 n1, .int .i64 (IntKind.i64.wrap n2), .int .i64 (IntKind.i64.wrap n3), .int .i64 (IntKind.i64.wrap n4), .int .u64 n5, .int .i64 (IntKind.i64.wrap n6), .int .i64 (IntKind.i64.wrap n7), .slice a n c]) (by simp [results, Try.results45, go_sem, w64]) rfl ⟨rfl, ?_⟩
  repeat (refine Below.setCell ?_ (by first | exact Nat.le_refl _ | simp) _)
  exact ((Below.refl w.heap.size w).alloc (Nat.le_refl _) _).alloc (by simp) _
end Go.Proofs.Ytfipdldoklkciaa
