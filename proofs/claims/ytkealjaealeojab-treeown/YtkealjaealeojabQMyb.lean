/-
  Whether a node's number is right, whether its Kind may have such numbers and counts: tree.isInt, isDec, mayBe.
-/
import Derived.Test.YtkealjaealeojabQRst
import Derived.Test.YtkealjaealeojabQGe
import Derived.Test.YtkealjaealeojabQSmt
namespace Go.Proofs.Ytkealjaealeojab
open Go.RowKit
set_option linter.unusedVariables false

set_option maxHeartbeats 4000000 in
theorem maybe_any (b : Nb) (w : World) (hlen : b.lk ≤ b.ck ∧ b.ck ≤ maxLen ∧ b.li ≤ b.ci ∧ b.ci ≤ maxLen) : Calls Try.prog 37 #[.agg b.arr] w fun e w' => e = .returned (.bool (mayB b)) ∧ Below w.heap.size w w' := by
  have hal := alloc_below w (.cells b.arr 26)
  have hB : Hid (Below w.heap.size w (w.alloc (.cells b.arr 26))) := hal
  obtain ⟨a0, a1, a2, a3, a4, a5, a6, a7, a8⟩ := (nbox_new w b).fields
  unfold maxLen at hlen
  obtain ⟨l0, l1, l2, l3⟩ := hlen
  clear hal
  by_cases h1 : b.kind = 1
  · rw [show mayB b = decide (b.num ≤ 1) from by unfold mayB; rw [if_pos h1]]
    go_enter Try.func37, Try.ntmps37
    go_wp2
    go_ret
    exact ⟨rfl, hB.out⟩
  by_cases h8 : b.kind = 8
  · rw [show mayB b = decide (b.lk = b.li) from by unfold mayB; rw [if_neg h1, if_pos h8]]
    clear h1
    by_cases hq : b.lk = b.li
    · rw [decide_eq_true hq]
      have hq' : (b.lk : Int) = (b.li : Int) := by omega
      clear hq
      go_enter Try.func37, Try.ntmps37
      go_wp2
      go_ret
      exact ⟨rfl, hB.out⟩
    · rw [decide_eq_false hq]
      have hq' : ((b.lk : Int) == (b.li : Int)) = false := by simp; omega
      clear hq
      go_enter Try.func37, Try.ntmps37
      go_wp2
      go_ret
      exact ⟨rfl, hB.out⟩
  by_cases h9 : b.kind = 9
  · rw [show mayB b = decide (b.li = 1) from by unfold mayB; rw [if_neg h1, if_neg h8, if_pos h9]]
    clear h1 h8
    by_cases hq : b.li = 1
    · rw [decide_eq_true hq]
      have hq' : ((b.li : Int) == 1) = true := by simp; omega
      clear hq
      go_enter Try.func37, Try.ntmps37
      go_wp2
      go_ret
      exact ⟨rfl, hB.out⟩
    · rw [decide_eq_false hq]
      have hq' : ((b.li : Int) == 1) = false := by simp; omega
      clear hq
      go_enter Try.func37, Try.ntmps37
      go_wp2
      go_ret
      exact ⟨rfl, hB.out⟩
  by_cases h10 : b.kind = 10
  · rw [show mayB b = (decide (b.num ≤ 19) || (decide (b.num = 23) || (decide (32 ≤ b.num) && decide (b.num ≤ 255)))) from by unfold mayB; rw [if_neg h1, if_neg h8, if_neg h9, if_pos h10]]
    clear h1 h8 h9
    by_cases q1 : b.num ≤ 19
    · have q1' : decide (b.num ≤ 19) = true := decide_eq_true q1
      rw [q1', Bool.true_or]
      clear q1
      go_enter Try.func37, Try.ntmps37
      go_wp2
      go_ret
      exact ⟨rfl, hB.out⟩
    · have q1' : decide (b.num ≤ 19) = false := decide_eq_false q1
      rw [q1', Bool.false_or]
      clear q1
      by_cases q2 : b.num = 23
      · have q2' : (b.num == 23) = true := by simp [q2]
        rw [decide_eq_true q2, Bool.true_or]
        clear q2
        go_enter Try.func37, Try.ntmps37
        go_wp2
        go_ret
        exact ⟨rfl, hB.out⟩
      · have q2' : (b.num == 23) = false := by simp [q2]
        rw [decide_eq_false q2, Bool.false_or]
        clear q2
        by_cases q3 : 32 ≤ b.num
        · have q3' : decide (32 ≤ b.num) = true := decide_eq_true q3
          rw [q3', Bool.true_and]
          clear q3
          go_enter Try.func37, Try.ntmps37
          go_wp2
          go_ret
          exact ⟨rfl, hB.out⟩
        · have q3' : decide (32 ≤ b.num) = false := decide_eq_false q3
          rw [q3', Bool.false_and]
          clear q3
          go_enter Try.func37, Try.ntmps37
          go_wp2
          go_ret
          exact ⟨rfl, hB.out⟩
  rw [show mayB b = (decide (0 ≤ b.kind) && decide (b.kind ≤ 10)) from by unfold mayB; rw [if_neg h1, if_neg h8, if_neg h9, if_neg h10]]
  have g1 : (b.kind == 1) = false := by simp [h1]
  have g8 : (b.kind == 8) = false := by simp [h8]
  have g9 : (b.kind == 9) = false := by simp [h9]
  have g10 : (b.kind == 10) = false := by simp [h10]
  clear h1 h8 h9 h10
  by_cases q1 : 0 ≤ b.kind
  · have q1' : decide (0 ≤ b.kind) = true := decide_eq_true q1
    rw [q1', Bool.true_and]
    clear q1
    go_enter Try.func37, Try.ntmps37
    go_wp2
    go_ret
    exact ⟨rfl, hB.out⟩
  · have q1' : decide (0 ≤ b.kind) = false := decide_eq_false q1
    rw [q1', Bool.false_and]
    clear q1
    go_enter Try.func37, Try.ntmps37
    go_wp2
    go_ret
    exact ⟨rfl, hB.out⟩

set_option maxHeartbeats 2000000 in
theorem isint_any (b : Nb) (w : World) (v : Bool) (hv : v = true ↔ rt b.dig = true ∧ ¬ (b.neg = true ∧ b.dig = ⟨#[48]⟩)) : Calls Try.prog 35 #[.agg b.arr] w fun e w' => e = .returned (.bool v) ∧ Below w.heap.size w w' := by
  have hal := alloc_below w (.cells b.arr 26)
  have hB : Hid (Below w.heap.size w (w.alloc (.cells b.arr 26))) := hal
  obtain ⟨a0, a1, a2, a3, a4, a5, a6, a7, a8⟩ := (nbox_new w b).fields
  have kR := right_any b.dig (w.alloc (.cells b.arr 26))
  clear hal
  have hz : ∀ v' : Bool, (v' = true ↔ b.dig = ⟨#[48]⟩) → (b.dig.toList == [48]) = v' := fun v' h => by
    rw [eq_size, Bool.eq_iff_iff, h, decide_eq_true_iff]; exact Iff.rfl
  cases hr : rt b.dig with
  | false =>
    have hvf : v = false := not_true hv (fun h => by rw [hr] at h; exact absurd h.1 (by simp))
    subst hvf
    rw [hr] at kR
    clear hr hv hz
    go_enter Try.func35, Try.ntmps35
    go_wp2_with (go_at_call 47; refine kR.mono ?_; rintro e w1 ⟨rfl, hw⟩; subst hw)
    go_ret
    exact ⟨rfl, hB.out⟩
  | true =>
    rw [hr] at kR
    cases hn : b.neg with
    | false =>
      rw [hn] at a2
      have hvf : v = true := hv.2 ⟨hr, fun h => by rw [hn] at h; exact absurd h.1 (by simp)⟩
      subst hvf
      clear hr hv hz hn
      go_enter Try.func35, Try.ntmps35
      go_wp2_with (go_at_call 47; refine kR.mono ?_; rintro e w1 ⟨rfl, hw⟩; subst hw)
      go_ret
      exact ⟨rfl, hB.out⟩
    | true =>
      rw [hn] at a2
      by_cases hq : b.dig = ⟨#[48]⟩
      · have hd := hz true (by simp [hq])
        have hvf : v = false := not_true hv (fun h => h.2 ⟨hn, hq⟩)
        subst hvf
        clear hr hv hz hn hq
        go_enter Try.func35, Try.ntmps35
        go_wp2_with (go_at_call 47; refine kR.mono ?_; rintro e w1 ⟨rfl, hw⟩; subst hw)
        go_ret
        exact ⟨rfl, hB.out⟩
      · have hd := hz false (by simp [hq])
        have hvf : v = true := hv.2 ⟨hr, fun h => hq h.2⟩
        subst hvf
        clear hr hv hz hn hq
        go_enter Try.func35, Try.ntmps35
        go_wp2_with (go_at_call 47; refine kR.mono ?_; rintro e w1 ⟨rfl, hw⟩; subst hw)
        go_ret
        exact ⟨rfl, hB.out⟩

/-- Is a number right, and not whole? -/
def rdN (n : Bool) (s : ByteArray) (x : Int) : Bool := rtN n s x && !(wholeA n s x).2
set_option maxHeartbeats 2000000 in
theorem isdec_any (b : Nb) (w : World) : Calls Try.prog 36 #[.agg b.arr] w fun e w' => e = .returned (.bool (rdN b.neg b.dig b.exp)) ∧ Below w.heap.size w w' := by
  have hal := alloc_below w (.cells b.arr 26)
  have hal2 := alloc_below (w.alloc (.cells b.arr 26)) (.cells #[.bool b.neg, .string b.dig, .int .i64 b.exp] 65)
  have hB : Hid (Below w.heap.size w ((w.alloc (.cells b.arr 26)).alloc (.cells #[.bool b.neg, .string b.dig, .int .i64 b.exp] 65))) := hal.trans (hal2.mono (Nat.le_of_lt (alloc_lt _ _)))
  obtain ⟨a0, a1, a2, a3, a4, a5, a6, a7, a8⟩ := (nbox_new w b).fields
  have s1 : (w.alloc (.cells b.arr 26)).heap.size = w.heap.size + 1 := by simp
  have hN := row_new (w.alloc (.cells b.arr 26)) b.neg b.dig b.exp
  rw [s1] at hN
  have hN' : Hid (NRow ((w.alloc (.cells b.arr 26)).alloc (.cells #[.bool b.neg, .string b.dig, .int .i64 b.exp] 65)) (w.heap.size + 1) b.neg b.dig b.exp) := hN
  obtain ⟨n0, n1, n2⟩ := hN.at
  have kW := whole_any b.neg b.dig b.exp ((w.alloc (.cells b.arr 26)).alloc (.cells #[.bool b.neg, .string b.dig, .int .i64 b.exp] 65))
  have kR := dright_any b.neg b.dig b.exp
  unfold rdN
  generalize (wholeA b.neg b.dig b.exp).1 = S at *
  generalize (wholeA b.neg b.dig b.exp).2 = V at *
  clear hal hal2 s1 hN
  cases hr : rtN b.neg b.dig b.exp with
  | false =>
    rw [hr] at kR
    rw [Bool.false_and]
    clear hr
    go_enter Try.func36, Try.ntmps36
    go_wp2_with (first
      | (go_at_call 48; refine kW.mono ?_; rintro e w1 ⟨rfl, hb1⟩; have hN1 := hN'.out.kept hb1; obtain ⟨m0, m1, m2⟩ := hN1.at; have hbw := hB.out.trans (hb1.mono hB.out.size))
      | (go_at_call 49; refine (kR _).mono ?_; rintro e w2 ⟨rfl, hb2⟩))
    go_ret
    exact ⟨rfl, hbw.trans (hb2.mono hbw.size)⟩
  | true =>
    rw [hr] at kR
    rw [Bool.true_and]
    clear hr
    cases V with
    | false =>
      go_enter Try.func36, Try.ntmps36
      go_wp2_with (first
        | (go_at_call 48; refine kW.mono ?_; rintro e w1 ⟨rfl, hb1⟩; have hN1 := hN'.out.kept hb1; obtain ⟨m0, m1, m2⟩ := hN1.at; have hbw := hB.out.trans (hb1.mono hB.out.size))
        | (go_at_call 49; refine (kR _).mono ?_; rintro e w2 ⟨rfl, hb2⟩))
      go_ret
      exact ⟨rfl, hbw.trans (hb2.mono hbw.size)⟩
    | true =>
      go_enter Try.func36, Try.ntmps36
      go_wp2_with (first
        | (go_at_call 48; refine kW.mono ?_; rintro e w1 ⟨rfl, hb1⟩; have hN1 := hN'.out.kept hb1; obtain ⟨m0, m1, m2⟩ := hN1.at; have hbw := hB.out.trans (hb1.mono hB.out.size))
        | (go_at_call 49; refine (kR _).mono ?_; rintro e w2 ⟨rfl, hb2⟩))
      go_ret
      exact ⟨rfl, hbw.trans (hb2.mono hbw.size)⟩
end Go.Proofs.Ytkealjaealeojab
