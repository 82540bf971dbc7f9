/-
  What a sender tells of itself; what may come.
-/
import Derived.Test.YtfipdldoklkciaaSdb
namespace Go.Proofs.Ytfipdldoklkciaa
open Go.RowKit
set_option linter.unusedVariables false
theorem last_any {B sb mb : Nat} {s : St} {w : World} (h : Sd w B sb mb s) : Calls Try.prog 103 #[.pointer (some ⟨sb, 0, none⟩)] w fun e w' => e = .returned (.int .i64 (s.nxt - 1)) ∧ w' = w := by
  have c4 := h.c4
  have hw : IntKind.i64.wrap (s.nxt - 1) = s.nxt - 1 := by
    have := h.ok.b1; have := h.ok.b2; have := h.ok.l1; have := h.ok.l2
    rw [IntKind.wrap_i64]; omega
  clear h
  go_enter Try.func103, Try.ntmps103
  go_wp2
  go_ret
  all_goals simp_all
def mayB (s : St) (ack credit : Int) : Bool := decide (0 ≤ ack) && decide (ack ≤ s.nxt - 1) && decide (0 ≤ credit) && decide (credit ≤ 4611686018427387904)
theorem may_any {B sb mb : Nat} {s : St} {w : World} (ack credit : Int) (h : Sd w B sb mb s) : Calls Try.prog 90 #[.pointer (some ⟨sb, 0, none⟩), .int .i64 ack, .int .i64 credit] w fun e w' => e = .returned (.bool (mayB s ack credit)) ∧ w' = w := by
  have k1 := last_any h
  clear h
  by_cases h0 : 0 ≤ ack
  · have d0 : decide (ack ≥ 0) = true := by simp; omega
    by_cases h1 : ack ≤ s.nxt - 1
    · have d1 : decide (ack ≤ s.nxt - 1) = true := by simp; omega
      by_cases h2 : 0 ≤ credit
      · have d2 : decide (credit ≥ 0) = true := by simp; omega
        by_cases h3 : credit ≤ 4611686018427387904
        · have d3 : decide (credit ≤ 4611686018427387904) = true := by simp; omega
          have e : mayB s ack credit = true := by simp [mayB]; omega
          rw [e]
          clear h0 h1 h2 h3 e
          go_enter Try.func90, Try.ntmps90
          go_wp2_with (go_at_call 103; refine k1.mono ?_; rintro e w1 ⟨rfl, hw1⟩; obtain rfl := hw1.symm)
          go_ret
          all_goals simp_all
        · have d3 : decide (credit ≤ 4611686018427387904) = false := by simp; omega
          have e : mayB s ack credit = false := by simp [mayB]; omega
          rw [e]
          clear h0 h1 h2 h3 e
          go_enter Try.func90, Try.ntmps90
          go_wp2_with (go_at_call 103; refine k1.mono ?_; rintro e w1 ⟨rfl, hw1⟩; obtain rfl := hw1.symm)
          go_ret
          all_goals simp_all
      · have d2 : decide (credit ≥ 0) = false := by simp; omega
        have e : mayB s ack credit = false := by simp [mayB]; omega
        rw [e]
        clear h0 h1 h2 e
        go_enter Try.func90, Try.ntmps90
        go_wp2_with (go_at_call 103; refine k1.mono ?_; rintro e w1 ⟨rfl, hw1⟩; obtain rfl := hw1.symm)
        go_ret
        all_goals simp_all
    · have d1 : decide (ack ≤ s.nxt - 1) = false := by simp; omega
      have e : mayB s ack credit = false := by simp [mayB]; omega
      rw [e]
      clear h0 h1 e
      go_enter Try.func90, Try.ntmps90
      go_wp2_with (go_at_call 103; refine k1.mono ?_; rintro e w1 ⟨rfl, hw1⟩; obtain rfl := hw1.symm)
      go_ret
      all_goals simp_all
  · have d0 : decide (ack ≥ 0) = false := by simp; omega
    have e : mayB s ack credit = false := by simp [mayB]; omega
    rw [e]
    clear h0 e
    go_enter Try.func90, Try.ntmps90
    go_wp2_with (go_at_call 103; refine k1.mono ?_; rintro e w1 ⟨rfl, hw1⟩; obtain rfl := hw1.symm)
    go_ret
    all_goals simp_all
theorem next_any {B sb mb : Nat} {s : St} {w : World} (h : Sd w B sb mb s) : Calls Try.prog 59 #[.pointer (some ⟨sb, 0, none⟩)] w fun e w' => e = .returned (.int .i64 s.nxt) ∧ w' = w := by
  have k1 := made_yes sb w h.c0
  have c := h.c4
  clear h
  go_enter Try.func59, Try.ntmps59
  go_wp2_with (go_at_call 89; refine k1.mono ?_; rintro e w1 ⟨rfl, hw1⟩; obtain rfl := hw1.symm)
  go_ret
  all_goals simp_all
theorem next_nil (w : World) : Calls Try.prog 59 #[.pointer none] w fun e w' => e = .returned (.int .i64 0) ∧ w' = w := by
  have k1 := made_nil w
  go_enter Try.func59, Try.ntmps59
  go_wp2_with (go_at_call 89; refine k1.mono ?_; rintro e w1 ⟨rfl, hw1⟩; obtain rfl := hw1.symm)
  go_ret
  all_goals simp_all
theorem next_no (sb : Nat) (w : World) (h : w.cell? ⟨sb, 0, none⟩ = some (.bool false)) : Calls Try.prog 59 #[.pointer (some ⟨sb, 0, none⟩)] w fun e w' => e = .returned (.int .i64 0) ∧ w' = w := by
  have k1 := made_no sb w h
  go_enter Try.func59, Try.ntmps59
  go_wp2_with (go_at_call 89; refine k1.mono ?_; rintro e w1 ⟨rfl, hw1⟩; obtain rfl := hw1.symm)
  go_ret
  all_goals simp_all
theorem outF_any (a : Option Addr) (n c : Nat) (now : Int) (w : World) : Calls Try.prog 96 #[.int .i64 now, .slice a n c] w fun e w' => e = .returned (.agg #[.slice a n c, .int .i64 now, .int .i64 1, .bool false]) ∧ Below w.heap.size w w' := by
  go_enter Try.func96, Try.ntmps96
  go_wp2
  refine bodyPost_ret (v := .agg #[.slice a n c, .int .i64 now, .int .i64 1, .bool false]) (by simp [results, Try.results96, go_sem]) rfl ⟨rfl, ?_⟩
  repeat (refine Below.setCell ?_ (by first | exact Nat.le_refl _ | simp) _)
  exact (Below.refl w.heap.size w).alloc (Nat.le_refl _) _
end Go.Proofs.Ytfipdldoklkciaa
