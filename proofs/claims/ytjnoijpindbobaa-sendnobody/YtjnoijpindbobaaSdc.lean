/-
  What a sender tells of itself; what may come.
-/
import Derived.Test.YtjnoijpindbobaaSdb
namespace Go.Proofs.Ytjnoijpindbobaa
open Go.RowKit
set_option linter.unusedVariables false
theorem last_any {B sb mb : Nat} {s : St} {w : World} (h : Sd w B sb mb s) : Calls Try.prog 27 #[.pointer (some ⟨sb, 0, none⟩)] w fun e w' => e = .returned (.int .i64 (s.nxt - 1)) ∧ w' = w := by
  have c4 := h.c4
  have hw : IntKind.i64.wrap (s.nxt - 1) = s.nxt - 1 := by
    have := h.ok.b1; have := h.ok.b2; have := h.ok.l1; have := h.ok.l2
    rw [IntKind.wrap_i64]; omega
  clear h
  go_enter Try.func27, Try.ntmps27
  go_wp2
  go_ret
  all_goals simp_all
def mayB (s : St) (ack credit : Int) : Bool := decide (0 ≤ ack) && decide (ack ≤ s.nxt - 1) && decide (0 ≤ credit) && decide (credit ≤ 4611686018427387904)
theorem may_any {B sb mb : Nat} {s : St} {w : World} (ack credit : Int) (h : Sd w B sb mb s) : Calls Try.prog 24 #[.pointer (some ⟨sb, 0, none⟩), .int .i64 ack, .int .i64 credit] w fun e w' => e = .returned (.bool (mayB s ack credit)) ∧ w' = w := by
  have k1 := last_any h
  clear h
  by_cases h0 : 0 ≤ ack
  · have d0 : decide (ack ≥ 0) = true := by simp; omega
    by_cases h1 : ack ≤ s.nxt - 1
    · have d1 : decide (ack ≤ s.nxt - 1) = true := by simp; omega
      by_cases h2 : 0 ≤ credit
      · have d2 : decide (credit ≥ 0) = true := by simp; omega
        by_cases h3 : credit ≤ 4611686018427387904
        · have d3 : decide (credit ≤ 4611686018427387904) = true := by simp; omega
          have e : mayB s ack credit = true := by simp [mayB]; omega
          rw [e]
          clear h0 h1 h2 h3 e
          go_enter Try.func24, Try.ntmps24
          go_wp2_with (go_at_call 27; refine k1.mono ?_; rintro e w1 ⟨rfl, hw1⟩; obtain rfl := hw1.symm)
          go_ret
          all_goals simp_all
        · have d3 : decide (credit ≤ 4611686018427387904) = false := by simp; omega
          have e : mayB s ack credit = false := by simp [mayB]; omega
          rw [e]
          clear h0 h1 h2 h3 e
          go_enter Try.func24, Try.ntmps24
          go_wp2_with (go_at_call 27; refine k1.mono ?_; rintro e w1 ⟨rfl, hw1⟩; obtain rfl := hw1.symm)
          go_ret
          all_goals simp_all
      · have d2 : decide (credit ≥ 0) = false := by simp; omega
        have e : mayB s ack credit = false := by simp [mayB]; omega
        rw [e]
        clear h0 h1 h2 e
        go_enter Try.func24, Try.ntmps24
        go_wp2_with (go_at_call 27; refine k1.mono ?_; rintro e w1 ⟨rfl, hw1⟩; obtain rfl := hw1.symm)
        go_ret
        all_goals simp_all
    · have d1 : decide (ack ≤ s.nxt - 1) = false := by simp; omega
      have e : mayB s ack credit = false := by simp [mayB]; omega
      rw [e]
      clear h0 h1 e
      go_enter Try.func24, Try.ntmps24
      go_wp2_with (go_at_call 27; refine k1.mono ?_; rintro e w1 ⟨rfl, hw1⟩; obtain rfl := hw1.symm)
      go_ret
      all_goals simp_all
  · have d0 : decide (ack ≥ 0) = false := by simp; omega
    have e : mayB s ack credit = false := by simp [mayB]; omega
    rw [e]
    clear h0 e
    go_enter Try.func24, Try.ntmps24
    go_wp2_with (go_at_call 27; refine k1.mono ?_; rintro e w1 ⟨rfl, hw1⟩; obtain rfl := hw1.symm)
    go_ret
    all_goals simp_all
theorem next_any {B sb mb : Nat} {s : St} {w : World} (h : Sd w B sb mb s) : Calls Try.prog 12 #[.pointer (some ⟨sb, 0, none⟩)] w fun e w' => e = .returned (.int .i64 s.nxt) ∧ w' = w := by
  have k1 := made_yes sb w h.c0
  have c := h.c4
  clear h
  go_enter Try.func12, Try.ntmps12
  go_wp2_with (go_at_call 20; refine k1.mono ?_; rintro e w1 ⟨rfl, hw1⟩; obtain rfl := hw1.symm)
  go_ret
  all_goals simp_all
theorem base_any {B sb mb : Nat} {s : St} {w : World} (h : Sd w B sb mb s) : Calls Try.prog 13 #[.pointer (some ⟨sb, 0, none⟩)] w fun e w' => e = .returned (.int .i64 s.base) ∧ w' = w := by
  have k1 := made_yes sb w h.c0
  have c := h.c3
  clear h
  go_enter Try.func13, Try.ntmps13
  go_wp2_with (go_at_call 20; refine k1.mono ?_; rintro e w1 ⟨rfl, hw1⟩; obtain rfl := hw1.symm)
  go_ret
  all_goals simp_all
theorem limit_any {B sb mb : Nat} {s : St} {w : World} (h : Sd w B sb mb s) : Calls Try.prog 14 #[.pointer (some ⟨sb, 0, none⟩)] w fun e w' => e = .returned (.int .i64 s.lim) ∧ w' = w := by
  have k1 := made_yes sb w h.c0
  have c := h.c2
  clear h
  go_enter Try.func14, Try.ntmps14
  go_wp2_with (go_at_call 20; refine k1.mono ?_; rintro e w1 ⟨rfl, hw1⟩; obtain rfl := hw1.symm)
  go_ret
  all_goals simp_all
theorem next_nil (w : World) : Calls Try.prog 12 #[.pointer none] w fun e w' => e = .returned (.int .i64 0) ∧ w' = w := by
  have k1 := made_nil w
  go_enter Try.func12, Try.ntmps12
  go_wp2_with (go_at_call 20; refine k1.mono ?_; rintro e w1 ⟨rfl, hw1⟩; obtain rfl := hw1.symm)
  go_ret
  all_goals simp_all
theorem next_no (sb : Nat) (w : World) (h : w.cell? ⟨sb, 0, none⟩ = some (.bool false)) : Calls Try.prog 12 #[.pointer (some ⟨sb, 0, none⟩)] w fun e w' => e = .returned (.int .i64 0) ∧ w' = w := by
  have k1 := made_no sb w h
  go_enter Try.func12, Try.ntmps12
  go_wp2_with (go_at_call 20; refine k1.mono ?_; rintro e w1 ⟨rfl, hw1⟩; obtain rfl := hw1.symm)
  go_ret
  all_goals simp_all
theorem base_nil (w : World) : Calls Try.prog 13 #[.pointer none] w fun e w' => e = .returned (.int .i64 0) ∧ w' = w := by
  have k1 := made_nil w
  go_enter Try.func13, Try.ntmps13
  go_wp2_with (go_at_call 20; refine k1.mono ?_; rintro e w1 ⟨rfl, hw1⟩; obtain rfl := hw1.symm)
  go_ret
  all_goals simp_all
theorem base_no (sb : Nat) (w : World) (h : w.cell? ⟨sb, 0, none⟩ = some (.bool false)) : Calls Try.prog 13 #[.pointer (some ⟨sb, 0, none⟩)] w fun e w' => e = .returned (.int .i64 0) ∧ w' = w := by
  have k1 := made_no sb w h
  go_enter Try.func13, Try.ntmps13
  go_wp2_with (go_at_call 20; refine k1.mono ?_; rintro e w1 ⟨rfl, hw1⟩; obtain rfl := hw1.symm)
  go_ret
  all_goals simp_all
theorem limit_nil (w : World) : Calls Try.prog 14 #[.pointer none] w fun e w' => e = .returned (.int .i64 0) ∧ w' = w := by
  have k1 := made_nil w
  go_enter Try.func14, Try.ntmps14
  go_wp2_with (go_at_call 20; refine k1.mono ?_; rintro e w1 ⟨rfl, hw1⟩; obtain rfl := hw1.symm)
  go_ret
  all_goals simp_all
theorem limit_no (sb : Nat) (w : World) (h : w.cell? ⟨sb, 0, none⟩ = some (.bool false)) : Calls Try.prog 14 #[.pointer (some ⟨sb, 0, none⟩)] w fun e w' => e = .returned (.int .i64 0) ∧ w' = w := by
  have k1 := made_no sb w h
  go_enter Try.func14, Try.ntmps14
  go_wp2_with (go_at_call 20; refine k1.mono ?_; rintro e w1 ⟨rfl, hw1⟩; obtain rfl := hw1.symm)
  go_ret
  all_goals simp_all
theorem out_nil (w : World) : Calls Try.prog 11 #[.pointer none] w fun e w' => e = .returned (.int .i64 0) ∧ w' = w := by
  have k1 := made_nil w
  go_enter Try.func11, Try.ntmps11
  go_wp2_with (go_at_call 20; refine k1.mono ?_; rintro e w1 ⟨rfl, hw1⟩; obtain rfl := hw1.symm)
  go_ret
  all_goals simp_all
theorem out_no (sb : Nat) (w : World) (h : w.cell? ⟨sb, 0, none⟩ = some (.bool false)) : Calls Try.prog 11 #[.pointer (some ⟨sb, 0, none⟩)] w fun e w' => e = .returned (.int .i64 0) ∧ w' = w := by
  have k1 := made_no sb w h
  go_enter Try.func11, Try.ntmps11
  go_wp2_with (go_at_call 20; refine k1.mono ?_; rintro e w1 ⟨rfl, hw1⟩; obtain rfl := hw1.symm)
  go_ret
  all_goals simp_all
theorem out_any {B sb mb : Nat} {s : St} {w : World} (h : Sd w B sb mb s) : Calls Try.prog 11 #[.pointer (some ⟨sb, 0, none⟩)] w fun e w' => e = .returned (.int .i64 (s.nxt - s.base)) ∧ w' = w := by
  have k1 := made_yes sb w h.c0
  have c := h.c5
  have hl := fun ty => h.mp.len ty
  have e : ((s.nxt - s.base).toNat : Int) = s.nxt - s.base := by have := h.ok.b2; omega
  rw [e] at hl
  clear h e
  go_enter Try.func11, Try.ntmps11
  go_wp2_with (go_at_call 20; refine k1.mono ?_; rintro e w1 ⟨rfl, hw1⟩; obtain rfl := hw1.symm)
  go_ret
  all_goals simp_all
theorem outF_any (a : Option Addr) (n c : Nat) (now : Int) (w : World) : Calls Try.prog 22 #[.int .i64 now, .slice a n c] w fun e w' => e = .returned (.agg #[.slice a n c, .int .i64 now, .int .i64 1, .bool false]) ∧ Below w.heap.size w w' := by
  go_enter Try.func22, Try.ntmps22
  go_wp2
  refine bodyPost_ret (v := .agg #[.slice a n c, .int .i64 now, .int .i64 1, .bool false]) (by simp [results, Try.results22, go_sem]) rfl ⟨rfl, ?_⟩
  repeat (refine Below.setCell ?_ (by first | exact Nat.le_refl _ | simp) _)
  exact (Below.refl w.heap.size w).alloc (Nat.le_refl _) _
end Go.Proofs.Ytjnoijpindbobaa
