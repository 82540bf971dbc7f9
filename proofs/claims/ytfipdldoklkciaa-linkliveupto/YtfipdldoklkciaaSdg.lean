/-
  A load that is refused.
-/
import Derived.Test.YtfipdldoklkciaaSdf
import Derived.BigQuiet
namespace Go.Proofs.Ytfipdldoklkciaa
open Go.RowKit
set_option linter.unusedVariables false
set_option maxHeartbeats 1000000 in
theorem push_bad {B sb mb : Nat} {s : St} {w : World} (a : Option Addr) (n c : Nat) (now : Int) (h : Sd w B sb mb s) (hE : pushE s n now ≠ 0) (hn : (n : Int) ≤ 9223372036854775807) :
    Calls Try.prog 64 #[.pointer (some ⟨sb, 0, none⟩), .slice a n c, .int .i64 now] w fun e w' => e = .returned (.tuple #[.int .i64 0, .int .i64 (pushE s n now)]) ∧ Hid (Below w.heap.size w w') := by
  have k1 := made_yes sb w h.c0
  have k2 := time_any now w
  by_cases h1 : timeB now = false
  · rw [h1] at k2
    rw [show pushE s n now = 1 by unfold pushE; rw [if_pos h1]]
    clear h hE hn h1
    go_enter Try.func64, Try.ntmps64
    go_wp2_with (first | (go_at_call 89; refine k1.mono ?_; rintro e w1 ⟨rfl, hw1⟩; obtain rfl := hw1.symm) | (go_at_call 95; refine k2.mono ?_; rintro e w1 ⟨rfl, hw1⟩; obtain rfl := hw1.symm))
    go_ret2
    exact ⟨rfl, Below.refl _ _⟩
  · rw [show timeB now = true by simpa using h1] at k2
    by_cases h2 : 1200 < n
    · have d2 : decide ((n : Int) > 1200) = true := by simp; omega
      rw [show pushE s n now = 8 by unfold pushE; rw [if_neg h1, if_pos h2]]
      clear h hE hn h1 h2
      go_enter Try.func64, Try.ntmps64
      go_wp2_with (first | (go_at_call 89; refine k1.mono ?_; rintro e w1 ⟨rfl, hw1⟩; obtain rfl := hw1.symm) | (go_at_call 95; refine k2.mono ?_; rintro e w1 ⟨rfl, hw1⟩; obtain rfl := hw1.symm))
      go_ret2
      exact ⟨rfl, Below.refl _ _⟩
    · have d2 : decide ((n : Int) > 1200) = false := by simp; omega
      have h3 : s.lim < s.nxt ∨ s.win ≤ s.nxt - s.base := by
        by_cases h3 : s.lim < s.nxt ∨ s.win ≤ s.nxt - s.base
        · exact h3
        · exact absurd (by unfold pushE; rw [if_neg h1, if_neg h2, if_neg h3]) hE
      rw [show pushE s n now = 13 by unfold pushE; rw [if_neg h1, if_neg h2, if_pos h3]]
      have c1 := h.c1
      have c2 := h.c2
      have c3 := h.c3
      have c4 := h.c4
      have hw : IntKind.i64.wrap (s.nxt - s.base) = s.nxt - s.base := by
        have := h.ok.b1; have := h.ok.b2; have := h.ok.l1; have := h.ok.l2
        rw [IntKind.wrap_i64]; omega
      by_cases h4 : s.lim < s.nxt
      · have d4 : decide (s.nxt > s.lim) = true := by simp; omega
        clear h hE hn h1 h2 h3 h4
        go_enter Try.func64, Try.ntmps64
        go_wp2_with (first | (go_at_call 89; refine k1.mono ?_; rintro e w1 ⟨rfl, hw1⟩; obtain rfl := hw1.symm) | (go_at_call 95; refine k2.mono ?_; rintro e w1 ⟨rfl, hw1⟩; obtain rfl := hw1.symm))
        go_big_quiet (fail)
        go_wp2
        go_ret2
        exact ⟨rfl, below_drewN _ _⟩
      · have d4 : decide (s.nxt > s.lim) = false := by simp; omega
        have d5 : decide (s.nxt - s.base ≥ s.win) = true := by simp; omega
        clear h hE hn h1 h2 h3 h4
        go_enter Try.func64, Try.ntmps64
        go_wp2_with (first | (go_at_call 89; refine k1.mono ?_; rintro e w1 ⟨rfl, hw1⟩; obtain rfl := hw1.symm) | (go_at_call 95; refine k2.mono ?_; rintro e w1 ⟨rfl, hw1⟩; obtain rfl := hw1.symm))
        go_quiet (fail)
        go_wp2
        go_ret2
        exact ⟨rfl, below_drewN _ _⟩
end Go.Proofs.Ytfipdldoklkciaa
