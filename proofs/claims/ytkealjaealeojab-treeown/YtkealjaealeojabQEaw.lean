/-
  Where a number leads, and where a path leads, as the document says: way, Find, At.
-/
import Derived.Test.YtkealjaealeojabQEpb
import Derived.Test.YtkealjaealeojabQGd
import Derived.Deep.QuietTactic
import Derived.BigQuiet
import Derived.Deep.RegionHeld3
namespace Go.Proofs.Ytkealjaealeojab
open Go.RowKit
set_option linter.unusedVariables false

theorem below_drewN {B : Nat} {a w : World} (h : Below B a w) (n : Nat) : Below B a (w.drewN n) := ⟨h.os, h.tape, h.output, h.size, h.block⟩
theorem Kp.drew {C : Nat → Prop} {w w' : World} (h : Kp C w w') : Kp C w w'.drew := ⟨h.os, h.tape, h.output, h.size, h.block⟩
/-- What way answers: the place, whether it is a key's, whether there is one. -/
def wayA (b : Nb) (k : Int) : Int × Bool × Bool :=
  if k < 0 then (0, false, false)
  else if b.kind = 8 then (if k % 2 = 0 then (k / 2, true, decide (k / 2 < (b.lk : Int))) else (k / 2, false, decide (k / 2 < (b.li : Int))))
  else if b.kind = 7 ∨ b.kind = 9 then (k, false, decide (k < (b.li : Int)))
  else (0, false, false)
set_option maxHeartbeats 4000000 in
set_option maxRecDepth 100000 in
theorem eway_any (b : Nb) (k : Int) (hk : k ≤ 9223372036854775807) (hl : b.lk ≤ b.ck ∧ b.ck ≤ maxLen ∧ b.li ≤ b.ci ∧ b.ci ≤ maxLen) (w : World) : Calls Try.prog 42 #[.agg b.arr, .int .i64 k] w fun e w' => e = .returned (.tuple #[.int .i64 (wayA b k).1, .bool (wayA b k).2.1, .bool (wayA b k).2.2]) ∧ Below w.heap.size w w' := by
  have hal := alloc_below w (.cells b.arr 26)
  have hB : Hid (Below w.heap.size w (w.alloc (.cells b.arr 26))) := hal
  obtain ⟨a0, a1, a2, a3, a4, a5, a6, a7, a8⟩ := (nbox_new w b).fields
  unfold maxLen at hl
  obtain ⟨l0, l1, l2, l3⟩ := hl
  clear hal
  by_cases h0 : k < 0
  · rw [show wayA b k = (0, false, false) from if_pos h0]
    have d0 : decide (k < 0) = true := decide_eq_true h0
    clear h0
    go_enter Try.func42, Try.ntmps42
    go_wp2
    go_ret3
    exact ⟨rfl, hB.out⟩
  have d0 : decide (k < 0) = false := decide_eq_false h0
  have hq : k.tdiv 2 = k / 2 := Int.tdiv_eq_ediv_of_nonneg (by omega)
  have hm : k.tmod 2 = k % 2 := Int.tmod_eq_emod_of_nonneg (by omega)
  have hwq : IntKind.i64.wrap (k / 2) = k / 2 := by rw [IntKind.wrap_i64]; omega
  have hwm : IntKind.i64.wrap (k % 2) = k % 2 := by rw [IntKind.wrap_i64]; omega
  by_cases h8 : b.kind = 8
  · by_cases h2 : k % 2 = 0
    · rw [show wayA b k = (k / 2, true, decide (k / 2 < (b.lk : Int))) from by unfold wayA; rw [if_neg h0, if_pos h8, if_pos h2]]
      have d2 : (k % 2 == 0) = true := by simp [h2]
      clear h0 h2
      go_enter Try.func42, Try.ntmps42
      go_wp2
      go_quiet (fail)
      go_wp2
      go_ret3
      exact ⟨rfl, below_drewN hB.out _⟩
    · rw [show wayA b k = (k / 2, false, decide (k / 2 < (b.li : Int))) from by unfold wayA; rw [if_neg h0, if_pos h8, if_neg h2]]
      have d2 : (k % 2 == 0) = false := by simp [h2]
      clear h0 h2
      go_enter Try.func42, Try.ntmps42
      go_wp2
      go_quiet (fail)
      go_wp2
      go_ret3
      exact ⟨rfl, below_drewN hB.out _⟩
  have e8 : (b.kind == 8) = false := by simp [h8]
  by_cases h79 : b.kind = 7 ∨ b.kind = 9
  · rw [show wayA b k = (k, false, decide (k < (b.li : Int))) from by unfold wayA; rw [if_neg h0, if_neg h8, if_pos h79]]
    by_cases h7 : b.kind = 7
    · have e7 : (b.kind == 7) = true := by simp [h7]
      clear h0 h8 h79 h7
      go_enter Try.func42, Try.ntmps42
      go_wp2
      go_quiet (fail)
      go_wp2
      go_ret3
      exact ⟨rfl, below_drewN hB.out _⟩
    · have e7 : (b.kind == 7) = false := by simp [h7]
      have e9 : (b.kind == 9) = true := by rcases h79 with h | h; exact absurd h h7; simp [h]
      clear h0 h8 h79 h7
      go_enter Try.func42, Try.ntmps42
      go_wp2
      go_quiet (fail)
      go_wp2
      go_ret3
      exact ⟨rfl, below_drewN hB.out _⟩
  · rw [show wayA b k = (0, false, false) from by unfold wayA; rw [if_neg h0, if_neg h8, if_neg h79]]
    have e7 : (b.kind == 7) = false := by simp; exact fun h => h79 (.inl h)
    have e9 : (b.kind == 9) = false := by simp; exact fun h => h79 (.inr h)
    clear h0 h8 h79
    go_enter Try.func42, Try.ntmps42
    go_wp2
    go_ret3
    exact ⟨rfl, hB.out⟩
theorem wayA_yes {D : Nat} {w : World} {b : Nb} {t : Tr} (h : Nd (D + 1) w b t) {k : Int} {i : Nat} {sd : Bool} (hw : t.way k = some (i, sd)) : wayA b k = ((i : Int), sd, true) := by
  obtain ⟨h0, _, hi⟩ := way_yes h hw
  have hk : b.kind = t.kind := h.1.1
  have hlk : t.keys.length = b.lk := h.2.2.2.1.1
  have hli : t.kids.length = b.li := h.2.2.2.2.1
  unfold Tr.way at hw
  rw [if_neg (by omega)] at hw
  unfold wayA
  rw [if_neg (by omega), hk]
  split at hw
  · rename_i h8
    rw [if_pos h8]
    split at hw
    · rename_i h2
      rw [if_pos h2]
      split at hw
      · cases hw
        simp only [Prod.mk.injEq, true_and, decide_eq_true_eq]
        omega
      · cases hw
    · rename_i h2
      rw [if_neg h2]
      split at hw
      · cases hw
        simp only [Prod.mk.injEq, true_and, decide_eq_true_eq]
        omega
      · cases hw
  · rename_i h8
    rw [if_neg h8]
    split at hw
    · rename_i h7
      rw [if_pos h7]
      split at hw
      · cases hw
        simp only [Prod.mk.injEq, true_and, decide_eq_true_eq]
        omega
      · cases hw
    · cases hw
theorem wayA_no {D : Nat} {w : World} {b : Nb} {t : Tr} (h : Nd (D + 1) w b t) {k : Int} (hw : t.way k = none) : (wayA b k).2.2 = false := by
  have hk : b.kind = t.kind := h.1.1
  have hlk : t.keys.length = b.lk := h.2.2.2.1.1
  have hli : t.kids.length = b.li := h.2.2.2.2.1
  unfold Tr.way at hw
  unfold wayA
  rw [hk]
  split at hw
  · rename_i h0; rw [if_pos h0]
  · rename_i h0
    rw [if_neg h0]
    split at hw
    · rename_i h8
      rw [if_pos h8]
      split at hw
      · rename_i h2
        rw [if_pos h2]
        split at hw
        · cases hw
        · simp only [decide_eq_false_iff_not]; omega
      · rename_i h2
        rw [if_neg h2]
        split at hw
        · cases hw
        · simp only [decide_eq_false_iff_not]; omega
    · rename_i h8
      rw [if_neg h8]
      split at hw
      · rename_i h7
        rw [if_pos h7]
        split at hw
        · cases hw
        · simp only [decide_eq_false_iff_not]; omega
      · rename_i h7
        rw [if_neg h7]
theorem Kp.iff {C C' : Nat → Prop} {w w' : World} (h : Kp C w w') (hc : ∀ k, C k → C' k) : Kp C' w w' := ⟨h.os, h.tape, h.output, h.size, fun k hk hn => h.block k hk (fun q => hn (hc k q))⟩
theorem Bx.swap {W w : World} {g1 g2 : Nat} {b c : Nb} (h : Bx W w g1 g2 b c) : Bx W w g2 g1 c b := ⟨h.two, h.one, h.kp.iff fun k hk => hk.symm⟩

end Go.Proofs.Ytkealjaealeojab
