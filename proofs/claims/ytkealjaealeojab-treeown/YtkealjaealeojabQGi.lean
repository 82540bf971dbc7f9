/-
  What is wrong with a node itself: tree.fault (plain part).
  A field of a fault that a call answered.
-/
import Derived.Test.YtkealjaealeojabQMyb
import Derived.Test.YtkealjaealeojabQGf
namespace Go.Proofs.Ytkealjaealeojab
open Go.RowKit
set_option linter.unusedVariables false

/-- Are these bytes a text? -/
def gtx (s : ByteArray) : Bool := decide (whyL (bs s) = 0)
/-- The fault of a node. -/
def alF (t : Tr) : Int := t.alo gtx rt rdN
theorem alF_shaped : Tr.Shaped alF := Tr.alo_shaped gtx rt rdN
theorem why_two (zs : List Int) : whyL zs = 0 ∨ whyL zs = 6 := by unfold whyL; split <;> simp
theorem odd_eq {D : Nat} {w : World} {b : Nb} {t : Tr} (h : Nd (D + 1) w b t) : t.odd = !(mayB b && t.clean) := by
  have h0 : b.kind = t.kind := h.1.1
  have h1 : b.num = t.num := h.1.2.1
  have hk : t.keys.length = b.lk := h.2.2.2.1.1
  have hi : t.kids.length = b.li := h.2.2.2.2.1
  have e8 : decide (b.lk = b.li) = !decide (t.keys.length ≠ t.kids.length) := by rw [hk, hi]; by_cases q : b.lk = b.li <;> simp [q]
  have e9 : decide (b.li = 1) = !decide (t.kids.length ≠ 1) := by rw [hi]; by_cases q : b.li = 1 <;> simp [q]
  unfold Tr.odd mayB
  rw [h0, h1, e8, e9]
  generalize t.clean = c
  generalize decide (t.keys.length ≠ t.kids.length) = p8
  generalize decide (t.kids.length ≠ 1) = p9
  by_cases k1 : t.kind = 1
  · simp only [k1]
    by_cases q : t.num ≤ 1
    · have q' : ¬ 1 < t.num := by omega
      cases c <;> simp [q, q']
    · have q' : 1 < t.num := by omega
      cases c <;> simp [q, q']
  by_cases k8 : t.kind = 8
  · simp only [k8]
    cases c <;> cases p8 <;> simp
  by_cases k9 : t.kind = 9
  · simp only [k9]
    cases c <;> cases p9 <;> simp
  by_cases k10 : t.kind = 10
  · simp only [k10]
    have e : Tr.smp t.num = (decide (t.num ≤ 19) || (decide (t.num = 23) || (decide (32 ≤ t.num) && decide (t.num ≤ 255)))) := by
      unfold Tr.smp
      rw [Bool.or_assoc, show decide (t.num < 20) = decide (t.num ≤ 19) from decide_eq_decide.2 (by omega), show decide (t.num < 256) = decide (t.num ≤ 255) from decide_eq_decide.2 (by omega)]
    rw [← e]
    generalize Tr.smp t.num = m
    cases c <;> cases m <;> simp
  · simp only [k1, k8, k9, k10, decide_false, if_false, Bool.false_and, Bool.or_false]
    by_cases q1 : 0 ≤ t.kind
    · by_cases q2 : t.kind ≤ 10
      · have q1' : ¬ t.kind < 0 := by omega
        have q2' : ¬ 10 < t.kind := by omega
        simp [q1, q2, q1', q2']
      · have q2' : 10 < t.kind := by omega
        simp [q2, q2']
    · have q1' : t.kind < 0 := by omega
      simp [q1, q1']
end Go.Proofs.Ytkealjaealeojab
namespace Go.Proofs.Ytkealjaealeojab
open Go.RowKit
theorem field_why (x y : Value) (w : World) : Sem.run Try.prog (Instr.field 57 (.agg #[x, y]) 0) w = .ok x w := by
  have t1 := Try.underlying57
  simp [Instr.field, run_underlying t1, asAgg, part, go_sem, Try.isAgg28, Try.sizeOf28]
end Go.Proofs.Ytkealjaealeojab
