/-
  One is widened and narrowed, and a tenth has its digits.
-/
import Derived.Test.YtjdceigndleadaaGreatDoorFcal
import Derived.Test.YtjdceigndleadaaGreatDoorFexact
namespace Go.Proofs.YtjdceigndleadaaGreatDoor
open Go.RowKit

theorem live_widen : widenA 15360 2 = (4607182418800017408, 0) := by decide
theorem live_narrow : narrowA 4607182418800017408 = (15360, 2) := by decide
theorem live_exact : (exactA 4591870180066957722).1.2.1.size = 55 ∧ (exactA 4591870180066957722).1.2.2 = -55 ∧ (exactA 4591870180066957722).2 = 0 := by decide +kernel
set_option maxRecDepth 100000 in
set_option maxHeartbeats 1000000 in
theorem alive_any (B : Nat) (w : World) (hT : Tab B w) (hB : B ≤ w.heap.size) : Calls Tryz.prog 10 #[] w fun e w' => e = .returned (.bool true) ∧ Below w.heap.size w w' := by
  have kW := widen_any 15360 2 (by decide) w
  have kN := narrow_any 4607182418800017408 (by decide)
  have kE : Hid (∀ wx, Below w.heap.size w wx → _) := fun wx hb => exact_any 4591870180066957722 (by decide) B wx (Lib.TabBelow.on hT (hb.mono hB)) (Nat.le_trans hB hb.size)
  rw [live_widen] at kW
  rw [live_narrow] at kN
  obtain ⟨l1, l2, l3⟩ := live_exact
  generalize exactA 4591870180066957722 = A at *
  obtain ⟨⟨an, sn, ax⟩, ae⟩ := A
  dsimp only at l1 l2 l3 kE kW kN
  subst l2 l3
  clear hT hB
  go_enter Tryz.func10, Tryz.ntmps10
  go_wp2_with fail
  refine kW.mono ?_
  rintro e w1 ⟨rfl, d1⟩
  go_wp2_with fail
  refine (kN _).mono ?_
  rintro e w2 ⟨rfl, b2⟩
  have d2 := d1.trans (b2.mono d1.size)
  go_wp2_with fail
  refine (kE.out _ d2).mono ?_
  rintro e w3 ⟨rfl, b3⟩
  have d3 := d2.trans (b3.mono d2.size)
  go_wp2
  go_ret
  exact ⟨rfl, d3.alloc d3.size _⟩
end Go.Proofs.YtjdceigndleadaaGreatDoor
