/-
  The states of a text, one call each.
-/
import Derived.Test.YtjdceigndleadaaGreatDoorRight
import Derived.Test.YtjdceigndleadaaGreatDoorMach
namespace Go.Proofs.YtjdceigndleadaaGreatDoor
open Go.RowKit

theorem isdigit_any (c : Int) (w : World) : Calls Tryz.prog 44 #[.int .u8 c] w fun e w' => e = .returned (.bool (isD c)) ∧ w' = w := by
  have hr : isD c = (decide (48 ≤ c) && decide (c ≤ 57)) := rfl
  rw [hr]
  clear hr
  by_cases h1 : 48 ≤ c
  · go_enter Tryz.func44, Tryz.ntmps44
    go_wp2
    go_ret
    exact ⟨by simp [h1], rfl⟩
  · go_enter Tryz.func44, Tryz.ntmps44
    go_wp2
    go_ret
    exact ⟨by simp; omega, rfl⟩
end Go.Proofs.YtjdceigndleadaaGreatDoor
