/-
  The exponent of what was read.
-/
import Derived.Test.YtfkoghmbkgbgbaaDoorTake
import Derived.BigQuiet
namespace Go.Proofs.YtfkoghmbkgbgbaaDoor
open Go.RowKit

set_option maxHeartbeats 1000000 in
theorem exp_any (g : Nat) (n : Bool) (v : Value) (k : Nat) (l : Bool) (m : Nat) (ds : List Int) (w : World) (hp : PAt w g n v k l m) (hk : k ≤ 4096) (hm : m ≤ 10000) :
    Calls Tryd.prog 76 #[.pointer (some ⟨g, 0, none⟩)] w fun e w' => e = .returned (.int .i64 (expS (n, ds, k, l, m))) ∧ Below w.heap.size w w' := by
  have c2 := hp.c2
  have c3 := hp.c3
  have c4 := hp.c4
  clear hp
  cases l with
  | true =>
    have e1 : expS (n, ds, k, true, m) = -((m : Nat) : Int) - ((k : Nat) : Int) := by unfold expS; rw [if_pos rfl]
    have e2 : IntKind.i64.wrap (-((m : Nat) : Int)) = -((m : Nat) : Int) := by rw [IntKind.wrap_i64] <;> omega
    have e3 : IntKind.i64.wrap (-((m : Nat) : Int) - ((k : Nat) : Int)) = -((m : Nat) : Int) - ((k : Nat) : Int) := by rw [IntKind.wrap_i64] <;> omega
    rw [e1]
    clear e1 hk hm
    go_enter Tryd.func76, Tryd.ntmps76
    go_wp2
    go_quiet (fail)
    go_wp2
    go_ret
    exact ⟨rfl, ⟨rfl, rfl, rfl, Nat.le_refl _, fun _ _ => rfl⟩⟩
  | false =>
    have e1 : expS (n, ds, k, false, m) = ((m : Nat) : Int) - ((k : Nat) : Int) := by unfold expS; rw [if_neg (by simp)]
    have e3 : IntKind.i64.wrap (((m : Nat) : Int) - ((k : Nat) : Int)) = ((m : Nat) : Int) - ((k : Nat) : Int) := by rw [IntKind.wrap_i64] <;> omega
    rw [e1]
    clear e1 hk hm
    go_enter Tryd.func76, Tryd.ntmps76
    go_wp2
    go_quiet (fail)
    go_wp2
    go_ret
    exact ⟨rfl, ⟨rfl, rfl, rfl, Nat.le_refl _, fun _ _ => rfl⟩⟩
end Go.Proofs.YtfkoghmbkgbgbaaDoor
