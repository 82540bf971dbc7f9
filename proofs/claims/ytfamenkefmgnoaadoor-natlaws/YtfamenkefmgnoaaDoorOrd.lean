/-
  Order: how two numbers stand, told by nat.Order and by the document's side.
-/
import Derived.Test.YtfamenkefmgnoaaDoorRight
namespace Go.Proofs.YtfamenkefmgnoaaDoor
open Go.RowKit

theorem nan_any (x : Int) (w : World) : Calls Tryd.prog 51 #[.int .i64 x] w fun e w' => e = .returned (.bool false) ∧ w' = w := by
  go_enter Tryd.func51, Tryd.ntmps51
  go_wp2
  go_ret
  exact ⟨by simp, rfl⟩
set_option maxHeartbeats 1000000 in
theorem cmpi_any (x y : Int) (w : World) : Calls Tryd.prog 33 #[.int .i64 x, .int .i64 y] w fun e w' => e = .returned (.int .i64 (Lib.compareInt x y)) ∧ w' = w := by
  go_enter Tryd.func33, Tryd.ntmps33
  go_wp2_with (go_at_call 51; refine (nan_any _ _).mono ?_; rintro e w' ⟨rfl, hw⟩; rw [hw])
  all_goals (go_ret; refine ⟨?_, rfl⟩; unfold Lib.compareInt; (repeat' split) <;> first | rfl | (exfalso; omega))
set_option maxRecDepth 100000 in
set_option maxHeartbeats 1000000 in
theorem cmpstr_any (a b : ByteArray) (w : World) : Calls Tryd.prog 52 #[.string a, .string b] w fun e w' => e = .returned (.int .i64 (Lib.compareBytes a.data.toList b.data.toList)) ∧ w' = w := by
  go_enter Tryd.func52, Tryd.ntmps52
  go_wp2
  rw [run_callFunc_extern (f := 60) Tryd.func60 (by kernel_rfl) (by kernel_rfl) (by kernel_rfl) (e := Extern.BytealgCompare.compare) (by kernel_rfl), Lib.run_compareString]
  simp only [Result.andThen]
  rw [Oper.upon_value]
  go_wp2
  go_ret
  exact ⟨rfl, rfl⟩
theorem cmps_any (a b : ByteArray) (w : World) : Calls Tryd.prog 34 #[.string a, .string b] w fun e w' => e = .returned (.int .i64 (Lib.compareBytes a.data.toList b.data.toList)) ∧ w' = w := by
  go_enter Tryd.func34, Tryd.ntmps34
  go_wp2_with (go_at_call 52; refine (cmpstr_any _ _ _).mono ?_; rintro e w' ⟨rfl, rfl⟩)
  go_ret
  exact ⟨rfl, rfl⟩

set_option maxHeartbeats 1000000 in
theorem order_any (a b : ByteArray) (w : World) :
    Calls Tryd.prog 9 #[.string a, .string b] w fun e w' => e = .returned (.tuple #[.int .i64 (ordA a b).1, .int .i64 (ordA a b).2]) ∧ w' = w := by
  cases ha : rt a with
  | false =>
    have hA : ordA a b = (0, 1) := by unfold ordA; rw [if_neg (by rw [ha]; simp)]
    rw [hA]
    go_enter Tryd.func9, Tryd.ntmps9
    go_wp2_with (go_at_call 17; refine (right_any _ _).mono ?_; rintro e w1 ⟨rfl, hw⟩; obtain rfl : w = w1 := hw.symm; rw [ha])
    go_ret2
    exact ⟨rfl, rfl⟩
  | true =>
    cases hb : rt b with
    | false =>
      have hA : ordA a b = (0, 1) := by unfold ordA; rw [if_neg (by rw [hb]; simp)]
      rw [hA]
      go_enter Tryd.func9, Tryd.ntmps9
      go_wp2_with (go_at_call 17; refine (right_any _ _).mono ?_; rintro e w1 ⟨rfl, hw⟩; obtain rfl : w = w1 := hw.symm; first | rw [ha] | rw [hb])
      go_ret2
      exact ⟨rfl, rfl⟩
    | true =>
      have hA : ordA a b = (cmpN (val a) (val b), 0) := by unfold ordA; rw [if_pos ⟨ha, hb⟩]
      rw [hA]
      by_cases hs : a.size = b.size
      · have hc := cmp_same ha hb hs
        go_enter Tryd.func9, Tryd.ntmps9
        go_wp2_with (first
          | (go_at_call 17; refine (right_any _ _).mono ?_; rintro e w1 ⟨rfl, hw⟩; obtain rfl : w = w1 := hw.symm; first | rw [ha] | rw [hb])
          | (go_at_call 34; refine (cmps_any _ _ _).mono ?_; rintro e w1 ⟨rfl, hw⟩; obtain rfl : w = w1 := hw.symm; rw [hc]))
        go_ret2
        exact ⟨rfl, rfl⟩
      · have hc := cmp_len ha hb hs
        have hs' : ¬ (a.size : Int) = (b.size : Int) := by omega
        go_enter Tryd.func9, Tryd.ntmps9
        go_wp2_with (first
          | (go_at_call 17; refine (right_any _ _).mono ?_; rintro e w1 ⟨rfl, hw⟩; obtain rfl : w = w1 := hw.symm; first | rw [ha] | rw [hb])
          | (go_at_call 33; refine (cmpi_any _ _ _).mono ?_; rintro e w1 ⟨rfl, hw⟩; obtain rfl : w = w1 := hw.symm; rw [hc]))
        go_ret2
        exact ⟨rfl, rfl⟩
end Go.Proofs.YtfamenkefmgnoaaDoor
