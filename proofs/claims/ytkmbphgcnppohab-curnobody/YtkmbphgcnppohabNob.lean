/-
  A cursor that nobody made: a nil one, and one that New did not give.
-/
import Derived.Test.YtkmbphgcnppohabAlive
namespace Go.Proofs.Ytkmbphgcnppohab
open Go.RowKit

/-- A cursor that New did not give, in block z. -/
def ZAt (w : World) (z : Nat) : Prop := w.heap[z]? = some (.cells #[.bool false, .slice none 0 0, .int .i64 0, .int .i64 0, .int .i64 0] 28 (0, 0))

theorem ZAt.lt {w : World} {z : Nat} (h : ZAt w z) : z < w.heap.size := (Array.getElem?_eq_some_iff.1 h).1
theorem ZAt.c0 {w : World} {z : Nat} (h : ZAt w z) : w.cell? ⟨z, 0, none⟩ = some (.bool false) := cell_row h 0
theorem ZAt.c1 {w : World} {z : Nat} (h : ZAt w z) : w.cell? ⟨z, 1, none⟩ = some (.slice none 0 0) := cell_row h 1
theorem ZAt.c2 {w : World} {z : Nat} (h : ZAt w z) : w.cell? ⟨z, 2, none⟩ = some (.int .i64 0) := cell_row h 2
theorem ZAt.kept {w w' : World} {z : Nat} (h : ZAt w z) (hb : Below w.heap.size w w') : ZAt w' z := by
  unfold ZAt
  rw [hb.block z h.lt]
  exact h
theorem ZAt.alloc {w : World} {z : Nat} (h : ZAt w z) (o : Obj) : ZAt (w.alloc o) z := h.kept ((Below.refl _ _).alloc (Nat.le_refl _) o)

/-- A CURSOR THAT NOBODY MADE. -/
def Nob (w : World) (v : Value) : Prop := v = .pointer none ∨ ∃ z, v = .pointer (some ⟨z, 0, none⟩) ∧ ZAt w z

theorem Nob.kept {w w' : World} {v : Value} (h : Nob w v) (hb : Below w.heap.size w w') : Nob w' v := by
  rcases h with h | ⟨z, h1, h2⟩
  · exact .inl h
  · exact .inr ⟨z, h1, h2.kept hb⟩

set_option maxHeartbeats 400000 in
theorem fault_nob (v : Value) (w : World) (h : Nob w v) :
    Calls Try.prog 9 #[v] w fun e w' => e = .returned (.agg #[.int .i64 2, .int .i64 0]) ∧ Below w.heap.size w w' := by
  rcases h with rfl | ⟨z, rfl, h⟩
  · go_enter Try.func9, Try.ntmps9
    go_wp2
    refine bodyPost_ret (v := .agg #[.int .i64 2, .int .i64 0]) (by simp [results, Try.results9, go_sem]) rfl ⟨rfl, ?_⟩
    exact (Below.refl _ _).alloc (Nat.le_refl _) _
  · have h0 := fun o => (h.alloc o).c0
    go_enter Try.func9, Try.ntmps9
    go_wp2
    refine bodyPost_ret (v := .agg #[.int .i64 2, .int .i64 0]) (by simp [results, Try.results9, go_sem]) rfl ⟨rfl, ?_⟩
    exact (Below.refl _ _).alloc (Nat.le_refl _) _

set_option maxHeartbeats 400000 in
theorem at_nob (v : Value) (w : World) (h : Nob w v) :
    Calls Try.prog 7 #[v] w fun e w' => e = .returned (.int .i64 0) ∧ w' = w := by
  rcases h with rfl | ⟨z, rfl, h⟩
  · go_enter Try.func7, Try.ntmps7
    go_wp2
    go_ret
    exact ⟨rfl, rfl⟩
  · have h2 := h.c2
    go_enter Try.func7, Try.ntmps7
    go_wp2
    go_ret
    exact ⟨rfl, rfl⟩

set_option maxHeartbeats 400000 in
theorem left_nob (v : Value) (w : World) (h : Nob w v) :
    Calls Try.prog 8 #[v] w fun e w' => e = .returned (.int .i64 0) ∧ Below w.heap.size w w' := by
  rcases h with rfl | ⟨z, rfl, h⟩
  · go_enter Try.func8, Try.ntmps8
    go_wp2
    go_ret
    exact ⟨rfl, Below.refl _ _⟩
  · have h1 := h.c1
    have h2 := h.c2
    go_enter Try.func8, Try.ntmps8
    go_wp2
    go_quiet (fail)
    go_wp2
    go_ret
    exact ⟨rfl, below_drewN (Below.refl _ _) nq⟩

set_option maxHeartbeats 400000 in
theorem canRead_nob (v : Value) (n : Int) (m : Bool) (w : World) (h : Nob w v) :
    Calls Try.prog 13 #[v, .int .i64 n, .bool m] w fun e w' => e = .returned (.bool false) ∧ Below w.heap.size w w' := by
  have hfd := field_y
  go_enter Try.func13, Try.ntmps13
  go_wp2_with fail
  refine (fault_nob _ _ h).mono ?_
  rintro e w1 ⟨rfl, hb⟩
  go_wp2
  go_ret
  exact ⟨rfl, hb⟩

set_option maxHeartbeats 400000 in
theorem wide_nob (v : Value) (n : Int) (w : World) (h : Nob w v) :
    Calls Try.prog 4 #[v, .int .i64 n] w fun e w' => e = .returned (.int .u64 0) ∧ Below w.heap.size w w' := by
  go_enter Try.func4, Try.ntmps4
  go_wp2_with fail
  refine (isWidth_any _ _).mono ?_
  rintro e w1 ⟨rfl, rfl⟩
  go_wp2_with fail
  refine (canRead_nob _ _ _ _ h).mono ?_
  rintro e w2 ⟨rfl, hb⟩
  go_wp2
  go_ret
  exact ⟨rfl, hb⟩

set_option maxHeartbeats 400000 in
theorem take_nob (v : Value) (n : Int) (w : World) (h : Nob w v) :
    Calls Try.prog 6 #[v, .int .i64 n] w fun e w' => e = .returned (.slice none 0 0) ∧ Below w.heap.size w w' := by
  go_enter Try.func6, Try.ntmps6
  go_wp2_with fail
  refine (canRead_nob _ _ _ _ h).mono ?_
  rintro e w2 ⟨rfl, hb⟩
  go_wp2
  go_ret
  exact ⟨rfl, hb⟩

set_option maxHeartbeats 400000 in
theorem short_nob (v : Value) (w : World) (h : Nob w v) :
    Calls Try.prog 5 #[v] w fun e w' => e = .returned (.int .u64 0) ∧ Below w.heap.size w w' := by
  go_enter Try.func5, Try.ntmps5
  go_wp2_with fail
  go_loopw [3, 6] (fun t i wr => t = .int .u64 0 ∧ i = .int .i64 0 ∧ Hid (wr = w)) (fun _ _ _ => 0)
  case atStart => exact ⟨rfl, rfl, rfl⟩
  case round =>
    obtain ⟨rfl, rfl, hw⟩ := hrel
    have hwr := hw.out
    subst hwr
    go_wp2_with fail
    refine (canRead_nob _ _ _ _ h).mono ?_
    rintro e w2 ⟨rfl, hb⟩
    go_wp2
    go_ret
    exact ⟨rfl, hb⟩
end Go.Proofs.Ytkmbphgcnppohab
