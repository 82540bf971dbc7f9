/-
  How two numbers stand: dec.Order.
-/
import Derived.Test.YtjdceigndleadaaDoorNum
import Derived.Test.YtjdceigndleadaaDoorDlex
import Derived.Deep.RegionHeld3
namespace Go.Proofs.YtjdceigndleadaaDoor
open Go.RowKit

/-- Two numbers, in two blocks. -/
def Two (w wx : World) (n : Bool) (s : ByteArray) (x : Int) (m : Bool) (t : ByteArray) (y : Int) : Prop := NmAt wx w.heap.size n s x ∧ NmAt wx (w.heap.size + 1) m t y
theorem two_new (w : World) (n : Bool) (s : ByteArray) (x : Int) (m : Bool) (t : ByteArray) (y : Int) : Two w ((w.alloc (.cells #[.bool n, .string s, .int .i64 x] 36)).alloc (.cells #[.bool m, .string t, .int .i64 y] 36)) n s x m t y := by
  refine ⟨(box_at w n s x 36).kept (alloc_below _ _) (alloc_lt _ _), ?_⟩
  have h := box_at (w.alloc (.cells #[.bool n, .string s, .int .i64 x] 36)) m t y 36
  have e : (w.alloc (.cells #[.bool n, .string s, .int .i64 x] 36)).heap.size = w.heap.size + 1 := by simp
  rw [e] at h
  exact h
theorem Two.on {w wx wy : World} {n m : Bool} {s t : ByteArray} {x y : Int} (h : Two w wx n s x m t y) {B : Nat} (hb : Below B wx wy) (hB : w.heap.size + 2 ≤ B) : Two w wy n s x m t y :=
  ⟨h.1.kept hb (by omega), h.2.kept hb (by omega)⟩
theorem two_below (w : World) (o o' : Obj) : Below w.heap.size w ((w.alloc o).alloc o') := ((Below.refl _ _).alloc (Nat.le_refl _) _).alloc (by simp) _
theorem two_size (w : World) (o o' : Obj) : ((w.alloc o).alloc o').heap.size = w.heap.size + 2 := by simp
end Go.Proofs.YtjdceigndleadaaDoor
