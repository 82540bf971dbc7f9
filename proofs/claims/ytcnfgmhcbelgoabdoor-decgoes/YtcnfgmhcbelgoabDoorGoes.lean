/-
  Three numbers in three blocks.
-/
import Derived.Test.YtcnfgmhcbelgoabDoorDalive
import Derived.Test.YtcnfgmhcbelgoabDoorDord
import Derived.RegionTactic
namespace Go.Proofs.YtcnfgmhcbelgoabDoor
open Go.RowKit

def Thr (w wx : World) (a b c : Nm) : Prop := NRow wx w.heap.size a.1 a.2.1 a.2.2 ∧ NRow wx (w.heap.size + 1) b.1 b.2.1 b.2.2 ∧ NRow wx (w.heap.size + 2) c.1 c.2.1 c.2.2 ∧ Below w.heap.size w wx ∧ w.heap.size + 3 ≤ wx.heap.size
theorem thr_new (w : World) (a b c : Nm) : Thr w (((w.alloc (.cells #[.bool a.1, .string a.2.1, .int .i64 a.2.2] 23)).alloc (.cells #[.bool b.1, .string b.2.1, .int .i64 b.2.2] 23)).alloc (.cells #[.bool c.1, .string c.2.1, .int .i64 c.2.2] 23)) a b c := by
  have a1 := alloc_below w (.cells #[.bool a.1, .string a.2.1, .int .i64 a.2.2] 23)
  have h1 := row_new w a.1 a.2.1 a.2.2
  generalize hw1 : w.alloc (.cells #[.bool a.1, .string a.2.1, .int .i64 a.2.2] 23) = w1 at *
  have s1 : w1.heap.size = w.heap.size + 1 := by rw [← hw1]; simp
  have a2 := alloc_below w1 (.cells #[.bool b.1, .string b.2.1, .int .i64 b.2.2] 23)
  have h2 := row_new w1 b.1 b.2.1 b.2.2
  generalize hw2 : w1.alloc (.cells #[.bool b.1, .string b.2.1, .int .i64 b.2.2] 23) = w2 at *
  have s2 : w2.heap.size = w.heap.size + 2 := by rw [← hw2]; simp; omega
  have a3 := alloc_below w2 (.cells #[.bool c.1, .string c.2.1, .int .i64 c.2.2] 23)
  have h3 := row_new w2 c.1 c.2.1 c.2.2
  rw [s1] at h2
  rw [s2] at h3
  refine ⟨(h1.kept (w' := w2) (by rw [s1] at *; exact a2)).kept a3, h2.kept a3, h3, a1.trans ((a2.mono (by omega)).trans (a3.mono (by omega))), by simp; omega⟩
theorem Thr.on {w wx wy : World} {a b c : Nm} (h : Thr w wx a b c) (hb : Below wx.heap.size wx wy) : Thr w wy a b c :=
  ⟨h.1.kept hb, h.2.1.kept hb, h.2.2.1.kept hb, h.2.2.2.1.trans (hb.mono h.2.2.2.1.size), Nat.le_trans h.2.2.2.2 hb.size⟩
end Go.Proofs.YtcnfgmhcbelgoabDoor
