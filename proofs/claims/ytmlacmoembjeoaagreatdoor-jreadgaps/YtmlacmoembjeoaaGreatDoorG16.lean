/-
  The node that a token begins: jread.nodeOf.
  A value that begins: jread.reader.value, what it leaves where an Array or a Map is opened.
  The reader as a whole: what a step leaves of it, block by block; an Array or a Map opened.
  The reader as a whole: a whole value put among the kids of what is innermost.
  A whole value put where nothing is open: it is the text's.
  The reader as a whole: a whole value is put, wherever it belongs.
  The reader as a whole: what is innermost has ended: it is a whole value, and nobody writes to it any more.
  The innermost of what is open has ended: jread.reader.end, as far as the put.
-/
import Derived.Test.YtmlacmoembjeoaaGreatDoorG15
import Derived.Test.YtmlacmoembjeoaaGreatDoorG14
namespace Go.Proofs.YtmlacmoembjeoaaGreatDoor
open Go.RowKit
set_option linter.unusedVariables false
def kindT (k n : Int) : Tr := ⟨k, n, false, ⟨#[]⟩, 0, ⟨#[]⟩, [], [], []⟩
/-- The node that a token begins, and what is wrong with it. -/
def nodeA (k : Nat) (s : ByteArray) : Tr × Int := if k = 1 then (kindT 8 0, 0) else if k = 3 then (kindT 7 0, 0) else if k = 7 then (txtT s, 0) else if k = 8 then numA s else if k = 9 then (kindT 1 1, 0) else if k = 10 then (kindT 1 0, 0) else (kindT 0 0, 0)
set_option maxHeartbeats 2000000 in
set_option maxRecDepth 100000 in
theorem nd1 (k : Nat) (f t : Int) (s : ByteArray) (w : World) (h : k = 1) : Calls Tryz.prog 39 #[.agg #[.int .i64 (k : Int), .int .i64 f, .int .i64 t, .string s]] w fun e w' => e = .returned (.tuple #[.agg (leafN (kindT 8 0)).arr, .int .i64 0]) ∧ Below w.heap.size w w' := by
  have A1 := alloc_below w (.cells #[.int .i64 (k : Int), .int .i64 f, .int .i64 t, .string s] 40)
  have A2 := alloc_below (w.alloc (.cells #[.int .i64 (k : Int), .int .i64 f, .int .i64 t, .string s] 40)) (.cells #[.int .i64 0, .int .u64 0, .bool false, .string ⟨#[]⟩, .int .i64 0, .string ⟨#[]⟩, .slice none 0 0, .slice none 0 0, .slice none 0 0] 26)
  have T1 := tk_box w (.int .i64 (k : Int)) (.int .i64 f) (.int .i64 t) (.string s)
  have N2 : NBox ((w.alloc (.cells #[.int .i64 (k : Int), .int .i64 f, .int .i64 t, .string s] 40)).alloc (.cells #[.int .i64 0, .int .u64 0, .bool false, .string ⟨#[]⟩, .int .i64 0, .string ⟨#[]⟩, .slice none 0 0, .slice none 0 0, .slice none 0 0] 26)) (w.heap.size + 1) zN := two_box w _ zN
  have T2 : Blk ((w.alloc (.cells #[.int .i64 (k : Int), .int .i64 f, .int .i64 t, .string s] 40)).alloc (.cells #[.int .i64 0, .int .u64 0, .bool false, .string ⟨#[]⟩, .int .i64 0, .string ⟨#[]⟩, .slice none 0 0, .slice none 0 0, .slice none 0 0] 26)) w.heap.size #[.int .i64 (k : Int), .int .i64 f, .int .i64 t, .string s] 40 := (blk_new w _ _).kept A2 (alloc_lt _ _)
  have c0 : ((w.alloc (.cells #[.int .i64 (k : Int), .int .i64 f, .int .i64 t, .string s] 40)).alloc (.cells #[.int .i64 0, .int .u64 0, .bool false, .string ⟨#[]⟩, .int .i64 0, .string ⟨#[]⟩, .slice none 0 0, .slice none 0 0, .slice none 0 0] 26)).cell? ⟨w.heap.size, 0, none⟩ = some (.int .i64 (k : Int)) := T2.cell 0
  have c1 : ((w.alloc (.cells #[.int .i64 (k : Int), .int .i64 f, .int .i64 t, .string s] 40)).alloc (.cells #[.int .i64 0, .int .u64 0, .bool false, .string ⟨#[]⟩, .int .i64 0, .string ⟨#[]⟩, .slice none 0 0, .slice none 0 0, .slice none 0 0] 26)).cell? ⟨w.heap.size, 1, none⟩ = some (.int .i64 f) := T2.cell 1
  have c2 : ((w.alloc (.cells #[.int .i64 (k : Int), .int .i64 f, .int .i64 t, .string s] 40)).alloc (.cells #[.int .i64 0, .int .u64 0, .bool false, .string ⟨#[]⟩, .int .i64 0, .string ⟨#[]⟩, .slice none 0 0, .slice none 0 0, .slice none 0 0] 26)).cell? ⟨w.heap.size, 2, none⟩ = some (.int .i64 t) := T2.cell 2
  have c3 : ((w.alloc (.cells #[.int .i64 (k : Int), .int .i64 f, .int .i64 t, .string s] 40)).alloc (.cells #[.int .i64 0, .int .u64 0, .bool false, .string ⟨#[]⟩, .int .i64 0, .string ⟨#[]⟩, .slice none 0 0, .slice none 0 0, .slice none 0 0] 26)).cell? ⟨w.heap.size, 3, none⟩ = some (.string s) := T2.cell 3
  have B2 : Hid (Below w.heap.size w ((w.alloc (.cells #[.int .i64 (k : Int), .int .i64 f, .int .i64 t, .string s] 40)).alloc (.cells #[.int .i64 0, .int .u64 0, .bool false, .string ⟨#[]⟩, .int .i64 0, .string ⟨#[]⟩, .slice none 0 0, .slice none 0 0, .slice none 0 0] 26))) := A1.trans (A2.mono A1.size)
  have N2' : Hid (NBox ((w.alloc (.cells #[.int .i64 (k : Int), .int .i64 f, .int .i64 t, .string s] 40)).alloc (.cells #[.int .i64 0, .int .u64 0, .bool false, .string ⟨#[]⟩, .int .i64 0, .string ⟨#[]⟩, .slice none 0 0, .slice none 0 0, .slice none 0 0] 26)) (w.heap.size + 1) zN) := N2
  clear A1 A2 T1 N2 T2
  have e1 : ((k : Int) == 1) = true := by simp; omega
  clear h
  go_enter Tryz.func39, Tryz.ntmps39
  go_wp2
  refine bodyPost_ret (v := .tuple #[.agg (leafN (kindT 8 0)).arr, .int .i64 0]) (by simp [results, Tryz.results39, go_sem, leafN, kindT, Nb.arr]) rfl ⟨rfl, ?_⟩
  exact two_below
set_option maxHeartbeats 2000000 in
set_option maxRecDepth 100000 in
theorem nd3 (k : Nat) (f t : Int) (s : ByteArray) (w : World) (h : k = 3) : Calls Tryz.prog 39 #[.agg #[.int .i64 (k : Int), .int .i64 f, .int .i64 t, .string s]] w fun e w' => e = .returned (.tuple #[.agg (leafN (kindT 7 0)).arr, .int .i64 0]) ∧ Below w.heap.size w w' := by
  have A1 := alloc_below w (.cells #[.int .i64 (k : Int), .int .i64 f, .int .i64 t, .string s] 40)
  have A2 := alloc_below (w.alloc (.cells #[.int .i64 (k : Int), .int .i64 f, .int .i64 t, .string s] 40)) (.cells #[.int .i64 0, .int .u64 0, .bool false, .string ⟨#[]⟩, .int .i64 0, .string ⟨#[]⟩, .slice none 0 0, .slice none 0 0, .slice none 0 0] 26)
  have T1 := tk_box w (.int .i64 (k : Int)) (.int .i64 f) (.int .i64 t) (.string s)
  have N2 : NBox ((w.alloc (.cells #[.int .i64 (k : Int), .int .i64 f, .int .i64 t, .string s] 40)).alloc (.cells #[.int .i64 0, .int .u64 0, .bool false, .string ⟨#[]⟩, .int .i64 0, .string ⟨#[]⟩, .slice none 0 0, .slice none 0 0, .slice none 0 0] 26)) (w.heap.size + 1) zN := two_box w _ zN
  have T2 : Blk ((w.alloc (.cells #[.int .i64 (k : Int), .int .i64 f, .int .i64 t, .string s] 40)).alloc (.cells #[.int .i64 0, .int .u64 0, .bool false, .string ⟨#[]⟩, .int .i64 0, .string ⟨#[]⟩, .slice none 0 0, .slice none 0 0, .slice none 0 0] 26)) w.heap.size #[.int .i64 (k : Int), .int .i64 f, .int .i64 t, .string s] 40 := (blk_new w _ _).kept A2 (alloc_lt _ _)
  have c0 : ((w.alloc (.cells #[.int .i64 (k : Int), .int .i64 f, .int .i64 t, .string s] 40)).alloc (.cells #[.int .i64 0, .int .u64 0, .bool false, .string ⟨#[]⟩, .int .i64 0, .string ⟨#[]⟩, .slice none 0 0, .slice none 0 0, .slice none 0 0] 26)).cell? ⟨w.heap.size, 0, none⟩ = some (.int .i64 (k : Int)) := T2.cell 0
  have c1 : ((w.alloc (.cells #[.int .i64 (k : Int), .int .i64 f, .int .i64 t, .string s] 40)).alloc (.cells #[.int .i64 0, .int .u64 0, .bool false, .string ⟨#[]⟩, .int .i64 0, .string ⟨#[]⟩, .slice none 0 0, .slice none 0 0, .slice none 0 0] 26)).cell? ⟨w.heap.size, 1, none⟩ = some (.int .i64 f) := T2.cell 1
  have c2 : ((w.alloc (.cells #[.int .i64 (k : Int), .int .i64 f, .int .i64 t, .string s] 40)).alloc (.cells #[.int .i64 0, .int .u64 0, .bool false, .string ⟨#[]⟩, .int .i64 0, .string ⟨#[]⟩, .slice none 0 0, .slice none 0 0, .slice none 0 0] 26)).cell? ⟨w.heap.size, 2, none⟩ = some (.int .i64 t) := T2.cell 2
  have c3 : ((w.alloc (.cells #[.int .i64 (k : Int), .int .i64 f, .int .i64 t, .string s] 40)).alloc (.cells #[.int .i64 0, .int .u64 0, .bool false, .string ⟨#[]⟩, .int .i64 0, .string ⟨#[]⟩, .slice none 0 0, .slice none 0 0, .slice none 0 0] 26)).cell? ⟨w.heap.size, 3, none⟩ = some (.string s) := T2.cell 3
  have B2 : Hid (Below w.heap.size w ((w.alloc (.cells #[.int .i64 (k : Int), .int .i64 f, .int .i64 t, .string s] 40)).alloc (.cells #[.int .i64 0, .int .u64 0, .bool false, .string ⟨#[]⟩, .int .i64 0, .string ⟨#[]⟩, .slice none 0 0, .slice none 0 0, .slice none 0 0] 26))) := A1.trans (A2.mono A1.size)
  have N2' : Hid (NBox ((w.alloc (.cells #[.int .i64 (k : Int), .int .i64 f, .int .i64 t, .string s] 40)).alloc (.cells #[.int .i64 0, .int .u64 0, .bool false, .string ⟨#[]⟩, .int .i64 0, .string ⟨#[]⟩, .slice none 0 0, .slice none 0 0, .slice none 0 0] 26)) (w.heap.size + 1) zN) := N2
  clear A1 A2 T1 N2 T2
  have e1 : ((k : Int) == 1) = false := by simp; omega
  have e3 : ((k : Int) == 3) = true := by simp; omega
  clear h
  go_enter Tryz.func39, Tryz.ntmps39
  go_wp2
  refine bodyPost_ret (v := .tuple #[.agg (leafN (kindT 7 0)).arr, .int .i64 0]) (by simp [results, Tryz.results39, go_sem, leafN, kindT, Nb.arr]) rfl ⟨rfl, ?_⟩
  exact two_below
set_option maxHeartbeats 2000000 in
set_option maxRecDepth 100000 in
theorem nd9 (k : Nat) (f t : Int) (s : ByteArray) (w : World) (h : k = 9) : Calls Tryz.prog 39 #[.agg #[.int .i64 (k : Int), .int .i64 f, .int .i64 t, .string s]] w fun e w' => e = .returned (.tuple #[.agg (leafN (kindT 1 1)).arr, .int .i64 0]) ∧ Below w.heap.size w w' := by
  have A1 := alloc_below w (.cells #[.int .i64 (k : Int), .int .i64 f, .int .i64 t, .string s] 40)
  have A2 := alloc_below (w.alloc (.cells #[.int .i64 (k : Int), .int .i64 f, .int .i64 t, .string s] 40)) (.cells #[.int .i64 0, .int .u64 0, .bool false, .string ⟨#[]⟩, .int .i64 0, .string ⟨#[]⟩, .slice none 0 0, .slice none 0 0, .slice none 0 0] 26)
  have T1 := tk_box w (.int .i64 (k : Int)) (.int .i64 f) (.int .i64 t) (.string s)
  have N2 : NBox ((w.alloc (.cells #[.int .i64 (k : Int), .int .i64 f, .int .i64 t, .string s] 40)).alloc (.cells #[.int .i64 0, .int .u64 0, .bool false, .string ⟨#[]⟩, .int .i64 0, .string ⟨#[]⟩, .slice none 0 0, .slice none 0 0, .slice none 0 0] 26)) (w.heap.size + 1) zN := two_box w _ zN
  have T2 : Blk ((w.alloc (.cells #[.int .i64 (k : Int), .int .i64 f, .int .i64 t, .string s] 40)).alloc (.cells #[.int .i64 0, .int .u64 0, .bool false, .string ⟨#[]⟩, .int .i64 0, .string ⟨#[]⟩, .slice none 0 0, .slice none 0 0, .slice none 0 0] 26)) w.heap.size #[.int .i64 (k : Int), .int .i64 f, .int .i64 t, .string s] 40 := (blk_new w _ _).kept A2 (alloc_lt _ _)
  have c0 : ((w.alloc (.cells #[.int .i64 (k : Int), .int .i64 f, .int .i64 t, .string s] 40)).alloc (.cells #[.int .i64 0, .int .u64 0, .bool false, .string ⟨#[]⟩, .int .i64 0, .string ⟨#[]⟩, .slice none 0 0, .slice none 0 0, .slice none 0 0] 26)).cell? ⟨w.heap.size, 0, none⟩ = some (.int .i64 (k : Int)) := T2.cell 0
  have c1 : ((w.alloc (.cells #[.int .i64 (k : Int), .int .i64 f, .int .i64 t, .string s] 40)).alloc (.cells #[.int .i64 0, .int .u64 0, .bool false, .string ⟨#[]⟩, .int .i64 0, .string ⟨#[]⟩, .slice none 0 0, .slice none 0 0, .slice none 0 0] 26)).cell? ⟨w.heap.size, 1, none⟩ = some (.int .i64 f) := T2.cell 1
  have c2 : ((w.alloc (.cells #[.int .i64 (k : Int), .int .i64 f, .int .i64 t, .string s] 40)).alloc (.cells #[.int .i64 0, .int .u64 0, .bool false, .string ⟨#[]⟩, .int .i64 0, .string ⟨#[]⟩, .slice none 0 0, .slice none 0 0, .slice none 0 0] 26)).cell? ⟨w.heap.size, 2, none⟩ = some (.int .i64 t) := T2.cell 2
  have c3 : ((w.alloc (.cells #[.int .i64 (k : Int), .int .i64 f, .int .i64 t, .string s] 40)).alloc (.cells #[.int .i64 0, .int .u64 0, .bool false, .string ⟨#[]⟩, .int .i64 0, .string ⟨#[]⟩, .slice none 0 0, .slice none 0 0, .slice none 0 0] 26)).cell? ⟨w.heap.size, 3, none⟩ = some (.string s) := T2.cell 3
  have B2 : Hid (Below w.heap.size w ((w.alloc (.cells #[.int .i64 (k : Int), .int .i64 f, .int .i64 t, .string s] 40)).alloc (.cells #[.int .i64 0, .int .u64 0, .bool false, .string ⟨#[]⟩, .int .i64 0, .string ⟨#[]⟩, .slice none 0 0, .slice none 0 0, .slice none 0 0] 26))) := A1.trans (A2.mono A1.size)
  have N2' : Hid (NBox ((w.alloc (.cells #[.int .i64 (k : Int), .int .i64 f, .int .i64 t, .string s] 40)).alloc (.cells #[.int .i64 0, .int .u64 0, .bool false, .string ⟨#[]⟩, .int .i64 0, .string ⟨#[]⟩, .slice none 0 0, .slice none 0 0, .slice none 0 0] 26)) (w.heap.size + 1) zN) := N2
  clear A1 A2 T1 N2 T2
  have e1 : ((k : Int) == 1) = false := by simp; omega
  have e3 : ((k : Int) == 3) = false := by simp; omega
  have e7 : ((k : Int) == 7) = false := by simp; omega
  have e8 : ((k : Int) == 8) = false := by simp; omega
  have e9 : ((k : Int) == 9) = true := by simp; omega
  clear h
  go_enter Tryz.func39, Tryz.ntmps39
  go_wp2
  refine bodyPost_ret (v := .tuple #[.agg (leafN (kindT 1 1)).arr, .int .i64 0]) (by simp [results, Tryz.results39, go_sem, leafN, kindT, Nb.arr]) rfl ⟨rfl, ?_⟩
  exact two_below
set_option maxHeartbeats 2000000 in
set_option maxRecDepth 100000 in
theorem nd10 (k : Nat) (f t : Int) (s : ByteArray) (w : World) (h : k = 10) : Calls Tryz.prog 39 #[.agg #[.int .i64 (k : Int), .int .i64 f, .int .i64 t, .string s]] w fun e w' => e = .returned (.tuple #[.agg (leafN (kindT 1 0)).arr, .int .i64 0]) ∧ Below w.heap.size w w' := by
  have A1 := alloc_below w (.cells #[.int .i64 (k : Int), .int .i64 f, .int .i64 t, .string s] 40)
  have A2 := alloc_below (w.alloc (.cells #[.int .i64 (k : Int), .int .i64 f, .int .i64 t, .string s] 40)) (.cells #[.int .i64 0, .int .u64 0, .bool false, .string ⟨#[]⟩, .int .i64 0, .string ⟨#[]⟩, .slice none 0 0, .slice none 0 0, .slice none 0 0] 26)
  have T1 := tk_box w (.int .i64 (k : Int)) (.int .i64 f) (.int .i64 t) (.string s)
  have N2 : NBox ((w.alloc (.cells #[.int .i64 (k : Int), .int .i64 f, .int .i64 t, .string s] 40)).alloc (.cells #[.int .i64 0, .int .u64 0, .bool false, .string ⟨#[]⟩, .int .i64 0, .string ⟨#[]⟩, .slice none 0 0, .slice none 0 0, .slice none 0 0] 26)) (w.heap.size + 1) zN := two_box w _ zN
  have T2 : Blk ((w.alloc (.cells #[.int .i64 (k : Int), .int .i64 f, .int .i64 t, .string s] 40)).alloc (.cells #[.int .i64 0, .int .u64 0, .bool false, .string ⟨#[]⟩, .int .i64 0, .string ⟨#[]⟩, .slice none 0 0, .slice none 0 0, .slice none 0 0] 26)) w.heap.size #[.int .i64 (k : Int), .int .i64 f, .int .i64 t, .string s] 40 := (blk_new w _ _).kept A2 (alloc_lt _ _)
  have c0 : ((w.alloc (.cells #[.int .i64 (k : Int), .int .i64 f, .int .i64 t, .string s] 40)).alloc (.cells #[.int .i64 0, .int .u64 0, .bool false, .string ⟨#[]⟩, .int .i64 0, .string ⟨#[]⟩, .slice none 0 0, .slice none 0 0, .slice none 0 0] 26)).cell? ⟨w.heap.size, 0, none⟩ = some (.int .i64 (k : Int)) := T2.cell 0
  have c1 : ((w.alloc (.cells #[.int .i64 (k : Int), .int .i64 f, .int .i64 t, .string s] 40)).alloc (.cells #[.int .i64 0, .int .u64 0, .bool false, .string ⟨#[]⟩, .int .i64 0, .string ⟨#[]⟩, .slice none 0 0, .slice none 0 0, .slice none 0 0] 26)).cell? ⟨w.heap.size, 1, none⟩ = some (.int .i64 f) := T2.cell 1
  have c2 : ((w.alloc (.cells #[.int .i64 (k : Int), .int .i64 f, .int .i64 t, .string s] 40)).alloc (.cells #[.int .i64 0, .int .u64 0, .bool false, .string ⟨#[]⟩, .int .i64 0, .string ⟨#[]⟩, .slice none 0 0, .slice none 0 0, .slice none 0 0] 26)).cell? ⟨w.heap.size, 2, none⟩ = some (.int .i64 t) := T2.cell 2
  have c3 : ((w.alloc (.cells #[.int .i64 (k : Int), .int .i64 f, .int .i64 t, .string s] 40)).alloc (.cells #[.int .i64 0, .int .u64 0, .bool false, .string ⟨#[]⟩, .int .i64 0, .string ⟨#[]⟩, .slice none 0 0, .slice none 0 0, .slice none 0 0] 26)).cell? ⟨w.heap.size, 3, none⟩ = some (.string s) := T2.cell 3
  have B2 : Hid (Below w.heap.size w ((w.alloc (.cells #[.int .i64 (k : Int), .int .i64 f, .int .i64 t, .string s] 40)).alloc (.cells #[.int .i64 0, .int .u64 0, .bool false, .string ⟨#[]⟩, .int .i64 0, .string ⟨#[]⟩, .slice none 0 0, .slice none 0 0, .slice none 0 0] 26))) := A1.trans (A2.mono A1.size)
  have N2' : Hid (NBox ((w.alloc (.cells #[.int .i64 (k : Int), .int .i64 f, .int .i64 t, .string s] 40)).alloc (.cells #[.int .i64 0, .int .u64 0, .bool false, .string ⟨#[]⟩, .int .i64 0, .string ⟨#[]⟩, .slice none 0 0, .slice none 0 0, .slice none 0 0] 26)) (w.heap.size + 1) zN) := N2
  clear A1 A2 T1 N2 T2
  have e1 : ((k : Int) == 1) = false := by simp; omega
  have e3 : ((k : Int) == 3) = false := by simp; omega
  have e7 : ((k : Int) == 7) = false := by simp; omega
  have e8 : ((k : Int) == 8) = false := by simp; omega
  have e9 : ((k : Int) == 9) = false := by simp; omega
  have e10 : ((k : Int) == 10) = true := by simp; omega
  clear h
  go_enter Tryz.func39, Tryz.ntmps39
  go_wp2
  refine bodyPost_ret (v := .tuple #[.agg (leafN (kindT 1 0)).arr, .int .i64 0]) (by simp [results, Tryz.results39, go_sem, leafN, kindT, Nb.arr]) rfl ⟨rfl, ?_⟩
  exact two_below
set_option maxHeartbeats 2000000 in
set_option maxRecDepth 100000 in
theorem nd0 (k : Nat) (f t : Int) (s : ByteArray) (w : World) (h : k ≠ 1 ∧ k ≠ 3 ∧ k ≠ 7 ∧ k ≠ 8 ∧ k ≠ 9 ∧ k ≠ 10) : Calls Tryz.prog 39 #[.agg #[.int .i64 (k : Int), .int .i64 f, .int .i64 t, .string s]] w fun e w' => e = .returned (.tuple #[.agg (leafN (kindT 0 0)).arr, .int .i64 0]) ∧ Below w.heap.size w w' := by
  have A1 := alloc_below w (.cells #[.int .i64 (k : Int), .int .i64 f, .int .i64 t, .string s] 40)
  have A2 := alloc_below (w.alloc (.cells #[.int .i64 (k : Int), .int .i64 f, .int .i64 t, .string s] 40)) (.cells #[.int .i64 0, .int .u64 0, .bool false, .string ⟨#[]⟩, .int .i64 0, .string ⟨#[]⟩, .slice none 0 0, .slice none 0 0, .slice none 0 0] 26)
  have T1 := tk_box w (.int .i64 (k : Int)) (.int .i64 f) (.int .i64 t) (.string s)
  have N2 : NBox ((w.alloc (.cells #[.int .i64 (k : Int), .int .i64 f, .int .i64 t, .string s] 40)).alloc (.cells #[.int .i64 0, .int .u64 0, .bool false, .string ⟨#[]⟩, .int .i64 0, .string ⟨#[]⟩, .slice none 0 0, .slice none 0 0, .slice none 0 0] 26)) (w.heap.size + 1) zN := two_box w _ zN
  have T2 : Blk ((w.alloc (.cells #[.int .i64 (k : Int), .int .i64 f, .int .i64 t, .string s] 40)).alloc (.cells #[.int .i64 0, .int .u64 0, .bool false, .string ⟨#[]⟩, .int .i64 0, .string ⟨#[]⟩, .slice none 0 0, .slice none 0 0, .slice none 0 0] 26)) w.heap.size #[.int .i64 (k : Int), .int .i64 f, .int .i64 t, .string s] 40 := (blk_new w _ _).kept A2 (alloc_lt _ _)
  have c0 : ((w.alloc (.cells #[.int .i64 (k : Int), .int .i64 f, .int .i64 t, .string s] 40)).alloc (.cells #[.int .i64 0, .int .u64 0, .bool false, .string ⟨#[]⟩, .int .i64 0, .string ⟨#[]⟩, .slice none 0 0, .slice none 0 0, .slice none 0 0] 26)).cell? ⟨w.heap.size, 0, none⟩ = some (.int .i64 (k : Int)) := T2.cell 0
  have c1 : ((w.alloc (.cells #[.int .i64 (k : Int), .int .i64 f, .int .i64 t, .string s] 40)).alloc (.cells #[.int .i64 0, .int .u64 0, .bool false, .string ⟨#[]⟩, .int .i64 0, .string ⟨#[]⟩, .slice none 0 0, .slice none 0 0, .slice none 0 0] 26)).cell? ⟨w.heap.size, 1, none⟩ = some (.int .i64 f) := T2.cell 1
  have c2 : ((w.alloc (.cells #[.int .i64 (k : Int), .int .i64 f, .int .i64 t, .string s] 40)).alloc (.cells #[.int .i64 0, .int .u64 0, .bool false, .string ⟨#[]⟩, .int .i64 0, .string ⟨#[]⟩, .slice none 0 0, .slice none 0 0, .slice none 0 0] 26)).cell? ⟨w.heap.size, 2, none⟩ = some (.int .i64 t) := T2.cell 2
  have c3 : ((w.alloc (.cells #[.int .i64 (k : Int), .int .i64 f, .int .i64 t, .string s] 40)).alloc (.cells #[.int .i64 0, .int .u64 0, .bool false, .string ⟨#[]⟩, .int .i64 0, .string ⟨#[]⟩, .slice none 0 0, .slice none 0 0, .slice none 0 0] 26)).cell? ⟨w.heap.size, 3, none⟩ = some (.string s) := T2.cell 3
  have B2 : Hid (Below w.heap.size w ((w.alloc (.cells #[.int .i64 (k : Int), .int .i64 f, .int .i64 t, .string s] 40)).alloc (.cells #[.int .i64 0, .int .u64 0, .bool false, .string ⟨#[]⟩, .int .i64 0, .string ⟨#[]⟩, .slice none 0 0, .slice none 0 0, .slice none 0 0] 26))) := A1.trans (A2.mono A1.size)
  have N2' : Hid (NBox ((w.alloc (.cells #[.int .i64 (k : Int), .int .i64 f, .int .i64 t, .string s] 40)).alloc (.cells #[.int .i64 0, .int .u64 0, .bool false, .string ⟨#[]⟩, .int .i64 0, .string ⟨#[]⟩, .slice none 0 0, .slice none 0 0, .slice none 0 0] 26)) (w.heap.size + 1) zN) := N2
  clear A1 A2 T1 N2 T2
  have e1 : ((k : Int) == 1) = false := by simp; omega
  have e3 : ((k : Int) == 3) = false := by simp; omega
  have e7 : ((k : Int) == 7) = false := by simp; omega
  have e8 : ((k : Int) == 8) = false := by simp; omega
  have e9 : ((k : Int) == 9) = false := by simp; omega
  have e10 : ((k : Int) == 10) = false := by simp; omega
  clear h
  go_enter Tryz.func39, Tryz.ntmps39
  go_wp2
  refine bodyPost_ret (v := .tuple #[.agg (leafN (kindT 0 0)).arr, .int .i64 0]) (by simp [results, Tryz.results39, go_sem, leafN, kindT, Nb.arr]) rfl ⟨rfl, ?_⟩
  exact two_below
set_option maxHeartbeats 2000000 in
set_option maxRecDepth 100000 in
theorem nd7 (k : Nat) (f t : Int) (s : ByteArray) (w : World) (h : k = 7) : Calls Tryz.prog 39 #[.agg #[.int .i64 (k : Int), .int .i64 f, .int .i64 t, .string s]] w fun e w' => e = .returned (.tuple #[.agg (leafN (txtT s)).arr, .int .i64 0]) ∧ Below w.heap.size w w' := by
  have A1 := alloc_below w (.cells #[.int .i64 (k : Int), .int .i64 f, .int .i64 t, .string s] 40)
  have A2 := alloc_below (w.alloc (.cells #[.int .i64 (k : Int), .int .i64 f, .int .i64 t, .string s] 40)) (.cells #[.int .i64 0, .int .u64 0, .bool false, .string ⟨#[]⟩, .int .i64 0, .string ⟨#[]⟩, .slice none 0 0, .slice none 0 0, .slice none 0 0] 26)
  have T1 := tk_box w (.int .i64 (k : Int)) (.int .i64 f) (.int .i64 t) (.string s)
  have N2 : NBox ((w.alloc (.cells #[.int .i64 (k : Int), .int .i64 f, .int .i64 t, .string s] 40)).alloc (.cells #[.int .i64 0, .int .u64 0, .bool false, .string ⟨#[]⟩, .int .i64 0, .string ⟨#[]⟩, .slice none 0 0, .slice none 0 0, .slice none 0 0] 26)) (w.heap.size + 1) zN := two_box w _ zN
  have T2 : Blk ((w.alloc (.cells #[.int .i64 (k : Int), .int .i64 f, .int .i64 t, .string s] 40)).alloc (.cells #[.int .i64 0, .int .u64 0, .bool false, .string ⟨#[]⟩, .int .i64 0, .string ⟨#[]⟩, .slice none 0 0, .slice none 0 0, .slice none 0 0] 26)) w.heap.size #[.int .i64 (k : Int), .int .i64 f, .int .i64 t, .string s] 40 := (blk_new w _ _).kept A2 (alloc_lt _ _)
  have c0 : ((w.alloc (.cells #[.int .i64 (k : Int), .int .i64 f, .int .i64 t, .string s] 40)).alloc (.cells #[.int .i64 0, .int .u64 0, .bool false, .string ⟨#[]⟩, .int .i64 0, .string ⟨#[]⟩, .slice none 0 0, .slice none 0 0, .slice none 0 0] 26)).cell? ⟨w.heap.size, 0, none⟩ = some (.int .i64 (k : Int)) := T2.cell 0
  have c1 : ((w.alloc (.cells #[.int .i64 (k : Int), .int .i64 f, .int .i64 t, .string s] 40)).alloc (.cells #[.int .i64 0, .int .u64 0, .bool false, .string ⟨#[]⟩, .int .i64 0, .string ⟨#[]⟩, .slice none 0 0, .slice none 0 0, .slice none 0 0] 26)).cell? ⟨w.heap.size, 1, none⟩ = some (.int .i64 f) := T2.cell 1
  have c2 : ((w.alloc (.cells #[.int .i64 (k : Int), .int .i64 f, .int .i64 t, .string s] 40)).alloc (.cells #[.int .i64 0, .int .u64 0, .bool false, .string ⟨#[]⟩, .int .i64 0, .string ⟨#[]⟩, .slice none 0 0, .slice none 0 0, .slice none 0 0] 26)).cell? ⟨w.heap.size, 2, none⟩ = some (.int .i64 t) := T2.cell 2
  have c3 : ((w.alloc (.cells #[.int .i64 (k : Int), .int .i64 f, .int .i64 t, .string s] 40)).alloc (.cells #[.int .i64 0, .int .u64 0, .bool false, .string ⟨#[]⟩, .int .i64 0, .string ⟨#[]⟩, .slice none 0 0, .slice none 0 0, .slice none 0 0] 26)).cell? ⟨w.heap.size, 3, none⟩ = some (.string s) := T2.cell 3
  have B2 : Hid (Below w.heap.size w ((w.alloc (.cells #[.int .i64 (k : Int), .int .i64 f, .int .i64 t, .string s] 40)).alloc (.cells #[.int .i64 0, .int .u64 0, .bool false, .string ⟨#[]⟩, .int .i64 0, .string ⟨#[]⟩, .slice none 0 0, .slice none 0 0, .slice none 0 0] 26))) := A1.trans (A2.mono A1.size)
  have N2' : Hid (NBox ((w.alloc (.cells #[.int .i64 (k : Int), .int .i64 f, .int .i64 t, .string s] 40)).alloc (.cells #[.int .i64 0, .int .u64 0, .bool false, .string ⟨#[]⟩, .int .i64 0, .string ⟨#[]⟩, .slice none 0 0, .slice none 0 0, .slice none 0 0] 26)) (w.heap.size + 1) zN) := N2
  clear A1 A2 T1 N2 T2
  have e1 : ((k : Int) == 1) = false := by simp; omega
  have e3 : ((k : Int) == 3) = false := by simp; omega
  have e7 : ((k : Int) == 7) = true := by simp; omega
  have kT := txt_any (k : Int) f t s ((w.alloc (.cells #[.int .i64 (k : Int), .int .i64 f, .int .i64 t, .string s] 40)).alloc (.cells #[.int .i64 0, .int .u64 0, .bool false, .string ⟨#[]⟩, .int .i64 0, .string ⟨#[]⟩, .slice none 0 0, .slice none 0 0, .slice none 0 0] 26))
  clear h
  go_enter Tryz.func39, Tryz.ntmps39
  go_wp2_with (go_at_call 63; refine kT.mono ?_; rintro e w1 ⟨he, hb1⟩; rw [Nb.arr] at he; subst he; have N4 : Hid (NBox w1 (w.heap.size + 1) zN) := N2'.out.kept hb1 N2'.out.lt; have B4 : Hid (Below w.heap.size w w1) := B2.out.trans (hb1.mono B2.out.size); have z0 := N4.out.fz 0; have z1 := N4.out.fz 1; have z2 := N4.out.fz 2; have z3 := N4.out.fz 3; have z4 := N4.out.fz 4; have z5 := N4.out.fz 5; have z6 := N4.out.fz 6; have z7 := N4.out.fz 7; have z8 := N4.out.fz 8; obtain ⟨m0, m1, m2, m3, m4, m5, m6, m7, m8⟩ := N4.out.fields; clear hb1)
  have x9 := nbox_put N4.out (leafN (txtT s))
  obtain ⟨u0, u1, u2, u3, u4, u5, u6, u7, u8⟩ := x9.1.fields
  refine bodyPost_ret (v := .tuple #[.agg (leafN (txtT s)).arr, .int .i64 0]) (by simp [results, Tryz.results39, go_sem, leafN, txtT, Nb.arr] at *; simp [go_sem, u0, u1, u2, u3, u4, u5, u6, u7, u8]) rfl ⟨rfl, ?_⟩
  exact B4.out.trans (x9.2.below B4.out.size fun k hk => by omega)
set_option maxHeartbeats 2000000 in
set_option maxRecDepth 100000 in
theorem nd8 (k : Nat) (f t : Int) (s : ByteArray) (w : World) (h : k = 8) : Calls Tryz.prog 39 #[.agg #[.int .i64 (k : Int), .int .i64 f, .int .i64 t, .string s]] w fun e w' => e = .returned (.tuple #[.agg (leafN (numA s).1).arr, .int .i64 (numA s).2]) ∧ Below w.heap.size w w' := by
  have A1 := alloc_below w (.cells #[.int .i64 (k : Int), .int .i64 f, .int .i64 t, .string s] 40)
  have A2 := alloc_below (w.alloc (.cells #[.int .i64 (k : Int), .int .i64 f, .int .i64 t, .string s] 40)) (.cells #[.int .i64 0, .int .u64 0, .bool false, .string ⟨#[]⟩, .int .i64 0, .string ⟨#[]⟩, .slice none 0 0, .slice none 0 0, .slice none 0 0] 26)
  have T1 := tk_box w (.int .i64 (k : Int)) (.int .i64 f) (.int .i64 t) (.string s)
  have N2 : NBox ((w.alloc (.cells #[.int .i64 (k : Int), .int .i64 f, .int .i64 t, .string s] 40)).alloc (.cells #[.int .i64 0, .int .u64 0, .bool false, .string ⟨#[]⟩, .int .i64 0, .string ⟨#[]⟩, .slice none 0 0, .slice none 0 0, .slice none 0 0] 26)) (w.heap.size + 1) zN := two_box w _ zN
  have T2 : Blk ((w.alloc (.cells #[.int .i64 (k : Int), .int .i64 f, .int .i64 t, .string s] 40)).alloc (.cells #[.int .i64 0, .int .u64 0, .bool false, .string ⟨#[]⟩, .int .i64 0, .string ⟨#[]⟩, .slice none 0 0, .slice none 0 0, .slice none 0 0] 26)) w.heap.size #[.int .i64 (k : Int), .int .i64 f, .int .i64 t, .string s] 40 := (blk_new w _ _).kept A2 (alloc_lt _ _)
  have c0 : ((w.alloc (.cells #[.int .i64 (k : Int), .int .i64 f, .int .i64 t, .string s] 40)).alloc (.cells #[.int .i64 0, .int .u64 0, .bool false, .string ⟨#[]⟩, .int .i64 0, .string ⟨#[]⟩, .slice none 0 0, .slice none 0 0, .slice none 0 0] 26)).cell? ⟨w.heap.size, 0, none⟩ = some (.int .i64 (k : Int)) := T2.cell 0
  have c1 : ((w.alloc (.cells #[.int .i64 (k : Int), .int .i64 f, .int .i64 t, .string s] 40)).alloc (.cells #[.int .i64 0, .int .u64 0, .bool false, .string ⟨#[]⟩, .int .i64 0, .string ⟨#[]⟩, .slice none 0 0, .slice none 0 0, .slice none 0 0] 26)).cell? ⟨w.heap.size, 1, none⟩ = some (.int .i64 f) := T2.cell 1
  have c2 : ((w.alloc (.cells #[.int .i64 (k : Int), .int .i64 f, .int .i64 t, .string s] 40)).alloc (.cells #[.int .i64 0, .int .u64 0, .bool false, .string ⟨#[]⟩, .int .i64 0, .string ⟨#[]⟩, .slice none 0 0, .slice none 0 0, .slice none 0 0] 26)).cell? ⟨w.heap.size, 2, none⟩ = some (.int .i64 t) := T2.cell 2
  have c3 : ((w.alloc (.cells #[.int .i64 (k : Int), .int .i64 f, .int .i64 t, .string s] 40)).alloc (.cells #[.int .i64 0, .int .u64 0, .bool false, .string ⟨#[]⟩, .int .i64 0, .string ⟨#[]⟩, .slice none 0 0, .slice none 0 0, .slice none 0 0] 26)).cell? ⟨w.heap.size, 3, none⟩ = some (.string s) := T2.cell 3
  have B2 : Hid (Below w.heap.size w ((w.alloc (.cells #[.int .i64 (k : Int), .int .i64 f, .int .i64 t, .string s] 40)).alloc (.cells #[.int .i64 0, .int .u64 0, .bool false, .string ⟨#[]⟩, .int .i64 0, .string ⟨#[]⟩, .slice none 0 0, .slice none 0 0, .slice none 0 0] 26))) := A1.trans (A2.mono A1.size)
  have N2' : Hid (NBox ((w.alloc (.cells #[.int .i64 (k : Int), .int .i64 f, .int .i64 t, .string s] 40)).alloc (.cells #[.int .i64 0, .int .u64 0, .bool false, .string ⟨#[]⟩, .int .i64 0, .string ⟨#[]⟩, .slice none 0 0, .slice none 0 0, .slice none 0 0] 26)) (w.heap.size + 1) zN) := N2
  clear A1 A2 T1 N2 T2
  have e1 : ((k : Int) == 1) = false := by simp; omega
  have e3 : ((k : Int) == 3) = false := by simp; omega
  have e7 : ((k : Int) == 7) = false := by simp; omega
  have e8 : ((k : Int) == 8) = true := by simp; omega
  have kT := num_any (k : Int) f t s ((w.alloc (.cells #[.int .i64 (k : Int), .int .i64 f, .int .i64 t, .string s] 40)).alloc (.cells #[.int .i64 0, .int .u64 0, .bool false, .string ⟨#[]⟩, .int .i64 0, .string ⟨#[]⟩, .slice none 0 0, .slice none 0 0, .slice none 0 0] 26))
  clear h
  generalize numA s = R at *
  obtain ⟨T, E⟩ := R
  dsimp only at kT ⊢
  go_enter Tryz.func39, Tryz.ntmps39
  go_wp2_with (go_at_call 64; refine kT.mono ?_; rintro e w1 ⟨he, hb1⟩; rw [Nb.arr] at he; subst he; have N4 : Hid (NBox w1 (w.heap.size + 1) zN) := N2'.out.kept hb1 N2'.out.lt; have B4 : Hid (Below w.heap.size w w1) := B2.out.trans (hb1.mono B2.out.size); have z0 := N4.out.fz 0; have z1 := N4.out.fz 1; have z2 := N4.out.fz 2; have z3 := N4.out.fz 3; have z4 := N4.out.fz 4; have z5 := N4.out.fz 5; have z6 := N4.out.fz 6; have z7 := N4.out.fz 7; have z8 := N4.out.fz 8; obtain ⟨m0, m1, m2, m3, m4, m5, m6, m7, m8⟩ := N4.out.fields; clear hb1)
  have x9 := nbox_put N4.out (leafN T)
  obtain ⟨u0, u1, u2, u3, u4, u5, u6, u7, u8⟩ := x9.1.fields
  refine bodyPost_ret (v := .tuple #[.agg (leafN T).arr, .int .i64 E]) (by simp [results, Tryz.results39, go_sem, leafN, Nb.arr] at *; simp [go_sem, u0, u1, u2, u3, u4, u5, u6, u7, u8]) rfl ⟨rfl, ?_⟩
  exact B4.out.trans (x9.2.below B4.out.size fun k hk => by omega)
/-- jread.nodeOf. -/
theorem node_any (k : Nat) (f t : Int) (s : ByteArray) (w : World) : Calls Tryz.prog 39 #[.agg #[.int .i64 (k : Int), .int .i64 f, .int .i64 t, .string s]] w fun e w' => e = .returned (.tuple #[.agg (leafN (nodeA k s).1).arr, .int .i64 (nodeA k s).2]) ∧ Below w.heap.size w w' := by
  unfold nodeA
  by_cases h1 : k = 1
  · rw [if_pos h1]; exact nd1 k f t s w h1
  by_cases h3 : k = 3
  · rw [if_neg h1, if_pos h3]; exact nd3 k f t s w h3
  by_cases h7 : k = 7
  · rw [if_neg h1, if_neg h3, if_pos h7]; exact nd7 k f t s w h7
  by_cases h8 : k = 8
  · rw [if_neg h1, if_neg h3, if_neg h7, if_pos h8]; exact nd8 k f t s w h8
  by_cases h9 : k = 9
  · rw [if_neg h1, if_neg h3, if_neg h7, if_neg h8, if_pos h9]; exact nd9 k f t s w h9
  by_cases h10 : k = 10
  · rw [if_neg h1, if_neg h3, if_neg h7, if_neg h8, if_neg h9, if_pos h10]; exact nd10 k f t s w h10
  · rw [if_neg h1, if_neg h3, if_neg h7, if_neg h8, if_neg h9, if_neg h10]; exact nd0 k f t s w ⟨h1, h3, h7, h8, h9, h10⟩
end Go.Proofs.YtmlacmoembjeoaaGreatDoor
namespace Go.Proofs.YtmlacmoembjeoaaGreatDoor
open Go.RowKit
set_option linter.unusedVariables false
/-- What a push leaves. -/
structure PushE (B : Nat) (w w' : World) (g no : Nat) (v0 : Value) (nbs : List Nb) (x : Nb) (free : Bool) (nx : Nat) (nodes : Int) (r : Nb) (ended : Bool) : Prop where
  own : ∃ g4 cap4, OwnsN 26 w' B (.slice (some ⟨g4, 0, none⟩) (no + 1) cap4) (nbs ++ [x]) ∧ (v0.ownBlock = some g4 ∨ w.heap.size ≤ g4) ∧ RBox w' g free nx (some ⟨g4, 0, none⟩) (no + 1) cap4 nodes r ended
  os : w'.os = w.os
  tape : w'.tape = w.tape
  output : w'.output = w.output
  size : w.heap.size ≤ w'.heap.size
  rest : ∀ k, k < w.heap.size → k ≠ g → v0.ownBlock ≠ some k → w'.heap[k]? = w.heap[k]?
/-- The reader's own block may have turned, nothing else that was there. -/
structure Rd (w w' : World) (g : Nat) : Prop where
  os : w'.os = w.os
  tape : w'.tape = w.tape
  output : w'.output = w.output
  size : w.heap.size ≤ w'.heap.size
  rest : ∀ k, k < w.heap.size → k ≠ g → w'.heap[k]? = w.heap[k]?
theorem Rd.of {w w' : World} {g : Nat} (h : Below w.heap.size w w') : Rd w w' g := ⟨h.os, h.tape, h.output, h.size, fun k hk _ => h.block k hk⟩
theorem Rd.trans {a b c : World} {g : Nat} (h : Rd a b g) (k : Rd b c g) : Rd a c g := ⟨k.os.trans h.os, k.tape.trans h.tape, k.output.trans h.output, Nat.le_trans h.size k.size, fun i hi hne => (k.rest i (Nat.lt_of_lt_of_le hi h.size) hne).trans (h.rest i hi hne)⟩
theorem Rd.set (w : World) (g j : Nat) (v : Value) : Rd w (w.setCell ⟨g, j, none⟩ v) g := ⟨rfl, rfl, rfl, by simp [World.setCell], fun k _ hk => setk hk v⟩
theorem Rd.drew {w w' : World} {g : Nat} (h : Rd w w' g) : Rd w w'.drew g := ⟨h.os, h.tape, h.output, h.size, h.rest⟩
theorem Rd.own {w w' : World} {g B : Nat} {v : Value} {bs : List Nb} (h : Rd w w' g) (ho : OwnsN 26 w B v bs) (hg : v.ownBlock ≠ some g) : OwnsN 26 w' B v bs := by
  obtain ⟨h1, h2⟩ := ho
  refine ⟨h1, ?_⟩
  rcases h2 with h2 | ⟨g', cap, cur, rfl, hb, hc, hr⟩
  · exact .inl h2
  · exact .inr ⟨g', cap, cur, rfl, hb, by rw [h.rest g' (Array.getElem?_eq_some_iff.1 hc).1 (fun e => hg (by rw [e]; rfl))]; exact hc, hr⟩
theorem pushE_of {B : Nat} {w w5 w6 w' : World} {g no : Nat} {v0 : Value} {nbs : List Nb} {x : Nb} {free : Bool} {nx nx' : Nat} {ao : Option Addr} {no0 co : Nat} {nodes : Int} {r : Nb} {ended : Bool} (h1 : Rd w w5 g) (hR : RBox w5 g free nx ao no0 co nodes r ended) (F : PutE B w5 w6 g g 2 no v0 nbs x)
    (hw' : w' = w6.setCell ⟨g, 1, none⟩ (.func (.func nx') #[.pointer (some ⟨g, 0, none⟩)] #[])) (hv : v0.ownBlock ≠ some g) (hgl : g < w.heap.size) : PushE B w w' g no v0 nbs x free nx' nodes r ended := by
  obtain ⟨g4, cap4, o1, o2, o3⟩ := F.own
  have hne : g4 ≠ g := by
    rcases o2 with h | h
    · intro e; exact hv (e ▸ h)
    · have := hR.lt; omega
  have R6 : RBox w6 g free nx (some ⟨g4, 0, none⟩) (no + 1) cap4 nodes r ended := by
    have := o3 _ _ hR
    unfold RBox
    rw [this]
    rfl
  subst hw'
  refine ⟨⟨g4, cap4, ?_, ?_, R6.set (nx' := nx') 1 _ rfl⟩, F.os.trans h1.os, F.tape.trans h1.tape, F.output.trans h1.output, Nat.le_trans h1.size (Nat.le_trans F.size (Nat.le_of_eq (set_size _ _ _ _).symm)), fun k hk hkg hkv => ?_⟩
  · exact (Rd.set w6 g 1 _).own o1 (fun e => hne (by simpa [Value.ownBlock] using e))
  · rcases o2 with h | h
    · exact .inl h
    · exact .inr (Nat.le_trans h1.size h)
  · rw [setk hkg, F.rest k (Nat.lt_of_lt_of_le hk h1.size) hkg hkv, h1.rest k hk hkg]
end Go.Proofs.YtmlacmoembjeoaaGreatDoor
namespace Go.Proofs.YtmlacmoembjeoaaGreatDoor
open Go.RowKit
set_option linter.unusedVariables false
/-- What has a mark outside of S stays as it was, and keeps its mark. -/
structure Trn (S : Nat → Prop) (lab lab' : Nat → Nat) (w w' : World) : Prop where
  os : w'.os = w.os
  tape : w'.tape = w.tape
  output : w'.output = w.output
  size : w.heap.size ≤ w'.heap.size
  rest : ∀ k, k < w.heap.size → ¬ S (lab k) → lab' k = lab k ∧ w'.heap[k]? = w.heap[k]?
theorem own_tr {S : Nat → Prop} {lab lab' : Nat → Nat} {w w' : World} {B L : Nat} {v : Value} {bs : List Nb} (h : OwnsN 26 w B v bs) (ht : Trn S lab lab' w w') (hl : ∀ k, v.ownBlock = some k → lab k = L) (hS : ¬ S L) : OwnsN 26 w' B v bs ∧ ∀ k, v.ownBlock = some k → lab' k = L := by
  refine ⟨?_, fun k hk => ?_⟩
  · obtain ⟨h1, h2⟩ := h
    refine ⟨h1, ?_⟩
    rcases h2 with h2 | ⟨g, cap, cur, rfl, hb, hg, hr⟩
    · exact .inl h2
    · exact .inr ⟨g, cap, cur, rfl, hb, by rw [(ht.rest g (Array.getElem?_eq_some_iff.1 hg).1 (by rw [hl g rfl]; exact hS)).2]; exact hg, hr⟩
  · rw [(ht.rest k (World.ownsRow.lt h k hk).2 (by rw [hl k hk]; exact hS)).1]
    exact hl k hk
theorem nds_tr {S : Nat → Prop} {lab lab' : Nat → Nat} {w w' : World} {B D : Nat} {b : Nb} {t : Tr} (h : NdS (fun k => lab k = 0 ∧ B ≤ k ∧ k < w.heap.size) D w b t) (ht : Trn S lab lab' w w') (hS : ¬ S 0) : NdS (fun k => lab' k = 0 ∧ B ≤ k ∧ k < w'.heap.size) D w' b t :=
  (h.stays fun k hk => (ht.rest k hk.2.2 (by rw [hk.1]; exact hS)).2).mono fun k hk => ⟨(ht.rest k hk.2.2 (by rw [hk.1]; exact hS)).1.trans hk.1, hk.2.1, Nat.lt_of_lt_of_le hk.2.2 ht.size⟩
theorem OpN.tr {S : Nat → Prop} {lab lab' : Nat → Nat} {w w' : World} {B D i : Nat} {nb : Nb} {t : Tr} (h : OpN B D lab w nb t i) (ht : Trn S lab lab' w w') (h0 : ¬ S 0) (h3 : ¬ S (3 + 2 * i)) (h4 : ¬ S (4 + 2 * i)) : OpN B D lab' w' nb t i := by
  obtain ⟨bk, k1, k2, k3⟩ := h.ks
  obtain ⟨bi, i1, i2, i3⟩ := h.is
  obtain ⟨a1, a2⟩ := own_tr k1 ht h.kl h3
  obtain ⟨b1, b2⟩ := own_tr i1 ht h.il h4
  exact ⟨h.fl, h.tf, h.kd, ⟨bk, a1, k2, k3⟩, a2, ⟨bi, b1, i2, fun j hj hj2 => nds_tr (i3 j hj hj2) ht h0⟩, b2⟩
/-- A node that has just begun. -/
theorem opn_new (B D : Nat) (lab : Nat → Nat) (w : World) (K : Int) (i : Nat) (hK : K = 7 ∨ K = 8) : OpN B D lab w (leafN (kindT K 0)) (kindT K 0) i :=
  ⟨rfl, rfl, hK, ⟨[], ownsN_nil _ _, rfl, fun j h => by cases h⟩, fun k hk => by simp [leafN, Value.ownBlock] at hk, ⟨[], ownsN_nil _ _, rfl, fun j h => by cases h⟩, fun k hk => by simp [leafN, Value.ownBlock] at hk⟩
/-- AN ARRAY OR A MAP IS OPENED. -/
theorem jm_push {B D : Nat} {lab : Nat → Nat} {w w' : World} {g : Nat} {s : JS} {nbs : List Nb} {ao : Option Addr} {co nx' : Nat} {r : Nb} {K : Int} (h : JM B D lab w g s nbs ao co r) (hK : K = 7 ∨ K = 8) (hfew : s.opn.length + 1 ≤ 5000)
    (F : PushE B w w' g nbs.length (.slice ao nbs.length co) nbs (leafN (kindT K 0)) s.free nx' ((s.nodes : Int) + 1) r s.ended) :
    ∃ lab' ao' co', JM B D lab' w' g { s with nx := nx', opn := s.opn ++ [kindT K 0], nodes := s.nodes + 1 } (nbs ++ [leafN (kindT K 0)]) ao' co' r ∧ Trn (fun L => L = 1 ∨ L = 2) lab lab' w w' := by
  obtain ⟨g4, cap4, o1, o2, o3⟩ := F.own
  have hlt := h.box.lt
  have hg4 : g4 < w'.heap.size ∧ B ≤ g4 := by
    have := World.ownsRow.lt o1 g4 rfl
    exact ⟨this.2, this.1⟩
  have hl4 : (Value.slice ao nbs.length co).ownBlock = some g4 → lab g4 = 2 := h.ol g4
  have hne : g4 ≠ g := by
    rcases o2 with q | q
    · intro e
      have h2 := hl4 q
      rw [e, h.gl] at h2
      omega
    · omega
  have keep : ∀ k, k < w.heap.size → lab k ≠ 2 → k ≠ g4 := fun k hk hl e => by
    subst e
    rcases o2 with q | q
    · exact hl (hl4 q)
    · omega
  have hT : Trn (fun L => L = 1 ∨ L = 2) lab (mark lab (.slice (some ⟨g4, 0, none⟩) (nbs.length + 1) cap4) 2) w w' := by
    refine ⟨F.os, F.tape, F.output, F.size, fun k hk hn => ⟨mark_other (fun e => ?_), F.rest k hk (fun e => hn (.inl (by rw [e]; exact h.gl))) (fun e => hn (.inr (h.ol k e)))⟩⟩
    have : g4 = k := by simpa [Value.ownBlock] using e
    exact keep k hk (fun q => hn (.inr q)) this.symm
  refine ⟨_, some ⟨g4, 0, none⟩, cap4, ⟨fun k hk => ?_, fun k hk => ?_, ?_, ?_, ?_, fun k hk => ?_, ?_, fun i hi hi2 => ?_, ?_, ?_⟩, hT⟩
  · rw [mark_other (fun e => by have : g4 = k := by simpa [Value.ownBlock] using e
                                omega)]
    exact h.lo k hk
  · rw [mark_other (fun e => by have : g4 = k := by simpa [Value.ownBlock] using e
                                omega)]
    exact h.hi k (Nat.le_trans F.size hk)
  · rw [mark_other (fun e => hne (by simpa [Value.ownBlock] using e))]
    exact h.gl
  · have := o3
    rw [List.length_append, List.length_singleton]
    exact this
  · rw [List.length_append, List.length_singleton]
    exact o1
  · rw [List.length_append, List.length_singleton] at hk
    exact mark_own hk
  · rw [List.length_append, List.length_append, h.len]; rfl
  · by_cases hlt : i < nbs.length
    · have hi3 : i < s.opn.length := by rw [← h.len]; exact hlt
      have e1 : (nbs ++ [leafN (kindT K 0)])[i] = nbs[i] := List.getElem_append_left hlt
      have e2 : (s.opn ++ [kindT K 0])[i]'hi2 = s.opn[i] := List.getElem_append_left hi3
      rw [e1]
      show OpN B D _ w' nbs[i] ((s.opn ++ [kindT K 0])[i]'hi2) i
      rw [e2]
      exact (h.nd i hlt hi3).tr hT (by omega) (by omega) (by omega)
    · have hie : i = nbs.length := by simp at hi; omega
      subst hie
      have e1 : (nbs ++ [leafN (kindT K 0)])[nbs.length] = leafN (kindT K 0) := by simp
      have e2 : (s.opn ++ [kindT K 0])[nbs.length]'hi2 = kindT K 0 := by
        have hh := h.len
        simp [hh]
      rw [e1]
      show OpN B D _ w' _ ((s.opn ++ [kindT K 0])[nbs.length]'hi2) _
      rw [e2]
      exact opn_new B D _ w' K _ hK
  · exact nds_tr h.rt hT (by omega)
  · show (s.opn ++ [kindT K 0]).length ≤ 5000
    rw [List.length_append]
    exact hfew
end Go.Proofs.YtmlacmoembjeoaaGreatDoor
namespace Go.Proofs.YtmlacmoembjeoaaGreatDoor
open Go.RowKit
set_option linter.unusedVariables false
theorem ob_some (g l c k : Nat) : (Value.slice (some ⟨g, 0, none⟩) l c).ownBlock = some k → g = k := fun e => by simpa [Value.ownBlock] using e
/-- A VALUE IS PUT AMONG THE KIDS. -/
theorem jm_kid {B D : Nat} {lab : Nat → Nat} {w w6 w' : World} {g go : Nat} {s : JS} {ns bi : List Nb} {nb x : Nb} {co nx' : Nat} {r : Nb} {os : List Tr} {t u : Tr} (h : JM B D lab w g s (ns ++ [nb]) (some ⟨go, 0, none⟩) co r) (hs : s.opn = os ++ [t])
    (hbi : OwnsN 26 w B (.slice nb.ai nb.li nb.ci) bi) (hbl : bi.length = t.kids.length) (hbn : ∀ j (h : j < bi.length) (h2 : j < t.kids.length), NdS (fun k => lab k = 0 ∧ B ≤ k ∧ k < w.heap.size) D w bi[j] t.kids[j]) (hx : NdS (fun k => lab k = 0 ∧ B ≤ k ∧ k < w.heap.size) D w x u)
    (F : PutE B w w6 g go (ns.length * 9 + 8) nb.li (.slice nb.ai nb.li nb.ci) bi x) (N : NxE w6 w' g) (R : RBox w' g s.free nx' (some ⟨go, 0, none⟩) (ns.length + 1) co s.nodes r s.ended) :
    ∃ lab' nb', JM B D lab' w' g { s with nx := nx', opn := os ++ [{ t with kids := t.kids ++ [u] }] } (ns ++ [nb']) (some ⟨go, 0, none⟩) co r ∧ Trn (fun L => L = 1 ∨ L = 2 ∨ L = 4 + 2 * ns.length) lab lab' w w' := by
  obtain ⟨g4, cap4, o1, o2, o3⟩ := F.own
  have hln : (ns ++ [nb]).length = ns.length + 1 := by simp
  have hlo : os.length = ns.length := by have := h.len; rw [hs] at this; simp at this; omega
  have hnd := h.nd ns.length (by simp) (by rw [hs]; simp; omega)
  have e1 : (ns ++ [nb])[ns.length]'(by simp) = nb := by simp
  have e2 : s.opn[ns.length]'(by rw [hs]; simp; omega) = t := by simp only [hs]; simp [← hlo]
  rw [e1, e2] at hnd
  have hgol : lab go = 2 := h.ol go rfl
  have hopn := h.opn
  rw [hln] at hopn
  obtain ⟨g', cap', cur, hv, hBg, hcur, hnc, hcm, hz, hsp⟩ := hopn.last
  have hgg : go = g' := by cases hv; rfl
  subst hgg
  have hgo : go < w.heap.size := (Array.getElem?_eq_some_iff.1 hcur).1
  have hlt := h.box.lt
  have hl4 : (Value.slice nb.ai nb.li nb.ci).ownBlock = some g4 → lab g4 = 4 + 2 * ns.length := hnd.il g4
  have ng : g4 ≠ g := by
    rcases o2 with q | q
    · intro e; have h2 := hl4 q; rw [e, h.gl] at h2; omega
    · omega
  have ngo : g4 ≠ go := by
    rcases o2 with q | q
    · intro e; have h2 := hl4 q; rw [e, hgol] at h2; omega
    · omega
  have ngg : go ≠ g := fun e => by rw [e, h.gl] at hgol; omega
  have row6 := o3 cur 26 hcur
  have rowF : w'.heap[go]? = some (.cells (cur.setIfInBounds (ns.length * 9 + 8) (.slice (some ⟨g4, 0, none⟩) (nb.li + 1) cap4)) 26 (0, 0)) := (N.rest go ngg).trans row6
  have own6 : OwnsN 26 w' B (.slice (some ⟨g4, 0, none⟩) (nb.li + 1) cap4) (bi ++ [x]) := by
    obtain ⟨p1, p2⟩ := o1
    refine ⟨p1, ?_⟩
    rcases p2 with ⟨q, _⟩ | ⟨gq, cq, cu, hq, hb, hg, hr⟩
    · cases q
    · have hgq : g4 = gq := by have q := congrArg Value.ownBlock hq; simpa [Value.ownBlock] using q
      subst hgq
      exact .inr ⟨g4, cq, cu, hq, hb, by rw [N.rest g4 ng]; exact hg, hr⟩
  have hg4 : g4 < w'.heap.size ∧ B ≤ g4 := by
    have := World.ownsRow.lt own6 g4 rfl
    exact ⟨this.2, this.1⟩
  have hsz : w.heap.size ≤ w'.heap.size := by rw [N.size]; exact F.size
  have keep : ∀ k, k < w.heap.size → lab k ≠ 4 + 2 * ns.length → k ≠ g4 := fun k hk hl e => by
    subst e
    rcases o2 with q | q
    · exact hl (hl4 q)
    · omega
  have hT : Trn (fun L => L = 1 ∨ L = 2 ∨ L = 4 + 2 * ns.length) lab (mark lab (.slice (some ⟨g4, 0, none⟩) (nb.li + 1) cap4) (4 + 2 * ns.length)) w w' := by
    refine ⟨N.os.trans F.os, N.tape.trans F.tape, N.output.trans F.output, hsz, fun k hk hn => ⟨mark_other (fun e => keep k hk (fun q => hn (.inr (.inr q))) (ob_some _ _ _ _ e).symm), ?_⟩⟩
    rw [N.rest k (fun e => hn (.inl (by rw [e]; exact h.gl))), F.rest k hk (fun e => hn (.inr (.inl (by rw [e]; exact hgol)))) (fun e => hn (.inr (.inr (hnd.il k e))))]
  have hop' : OwnsN 26 w' B (.slice (some ⟨go, 0, none⟩) (ns.length + 1) co) (ns ++ [{ nb with ai := some ⟨g4, 0, none⟩, li := nb.li + 1, ci := cap4 }]) := by
    refine OwnsN.put (z := nb) hopn ⟨_, rowF, fun c hc => ?_⟩
    rw [hcur] at hc
    cases hc
    refine ⟨by simp, fun j hj => ?_, fun i hi => ?_⟩
    · rw [Array.getElem?_setIfInBounds]
      have hj9 := hsp j hj
      rw [cell_row hcur] at hj9
      by_cases e : j = 8
      · subst e
        rw [if_pos rfl, if_pos (by omega)]
        rfl
      · rw [if_neg (by omega), hj9]
        have : j = 0 ∨ j = 1 ∨ j = 2 ∨ j = 3 ∨ j = 4 ∨ j = 5 ∨ j = 6 ∨ j = 7 := by omega
        rcases this with rfl | rfl | rfl | rfl | rfl | rfl | rfl | rfl <;> rfl
    · rw [Array.getElem?_setIfInBounds, if_neg (by omega)]
  obtain ⟨bk, k1, k2, k3⟩ := hnd.ks
  obtain ⟨a1, a2⟩ := own_tr k1 hT hnd.kl (by omega)
  have hop2 : OpN B D (mark lab (.slice (some ⟨g4, 0, none⟩) (nb.li + 1) cap4) (4 + 2 * ns.length)) w' { nb with ai := some ⟨g4, 0, none⟩, li := nb.li + 1, ci := cap4 } { t with kids := t.kids ++ [u] } ns.length := by
    refine ⟨?_, ?_, hnd.kd, ⟨bk, a1, k2, k3⟩, a2, ⟨bi ++ [x], own6, by simp [hbl], fun j hj hj2 => ?_⟩, fun k hk => mark_own hk⟩
    · have := hnd.fl
      conv => lhs; rw [this]
    · have := hnd.tf
      conv => lhs; rw [this]
    · by_cases hjl : j < bi.length
      · have hjk : j < t.kids.length := by omega
        have q1 : (bi ++ [x])[j] = bi[j] := List.getElem_append_left hjl
        have q2 : (t.kids ++ [u])[j]'hj2 = t.kids[j] := List.getElem_append_left hjk
        rw [q1]
        show NdS _ D w' bi[j] ((t.kids ++ [u])[j]'hj2)
        rw [q2]
        exact nds_tr (hbn j hjl hjk) hT (by omega)
      · have hje : j = bi.length := by simp at hj; omega
        subst hje
        have q1 : (bi ++ [x])[bi.length] = x := by simp
        have q2 : (t.kids ++ [u])[bi.length]'hj2 = u := by simp [hbl]
        rw [q1]
        show NdS _ D w' x ((t.kids ++ [u])[bi.length]'hj2)
        rw [q2]
        exact nds_tr hx hT (by omega)
  refine ⟨_, { nb with ai := some ⟨g4, 0, none⟩, li := nb.li + 1, ci := cap4 }, ⟨fun k hk => ?_, fun k hk => ?_, ?_, ?_, ?_, fun k hk => ?_, ?_, fun i hi hi2 => ?_, nds_tr h.rt hT (by omega), ?_⟩, hT⟩
  · rw [mark_other (fun e => by have := ob_some _ _ _ _ e; omega)]
    exact h.lo k hk
  · rw [mark_other (fun e => by have := ob_some _ _ _ _ e; omega)]
    exact h.hi k (by omega)
  · rw [mark_other (fun e => ng (ob_some _ _ _ _ e))]
    exact h.gl
  · rw [List.length_append, List.length_singleton]
    exact R
  · rw [List.length_append, List.length_singleton]
    exact hop'
  · have : go = k := ob_some _ _ _ _ hk
    subst this
    rw [mark_other (fun e => ngo (ob_some _ _ _ _ e))]
    exact hgol
  · simp [hlo]
  · by_cases hlt2 : i < ns.length
    · have q1 : (ns ++ [({ nb with ai := some ⟨g4, 0, none⟩, li := nb.li + 1, ci := cap4 } : Nb)])[i]'hi = ns[i] := List.getElem_append_left hlt2
      rw [q1]
      show OpN B D _ w' ns[i] ((os ++ [{ t with kids := t.kids ++ [u] }])[i]'hi2) i
      have hio : i < os.length := by omega
      have q2 : (os ++ [{ t with kids := t.kids ++ [u] }])[i]'hi2 = os[i] := List.getElem_append_left hio
      rw [q2]
      have hn0 := h.nd i (by simp; omega) (by rw [hs]; simp; omega)
      have q3 : (ns ++ [nb])[i]'(by simp; omega) = ns[i] := List.getElem_append_left hlt2
      have q4 : s.opn[i]'(by rw [hs]; simp; omega) = os[i] := by simp only [hs]; exact List.getElem_append_left hio
      rw [q3, q4] at hn0
      exact hn0.tr hT (by omega) (by omega) (by omega)
    · have hie : i = ns.length := by simp at hi; omega
      subst hie
      have q1 : (ns ++ [({ nb with ai := some ⟨g4, 0, none⟩, li := nb.li + 1, ci := cap4 } : Nb)])[ns.length]'hi = { nb with ai := some ⟨g4, 0, none⟩, li := nb.li + 1, ci := cap4 } := by simp
      rw [q1]
      show OpN B D _ w' _ ((os ++ [{ t with kids := t.kids ++ [u] }])[ns.length]'hi2) _
      have q2 : (os ++ [{ t with kids := t.kids ++ [u] }])[ns.length]'hi2 = { t with kids := t.kids ++ [u] } := by simp [← hlo]
      rw [q2]
      exact hop2
  · have := h.few
    rw [hs] at this
    simpa using this
end Go.Proofs.YtmlacmoembjeoaaGreatDoor
namespace Go.Proofs.YtmlacmoembjeoaaGreatDoor
open Go.RowKit
set_option linter.unusedVariables false
set_option maxHeartbeats 2000000 in
set_option maxRecDepth 100000 in
theorem put_none {w : World} {g co : Nat} {ao : Option Addr} {free : Bool} {nx : Nat} {nodes : Int} {r x : Nb} {ended : Bool} (h : RBox w g free nx ao 0 co nodes r ended) :
    Calls Tryz.prog 43 #[.pointer (some ⟨g, 0, none⟩), .agg x.arr] w fun e w' => e = .returned (.tuple #[]) ∧ RBox w' g free 67 ao 0 co nodes x true ∧ Rd w w' g := by
  have hal := alloc_below w (.cells x.arr 26)
  have R1 : Hid (RBox (w.alloc (.cells x.arr 26)) g free nx ao 0 co nodes r ended) := h.same (hal.block g h.lt)
  have D1 : Hid (Rd w (w.alloc (.cells x.arr 26)) g) := Rd.of hal
  obtain ⟨a0, a1, a2, a3, a4⟩ := R1.out.fields
  obtain ⟨b0, b1, b2, b3, b4, b5, b6, b7, b8⟩ := R1.out.root
  obtain ⟨x0, x1, x2, x3, x4, x5, x6, x7, x8⟩ := (nbox_new w x).fields
  have z1 := R1.out.fz 1
  have z4 := R1.out.fz 4
  have z5 := R1.out.fz 5
  have z6 := R1.out.fz 6
  have z7 := R1.out.fz 7
  have z8 := R1.out.fz 8
  have z9 := R1.out.fz 9
  have z10 := R1.out.fz 10
  have z11 := R1.out.fz 11
  have z12 := R1.out.fz 12
  have z13 := R1.out.fz 13
  have hsf : ∀ (w : World) (a : Addr) (f : Fn) (x y : Array Value) (m : Mode), (store a (.func f x y) m).run Tryz.prog w = stored Tryz.prog w a (.func f x y) m := store_fn
  clear h hal
  go_enter Tryz.func43, Tryz.ntmps43
  go_wp2
  refine bodyPost_ret (v := .tuple #[]) (results_none rfl _ _ _) rfl ⟨rfl, ?_, ?_⟩
  · have y1 := R1.out.set (r' := { r with kind := x.kind }) 4 (.int .i64 x.kind) rfl
    have y2 := y1.set (r' := { r with kind := x.kind, num := x.num }) 5 (.int .u64 x.num) rfl
    have y3 := y2.set (r' := { r with kind := x.kind, num := x.num, neg := x.neg }) 6 (.bool x.neg) rfl
    have y4 := y3.set (r' := { r with kind := x.kind, num := x.num, neg := x.neg, dig := x.dig }) 7 (.string x.dig) rfl
    have y5 := y4.set (r' := { r with kind := x.kind, num := x.num, neg := x.neg, dig := x.dig, exp := x.exp }) 8 (.int .i64 x.exp) rfl
    have y6 := y5.set (r' := { r with kind := x.kind, num := x.num, neg := x.neg, dig := x.dig, exp := x.exp, txt := x.txt }) 9 (.string x.txt) rfl
    have y7 := y6.set (r' := { r with kind := x.kind, num := x.num, neg := x.neg, dig := x.dig, exp := x.exp, txt := x.txt, ab := x.ab, lb := x.lb, cb := x.cb }) 10 (.slice x.ab x.lb x.cb) rfl
    have y8 := y7.set (r' := { r with kind := x.kind, num := x.num, neg := x.neg, dig := x.dig, exp := x.exp, txt := x.txt, ab := x.ab, lb := x.lb, cb := x.cb, ak := x.ak, lk := x.lk, ck := x.ck }) 11 (.slice x.ak x.lk x.ck) rfl
    have y9 := y8.set (r' := x) 12 (.slice x.ai x.li x.ci) rfl
    have y10 := y9.set (ended' := true) 13 (.bool true) rfl
    exact y10.set (nx' := 67) 1 (.func (.func 67) #[.pointer (some ⟨g, 0, none⟩)] #[]) rfl
  · exact (((((((((((D1.out.trans (Rd.set _ _ _ _)).trans (Rd.set _ _ _ _)).trans (Rd.set _ _ _ _)).trans (Rd.set _ _ _ _)).trans (Rd.set _ _ _ _)).trans (Rd.set _ _ _ _)).trans (Rd.set _ _ _ _)).trans (Rd.set _ _ _ _)).trans (Rd.set _ _ _ _)).trans (Rd.set _ _ _ _)).trans (Rd.set _ _ _ _))
end Go.Proofs.YtmlacmoembjeoaaGreatDoor
namespace Go.Proofs.YtmlacmoembjeoaaGreatDoor
open Go.RowKit
set_option linter.unusedVariables false
/-- Only the reader's own cells have turned. -/
theorem jm_rd {B D : Nat} {lab : Nat → Nat} {w w' : World} {g : Nat} {s s' : JS} {nbs : List Nb} {ao : Option Addr} {co : Nat} {r r' : Nb} (h : JM B D lab w g s nbs ao co r) (hd : Rd w w' g) (R : RBox w' g s'.free s'.nx ao nbs.length co s'.nodes r' s'.ended) (ho : s'.opn = s.opn) (hr : NdS (fun k => lab k = 0 ∧ B ≤ k ∧ k < w'.heap.size) D w' r' s'.root) :
    JM B D lab w' g s' nbs ao co r' ∧ Trn (fun L => L = 1) lab lab w w' := by
  have hT : Trn (fun L => L = 1) lab lab w w' := ⟨hd.os, hd.tape, hd.output, hd.size, fun k hk hn => ⟨rfl, hd.rest k hk (fun e => hn (by rw [e]; exact h.gl))⟩⟩
  have hs := hd.size
  refine ⟨⟨h.lo, fun k hk => h.hi k (by omega), h.gl, R, (own_tr h.opn hT (L := 2) h.ol (by omega)).1, h.ol, by rw [ho]; exact h.len, fun i hi hi2 => ?_, hr, by rw [ho]; exact h.few⟩, hT⟩
  have hi3 : i < s.opn.length := by rw [← ho]; exact hi2
  have e : s'.opn[i] = s.opn[i] := by simp only [ho]
  rw [e]
  exact (h.nd i hi hi3).tr hT (by omega) (by omega) (by omega)
/-- What a put makes of what was read. -/
def putA (s : JS) (u : Tr) : JS := match s.opn.reverse with
  | [] => { s with root := u, ended := true, nx := 67 }
  | t :: l => { s with opn := l.reverse ++ [{ t with kids := t.kids ++ [u] }], nx := if t.kind = 8 then 70 else 69 }
theorem putA_nil {s : JS} (u : Tr) (h : s.opn = []) : putA s u = { s with root := u, ended := true, nx := 67 } := by unfold putA; rw [h]; rfl
theorem putA_snoc {s : JS} {os : List Tr} {t : Tr} (u : Tr) (h : s.opn = os ++ [t]) : putA s u = { s with opn := os ++ [{ t with kids := t.kids ++ [u] }], nx := if t.kind = 8 then 70 else 69 } := by
  unfold putA
  rw [h, List.reverse_append]
  simp
/-- A WHOLE VALUE IS PUT. -/
theorem jput_any {B D : Nat} {lab : Nat → Nat} {w : World} {g : Nat} {s : JS} {nbs : List Nb} {ao : Option Addr} {co : Nat} {r x : Nb} {u : Tr} (h : JM B D lab w g s nbs ao co r) (hx : NdS (fun k => lab k = 0 ∧ B ≤ k ∧ k < w.heap.size) D w x u) (hsm : ∀ t ∈ s.opn, t.kids.length ≤ 100000) (hB : B ≤ w.heap.size) :
    Calls Tryz.prog 43 #[.pointer (some ⟨g, 0, none⟩), .agg x.arr] w fun e w' => e = .returned (.tuple #[]) ∧ ∃ lab' nbs' r', JM B D lab' w' g (putA s u) nbs' ao co r' ∧ Trn (fun L => L ≠ 0) lab lab' w w' := by
  rcases List.eq_nil_or_concat nbs with hn | ⟨ns, nb, hn⟩
  · subst hn
    have ho : s.opn = [] := List.eq_nil_of_length_eq_zero h.len.symm
    refine (put_none (x := x) h.box).mono ?_
    rintro e w' ⟨rfl, R, hd⟩
    refine ⟨rfl, lab, [], x, ?_⟩
    have hT : Trn (fun L => L = 1) lab lab w w' := ⟨hd.os, hd.tape, hd.output, hd.size, fun k hk hq => ⟨rfl, hd.rest k hk (fun e => hq (by rw [e]; exact h.gl))⟩⟩
    have hj := jm_rd (s' := putA s u) h hd (r' := x) (by rw [putA_nil u ho]; exact R) (by rw [putA_nil u ho]) (by rw [putA_nil u ho]; exact nds_tr hx hT (by omega))
    exact ⟨hj.1, ⟨hj.2.os, hj.2.tape, hj.2.output, hj.2.size, fun k hk hq => hj.2.rest k hk (by intro e; apply hq; omega)⟩⟩
  · have hn' : nbs = ns ++ [nb] := by rw [hn]; simp
    subst hn'
    clear hn
    obtain ⟨os, t, hs⟩ : ∃ os t, s.opn = os ++ [t] := by
      rcases List.eq_nil_or_concat s.opn with q | ⟨os, t, q⟩
      · have := h.len; rw [q] at this; simp at this
      · exact ⟨os, t, by rw [q]; simp⟩
    have hlo : os.length = ns.length := by have := h.len; rw [hs] at this; simp at this; omega
    have hln : (ns ++ [nb]).length = ns.length + 1 := by simp
    have hopn := h.opn
    rw [hln] at hopn
    obtain ⟨go, cap', cur, hv, hBg, hcur, hnc, hcm, hz, hsp⟩ := hopn.last
    have hao : ao = some ⟨go, 0, none⟩ := by cases hv; rfl
    subst hao
    have hnd := h.nd ns.length (by simp) (by rw [hs]; simp; omega)
    have e1 : (ns ++ [nb])[ns.length]'(by simp) = nb := by simp
    have e2 : s.opn[ns.length]'(by rw [hs]; simp; omega) = t := by simp only [hs]; simp [← hlo]
    rw [e1, e2] at hnd
    obtain ⟨bi, i1, i2, i3⟩ := hnd.is
    have hgol : lab go = 2 := h.ol go rfl
    have hsh : bi.length = nb.li := by
      obtain ⟨a', c', hv', _⟩ := i1.shape
      simp only [Value.slice.injEq] at hv'
      exact hv'.2.1.symm
    have hkl : t.kids.length ≤ 100000 := hsm t (by rw [hs]; simp)
    have h8 := hsp 8 (by decide)
    have h0 := hsp 0 (by decide)
    rw [cell_row hcur] at h8 h0
    have hfew := h.few
    have hl2 : ns.length ≤ 100000 := by have := h.len; rw [hs] at this; rw [hs] at hfew; simp at this hfew; omega
    have hbox : RBox w g s.free s.nx (some ⟨go, 0, none⟩) (ns.length + 1) co s.nodes r s.ended := by have := h.box; rw [hln] at this; exact this
    refine (put_some (x := x) hbox hl2 hcur (ai := nb.ai) (li := nb.li) (cap := nb.ci) h8 (K := nb.kind) h0 i1 hsh (by omega) hB (fun e => by have := hnd.il go e; omega) (fun e => by have := hnd.il g e; rw [h.gl] at this; omega) (fun e => by rw [e, h.gl] at hgol; omega) (nb.kind == 8) rfl).mono ?_
    rintro e w' ⟨rfl, w6, F, N, R⟩
    have hkd : nb.kind = t.kind := by rw [hnd.fl]
    have hnx : (if (nb.kind == 8) = true then 70 else 69) = (if t.kind = 8 then 70 else 69) := by rw [hkd]; simp
    rw [hnx] at R
    obtain ⟨lab', nb', hj, hT⟩ := jm_kid h hs i1 i2 i3 hx F N R
    refine ⟨rfl, lab', ns ++ [nb'], r, ?_, ⟨hT.os, hT.tape, hT.output, hT.size, fun k hk hq => hT.rest k hk (by intro e; apply hq; omega)⟩⟩
    rw [putA_snoc u hs]
    exact hj
end Go.Proofs.YtmlacmoembjeoaaGreatDoor
namespace Go.Proofs.YtmlacmoembjeoaaGreatDoor
open Go.RowKit
set_option linter.unusedVariables false
/-- The marks when the i-th node has ended. -/
def shut (lab : Nat → Nat) (i : Nat) : Nat → Nat := fun k => if lab k = 3 + 2 * i ∨ lab k = 4 + 2 * i then 0 else lab k
theorem shut_zero {lab : Nat → Nat} {i k : Nat} (h : lab k = 0) : shut lab i k = 0 := by unfold shut; rw [if_neg (by omega)]; exact h
theorem shut_own {lab : Nat → Nat} {i k : Nat} (h : lab k = 3 + 2 * i ∨ lab k = 4 + 2 * i) : shut lab i k = 0 := if_pos h
theorem shut_else {lab : Nat → Nat} {i k : Nat} (h : ¬ (lab k = 3 + 2 * i ∨ lab k = 4 + 2 * i)) : shut lab i k = lab k := if_neg h
theorem own_row {w : World} {B : Nat} {a : Option Addr} {n c : Nat} {bs : List Nb} {l : List Tr} {Q : Nb → Tr → Prop} (h : OwnsN 26 w B (.slice a n c) bs) (hl : bs.length = l.length) (hs : l.length ≤ 100000) (hq : ∀ j (h : j < bs.length) (h2 : j < l.length), Q bs[j] l[j]) : RowN Q w a n c l ∧ n = l.length ∧ ∀ x, a = some x → (Value.slice a n c).ownBlock = some x.block ∧ B ≤ x.block ∧ x.block < w.heap.size := by
  obtain ⟨a', cap, hv, hc, hn, hx⟩ := h.shape
  cases hv
  refine ⟨rowN_of hn hl hl.symm ⟨hc.1, hc.2.1, hc.2.2, by omega⟩ hq, hl, fun x hx' => ?_⟩
  have h4 := hx x hx'
  subst hx'
  obtain ⟨b, o, sp⟩ := x
  obtain ⟨h3, h5, rfl, rfl⟩ := h4
  exact ⟨rfl, h3, h5⟩
theorem kind_wf {k : Int} (h : k = 7 ∨ k = 8) : (Lit.int .i64 k).wf = true := by rcases h with rfl | rfl <;> decide
/-- WHAT IS INNERMOST HAS ENDED. -/
theorem jm_pop {B D : Nat} {lab : Nat → Nat} {w w1 : World} {g go : Nat} {s : JS} {ns : List Nb} {nb : Nb} {co : Nat} {r : Nb} {os : List Tr} {t : Tr} (h : JM B D lab w g s (ns ++ [nb]) (some ⟨go, 0, none⟩) co r) (hs : s.opn = os ++ [t]) (hk : t.keys.length ≤ 100000 ∧ t.kids.length ≤ 100000)
    (R : RBox w1 g s.free s.nx (some ⟨go, 0, none⟩) ns.length co s.nodes r s.ended) (hr : ∀ k, k < w.heap.size → k ≠ g → w1.heap[k]? = w.heap[k]?) (h1 : w1.os = w.os) (h2 : w1.tape = w.tape) (h3 : w1.output = w.output) (h4 : w.heap.size ≤ w1.heap.size) :
    JM B (D + 1) (shut lab ns.length) w1 g { s with opn := os } ns (some ⟨go, 0, none⟩) co r ∧ NdS (fun k => shut lab ns.length k = 0 ∧ B ≤ k ∧ k < w1.heap.size) (D + 1) w1 nb t ∧ Trn (fun L => L = 1 ∨ L = 3 + 2 * ns.length ∨ L = 4 + 2 * ns.length) lab (shut lab ns.length) w w1 := by
  have hln : (ns ++ [nb]).length = ns.length + 1 := by simp
  have hlo : os.length = ns.length := by have := h.len; rw [hs] at this; simp at this; omega
  have hnd := h.nd ns.length (by simp) (by rw [hs]; simp; omega)
  have e1 : (ns ++ [nb])[ns.length]'(by simp) = nb := by simp
  have e2 : s.opn[ns.length]'(by rw [hs]; simp; omega) = t := by simp only [hs]; simp [← hlo]
  rw [e1, e2] at hnd
  have hne : ∀ k, lab k ≠ 1 → k ≠ g := fun k hk e => hk (by rw [e]; exact h.gl)
  have hT : Trn (fun L => L = 1 ∨ L = 3 + 2 * ns.length ∨ L = 4 + 2 * ns.length) lab (shut lab ns.length) w w1 :=
    ⟨h1, h2, h3, h4, fun k hk hn => ⟨shut_else (fun q => hn (.inr q)), hr k hk (hne k fun q => hn (.inl q))⟩⟩
  have hT' : Trn (fun L => L = 1) lab lab w w1 := ⟨h1, h2, h3, h4, fun k hk hn => ⟨rfl, hr k hk (hne k hn)⟩⟩
  have cl : ∀ {b : Nb} {x : Tr}, NdS (fun k => lab k = 0 ∧ B ≤ k ∧ k < w.heap.size) D w b x → NdS (fun k => shut lab ns.length k = 0 ∧ B ≤ k ∧ k < w1.heap.size) D w1 b x := fun q => nds_tr q hT (by omega)
  have hopn := h.opn
  rw [hln] at hopn
  have hop1 : OwnsN 26 w1 B (.slice (some ⟨go, 0, none⟩) (ns.length + 1) co) (ns ++ [nb]) := (own_tr hopn hT' (L := 2) (fun k hk => h.ol k (by rw [hln]; exact hk)) (by omega)).1
  have hgol : lab go = 2 := h.ol go rfl
  refine ⟨⟨fun k hk => shut_zero (h.lo k hk), fun k hk => shut_zero (h.hi k (by omega)), ?_, R, ?_, fun k hk => ?_, hlo.symm, fun i hi hi2 => ?_, ((cl h.rt).le (Nat.le_succ _)), ?_⟩, ?_, hT⟩
  · rw [shut_else (by rw [h.gl]; omega)]; exact h.gl
  · obtain ⟨p1, p2⟩ := hop1
    refine ⟨by rw [cs_len], .inr ?_⟩
    rcases p2 with ⟨q, _⟩ | ⟨gq, cq, cu, hq, hb, hg, hnc, hcm, hcs, htk⟩
    · cases q
    · rw [hln] at hq hnc htk
      cases hq
      refine ⟨go, co, cu, rfl, hb, hg, by omega, hcm, hcs, ?_⟩
      have := congrArg (List.take (ns.length * 9)) htk
      rw [List.take_take, Nat.min_eq_left (by omega), cs_app, List.take_append_of_le_length (by rw [cs_len]; exact Nat.le_refl _)] at this
      rw [this, List.take_of_length_le (by rw [cs_len]; exact Nat.le_refl _)]
  · have : go = k := by simpa [Value.ownBlock] using hk
    subst this
    rw [shut_else (by rw [hgol]; omega)]; exact hgol
  · have hio : i < os.length := hi2
    have hn0 := h.nd i (by simp; omega) (by rw [hs]; simp; omega)
    have q3 : (ns ++ [nb])[i]'(by simp; omega) = ns[i] := List.getElem_append_left hi
    have q4 : s.opn[i]'(by rw [hs]; simp; omega) = os[i] := by simp only [hs]; exact List.getElem_append_left hio
    rw [q3, q4] at hn0
    have hn1 := hn0.tr hT (by omega) (by omega) (by omega)
    obtain ⟨bi, i1, i2, i3⟩ := hn1.is
    exact ⟨hn1.fl, hn1.tf, hn1.kd, hn1.ks, hn1.kl, ⟨bi, i1, i2, fun j hj hj2 => (i3 j hj hj2).le (Nat.le_succ _)⟩, hn1.il⟩
  · have := h.few
    rw [hs] at this
    simp at this
    show os.length ≤ 5000
    omega
  · obtain ⟨bk, k1, k2, k3⟩ := hnd.ks
    obtain ⟨bi, i1, i2, i3⟩ := hnd.is
    have k1' := (own_tr k1 hT' hnd.kl (by omega)).1
    have i1' := (own_tr i1 hT' hnd.il (by omega)).1
    have hD : 0 < D := by
      rcases D with _ | D
      · exact absurd h.rt id
      · omega
    obtain ⟨D', rfl⟩ : ∃ D', D = D' + 1 := ⟨D - 1, by omega⟩
    obtain ⟨r1, r2, r3⟩ := own_row (l := t.keys) (Q := NdS (fun k => shut lab ns.length k = 0 ∧ B ≤ k ∧ k < w1.heap.size) (D' + 1) w1) k1' k2 hk.1 (fun j hj hj2 => by rw [(k3 j hj hj2).1]; exact leaf_nd (k3 j hj hj2).2 _ D' w1)
    obtain ⟨s1, s2, s3⟩ := own_row (l := t.kids) (Q := NdS (fun k => shut lab ns.length k = 0 ∧ B ≤ k ∧ k < w1.heap.size) (D' + 1) w1) i1' i2 hk.2 (fun j hj hj2 => cl (i3 j hj hj2))
    have fl := hnd.fl
    have tf := hnd.tf
    have f1 : nb.kind = t.kind := by rw [fl]
    have f2 : nb.num = 0 := by rw [fl]
    have f3 : nb.neg = false := by rw [fl]
    have f4 : nb.dig = ⟨#[]⟩ := by rw [fl]
    have f5 : nb.exp = 0 := by rw [fl]
    have f6 : nb.txt = ⟨#[]⟩ := by rw [fl]
    have f7 : nb.ab = none := by rw [fl]
    have f8 : nb.lb = 0 := by rw [fl]
    have f9 : nb.cb = 0 := by rw [fl]
    have g2 : t.num = 0 := by rw [tf]
    have g3 : t.neg = false := by rw [tf]
    have g4 : t.dig = ⟨#[]⟩ := by rw [tf]
    have g5 : t.exp = 0 := by rw [tf]
    have g6 : t.txt = ⟨#[]⟩ := by rw [tf]
    have g7 : t.bytes = [] := by rw [tf]
    refine ⟨⟨f1, by rw [f2, g2], by rw [f3, g3], by rw [f4, g4], by rw [f5, g5], by rw [f6, g6]⟩, ⟨kind_wf hnd.kd, by rw [g2]; decide, by rw [g5]; decide, by rw [g4]; decide, by rw [g6]; decide⟩, ⟨by rw [g7, f8]; rfl, by rw [f7, f8, f9]; exact ⟨Nat.le_refl _, Nat.zero_le _, fun _ => rfl, by omega⟩, by rw [g7]; simp [Bytes]⟩, ⟨fun q => by rw [f8] at q; omega, fun _ x hx => ?_, fun _ x hx => ?_⟩, r1, s1⟩
    · exact ⟨shut_own (.inl (hnd.kl _ (r3 x hx).1)), (r3 x hx).2⟩
    · exact ⟨shut_own (.inr (hnd.il _ (s3 x hx).1)), (s3 x hx).2⟩
end Go.Proofs.YtmlacmoembjeoaaGreatDoor
namespace Go.Proofs.YtmlacmoembjeoaaGreatDoor
open Go.RowKit
set_option linter.unusedVariables false
set_option maxHeartbeats 2000000 in
set_option maxRecDepth 100000 in
/-- jread.end: the node is taken off the stack and put. -/
theorem rend_any {w : World} {g go n co : Nat} {free : Bool} {nx : Nat} {nodes : Int} {r x : Nb} {ended : Bool} {Q : World → World → Prop} (h : RBox w g free nx (some ⟨go, 0, none⟩) (n + 1) co nodes r ended) (hn : n ≤ 100000) (hco : n + 1 ≤ co) (hcm : co ≤ 9223372036854775807)
    (hsp : ∀ j, j < 9 → w.cell? ⟨go, n * 9 + j, none⟩ = x.cells[j]?) (hgo : go < w.heap.size)
    (kP : ∀ w', RBox w' g free nx (some ⟨go, 0, none⟩) n co nodes r ended → (∀ k, k < w.heap.size → k ≠ g → w'.heap[k]? = w.heap[k]?) → w'.os = w.os → w'.tape = w.tape → w'.output = w.output → w.heap.size ≤ w'.heap.size → Calls Tryz.prog 43 #[.pointer (some ⟨g, 0, none⟩), .agg x.arr] w' fun e w'' => e = .returned (.tuple #[]) ∧ Q w' w'') :
    Calls Tryz.prog 65 #[.pointer (some ⟨g, 0, none⟩)] w fun e w' => e = .returned (.int .i64 0) ∧ ∃ w1, Q w1 w' := by
  have kI := inn_any h hn
  have hR : Hid (RBox w g free nx (some ⟨go, 0, none⟩) (n + 1) co nodes r ended) := h
  have W1 : IntKind.i64.wrap (((n + 1 : Nat) : Int) - 1) = (n : Int) := by rw [IntKind.wrap_i64]; omega
  have z0 : (0 : Int) ≤ (n : Int) := by omega
  have z1 : (n : Int) ≤ (co : Int) := by omega
  have hsp' : Hid (∀ j, j < 9 → w.cell? ⟨go, n * 9 + j, none⟩ = x.cells[j]?) := hsp
  have hgo' : Hid (go < w.heap.size) := hgo
  have kP' : Hid (∀ w', _) := kP
  clear h hsp hgo kP
  go_enter Tryz.func65, Tryz.ntmps65
  go_wp2_with (go_at_call 68; refine kI.mono ?_; rintro e w1 ⟨rfl, hb1, hw1⟩; clear kI; have s0 : w1.cell? ⟨go, n * 9, none⟩ = some (.int .i64 x.kind) := (hb1.cell (p := ⟨go, n * 9, none⟩) hgo'.out).trans (hsp'.out 0 (by decide)); have s1 : w1.cell? ⟨go, n * 9 + 1, none⟩ = some (.int .u64 x.num) := (hb1.cell (p := ⟨go, n * 9 + 1, none⟩) hgo'.out).trans (hsp'.out 1 (by decide)); have s2 : w1.cell? ⟨go, n * 9 + 2, none⟩ = some (.bool x.neg) := (hb1.cell (p := ⟨go, n * 9 + 2, none⟩) hgo'.out).trans (hsp'.out 2 (by decide)); have s3 : w1.cell? ⟨go, n * 9 + 3, none⟩ = some (.string x.dig) := (hb1.cell (p := ⟨go, n * 9 + 3, none⟩) hgo'.out).trans (hsp'.out 3 (by decide)); have s4 : w1.cell? ⟨go, n * 9 + 4, none⟩ = some (.int .i64 x.exp) := (hb1.cell (p := ⟨go, n * 9 + 4, none⟩) hgo'.out).trans (hsp'.out 4 (by decide)); have s5 : w1.cell? ⟨go, n * 9 + 5, none⟩ = some (.string x.txt) := (hb1.cell (p := ⟨go, n * 9 + 5, none⟩) hgo'.out).trans (hsp'.out 5 (by decide)); have s6 : w1.cell? ⟨go, n * 9 + 6, none⟩ = some (.slice x.ab x.lb x.cb) := (hb1.cell (p := ⟨go, n * 9 + 6, none⟩) hgo'.out).trans (hsp'.out 6 (by decide)); have s7 : w1.cell? ⟨go, n * 9 + 7, none⟩ = some (.slice x.ak x.lk x.ck) := (hb1.cell (p := ⟨go, n * 9 + 7, none⟩) hgo'.out).trans (hsp'.out 7 (by decide)); have s8 : w1.cell? ⟨go, n * 9 + 8, none⟩ = some (.slice x.ai x.li x.ci) := (hb1.cell (p := ⟨go, n * 9 + 8, none⟩) hgo'.out).trans (hsp'.out 8 (by decide)); have RA : Hid (RBox (w1.alloc (.cells #[.int .i64 x.kind, .int .u64 x.num, .bool x.neg, .string x.dig, .int .i64 x.exp, .string x.txt, .slice x.ab x.lb x.cb, .slice x.ak x.lk x.ck, .slice x.ai x.li x.ci] 26)) g free nx (some ⟨go, 0, none⟩) (n + 1) co nodes r ended) := (hR.out.same (hb1.block g hR.out.lt)).same ((alloc_below w1 _).block g (Nat.lt_of_lt_of_le hR.out.lt hb1.size)); have a2 := RA.out.fields.2.2.1; have z2 := RA.out.fz 2; have NA : Hid (NBox (w1.alloc (.cells #[.int .i64 x.kind, .int .u64 x.num, .bool x.neg, .string x.dig, .int .i64 x.exp, .string x.txt, .slice x.ab x.lb x.cb, .slice x.ak x.lk x.ck, .slice x.ai x.li x.ci] 26)) w1.heap.size x) := nbox_new w1 x; have BA : Hid (Below w.heap.size w (w1.alloc (.cells #[.int .i64 x.kind, .int .u64 x.num, .bool x.neg, .string x.dig, .int .i64 x.exp, .string x.txt, .slice x.ab x.lb x.cb, .slice x.ak x.lk x.ck, .slice x.ai x.li x.ci] 26))) := hb1.trans ((alloc_below w1 _).mono hb1.size); have gl1 : Hid (g < w1.heap.size) := Nat.lt_of_lt_of_le hR.out.lt hb1.size; clear hb1 hw1)
  go_region
  have R2 : RBox ((w1.alloc (.cells #[.int .i64 x.kind, .int .u64 x.num, .bool x.neg, .string x.dig, .int .i64 x.exp, .string x.txt, .slice x.ab x.lb x.cb, .slice x.ak x.lk x.ck, .slice x.ai x.li x.ci] 26)).setCell ⟨g, 2, none⟩ (.slice (some ⟨go, 0, none⟩) n co)).drew g free nx (some ⟨go, 0, none⟩) n co nodes r ended := RBox.set RA.out 2 _ rfl
  have N2 : NBox ((w1.alloc (.cells #[.int .i64 x.kind, .int .u64 x.num, .bool x.neg, .string x.dig, .int .i64 x.exp, .string x.txt, .slice x.ab x.lb x.cb, .slice x.ak x.lk x.ck, .slice x.ai x.li x.ci] 26)).setCell ⟨g, 2, none⟩ (.slice (some ⟨go, 0, none⟩) n co)).drew w1.heap.size x := NA.out.same (setk (fun e => by have := gl1.out; omega) _)
  have X2 : ∀ k, k < w.heap.size → k ≠ g → ((w1.alloc (.cells #[.int .i64 x.kind, .int .u64 x.num, .bool x.neg, .string x.dig, .int .i64 x.exp, .string x.txt, .slice x.ab x.lb x.cb, .slice x.ak x.lk x.ck, .slice x.ai x.li x.ci] 26)).setCell ⟨g, 2, none⟩ (.slice (some ⟨go, 0, none⟩) n co)).drew.heap[k]? = w.heap[k]? := fun k hk hne => (setk hne _).trans (BA.out.block k hk)
  have S2 : w.heap.size ≤ ((w1.alloc (.cells #[.int .i64 x.kind, .int .u64 x.num, .bool x.neg, .string x.dig, .int .i64 x.exp, .string x.txt, .slice x.ab x.lb x.cb, .slice x.ak x.lk x.ck, .slice x.ai x.li x.ci] 26)).setCell ⟨g, 2, none⟩ (.slice (some ⟨go, 0, none⟩) n co)).drew.heap.size := Nat.le_trans BA.out.size (Nat.le_of_eq (set_size _ _ _ _).symm)
  have k2 := kP'.out ((w1.alloc (.cells #[.int .i64 x.kind, .int .u64 x.num, .bool x.neg, .string x.dig, .int .i64 x.exp, .string x.txt, .slice x.ab x.lb x.cb, .slice x.ak x.lk x.ck, .slice x.ai x.li x.ci] 26)).setCell ⟨g, 2, none⟩ (.slice (some ⟨go, 0, none⟩) n co)).drew R2 X2 BA.out.os BA.out.tape BA.out.output S2
  have N2' : Hid (NBox ((w1.alloc (.cells #[.int .i64 x.kind, .int .u64 x.num, .bool x.neg, .string x.dig, .int .i64 x.exp, .string x.txt, .slice x.ab x.lb x.cb, .slice x.ak x.lk x.ck, .slice x.ai x.li x.ci] 26)).setCell ⟨g, 2, none⟩ (.slice (some ⟨go, 0, none⟩) n co)).drew w1.heap.size x) := N2
  generalize hw2 : ((w1.alloc (.cells #[.int .i64 x.kind, .int .u64 x.num, .bool x.neg, .string x.dig, .int .i64 x.exp, .string x.txt, .slice x.ab x.lb x.cb, .slice x.ak x.lk x.ck, .slice x.ai x.li x.ci] 26)).setCell ⟨g, 2, none⟩ (.slice (some ⟨go, 0, none⟩) n co)).drew = w2 at k2 N2' ⊢
  obtain ⟨x0, x1, x2, x3, x4, x5, x6, x7, x8⟩ := N2'.out.fields
  clear R2 N2 X2 S2 hw2 s0 s1 s2 s3 s4 s5 s6 s7 s8 a2 z2
  go_wp2_with (go_at_call 43; refine k2.mono ?_; rintro e w3 ⟨rfl, hq⟩; have hq' : Hid (Q w2 w3) := hq; clear hq)
  go_ret
  exact ⟨rfl, w2, hq'.out⟩
end Go.Proofs.YtmlacmoembjeoaaGreatDoor
