/-
  A key that is refused: jread.reader.key.
  The reader's steps: which token may stand where.
-/
import Derived.Test.YtmlacmoembjeoaaGreatDoorV20
import Derived.Test.YtmlacmoembjeoaaGreatDoorV13
import Derived.Test.YtmlacmoembjeoaaGreatDoorV15
namespace Go.Proofs.YtmlacmoembjeoaaGreatDoor
open Go.RowKit
set_option linter.unusedVariables false
set_option maxHeartbeats 2000000 in
set_option maxRecDepth 100000 in
theorem key_bad {B : Nat} {w : World} {g go n co lk cap : Nat} {ak : Option Addr} {bk : List Nb} {free : Bool} {nx : Nat} {nodes : Int} {r : Nb} {ended : Bool} {cur : Array Value} (h : RBox w g free nx (some ⟨go, 0, none⟩) (n + 1) co nodes r ended) (hn : n ≤ 100000)
    (hrow : w.heap[go]? = some (.cells cur 26 (0, 0))) (h7 : cur[n * 9 + 7]? = some (.slice ak lk cap)) (hO : OwnsN 26 w B (.slice ak lk cap) bk) (hl : bk.length = lk) (hlk : lk ≤ 100000) (hB : B ≤ w.heap.size)
    (n1 : (Value.slice ak lk cap).ownBlock ≠ some go) (n2 : (Value.slice ak lk cap).ownBlock ≠ some g) (n3 : go ≠ g) (f t : Int) (s : ByteArray) (h0 : 0 ≤ nodes) (h1 : nodes ≤ 1000000) (Y : Int) (hbg : beginA free nodes (n + 1) (if hasT bk s = true then 9 else 0) = Y) (hY : Y ≠ 0) :
    Calls Tryz.prog 66 #[.pointer (some ⟨g, 0, none⟩), .agg #[.int .i64 7, .int .i64 f, .int .i64 t, .string s]] w fun e w' => e = .returned (.int .i64 Y) ∧ Rd w w' g := by
  have A1 := alloc_below w (.cells #[.int .i64 7, .int .i64 f, .int .i64 t, .string s] 40)
  have T1 : Hid (Blk (w.alloc (.cells #[.int .i64 7, .int .i64 f, .int .i64 t, .string s] 40)) w.heap.size #[.int .i64 7, .int .i64 f, .int .i64 t, .string s] 40) := blk_new w _ _
  have c0 : (w.alloc (.cells #[.int .i64 7, .int .i64 f, .int .i64 t, .string s] 40)).cell? ⟨w.heap.size, 0, none⟩ = some (.int .i64 7) := T1.out.cell 0
  have RA : Hid (RBox (w.alloc (.cells #[.int .i64 7, .int .i64 f, .int .i64 t, .string s] 40)) g free nx (some ⟨go, 0, none⟩) (n + 1) co nodes r ended) := h.same (A1.block g h.lt)
  have kI := inn_any RA.out hn
  have BA : Hid (Below w.heap.size w (w.alloc (.cells #[.int .i64 7, .int .i64 f, .int .i64 t, .string s] 40))) := A1
  have hgo : Hid (go < w.heap.size) := (Array.getElem?_eq_some_iff.1 hrow).1
  have hgl : Hid (g < w.heap.size) := h.lt
  have hrA : Hid ((w.alloc (.cells #[.int .i64 7, .int .i64 f, .int .i64 t, .string s] 40)).heap[go]? = some (.cells cur 26 (0, 0))) := by show _ = _; rw [A1.block go hgo.out]; exact hrow
  obtain ⟨ha1, ha2, hNn, _⟩ : ∃ (_ : lk ≤ cap) (_ : cap ≤ 9223372036854775807) (_ : Nine w ak bk), True := by
    obtain ⟨a', cap', hv, hc, hni, _⟩ := hO.shape
    rw [hl] at hv hc
    cases hv
    unfold maxLen at hc
    exact ⟨hc.1, hc.2.1, hni, trivial⟩
  have kT : Hid (∀ w', Below w.heap.size w w' → Calls Tryz.prog 86 #[.slice ak lk cap, .string s] w' _) := fun w' hb => twice_any ak lk cap bk s w' hl (hNn.kept hb) ha1 ha2 _ rfl
  generalize hTV : (if hasT bk s = true then (9 : Int) else 0) = TV at *
  have kG : Hid (∀ w', RBox w' g free nx (some ⟨go, 0, none⟩) (n + 1) co nodes r ended → Calls Tryz.prog 40 #[.pointer (some ⟨g, 0, none⟩), .int .i64 TV] w' fun e w'' => e = .returned (.int .i64 Y) ∧ w'' = w'.setCell ⟨g, 3, none⟩ (.int .i64 (nodes + 1))) := fun w' h' => by have := beg_any h' TV h0 h1; rw [hbg] at this; exact this
  have h7' : Hid (cur[n * 9 + 7]? = some (.slice ak lk cap)) := h7
  have hO' : Hid (OwnsN 26 w B (.slice ak lk cap) bk) := hO
  have hl' : Hid (bk.length = lk) := hl
  have hlk' : Hid (lk ≤ 100000) := hlk
  have hB' : Hid (B ≤ w.heap.size) := hB
  have n1' : Hid ((Value.slice ak lk cap).ownBlock ≠ some go) := n1
  have n2' : Hid ((Value.slice ak lk cap).ownBlock ≠ some g) := n2
  have n3' : Hid (go ≠ g) := n3
  have hY' : (Y != 0) = true := by simp [hY]
  clear hY
  clear A1 h hrow hbg hNn h7 hO hl hlk hB n1 n2 n3 hTV
  go_enter Tryz.func66, Tryz.ntmps66
  go_upto_region 4 with (go_at_call 68; refine kI.mono ?_; rintro e w1 ⟨rfl, hb1, hw1⟩; clear kI; have B1 : Hid (Below w.heap.size w w1) := BA.out.trans (hb1.mono BA.out.size); have T2 : Hid (Blk w1 w.heap.size #[.int .i64 7, .int .i64 f, .int .i64 t, .string s] 40) := T1.out.kept hb1 T1.out.lt; have t3 : w1.cell? ⟨w.heap.size, 3, none⟩ = some (.string s) := T2.out.cell 3; have r1 : Hid (w1.heap[go]? = some (.cells cur 26 (0, 0))) := (by show _ = _; rw [hw1]; exact hrA.out); have c7 : w1.cell? ⟨go, n * 9 + 7, none⟩ = some (.slice ak lk cap) := (cell_row r1.out _).trans h7'.out; have R1 : Hid (RBox w1 g free nx (some ⟨go, 0, none⟩) (n + 1) co nodes r ended) := RA.out.same (by rw [hw1]); have k2 := kT.out w1 B1.out; have k2' := kT.out w1.drew B1.out.drew; clear hb1 hw1)
  go_cut [6] (fun v wx => v = .int .i64 Y ∧ ∃ w2, Hid (Below w1.heap.size w1 w2) ∧ wx = w2.setCell ⟨g, 3, none⟩ (.int .i64 (nodes + 1)))
  case first =>
    go_region_with (first
      | (go_at_call 86; refine k2'.mono ?_; rintro e w2 ⟨rfl, hb2⟩; have B2 : Hid (Below w1.heap.size w1 w2) := (Below.refl _ _).drew.trans hb2; have k3 := kG.out w2 (R1.out.same (B2.out.block g R1.out.lt)); clear hb2)
      | (go_at_call 86; refine k2.mono ?_; rintro e w2 ⟨rfl, hb2⟩; have B2 : Hid (Below w1.heap.size w1 w2) := hb2; have k3 := kG.out w2 (R1.out.same (B2.out.block g R1.out.lt)); clear hb2)
      | (go_at_call 40; refine k3.mono ?_; rintro e w3 ⟨rfl, hw3⟩; have W3 : Hid (w3 = w2.setCell ⟨g, 3, none⟩ (.int .i64 (nodes + 1))) := hw3; clear hw3))
    all_goals (go_wp2_with fail; go_meet; exact ⟨rfl, w2, B2, W3.out⟩)
  case rest =>
    obtain ⟨rfl, w2, B2, rfl⟩ := hcut
    have D5 : Hid (Rd w (w2.setCell ⟨g, 3, none⟩ (.int .i64 (nodes + 1))) g) := (Rd.of (B1.out.trans (B2.out.mono B1.out.size))).trans (Rd.set _ _ _ _)
    clear t3 c7 k2 k2'
    go_wp2
    go_ret
    exact ⟨rfl, D5.out⟩
end Go.Proofs.YtmlacmoembjeoaaGreatDoor
namespace Go.Proofs.YtmlacmoembjeoaaGreatDoor
open Go.RowKit
set_option linter.unusedVariables false
set_option maxHeartbeats 1000000 in
set_option maxRecDepth 100000 in
/-- jread.nothing. -/
theorem not_any {w : World} {g : Nat} (k : Nat) (f t : Int) (s : ByteArray) : Calls Tryz.prog 67 #[.pointer (some ⟨g, 0, none⟩), .agg #[.int .i64 (k : Int), .int .i64 f, .int .i64 t, .string s]] w fun e w' => e = .returned (.int .i64 10) ∧ Below w.heap.size w w' := by
  have A1 := alloc_below w (.cells #[.int .i64 (k : Int), .int .i64 f, .int .i64 t, .string s] 40)
  have T1 : Blk (w.alloc (.cells #[.int .i64 (k : Int), .int .i64 f, .int .i64 t, .string s] 40)) w.heap.size #[.int .i64 (k : Int), .int .i64 f, .int .i64 t, .string s] 40 := blk_new w _ _
  have c0 : (w.alloc (.cells #[.int .i64 (k : Int), .int .i64 f, .int .i64 t, .string s] 40)).cell? ⟨w.heap.size, 0, none⟩ = some (.int .i64 (k : Int)) := T1.cell 0
  have c1 : (w.alloc (.cells #[.int .i64 (k : Int), .int .i64 f, .int .i64 t, .string s] 40)).cell? ⟨w.heap.size, 1, none⟩ = some (.int .i64 f) := T1.cell 1
  have c2 : (w.alloc (.cells #[.int .i64 (k : Int), .int .i64 f, .int .i64 t, .string s] 40)).cell? ⟨w.heap.size, 2, none⟩ = some (.int .i64 t) := T1.cell 2
  have c3 : (w.alloc (.cells #[.int .i64 (k : Int), .int .i64 f, .int .i64 t, .string s] 40)).cell? ⟨w.heap.size, 3, none⟩ = some (.string s) := T1.cell 3
  have BA : Hid (Below w.heap.size w (w.alloc (.cells #[.int .i64 (k : Int), .int .i64 f, .int .i64 t, .string s] 40))) := A1
  clear A1 T1
  go_enter Tryz.func67, Tryz.ntmps67
  go_wp2
  go_ret
  exact ⟨rfl, BA.out⟩
set_option maxHeartbeats 1000000 in
set_option maxRecDepth 100000 in
theorem col_bad {w : World} {g : Nat} (k : Nat) (f t : Int) (s : ByteArray) (hk : k ≠ 5) : Calls Tryz.prog 87 #[.pointer (some ⟨g, 0, none⟩), .agg #[.int .i64 (k : Int), .int .i64 f, .int .i64 t, .string s]] w fun e w' => e = .returned (.int .i64 5) ∧ Below w.heap.size w w' := by
  have A1 := alloc_below w (.cells #[.int .i64 (k : Int), .int .i64 f, .int .i64 t, .string s] 40)
  have T1 : Blk (w.alloc (.cells #[.int .i64 (k : Int), .int .i64 f, .int .i64 t, .string s] 40)) w.heap.size #[.int .i64 (k : Int), .int .i64 f, .int .i64 t, .string s] 40 := blk_new w _ _
  have c0 : (w.alloc (.cells #[.int .i64 (k : Int), .int .i64 f, .int .i64 t, .string s] 40)).cell? ⟨w.heap.size, 0, none⟩ = some (.int .i64 (k : Int)) := T1.cell 0
  have c1 : (w.alloc (.cells #[.int .i64 (k : Int), .int .i64 f, .int .i64 t, .string s] 40)).cell? ⟨w.heap.size, 1, none⟩ = some (.int .i64 f) := T1.cell 1
  have c2 : (w.alloc (.cells #[.int .i64 (k : Int), .int .i64 f, .int .i64 t, .string s] 40)).cell? ⟨w.heap.size, 2, none⟩ = some (.int .i64 t) := T1.cell 2
  have c3 : (w.alloc (.cells #[.int .i64 (k : Int), .int .i64 f, .int .i64 t, .string s] 40)).cell? ⟨w.heap.size, 3, none⟩ = some (.string s) := T1.cell 3
  have BA : Hid (Below w.heap.size w (w.alloc (.cells #[.int .i64 (k : Int), .int .i64 f, .int .i64 t, .string s] 40))) := A1
  have e5 : ((k : Int) != 5) = true := by simp; omega
  clear A1 T1 hk
  go_enter Tryz.func87, Tryz.ntmps87
  go_wp2
  go_ret
  exact ⟨rfl, BA.out⟩
set_option maxHeartbeats 1000000 in
set_option maxRecDepth 100000 in
theorem col_ok {w : World} {g no co : Nat} {ao : Option Addr} {free : Bool} {nx : Nat} {nodes : Int} {r : Nb} {ended : Bool} (h : RBox w g free nx ao no co nodes r ended) (k : Nat) (f t : Int) (s : ByteArray) (hk : k = 5) : Calls Tryz.prog 87 #[.pointer (some ⟨g, 0, none⟩), .agg #[.int .i64 (k : Int), .int .i64 f, .int .i64 t, .string s]] w fun e w' => e = .returned (.int .i64 0) ∧ RBox w' g free 27 ao no co nodes r ended ∧ Rd w w' g := by
  have A1 := alloc_below w (.cells #[.int .i64 (k : Int), .int .i64 f, .int .i64 t, .string s] 40)
  have T1 : Blk (w.alloc (.cells #[.int .i64 (k : Int), .int .i64 f, .int .i64 t, .string s] 40)) w.heap.size #[.int .i64 (k : Int), .int .i64 f, .int .i64 t, .string s] 40 := blk_new w _ _
  have c0 : (w.alloc (.cells #[.int .i64 (k : Int), .int .i64 f, .int .i64 t, .string s] 40)).cell? ⟨w.heap.size, 0, none⟩ = some (.int .i64 (k : Int)) := T1.cell 0
  have c1 : (w.alloc (.cells #[.int .i64 (k : Int), .int .i64 f, .int .i64 t, .string s] 40)).cell? ⟨w.heap.size, 1, none⟩ = some (.int .i64 f) := T1.cell 1
  have c2 : (w.alloc (.cells #[.int .i64 (k : Int), .int .i64 f, .int .i64 t, .string s] 40)).cell? ⟨w.heap.size, 2, none⟩ = some (.int .i64 t) := T1.cell 2
  have c3 : (w.alloc (.cells #[.int .i64 (k : Int), .int .i64 f, .int .i64 t, .string s] 40)).cell? ⟨w.heap.size, 3, none⟩ = some (.string s) := T1.cell 3
  have BA : Hid (Below w.heap.size w (w.alloc (.cells #[.int .i64 (k : Int), .int .i64 f, .int .i64 t, .string s] 40))) := A1
  have e5 : ((k : Int) != 5) = false := by simp; omega
  have RA : Hid (RBox (w.alloc (.cells #[.int .i64 (k : Int), .int .i64 f, .int .i64 t, .string s] 40)) g free nx ao no co nodes r ended) := h.same (A1.block g h.lt)
  have a1 := RA.out.fields.2.1
  have z1 := RA.out.fz 1
  have hsf : ∀ (w : World) (a : Addr) (f : Fn) (x y : Array Value) (m : Mode), (store a (.func f x y) m).run Tryz.prog w = stored Tryz.prog w a (.func f x y) m := store_fn
  clear A1 T1 h hk
  go_enter Tryz.func87, Tryz.ntmps87
  go_wp2
  go_ret
  exact ⟨rfl, RA.out.set (nx' := 27) 1 _ rfl, (Rd.of BA.out).trans (Rd.set _ _ _ _)⟩
set_option maxHeartbeats 1000000 in
set_option maxRecDepth 100000 in
theorem bk_bad {w : World} {g : Nat} (k : Nat) (f t : Int) (s : ByteArray) (hk : k ≠ 6) (hk2 : k ≠ 4) : Calls Tryz.prog 69 #[.pointer (some ⟨g, 0, none⟩), .agg #[.int .i64 (k : Int), .int .i64 f, .int .i64 t, .string s]] w fun e w' => e = .returned (.int .i64 5) ∧ Below w.heap.size w w' := by
  have A1 := alloc_below w (.cells #[.int .i64 (k : Int), .int .i64 f, .int .i64 t, .string s] 40)
  have T1 : Blk (w.alloc (.cells #[.int .i64 (k : Int), .int .i64 f, .int .i64 t, .string s] 40)) w.heap.size #[.int .i64 (k : Int), .int .i64 f, .int .i64 t, .string s] 40 := blk_new w _ _
  have c0 : (w.alloc (.cells #[.int .i64 (k : Int), .int .i64 f, .int .i64 t, .string s] 40)).cell? ⟨w.heap.size, 0, none⟩ = some (.int .i64 (k : Int)) := T1.cell 0
  have c1 : (w.alloc (.cells #[.int .i64 (k : Int), .int .i64 f, .int .i64 t, .string s] 40)).cell? ⟨w.heap.size, 1, none⟩ = some (.int .i64 f) := T1.cell 1
  have c2 : (w.alloc (.cells #[.int .i64 (k : Int), .int .i64 f, .int .i64 t, .string s] 40)).cell? ⟨w.heap.size, 2, none⟩ = some (.int .i64 t) := T1.cell 2
  have c3 : (w.alloc (.cells #[.int .i64 (k : Int), .int .i64 f, .int .i64 t, .string s] 40)).cell? ⟨w.heap.size, 3, none⟩ = some (.string s) := T1.cell 3
  have BA : Hid (Below w.heap.size w (w.alloc (.cells #[.int .i64 (k : Int), .int .i64 f, .int .i64 t, .string s] 40))) := A1
  have e6 : ((k : Int) == 6) = false := by simp; omega
  have e4 : ((k : Int) == 4) = false := by simp; omega
  clear A1 T1 hk hk2
  go_enter Tryz.func69, Tryz.ntmps69
  go_wp2
  go_ret
  exact ⟨rfl, BA.out⟩
set_option maxHeartbeats 1000000 in
set_option maxRecDepth 100000 in
theorem bk_next {w : World} {g no co : Nat} {ao : Option Addr} {free : Bool} {nx : Nat} {nodes : Int} {r : Nb} {ended : Bool} (h : RBox w g free nx ao no co nodes r ended) (k : Nat) (f t : Int) (s : ByteArray) (hk : k = 6) : Calls Tryz.prog 69 #[.pointer (some ⟨g, 0, none⟩), .agg #[.int .i64 (k : Int), .int .i64 f, .int .i64 t, .string s]] w fun e w' => e = .returned (.int .i64 0) ∧ RBox w' g free 27 ao no co nodes r ended ∧ Rd w w' g := by
  have A1 := alloc_below w (.cells #[.int .i64 (k : Int), .int .i64 f, .int .i64 t, .string s] 40)
  have T1 : Blk (w.alloc (.cells #[.int .i64 (k : Int), .int .i64 f, .int .i64 t, .string s] 40)) w.heap.size #[.int .i64 (k : Int), .int .i64 f, .int .i64 t, .string s] 40 := blk_new w _ _
  have c0 : (w.alloc (.cells #[.int .i64 (k : Int), .int .i64 f, .int .i64 t, .string s] 40)).cell? ⟨w.heap.size, 0, none⟩ = some (.int .i64 (k : Int)) := T1.cell 0
  have c1 : (w.alloc (.cells #[.int .i64 (k : Int), .int .i64 f, .int .i64 t, .string s] 40)).cell? ⟨w.heap.size, 1, none⟩ = some (.int .i64 f) := T1.cell 1
  have c2 : (w.alloc (.cells #[.int .i64 (k : Int), .int .i64 f, .int .i64 t, .string s] 40)).cell? ⟨w.heap.size, 2, none⟩ = some (.int .i64 t) := T1.cell 2
  have c3 : (w.alloc (.cells #[.int .i64 (k : Int), .int .i64 f, .int .i64 t, .string s] 40)).cell? ⟨w.heap.size, 3, none⟩ = some (.string s) := T1.cell 3
  have BA : Hid (Below w.heap.size w (w.alloc (.cells #[.int .i64 (k : Int), .int .i64 f, .int .i64 t, .string s] 40))) := A1
  have e6 : ((k : Int) == 6) = true := by simp; omega
  have RA : Hid (RBox (w.alloc (.cells #[.int .i64 (k : Int), .int .i64 f, .int .i64 t, .string s] 40)) g free nx ao no co nodes r ended) := h.same (A1.block g h.lt)
  have a1 := RA.out.fields.2.1
  have z1 := RA.out.fz 1
  have hsf : ∀ (w : World) (a : Addr) (f : Fn) (x y : Array Value) (m : Mode), (store a (.func f x y) m).run Tryz.prog w = stored Tryz.prog w a (.func f x y) m := store_fn
  clear A1 T1 h hk
  go_enter Tryz.func69, Tryz.ntmps69
  go_wp2
  go_ret
  exact ⟨rfl, RA.out.set (nx' := 27) 1 _ rfl, (Rd.of BA.out).trans (Rd.set _ _ _ _)⟩
set_option maxHeartbeats 1000000 in
set_option maxRecDepth 100000 in
theorem bk_end {w : World} {g : Nat} {Q : Ending → World → World → Prop} (k : Nat) (f t : Int) (s : ByteArray) (hk : k = 4) (kE : ∀ w', Below w.heap.size w w' → Calls Tryz.prog 65 #[.pointer (some ⟨g, 0, none⟩)] w' fun e w'' => (∃ y, e = .returned (.int .i64 y)) ∧ Q e w' w'') : Calls Tryz.prog 69 #[.pointer (some ⟨g, 0, none⟩), .agg #[.int .i64 (k : Int), .int .i64 f, .int .i64 t, .string s]] w fun e w'' => ∃ w', Below w.heap.size w w' ∧ Q e w' w'' := by
  have A1 := alloc_below w (.cells #[.int .i64 (k : Int), .int .i64 f, .int .i64 t, .string s] 40)
  have T1 : Blk (w.alloc (.cells #[.int .i64 (k : Int), .int .i64 f, .int .i64 t, .string s] 40)) w.heap.size #[.int .i64 (k : Int), .int .i64 f, .int .i64 t, .string s] 40 := blk_new w _ _
  have c0 : (w.alloc (.cells #[.int .i64 (k : Int), .int .i64 f, .int .i64 t, .string s] 40)).cell? ⟨w.heap.size, 0, none⟩ = some (.int .i64 (k : Int)) := T1.cell 0
  have c1 : (w.alloc (.cells #[.int .i64 (k : Int), .int .i64 f, .int .i64 t, .string s] 40)).cell? ⟨w.heap.size, 1, none⟩ = some (.int .i64 f) := T1.cell 1
  have c2 : (w.alloc (.cells #[.int .i64 (k : Int), .int .i64 f, .int .i64 t, .string s] 40)).cell? ⟨w.heap.size, 2, none⟩ = some (.int .i64 t) := T1.cell 2
  have c3 : (w.alloc (.cells #[.int .i64 (k : Int), .int .i64 f, .int .i64 t, .string s] 40)).cell? ⟨w.heap.size, 3, none⟩ = some (.string s) := T1.cell 3
  have BA : Hid (Below w.heap.size w (w.alloc (.cells #[.int .i64 (k : Int), .int .i64 f, .int .i64 t, .string s] 40))) := A1
  have e6 : ((k : Int) == 6) = false := by simp; omega
  have e4 : ((k : Int) == 4) = true := by simp; omega
  have k1 := kE _ BA.out
  clear A1 T1 kE hk
  go_enter Tryz.func69, Tryz.ntmps69
  go_wp2_with (go_at_call 65; refine k1.mono ?_; rintro e w1 ⟨⟨y, rfl⟩, hq⟩; have hq' : Hid (Q _ _ w1) := hq; clear hq k1)
  go_ret
  exact ⟨_, BA.out, hq'.out⟩
set_option maxHeartbeats 1000000 in
set_option maxRecDepth 100000 in
theorem bm_bad {w : World} {g : Nat} (k : Nat) (f t : Int) (s : ByteArray) (hk : k ≠ 6) (hk2 : k ≠ 2) : Calls Tryz.prog 70 #[.pointer (some ⟨g, 0, none⟩), .agg #[.int .i64 (k : Int), .int .i64 f, .int .i64 t, .string s]] w fun e w' => e = .returned (.int .i64 5) ∧ Below w.heap.size w w' := by
  have A1 := alloc_below w (.cells #[.int .i64 (k : Int), .int .i64 f, .int .i64 t, .string s] 40)
  have T1 : Blk (w.alloc (.cells #[.int .i64 (k : Int), .int .i64 f, .int .i64 t, .string s] 40)) w.heap.size #[.int .i64 (k : Int), .int .i64 f, .int .i64 t, .string s] 40 := blk_new w _ _
  have c0 : (w.alloc (.cells #[.int .i64 (k : Int), .int .i64 f, .int .i64 t, .string s] 40)).cell? ⟨w.heap.size, 0, none⟩ = some (.int .i64 (k : Int)) := T1.cell 0
  have c1 : (w.alloc (.cells #[.int .i64 (k : Int), .int .i64 f, .int .i64 t, .string s] 40)).cell? ⟨w.heap.size, 1, none⟩ = some (.int .i64 f) := T1.cell 1
  have c2 : (w.alloc (.cells #[.int .i64 (k : Int), .int .i64 f, .int .i64 t, .string s] 40)).cell? ⟨w.heap.size, 2, none⟩ = some (.int .i64 t) := T1.cell 2
  have c3 : (w.alloc (.cells #[.int .i64 (k : Int), .int .i64 f, .int .i64 t, .string s] 40)).cell? ⟨w.heap.size, 3, none⟩ = some (.string s) := T1.cell 3
  have BA : Hid (Below w.heap.size w (w.alloc (.cells #[.int .i64 (k : Int), .int .i64 f, .int .i64 t, .string s] 40))) := A1
  have e6 : ((k : Int) == 6) = false := by simp; omega
  have e2 : ((k : Int) == 2) = false := by simp; omega
  clear A1 T1 hk hk2
  go_enter Tryz.func70, Tryz.ntmps70
  go_wp2
  go_ret
  exact ⟨rfl, BA.out⟩
set_option maxHeartbeats 1000000 in
set_option maxRecDepth 100000 in
theorem bm_next {w : World} {g no co : Nat} {ao : Option Addr} {free : Bool} {nx : Nat} {nodes : Int} {r : Nb} {ended : Bool} (h : RBox w g free nx ao no co nodes r ended) (k : Nat) (f t : Int) (s : ByteArray) (hk : k = 6) : Calls Tryz.prog 70 #[.pointer (some ⟨g, 0, none⟩), .agg #[.int .i64 (k : Int), .int .i64 f, .int .i64 t, .string s]] w fun e w' => e = .returned (.int .i64 0) ∧ RBox w' g free 66 ao no co nodes r ended ∧ Rd w w' g := by
  have A1 := alloc_below w (.cells #[.int .i64 (k : Int), .int .i64 f, .int .i64 t, .string s] 40)
  have T1 : Blk (w.alloc (.cells #[.int .i64 (k : Int), .int .i64 f, .int .i64 t, .string s] 40)) w.heap.size #[.int .i64 (k : Int), .int .i64 f, .int .i64 t, .string s] 40 := blk_new w _ _
  have c0 : (w.alloc (.cells #[.int .i64 (k : Int), .int .i64 f, .int .i64 t, .string s] 40)).cell? ⟨w.heap.size, 0, none⟩ = some (.int .i64 (k : Int)) := T1.cell 0
  have c1 : (w.alloc (.cells #[.int .i64 (k : Int), .int .i64 f, .int .i64 t, .string s] 40)).cell? ⟨w.heap.size, 1, none⟩ = some (.int .i64 f) := T1.cell 1
  have c2 : (w.alloc (.cells #[.int .i64 (k : Int), .int .i64 f, .int .i64 t, .string s] 40)).cell? ⟨w.heap.size, 2, none⟩ = some (.int .i64 t) := T1.cell 2
  have c3 : (w.alloc (.cells #[.int .i64 (k : Int), .int .i64 f, .int .i64 t, .string s] 40)).cell? ⟨w.heap.size, 3, none⟩ = some (.string s) := T1.cell 3
  have BA : Hid (Below w.heap.size w (w.alloc (.cells #[.int .i64 (k : Int), .int .i64 f, .int .i64 t, .string s] 40))) := A1
  have e6 : ((k : Int) == 6) = true := by simp; omega
  have RA : Hid (RBox (w.alloc (.cells #[.int .i64 (k : Int), .int .i64 f, .int .i64 t, .string s] 40)) g free nx ao no co nodes r ended) := h.same (A1.block g h.lt)
  have a1 := RA.out.fields.2.1
  have z1 := RA.out.fz 1
  have hsf : ∀ (w : World) (a : Addr) (f : Fn) (x y : Array Value) (m : Mode), (store a (.func f x y) m).run Tryz.prog w = stored Tryz.prog w a (.func f x y) m := store_fn
  clear A1 T1 h hk
  go_enter Tryz.func70, Tryz.ntmps70
  go_wp2
  go_ret
  exact ⟨rfl, RA.out.set (nx' := 66) 1 _ rfl, (Rd.of BA.out).trans (Rd.set _ _ _ _)⟩
set_option maxHeartbeats 1000000 in
set_option maxRecDepth 100000 in
theorem bm_end {w : World} {g : Nat} {Q : Ending → World → World → Prop} (k : Nat) (f t : Int) (s : ByteArray) (hk : k = 2) (kE : ∀ w', Below w.heap.size w w' → Calls Tryz.prog 65 #[.pointer (some ⟨g, 0, none⟩)] w' fun e w'' => (∃ y, e = .returned (.int .i64 y)) ∧ Q e w' w'') : Calls Tryz.prog 70 #[.pointer (some ⟨g, 0, none⟩), .agg #[.int .i64 (k : Int), .int .i64 f, .int .i64 t, .string s]] w fun e w'' => ∃ w', Below w.heap.size w w' ∧ Q e w' w'' := by
  have A1 := alloc_below w (.cells #[.int .i64 (k : Int), .int .i64 f, .int .i64 t, .string s] 40)
  have T1 : Blk (w.alloc (.cells #[.int .i64 (k : Int), .int .i64 f, .int .i64 t, .string s] 40)) w.heap.size #[.int .i64 (k : Int), .int .i64 f, .int .i64 t, .string s] 40 := blk_new w _ _
  have c0 : (w.alloc (.cells #[.int .i64 (k : Int), .int .i64 f, .int .i64 t, .string s] 40)).cell? ⟨w.heap.size, 0, none⟩ = some (.int .i64 (k : Int)) := T1.cell 0
  have c1 : (w.alloc (.cells #[.int .i64 (k : Int), .int .i64 f, .int .i64 t, .string s] 40)).cell? ⟨w.heap.size, 1, none⟩ = some (.int .i64 f) := T1.cell 1
  have c2 : (w.alloc (.cells #[.int .i64 (k : Int), .int .i64 f, .int .i64 t, .string s] 40)).cell? ⟨w.heap.size, 2, none⟩ = some (.int .i64 t) := T1.cell 2
  have c3 : (w.alloc (.cells #[.int .i64 (k : Int), .int .i64 f, .int .i64 t, .string s] 40)).cell? ⟨w.heap.size, 3, none⟩ = some (.string s) := T1.cell 3
  have BA : Hid (Below w.heap.size w (w.alloc (.cells #[.int .i64 (k : Int), .int .i64 f, .int .i64 t, .string s] 40))) := A1
  have e6 : ((k : Int) == 6) = false := by simp; omega
  have e2 : ((k : Int) == 2) = true := by simp; omega
  have k1 := kE _ BA.out
  clear A1 T1 kE hk
  go_enter Tryz.func70, Tryz.ntmps70
  go_wp2_with (go_at_call 65; refine k1.mono ?_; rintro e w1 ⟨⟨y, rfl⟩, hq⟩; have hq' : Hid (Q _ _ w1) := hq; clear hq k1)
  go_ret
  exact ⟨_, BA.out, hq'.out⟩
set_option maxHeartbeats 1000000 in
set_option maxRecDepth 100000 in
theorem fv_end {w : World} {g : Nat} {Q : Ending → World → World → Prop} (k : Nat) (f t : Int) (s : ByteArray) (hk : k = 4) (kE : ∀ w', Below w.heap.size w w' → Calls Tryz.prog 65 #[.pointer (some ⟨g, 0, none⟩)] w' fun e w'' => (∃ y, e = .returned (.int .i64 y)) ∧ Q e w' w'') : Calls Tryz.prog 41 #[.pointer (some ⟨g, 0, none⟩), .agg #[.int .i64 (k : Int), .int .i64 f, .int .i64 t, .string s]] w fun e w'' => ∃ w', Below w.heap.size w w' ∧ Q e w' w'' := by
  have A1 := alloc_below w (.cells #[.int .i64 (k : Int), .int .i64 f, .int .i64 t, .string s] 40)
  have T1 : Blk (w.alloc (.cells #[.int .i64 (k : Int), .int .i64 f, .int .i64 t, .string s] 40)) w.heap.size #[.int .i64 (k : Int), .int .i64 f, .int .i64 t, .string s] 40 := blk_new w _ _
  have c0 : (w.alloc (.cells #[.int .i64 (k : Int), .int .i64 f, .int .i64 t, .string s] 40)).cell? ⟨w.heap.size, 0, none⟩ = some (.int .i64 (k : Int)) := T1.cell 0
  have c1 : (w.alloc (.cells #[.int .i64 (k : Int), .int .i64 f, .int .i64 t, .string s] 40)).cell? ⟨w.heap.size, 1, none⟩ = some (.int .i64 f) := T1.cell 1
  have c2 : (w.alloc (.cells #[.int .i64 (k : Int), .int .i64 f, .int .i64 t, .string s] 40)).cell? ⟨w.heap.size, 2, none⟩ = some (.int .i64 t) := T1.cell 2
  have c3 : (w.alloc (.cells #[.int .i64 (k : Int), .int .i64 f, .int .i64 t, .string s] 40)).cell? ⟨w.heap.size, 3, none⟩ = some (.string s) := T1.cell 3
  have BA : Hid (Below w.heap.size w (w.alloc (.cells #[.int .i64 (k : Int), .int .i64 f, .int .i64 t, .string s] 40))) := A1
  have e4 : ((k : Int) == 4) = true := by simp; omega
  have k1 := kE _ BA.out
  clear A1 T1 kE hk
  go_enter Tryz.func41, Tryz.ntmps41
  go_wp2_with (go_at_call 65; refine k1.mono ?_; rintro e w1 ⟨⟨y, rfl⟩, hq⟩; have hq' : Hid (Q _ _ w1) := hq; clear hq k1)
  go_ret
  exact ⟨_, BA.out, hq'.out⟩
set_option maxHeartbeats 1000000 in
set_option maxRecDepth 100000 in
theorem fv_val {w : World} {g : Nat} {Q : Ending → World → World → Prop} (k : Nat) (f t : Int) (s : ByteArray) (hk : k ≠ 4) (kE : ∀ w', Below w.heap.size w w' → Calls Tryz.prog 27 #[.pointer (some ⟨g, 0, none⟩), .agg #[.int .i64 (k : Int), .int .i64 f, .int .i64 t, .string s]] w' fun e w'' => (∃ y, e = .returned (.int .i64 y)) ∧ Q e w' w'') : Calls Tryz.prog 41 #[.pointer (some ⟨g, 0, none⟩), .agg #[.int .i64 (k : Int), .int .i64 f, .int .i64 t, .string s]] w fun e w'' => ∃ w', Below w.heap.size w w' ∧ Q e w' w'' := by
  have A1 := alloc_below w (.cells #[.int .i64 (k : Int), .int .i64 f, .int .i64 t, .string s] 40)
  have T1 : Blk (w.alloc (.cells #[.int .i64 (k : Int), .int .i64 f, .int .i64 t, .string s] 40)) w.heap.size #[.int .i64 (k : Int), .int .i64 f, .int .i64 t, .string s] 40 := blk_new w _ _
  have c0 : (w.alloc (.cells #[.int .i64 (k : Int), .int .i64 f, .int .i64 t, .string s] 40)).cell? ⟨w.heap.size, 0, none⟩ = some (.int .i64 (k : Int)) := T1.cell 0
  have c1 : (w.alloc (.cells #[.int .i64 (k : Int), .int .i64 f, .int .i64 t, .string s] 40)).cell? ⟨w.heap.size, 1, none⟩ = some (.int .i64 f) := T1.cell 1
  have c2 : (w.alloc (.cells #[.int .i64 (k : Int), .int .i64 f, .int .i64 t, .string s] 40)).cell? ⟨w.heap.size, 2, none⟩ = some (.int .i64 t) := T1.cell 2
  have c3 : (w.alloc (.cells #[.int .i64 (k : Int), .int .i64 f, .int .i64 t, .string s] 40)).cell? ⟨w.heap.size, 3, none⟩ = some (.string s) := T1.cell 3
  have BA : Hid (Below w.heap.size w (w.alloc (.cells #[.int .i64 (k : Int), .int .i64 f, .int .i64 t, .string s] 40))) := A1
  have e4 : ((k : Int) == 4) = false := by simp; omega
  have k1 := kE _ BA.out
  clear A1 T1 kE hk
  go_enter Tryz.func41, Tryz.ntmps41
  go_wp2_with (go_at_call 27; refine k1.mono ?_; rintro e w1 ⟨⟨y, rfl⟩, hq⟩; have hq' : Hid (Q _ _ w1) := hq; clear hq k1)
  go_ret
  exact ⟨_, BA.out, hq'.out⟩
set_option maxHeartbeats 1000000 in
set_option maxRecDepth 100000 in
theorem fk_end {w : World} {g : Nat} {Q : Ending → World → World → Prop} (k : Nat) (f t : Int) (s : ByteArray) (hk : k = 2) (kE : ∀ w', Below w.heap.size w w' → Calls Tryz.prog 65 #[.pointer (some ⟨g, 0, none⟩)] w' fun e w'' => (∃ y, e = .returned (.int .i64 y)) ∧ Q e w' w'') : Calls Tryz.prog 42 #[.pointer (some ⟨g, 0, none⟩), .agg #[.int .i64 (k : Int), .int .i64 f, .int .i64 t, .string s]] w fun e w'' => ∃ w', Below w.heap.size w w' ∧ Q e w' w'' := by
  have A1 := alloc_below w (.cells #[.int .i64 (k : Int), .int .i64 f, .int .i64 t, .string s] 40)
  have T1 : Blk (w.alloc (.cells #[.int .i64 (k : Int), .int .i64 f, .int .i64 t, .string s] 40)) w.heap.size #[.int .i64 (k : Int), .int .i64 f, .int .i64 t, .string s] 40 := blk_new w _ _
  have c0 : (w.alloc (.cells #[.int .i64 (k : Int), .int .i64 f, .int .i64 t, .string s] 40)).cell? ⟨w.heap.size, 0, none⟩ = some (.int .i64 (k : Int)) := T1.cell 0
  have c1 : (w.alloc (.cells #[.int .i64 (k : Int), .int .i64 f, .int .i64 t, .string s] 40)).cell? ⟨w.heap.size, 1, none⟩ = some (.int .i64 f) := T1.cell 1
  have c2 : (w.alloc (.cells #[.int .i64 (k : Int), .int .i64 f, .int .i64 t, .string s] 40)).cell? ⟨w.heap.size, 2, none⟩ = some (.int .i64 t) := T1.cell 2
  have c3 : (w.alloc (.cells #[.int .i64 (k : Int), .int .i64 f, .int .i64 t, .string s] 40)).cell? ⟨w.heap.size, 3, none⟩ = some (.string s) := T1.cell 3
  have BA : Hid (Below w.heap.size w (w.alloc (.cells #[.int .i64 (k : Int), .int .i64 f, .int .i64 t, .string s] 40))) := A1
  have e2 : ((k : Int) == 2) = true := by simp; omega
  have k1 := kE _ BA.out
  clear A1 T1 kE hk
  go_enter Tryz.func42, Tryz.ntmps42
  go_wp2_with (go_at_call 65; refine k1.mono ?_; rintro e w1 ⟨⟨y, rfl⟩, hq⟩; have hq' : Hid (Q _ _ w1) := hq; clear hq k1)
  go_ret
  exact ⟨_, BA.out, hq'.out⟩
set_option maxHeartbeats 1000000 in
set_option maxRecDepth 100000 in
theorem fk_key {w : World} {g : Nat} {Q : Ending → World → World → Prop} (k : Nat) (f t : Int) (s : ByteArray) (hk : k ≠ 2) (kE : ∀ w', Below w.heap.size w w' → Calls Tryz.prog 66 #[.pointer (some ⟨g, 0, none⟩), .agg #[.int .i64 (k : Int), .int .i64 f, .int .i64 t, .string s]] w' fun e w'' => (∃ y, e = .returned (.int .i64 y)) ∧ Q e w' w'') : Calls Tryz.prog 42 #[.pointer (some ⟨g, 0, none⟩), .agg #[.int .i64 (k : Int), .int .i64 f, .int .i64 t, .string s]] w fun e w'' => ∃ w', Below w.heap.size w w' ∧ Q e w' w'' := by
  have A1 := alloc_below w (.cells #[.int .i64 (k : Int), .int .i64 f, .int .i64 t, .string s] 40)
  have T1 : Blk (w.alloc (.cells #[.int .i64 (k : Int), .int .i64 f, .int .i64 t, .string s] 40)) w.heap.size #[.int .i64 (k : Int), .int .i64 f, .int .i64 t, .string s] 40 := blk_new w _ _
  have c0 : (w.alloc (.cells #[.int .i64 (k : Int), .int .i64 f, .int .i64 t, .string s] 40)).cell? ⟨w.heap.size, 0, none⟩ = some (.int .i64 (k : Int)) := T1.cell 0
  have c1 : (w.alloc (.cells #[.int .i64 (k : Int), .int .i64 f, .int .i64 t, .string s] 40)).cell? ⟨w.heap.size, 1, none⟩ = some (.int .i64 f) := T1.cell 1
  have c2 : (w.alloc (.cells #[.int .i64 (k : Int), .int .i64 f, .int .i64 t, .string s] 40)).cell? ⟨w.heap.size, 2, none⟩ = some (.int .i64 t) := T1.cell 2
  have c3 : (w.alloc (.cells #[.int .i64 (k : Int), .int .i64 f, .int .i64 t, .string s] 40)).cell? ⟨w.heap.size, 3, none⟩ = some (.string s) := T1.cell 3
  have BA : Hid (Below w.heap.size w (w.alloc (.cells #[.int .i64 (k : Int), .int .i64 f, .int .i64 t, .string s] 40))) := A1
  have e2 : ((k : Int) == 2) = false := by simp; omega
  have k1 := kE _ BA.out
  clear A1 T1 kE hk
  go_enter Tryz.func42, Tryz.ntmps42
  go_wp2_with (go_at_call 66; refine k1.mono ?_; rintro e w1 ⟨⟨y, rfl⟩, hq⟩; have hq' : Hid (Q _ _ w1) := hq; clear hq k1)
  go_ret
  exact ⟨_, BA.out, hq'.out⟩
set_option maxHeartbeats 1000000 in
set_option maxRecDepth 100000 in
theorem key_form {w : World} {g : Nat} (k : Nat) (f t : Int) (s : ByteArray) (hk : k ≠ 7) : Calls Tryz.prog 66 #[.pointer (some ⟨g, 0, none⟩), .agg #[.int .i64 (k : Int), .int .i64 f, .int .i64 t, .string s]] w fun e w' => e = .returned (.int .i64 5) ∧ Below w.heap.size w w' := by
  have A1 := alloc_below w (.cells #[.int .i64 (k : Int), .int .i64 f, .int .i64 t, .string s] 40)
  have T1 : Blk (w.alloc (.cells #[.int .i64 (k : Int), .int .i64 f, .int .i64 t, .string s] 40)) w.heap.size #[.int .i64 (k : Int), .int .i64 f, .int .i64 t, .string s] 40 := blk_new w _ _
  have c0 : (w.alloc (.cells #[.int .i64 (k : Int), .int .i64 f, .int .i64 t, .string s] 40)).cell? ⟨w.heap.size, 0, none⟩ = some (.int .i64 (k : Int)) := T1.cell 0
  have c1 : (w.alloc (.cells #[.int .i64 (k : Int), .int .i64 f, .int .i64 t, .string s] 40)).cell? ⟨w.heap.size, 1, none⟩ = some (.int .i64 f) := T1.cell 1
  have c2 : (w.alloc (.cells #[.int .i64 (k : Int), .int .i64 f, .int .i64 t, .string s] 40)).cell? ⟨w.heap.size, 2, none⟩ = some (.int .i64 t) := T1.cell 2
  have c3 : (w.alloc (.cells #[.int .i64 (k : Int), .int .i64 f, .int .i64 t, .string s] 40)).cell? ⟨w.heap.size, 3, none⟩ = some (.string s) := T1.cell 3
  have BA : Hid (Below w.heap.size w (w.alloc (.cells #[.int .i64 (k : Int), .int .i64 f, .int .i64 t, .string s] 40))) := A1
  have e7 : ((k : Int) != 7) = true := by simp; omega
  clear A1 T1 hk
  go_enter Tryz.func66, Tryz.ntmps66
  go_wp2
  go_ret
  exact ⟨rfl, BA.out⟩
end Go.Proofs.YtmlacmoembjeoaaGreatDoor
