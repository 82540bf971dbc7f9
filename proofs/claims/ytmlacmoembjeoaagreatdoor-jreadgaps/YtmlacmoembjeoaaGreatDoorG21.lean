/-
  A key that is refused: jread.reader.key.
  The reader's steps: which token may stand where.
  The reader as a whole: a key's token.
  The reader as a whole: one step, whatever may stand next.
  The reader as a whole: what a step keeps.
  The reader as a whole: a new one; all tokens.
  The node that a token begins is one without keys and kids.
  Lex for any bytes; where tokens lie; a place of two words holds no node.
  The reader's loop over tokens: jread.read.
-/
import Derived.Test.YtmlacmoembjeoaaGreatDoorG19
import Derived.Test.YtmlacmoembjeoaaGreatDoorG14
import Derived.Test.YtmlacmoembjeoaaGreatDoorG16
import Derived.Test.YtmlacmoembjeoaaGreatDoorG20
import Derived.Deep.CutBlock
import Derived.Deep.RegionWith
namespace Go.Proofs.YtmlacmoembjeoaaGreatDoor
open Go.RowKit
set_option linter.unusedVariables false
set_option maxHeartbeats 2000000 in
set_option maxRecDepth 100000 in
theorem key_bad {B : Nat} {w : World} {g go n co lk cap : Nat} {ak : Option Addr} {bk : List Nb} {free : Bool} {nx : Nat} {nodes : Int} {r : Nb} {ended : Bool} {cur : Array Value} (h : RBox w g free nx (some ⟨go, 0, none⟩) (n + 1) co nodes r ended) (hn : n ≤ 100000)
    (hrow : w.heap[go]? = some (.cells cur 26 (0, 0))) (h7 : cur[n * 9 + 7]? = some (.slice ak lk cap)) (hO : OwnsN 26 w B (.slice ak lk cap) bk) (hl : bk.length = lk) (hlk : lk ≤ 100000) (hB : B ≤ w.heap.size)
    (n1 : (Value.slice ak lk cap).ownBlock ≠ some go) (n2 : (Value.slice ak lk cap).ownBlock ≠ some g) (n3 : go ≠ g) (f t : Int) (s : ByteArray) (h0 : 0 ≤ nodes) (h1 : nodes ≤ 1000000) (Y : Int) (hbg : beginA free nodes (n + 1) (if hasT bk s = true then 9 else 0) = Y) (hY : Y ≠ 0) :
    Calls Tryz.prog 66 #[.pointer (some ⟨g, 0, none⟩), .agg #[.int .i64 7, .int .i64 f, .int .i64 t, .string s]] w fun e w' => e = .returned (.int .i64 Y) ∧ Rd w w' g := by
  have A1 := alloc_below w (.cells #[.int .i64 7, .int .i64 f, .int .i64 t, .string s] 40)
  have T1 : Hid (Blk (w.alloc (.cells #[.int .i64 7, .int .i64 f, .int .i64 t, .string s] 40)) w.heap.size #[.int .i64 7, .int .i64 f, .int .i64 t, .string s] 40) := blk_new w _ _
  have c0 : (w.alloc (.cells #[.int .i64 7, .int .i64 f, .int .i64 t, .string s] 40)).cell? ⟨w.heap.size, 0, none⟩ = some (.int .i64 7) := T1.out.cell 0
  have RA : Hid (RBox (w.alloc (.cells #[.int .i64 7, .int .i64 f, .int .i64 t, .string s] 40)) g free nx (some ⟨go, 0, none⟩) (n + 1) co nodes r ended) := h.same (A1.block g h.lt)
  have kI := inn_any RA.out hn
  have BA : Hid (Below w.heap.size w (w.alloc (.cells #[.int .i64 7, .int .i64 f, .int .i64 t, .string s] 40))) := A1
  have hgo : Hid (go < w.heap.size) := (Array.getElem?_eq_some_iff.1 hrow).1
  have hgl : Hid (g < w.heap.size) := h.lt
  have hrA : Hid ((w.alloc (.cells #[.int .i64 7, .int .i64 f, .int .i64 t, .string s] 40)).heap[go]? = some (.cells cur 26 (0, 0))) := by show _ = _; rw [A1.block go hgo.out]; exact hrow
  obtain ⟨ha1, ha2, hNn, _⟩ : ∃ (_ : lk ≤ cap) (_ : cap ≤ 9223372036854775807) (_ : Nine w ak bk), True := by
    obtain ⟨a', cap', hv, hc, hni, _⟩ := hO.shape
    rw [hl] at hv hc
    cases hv
    unfold maxLen at hc
    exact ⟨hc.1, hc.2.1, hni, trivial⟩
  have kT : Hid (∀ w', Below w.heap.size w w' → Calls Tryz.prog 86 #[.slice ak lk cap, .string s] w' _) := fun w' hb => twice_any ak lk cap bk s w' hl (hNn.kept hb) ha1 ha2 _ rfl
  generalize hTV : (if hasT bk s = true then (9 : Int) else 0) = TV at *
  have kG : Hid (∀ w', RBox w' g free nx (some ⟨go, 0, none⟩) (n + 1) co nodes r ended → Calls Tryz.prog 40 #[.pointer (some ⟨g, 0, none⟩), .int .i64 TV] w' fun e w'' => e = .returned (.int .i64 Y) ∧ w'' = w'.setCell ⟨g, 3, none⟩ (.int .i64 (nodes + 1))) := fun w' h' => by have := beg_any h' TV h0 h1; rw [hbg] at this; exact this
  have h7' : Hid (cur[n * 9 + 7]? = some (.slice ak lk cap)) := h7
  have hO' : Hid (OwnsN 26 w B (.slice ak lk cap) bk) := hO
  have hl' : Hid (bk.length = lk) := hl
  have hlk' : Hid (lk ≤ 100000) := hlk
  have hB' : Hid (B ≤ w.heap.size) := hB
  have n1' : Hid ((Value.slice ak lk cap).ownBlock ≠ some go) := n1
  have n2' : Hid ((Value.slice ak lk cap).ownBlock ≠ some g) := n2
  have n3' : Hid (go ≠ g) := n3
  have hY' : (Y != 0) = true := by simp [hY]
  clear hY
  clear A1 h hrow hbg hNn h7 hO hl hlk hB n1 n2 n3 hTV
  go_enter Tryz.func66, Tryz.ntmps66
  go_upto_region 4 with (go_at_call 68; refine kI.mono ?_; rintro e w1 ⟨rfl, hb1, hw1⟩; clear kI; have B1 : Hid (Below w.heap.size w w1) := BA.out.trans (hb1.mono BA.out.size); have T2 : Hid (Blk w1 w.heap.size #[.int .i64 7, .int .i64 f, .int .i64 t, .string s] 40) := T1.out.kept hb1 T1.out.lt; have t3 : w1.cell? ⟨w.heap.size, 3, none⟩ = some (.string s) := T2.out.cell 3; have r1 : Hid (w1.heap[go]? = some (.cells cur 26 (0, 0))) := (by show _ = _; rw [hw1]; exact hrA.out); have c7 : w1.cell? ⟨go, n * 9 + 7, none⟩ = some (.slice ak lk cap) := (cell_row r1.out _).trans h7'.out; have R1 : Hid (RBox w1 g free nx (some ⟨go, 0, none⟩) (n + 1) co nodes r ended) := RA.out.same (by rw [hw1]); have k2 := kT.out w1 B1.out; have k2' := kT.out w1.drew B1.out.drew; clear hb1 hw1)
  go_cut [6] (fun v wx => v = .int .i64 Y ∧ ∃ w2, Hid (Below w1.heap.size w1 w2) ∧ wx = w2.setCell ⟨g, 3, none⟩ (.int .i64 (nodes + 1)))
  case first =>
    go_region_with (first
      | (go_at_call 86; refine k2'.mono ?_; rintro e w2 ⟨rfl, hb2⟩; have B2 : Hid (Below w1.heap.size w1 w2) := (Below.refl _ _).drew.trans hb2; have k3 := kG.out w2 (R1.out.same (B2.out.block g R1.out.lt)); clear hb2)
      | (go_at_call 86; refine k2.mono ?_; rintro e w2 ⟨rfl, hb2⟩; have B2 : Hid (Below w1.heap.size w1 w2) := hb2; have k3 := kG.out w2 (R1.out.same (B2.out.block g R1.out.lt)); clear hb2)
      | (go_at_call 40; refine k3.mono ?_; rintro e w3 ⟨rfl, hw3⟩; have W3 : Hid (w3 = w2.setCell ⟨g, 3, none⟩ (.int .i64 (nodes + 1))) := hw3; clear hw3))
    all_goals (go_wp2_with fail; go_meet; exact ⟨rfl, w2, B2, W3.out⟩)
  case rest =>
    obtain ⟨rfl, w2, B2, rfl⟩ := hcut
    have D5 : Hid (Rd w (w2.setCell ⟨g, 3, none⟩ (.int .i64 (nodes + 1))) g) := (Rd.of (B1.out.trans (B2.out.mono B1.out.size))).trans (Rd.set _ _ _ _)
    clear t3 c7 k2 k2'
    go_wp2
    go_ret
    exact ⟨rfl, D5.out⟩
end Go.Proofs.YtmlacmoembjeoaaGreatDoor
namespace Go.Proofs.YtmlacmoembjeoaaGreatDoor
open Go.RowKit
set_option linter.unusedVariables false
set_option maxHeartbeats 1000000 in
set_option maxRecDepth 100000 in
/-- jread.nothing. -/
theorem not_any {w : World} {g : Nat} (k : Nat) (f t : Int) (s : ByteArray) : Calls Tryz.prog 67 #[.pointer (some ⟨g, 0, none⟩), .agg #[.int .i64 (k : Int), .int .i64 f, .int .i64 t, .string s]] w fun e w' => e = .returned (.int .i64 10) ∧ Below w.heap.size w w' := by
  have A1 := alloc_below w (.cells #[.int .i64 (k : Int), .int .i64 f, .int .i64 t, .string s] 40)
  have T1 : Blk (w.alloc (.cells #[.int .i64 (k : Int), .int .i64 f, .int .i64 t, .string s] 40)) w.heap.size #[.int .i64 (k : Int), .int .i64 f, .int .i64 t, .string s] 40 := blk_new w _ _
  have c0 : (w.alloc (.cells #[.int .i64 (k : Int), .int .i64 f, .int .i64 t, .string s] 40)).cell? ⟨w.heap.size, 0, none⟩ = some (.int .i64 (k : Int)) := T1.cell 0
  have c1 : (w.alloc (.cells #[.int .i64 (k : Int), .int .i64 f, .int .i64 t, .string s] 40)).cell? ⟨w.heap.size, 1, none⟩ = some (.int .i64 f) := T1.cell 1
  have c2 : (w.alloc (.cells #[.int .i64 (k : Int), .int .i64 f, .int .i64 t, .string s] 40)).cell? ⟨w.heap.size, 2, none⟩ = some (.int .i64 t) := T1.cell 2
  have c3 : (w.alloc (.cells #[.int .i64 (k : Int), .int .i64 f, .int .i64 t, .string s] 40)).cell? ⟨w.heap.size, 3, none⟩ = some (.string s) := T1.cell 3
  have BA : Hid (Below w.heap.size w (w.alloc (.cells #[.int .i64 (k : Int), .int .i64 f, .int .i64 t, .string s] 40))) := A1
  clear A1 T1
  go_enter Tryz.func67, Tryz.ntmps67
  go_wp2
  go_ret
  exact ⟨rfl, BA.out⟩
set_option maxHeartbeats 1000000 in
set_option maxRecDepth 100000 in
theorem col_bad {w : World} {g : Nat} (k : Nat) (f t : Int) (s : ByteArray) (hk : k ≠ 5) : Calls Tryz.prog 87 #[.pointer (some ⟨g, 0, none⟩), .agg #[.int .i64 (k : Int), .int .i64 f, .int .i64 t, .string s]] w fun e w' => e = .returned (.int .i64 5) ∧ Below w.heap.size w w' := by
  have A1 := alloc_below w (.cells #[.int .i64 (k : Int), .int .i64 f, .int .i64 t, .string s] 40)
  have T1 : Blk (w.alloc (.cells #[.int .i64 (k : Int), .int .i64 f, .int .i64 t, .string s] 40)) w.heap.size #[.int .i64 (k : Int), .int .i64 f, .int .i64 t, .string s] 40 := blk_new w _ _
  have c0 : (w.alloc (.cells #[.int .i64 (k : Int), .int .i64 f, .int .i64 t, .string s] 40)).cell? ⟨w.heap.size, 0, none⟩ = some (.int .i64 (k : Int)) := T1.cell 0
  have c1 : (w.alloc (.cells #[.int .i64 (k : Int), .int .i64 f, .int .i64 t, .string s] 40)).cell? ⟨w.heap.size, 1, none⟩ = some (.int .i64 f) := T1.cell 1
  have c2 : (w.alloc (.cells #[.int .i64 (k : Int), .int .i64 f, .int .i64 t, .string s] 40)).cell? ⟨w.heap.size, 2, none⟩ = some (.int .i64 t) := T1.cell 2
  have c3 : (w.alloc (.cells #[.int .i64 (k : Int), .int .i64 f, .int .i64 t, .string s] 40)).cell? ⟨w.heap.size, 3, none⟩ = some (.string s) := T1.cell 3
  have BA : Hid (Below w.heap.size w (w.alloc (.cells #[.int .i64 (k : Int), .int .i64 f, .int .i64 t, .string s] 40))) := A1
  have e5 : ((k : Int) != 5) = true := by simp; omega
  clear A1 T1 hk
  go_enter Tryz.func87, Tryz.ntmps87
  go_wp2
  go_ret
  exact ⟨rfl, BA.out⟩
set_option maxHeartbeats 1000000 in
set_option maxRecDepth 100000 in
theorem col_ok {w : World} {g no co : Nat} {ao : Option Addr} {free : Bool} {nx : Nat} {nodes : Int} {r : Nb} {ended : Bool} (h : RBox w g free nx ao no co nodes r ended) (k : Nat) (f t : Int) (s : ByteArray) (hk : k = 5) : Calls Tryz.prog 87 #[.pointer (some ⟨g, 0, none⟩), .agg #[.int .i64 (k : Int), .int .i64 f, .int .i64 t, .string s]] w fun e w' => e = .returned (.int .i64 0) ∧ RBox w' g free 27 ao no co nodes r ended ∧ Rd w w' g := by
  have A1 := alloc_below w (.cells #[.int .i64 (k : Int), .int .i64 f, .int .i64 t, .string s] 40)
  have T1 : Blk (w.alloc (.cells #[.int .i64 (k : Int), .int .i64 f, .int .i64 t, .string s] 40)) w.heap.size #[.int .i64 (k : Int), .int .i64 f, .int .i64 t, .string s] 40 := blk_new w _ _
  have c0 : (w.alloc (.cells #[.int .i64 (k : Int), .int .i64 f, .int .i64 t, .string s] 40)).cell? ⟨w.heap.size, 0, none⟩ = some (.int .i64 (k : Int)) := T1.cell 0
  have c1 : (w.alloc (.cells #[.int .i64 (k : Int), .int .i64 f, .int .i64 t, .string s] 40)).cell? ⟨w.heap.size, 1, none⟩ = some (.int .i64 f) := T1.cell 1
  have c2 : (w.alloc (.cells #[.int .i64 (k : Int), .int .i64 f, .int .i64 t, .string s] 40)).cell? ⟨w.heap.size, 2, none⟩ = some (.int .i64 t) := T1.cell 2
  have c3 : (w.alloc (.cells #[.int .i64 (k : Int), .int .i64 f, .int .i64 t, .string s] 40)).cell? ⟨w.heap.size, 3, none⟩ = some (.string s) := T1.cell 3
  have BA : Hid (Below w.heap.size w (w.alloc (.cells #[.int .i64 (k : Int), .int .i64 f, .int .i64 t, .string s] 40))) := A1
  have e5 : ((k : Int) != 5) = false := by simp; omega
  have RA : Hid (RBox (w.alloc (.cells #[.int .i64 (k : Int), .int .i64 f, .int .i64 t, .string s] 40)) g free nx ao no co nodes r ended) := h.same (A1.block g h.lt)
  have a1 := RA.out.fields.2.1
  have z1 := RA.out.fz 1
  have hsf : ∀ (w : World) (a : Addr) (f : Fn) (x y : Array Value) (m : Mode), (store a (.func f x y) m).run Tryz.prog w = stored Tryz.prog w a (.func f x y) m := store_fn
  clear A1 T1 h hk
  go_enter Tryz.func87, Tryz.ntmps87
  go_wp2
  go_ret
  exact ⟨rfl, RA.out.set (nx' := 27) 1 _ rfl, (Rd.of BA.out).trans (Rd.set _ _ _ _)⟩
set_option maxHeartbeats 1000000 in
set_option maxRecDepth 100000 in
theorem bk_bad {w : World} {g : Nat} (k : Nat) (f t : Int) (s : ByteArray) (hk : k ≠ 6) (hk2 : k ≠ 4) : Calls Tryz.prog 69 #[.pointer (some ⟨g, 0, none⟩), .agg #[.int .i64 (k : Int), .int .i64 f, .int .i64 t, .string s]] w fun e w' => e = .returned (.int .i64 5) ∧ Below w.heap.size w w' := by
  have A1 := alloc_below w (.cells #[.int .i64 (k : Int), .int .i64 f, .int .i64 t, .string s] 40)
  have T1 : Blk (w.alloc (.cells #[.int .i64 (k : Int), .int .i64 f, .int .i64 t, .string s] 40)) w.heap.size #[.int .i64 (k : Int), .int .i64 f, .int .i64 t, .string s] 40 := blk_new w _ _
  have c0 : (w.alloc (.cells #[.int .i64 (k : Int), .int .i64 f, .int .i64 t, .string s] 40)).cell? ⟨w.heap.size, 0, none⟩ = some (.int .i64 (k : Int)) := T1.cell 0
  have c1 : (w.alloc (.cells #[.int .i64 (k : Int), .int .i64 f, .int .i64 t, .string s] 40)).cell? ⟨w.heap.size, 1, none⟩ = some (.int .i64 f) := T1.cell 1
  have c2 : (w.alloc (.cells #[.int .i64 (k : Int), .int .i64 f, .int .i64 t, .string s] 40)).cell? ⟨w.heap.size, 2, none⟩ = some (.int .i64 t) := T1.cell 2
  have c3 : (w.alloc (.cells #[.int .i64 (k : Int), .int .i64 f, .int .i64 t, .string s] 40)).cell? ⟨w.heap.size, 3, none⟩ = some (.string s) := T1.cell 3
  have BA : Hid (Below w.heap.size w (w.alloc (.cells #[.int .i64 (k : Int), .int .i64 f, .int .i64 t, .string s] 40))) := A1
  have e6 : ((k : Int) == 6) = false := by simp; omega
  have e4 : ((k : Int) == 4) = false := by simp; omega
  clear A1 T1 hk hk2
  go_enter Tryz.func69, Tryz.ntmps69
  go_wp2
  go_ret
  exact ⟨rfl, BA.out⟩
set_option maxHeartbeats 1000000 in
set_option maxRecDepth 100000 in
theorem bk_next {w : World} {g no co : Nat} {ao : Option Addr} {free : Bool} {nx : Nat} {nodes : Int} {r : Nb} {ended : Bool} (h : RBox w g free nx ao no co nodes r ended) (k : Nat) (f t : Int) (s : ByteArray) (hk : k = 6) : Calls Tryz.prog 69 #[.pointer (some ⟨g, 0, none⟩), .agg #[.int .i64 (k : Int), .int .i64 f, .int .i64 t, .string s]] w fun e w' => e = .returned (.int .i64 0) ∧ RBox w' g free 27 ao no co nodes r ended ∧ Rd w w' g := by
  have A1 := alloc_below w (.cells #[.int .i64 (k : Int), .int .i64 f, .int .i64 t, .string s] 40)
  have T1 : Blk (w.alloc (.cells #[.int .i64 (k : Int), .int .i64 f, .int .i64 t, .string s] 40)) w.heap.size #[.int .i64 (k : Int), .int .i64 f, .int .i64 t, .string s] 40 := blk_new w _ _
  have c0 : (w.alloc (.cells #[.int .i64 (k : Int), .int .i64 f, .int .i64 t, .string s] 40)).cell? ⟨w.heap.size, 0, none⟩ = some (.int .i64 (k : Int)) := T1.cell 0
  have c1 : (w.alloc (.cells #[.int .i64 (k : Int), .int .i64 f, .int .i64 t, .string s] 40)).cell? ⟨w.heap.size, 1, none⟩ = some (.int .i64 f) := T1.cell 1
  have c2 : (w.alloc (.cells #[.int .i64 (k : Int), .int .i64 f, .int .i64 t, .string s] 40)).cell? ⟨w.heap.size, 2, none⟩ = some (.int .i64 t) := T1.cell 2
  have c3 : (w.alloc (.cells #[.int .i64 (k : Int), .int .i64 f, .int .i64 t, .string s] 40)).cell? ⟨w.heap.size, 3, none⟩ = some (.string s) := T1.cell 3
  have BA : Hid (Below w.heap.size w (w.alloc (.cells #[.int .i64 (k : Int), .int .i64 f, .int .i64 t, .string s] 40))) := A1
  have e6 : ((k : Int) == 6) = true := by simp; omega
  have RA : Hid (RBox (w.alloc (.cells #[.int .i64 (k : Int), .int .i64 f, .int .i64 t, .string s] 40)) g free nx ao no co nodes r ended) := h.same (A1.block g h.lt)
  have a1 := RA.out.fields.2.1
  have z1 := RA.out.fz 1
  have hsf : ∀ (w : World) (a : Addr) (f : Fn) (x y : Array Value) (m : Mode), (store a (.func f x y) m).run Tryz.prog w = stored Tryz.prog w a (.func f x y) m := store_fn
  clear A1 T1 h hk
  go_enter Tryz.func69, Tryz.ntmps69
  go_wp2
  go_ret
  exact ⟨rfl, RA.out.set (nx' := 27) 1 _ rfl, (Rd.of BA.out).trans (Rd.set _ _ _ _)⟩
set_option maxHeartbeats 1000000 in
set_option maxRecDepth 100000 in
theorem bk_end {w : World} {g : Nat} {Q : Ending → World → World → Prop} (k : Nat) (f t : Int) (s : ByteArray) (hk : k = 4) (kE : ∀ w', Below w.heap.size w w' → Calls Tryz.prog 65 #[.pointer (some ⟨g, 0, none⟩)] w' fun e w'' => (∃ y, e = .returned (.int .i64 y)) ∧ Q e w' w'') : Calls Tryz.prog 69 #[.pointer (some ⟨g, 0, none⟩), .agg #[.int .i64 (k : Int), .int .i64 f, .int .i64 t, .string s]] w fun e w'' => ∃ w', Below w.heap.size w w' ∧ Q e w' w'' := by
  have A1 := alloc_below w (.cells #[.int .i64 (k : Int), .int .i64 f, .int .i64 t, .string s] 40)
  have T1 : Blk (w.alloc (.cells #[.int .i64 (k : Int), .int .i64 f, .int .i64 t, .string s] 40)) w.heap.size #[.int .i64 (k : Int), .int .i64 f, .int .i64 t, .string s] 40 := blk_new w _ _
  have c0 : (w.alloc (.cells #[.int .i64 (k : Int), .int .i64 f, .int .i64 t, .string s] 40)).cell? ⟨w.heap.size, 0, none⟩ = some (.int .i64 (k : Int)) := T1.cell 0
  have c1 : (w.alloc (.cells #[.int .i64 (k : Int), .int .i64 f, .int .i64 t, .string s] 40)).cell? ⟨w.heap.size, 1, none⟩ = some (.int .i64 f) := T1.cell 1
  have c2 : (w.alloc (.cells #[.int .i64 (k : Int), .int .i64 f, .int .i64 t, .string s] 40)).cell? ⟨w.heap.size, 2, none⟩ = some (.int .i64 t) := T1.cell 2
  have c3 : (w.alloc (.cells #[.int .i64 (k : Int), .int .i64 f, .int .i64 t, .string s] 40)).cell? ⟨w.heap.size, 3, none⟩ = some (.string s) := T1.cell 3
  have BA : Hid (Below w.heap.size w (w.alloc (.cells #[.int .i64 (k : Int), .int .i64 f, .int .i64 t, .string s] 40))) := A1
  have e6 : ((k : Int) == 6) = false := by simp; omega
  have e4 : ((k : Int) == 4) = true := by simp; omega
  have k1 := kE _ BA.out
  clear A1 T1 kE hk
  go_enter Tryz.func69, Tryz.ntmps69
  go_wp2_with (go_at_call 65; refine k1.mono ?_; rintro e w1 ⟨⟨y, rfl⟩, hq⟩; have hq' : Hid (Q _ _ w1) := hq; clear hq k1)
  go_ret
  exact ⟨_, BA.out, hq'.out⟩
set_option maxHeartbeats 1000000 in
set_option maxRecDepth 100000 in
theorem bm_bad {w : World} {g : Nat} (k : Nat) (f t : Int) (s : ByteArray) (hk : k ≠ 6) (hk2 : k ≠ 2) : Calls Tryz.prog 70 #[.pointer (some ⟨g, 0, none⟩), .agg #[.int .i64 (k : Int), .int .i64 f, .int .i64 t, .string s]] w fun e w' => e = .returned (.int .i64 5) ∧ Below w.heap.size w w' := by
  have A1 := alloc_below w (.cells #[.int .i64 (k : Int), .int .i64 f, .int .i64 t, .string s] 40)
  have T1 : Blk (w.alloc (.cells #[.int .i64 (k : Int), .int .i64 f, .int .i64 t, .string s] 40)) w.heap.size #[.int .i64 (k : Int), .int .i64 f, .int .i64 t, .string s] 40 := blk_new w _ _
  have c0 : (w.alloc (.cells #[.int .i64 (k : Int), .int .i64 f, .int .i64 t, .string s] 40)).cell? ⟨w.heap.size, 0, none⟩ = some (.int .i64 (k : Int)) := T1.cell 0
  have c1 : (w.alloc (.cells #[.int .i64 (k : Int), .int .i64 f, .int .i64 t, .string s] 40)).cell? ⟨w.heap.size, 1, none⟩ = some (.int .i64 f) := T1.cell 1
  have c2 : (w.alloc (.cells #[.int .i64 (k : Int), .int .i64 f, .int .i64 t, .string s] 40)).cell? ⟨w.heap.size, 2, none⟩ = some (.int .i64 t) := T1.cell 2
  have c3 : (w.alloc (.cells #[.int .i64 (k : Int), .int .i64 f, .int .i64 t, .string s] 40)).cell? ⟨w.heap.size, 3, none⟩ = some (.string s) := T1.cell 3
  have BA : Hid (Below w.heap.size w (w.alloc (.cells #[.int .i64 (k : Int), .int .i64 f, .int .i64 t, .string s] 40))) := A1
  have e6 : ((k : Int) == 6) = false := by simp; omega
  have e2 : ((k : Int) == 2) = false := by simp; omega
  clear A1 T1 hk hk2
  go_enter Tryz.func70, Tryz.ntmps70
  go_wp2
  go_ret
  exact ⟨rfl, BA.out⟩
set_option maxHeartbeats 1000000 in
set_option maxRecDepth 100000 in
theorem bm_next {w : World} {g no co : Nat} {ao : Option Addr} {free : Bool} {nx : Nat} {nodes : Int} {r : Nb} {ended : Bool} (h : RBox w g free nx ao no co nodes r ended) (k : Nat) (f t : Int) (s : ByteArray) (hk : k = 6) : Calls Tryz.prog 70 #[.pointer (some ⟨g, 0, none⟩), .agg #[.int .i64 (k : Int), .int .i64 f, .int .i64 t, .string s]] w fun e w' => e = .returned (.int .i64 0) ∧ RBox w' g free 66 ao no co nodes r ended ∧ Rd w w' g := by
  have A1 := alloc_below w (.cells #[.int .i64 (k : Int), .int .i64 f, .int .i64 t, .string s] 40)
  have T1 : Blk (w.alloc (.cells #[.int .i64 (k : Int), .int .i64 f, .int .i64 t, .string s] 40)) w.heap.size #[.int .i64 (k : Int), .int .i64 f, .int .i64 t, .string s] 40 := blk_new w _ _
  have c0 : (w.alloc (.cells #[.int .i64 (k : Int), .int .i64 f, .int .i64 t, .string s] 40)).cell? ⟨w.heap.size, 0, none⟩ = some (.int .i64 (k : Int)) := T1.cell 0
  have c1 : (w.alloc (.cells #[.int .i64 (k : Int), .int .i64 f, .int .i64 t, .string s] 40)).cell? ⟨w.heap.size, 1, none⟩ = some (.int .i64 f) := T1.cell 1
  have c2 : (w.alloc (.cells #[.int .i64 (k : Int), .int .i64 f, .int .i64 t, .string s] 40)).cell? ⟨w.heap.size, 2, none⟩ = some (.int .i64 t) := T1.cell 2
  have c3 : (w.alloc (.cells #[.int .i64 (k : Int), .int .i64 f, .int .i64 t, .string s] 40)).cell? ⟨w.heap.size, 3, none⟩ = some (.string s) := T1.cell 3
  have BA : Hid (Below w.heap.size w (w.alloc (.cells #[.int .i64 (k : Int), .int .i64 f, .int .i64 t, .string s] 40))) := A1
  have e6 : ((k : Int) == 6) = true := by simp; omega
  have RA : Hid (RBox (w.alloc (.cells #[.int .i64 (k : Int), .int .i64 f, .int .i64 t, .string s] 40)) g free nx ao no co nodes r ended) := h.same (A1.block g h.lt)
  have a1 := RA.out.fields.2.1
  have z1 := RA.out.fz 1
  have hsf : ∀ (w : World) (a : Addr) (f : Fn) (x y : Array Value) (m : Mode), (store a (.func f x y) m).run Tryz.prog w = stored Tryz.prog w a (.func f x y) m := store_fn
  clear A1 T1 h hk
  go_enter Tryz.func70, Tryz.ntmps70
  go_wp2
  go_ret
  exact ⟨rfl, RA.out.set (nx' := 66) 1 _ rfl, (Rd.of BA.out).trans (Rd.set _ _ _ _)⟩
set_option maxHeartbeats 1000000 in
set_option maxRecDepth 100000 in
theorem bm_end {w : World} {g : Nat} {Q : Ending → World → World → Prop} (k : Nat) (f t : Int) (s : ByteArray) (hk : k = 2) (kE : ∀ w', Below w.heap.size w w' → Calls Tryz.prog 65 #[.pointer (some ⟨g, 0, none⟩)] w' fun e w'' => (∃ y, e = .returned (.int .i64 y)) ∧ Q e w' w'') : Calls Tryz.prog 70 #[.pointer (some ⟨g, 0, none⟩), .agg #[.int .i64 (k : Int), .int .i64 f, .int .i64 t, .string s]] w fun e w'' => ∃ w', Below w.heap.size w w' ∧ Q e w' w'' := by
  have A1 := alloc_below w (.cells #[.int .i64 (k : Int), .int .i64 f, .int .i64 t, .string s] 40)
  have T1 : Blk (w.alloc (.cells #[.int .i64 (k : Int), .int .i64 f, .int .i64 t, .string s] 40)) w.heap.size #[.int .i64 (k : Int), .int .i64 f, .int .i64 t, .string s] 40 := blk_new w _ _
  have c0 : (w.alloc (.cells #[.int .i64 (k : Int), .int .i64 f, .int .i64 t, .string s] 40)).cell? ⟨w.heap.size, 0, none⟩ = some (.int .i64 (k : Int)) := T1.cell 0
  have c1 : (w.alloc (.cells #[.int .i64 (k : Int), .int .i64 f, .int .i64 t, .string s] 40)).cell? ⟨w.heap.size, 1, none⟩ = some (.int .i64 f) := T1.cell 1
  have c2 : (w.alloc (.cells #[.int .i64 (k : Int), .int .i64 f, .int .i64 t, .string s] 40)).cell? ⟨w.heap.size, 2, none⟩ = some (.int .i64 t) := T1.cell 2
  have c3 : (w.alloc (.cells #[.int .i64 (k : Int), .int .i64 f, .int .i64 t, .string s] 40)).cell? ⟨w.heap.size, 3, none⟩ = some (.string s) := T1.cell 3
  have BA : Hid (Below w.heap.size w (w.alloc (.cells #[.int .i64 (k : Int), .int .i64 f, .int .i64 t, .string s] 40))) := A1
  have e6 : ((k : Int) == 6) = false := by simp; omega
  have e2 : ((k : Int) == 2) = true := by simp; omega
  have k1 := kE _ BA.out
  clear A1 T1 kE hk
  go_enter Tryz.func70, Tryz.ntmps70
  go_wp2_with (go_at_call 65; refine k1.mono ?_; rintro e w1 ⟨⟨y, rfl⟩, hq⟩; have hq' : Hid (Q _ _ w1) := hq; clear hq k1)
  go_ret
  exact ⟨_, BA.out, hq'.out⟩
set_option maxHeartbeats 1000000 in
set_option maxRecDepth 100000 in
theorem fv_end {w : World} {g : Nat} {Q : Ending → World → World → Prop} (k : Nat) (f t : Int) (s : ByteArray) (hk : k = 4) (kE : ∀ w', Below w.heap.size w w' → Calls Tryz.prog 65 #[.pointer (some ⟨g, 0, none⟩)] w' fun e w'' => (∃ y, e = .returned (.int .i64 y)) ∧ Q e w' w'') : Calls Tryz.prog 41 #[.pointer (some ⟨g, 0, none⟩), .agg #[.int .i64 (k : Int), .int .i64 f, .int .i64 t, .string s]] w fun e w'' => ∃ w', Below w.heap.size w w' ∧ Q e w' w'' := by
  have A1 := alloc_below w (.cells #[.int .i64 (k : Int), .int .i64 f, .int .i64 t, .string s] 40)
  have T1 : Blk (w.alloc (.cells #[.int .i64 (k : Int), .int .i64 f, .int .i64 t, .string s] 40)) w.heap.size #[.int .i64 (k : Int), .int .i64 f, .int .i64 t, .string s] 40 := blk_new w _ _
  have c0 : (w.alloc (.cells #[.int .i64 (k : Int), .int .i64 f, .int .i64 t, .string s] 40)).cell? ⟨w.heap.size, 0, none⟩ = some (.int .i64 (k : Int)) := T1.cell 0
  have c1 : (w.alloc (.cells #[.int .i64 (k : Int), .int .i64 f, .int .i64 t, .string s] 40)).cell? ⟨w.heap.size, 1, none⟩ = some (.int .i64 f) := T1.cell 1
  have c2 : (w.alloc (.cells #[.int .i64 (k : Int), .int .i64 f, .int .i64 t, .string s] 40)).cell? ⟨w.heap.size, 2, none⟩ = some (.int .i64 t) := T1.cell 2
  have c3 : (w.alloc (.cells #[.int .i64 (k : Int), .int .i64 f, .int .i64 t, .string s] 40)).cell? ⟨w.heap.size, 3, none⟩ = some (.string s) := T1.cell 3
  have BA : Hid (Below w.heap.size w (w.alloc (.cells #[.int .i64 (k : Int), .int .i64 f, .int .i64 t, .string s] 40))) := A1
  have e4 : ((k : Int) == 4) = true := by simp; omega
  have k1 := kE _ BA.out
  clear A1 T1 kE hk
  go_enter Tryz.func41, Tryz.ntmps41
  go_wp2_with (go_at_call 65; refine k1.mono ?_; rintro e w1 ⟨⟨y, rfl⟩, hq⟩; have hq' : Hid (Q _ _ w1) := hq; clear hq k1)
  go_ret
  exact ⟨_, BA.out, hq'.out⟩
set_option maxHeartbeats 1000000 in
set_option maxRecDepth 100000 in
theorem fv_val {w : World} {g : Nat} {Q : Ending → World → World → Prop} (k : Nat) (f t : Int) (s : ByteArray) (hk : k ≠ 4) (kE : ∀ w', Below w.heap.size w w' → Calls Tryz.prog 27 #[.pointer (some ⟨g, 0, none⟩), .agg #[.int .i64 (k : Int), .int .i64 f, .int .i64 t, .string s]] w' fun e w'' => (∃ y, e = .returned (.int .i64 y)) ∧ Q e w' w'') : Calls Tryz.prog 41 #[.pointer (some ⟨g, 0, none⟩), .agg #[.int .i64 (k : Int), .int .i64 f, .int .i64 t, .string s]] w fun e w'' => ∃ w', Below w.heap.size w w' ∧ Q e w' w'' := by
  have A1 := alloc_below w (.cells #[.int .i64 (k : Int), .int .i64 f, .int .i64 t, .string s] 40)
  have T1 : Blk (w.alloc (.cells #[.int .i64 (k : Int), .int .i64 f, .int .i64 t, .string s] 40)) w.heap.size #[.int .i64 (k : Int), .int .i64 f, .int .i64 t, .string s] 40 := blk_new w _ _
  have c0 : (w.alloc (.cells #[.int .i64 (k : Int), .int .i64 f, .int .i64 t, .string s] 40)).cell? ⟨w.heap.size, 0, none⟩ = some (.int .i64 (k : Int)) := T1.cell 0
  have c1 : (w.alloc (.cells #[.int .i64 (k : Int), .int .i64 f, .int .i64 t, .string s] 40)).cell? ⟨w.heap.size, 1, none⟩ = some (.int .i64 f) := T1.cell 1
  have c2 : (w.alloc (.cells #[.int .i64 (k : Int), .int .i64 f, .int .i64 t, .string s] 40)).cell? ⟨w.heap.size, 2, none⟩ = some (.int .i64 t) := T1.cell 2
  have c3 : (w.alloc (.cells #[.int .i64 (k : Int), .int .i64 f, .int .i64 t, .string s] 40)).cell? ⟨w.heap.size, 3, none⟩ = some (.string s) := T1.cell 3
  have BA : Hid (Below w.heap.size w (w.alloc (.cells #[.int .i64 (k : Int), .int .i64 f, .int .i64 t, .string s] 40))) := A1
  have e4 : ((k : Int) == 4) = false := by simp; omega
  have k1 := kE _ BA.out
  clear A1 T1 kE hk
  go_enter Tryz.func41, Tryz.ntmps41
  go_wp2_with (go_at_call 27; refine k1.mono ?_; rintro e w1 ⟨⟨y, rfl⟩, hq⟩; have hq' : Hid (Q _ _ w1) := hq; clear hq k1)
  go_ret
  exact ⟨_, BA.out, hq'.out⟩
set_option maxHeartbeats 1000000 in
set_option maxRecDepth 100000 in
theorem fk_end {w : World} {g : Nat} {Q : Ending → World → World → Prop} (k : Nat) (f t : Int) (s : ByteArray) (hk : k = 2) (kE : ∀ w', Below w.heap.size w w' → Calls Tryz.prog 65 #[.pointer (some ⟨g, 0, none⟩)] w' fun e w'' => (∃ y, e = .returned (.int .i64 y)) ∧ Q e w' w'') : Calls Tryz.prog 42 #[.pointer (some ⟨g, 0, none⟩), .agg #[.int .i64 (k : Int), .int .i64 f, .int .i64 t, .string s]] w fun e w'' => ∃ w', Below w.heap.size w w' ∧ Q e w' w'' := by
  have A1 := alloc_below w (.cells #[.int .i64 (k : Int), .int .i64 f, .int .i64 t, .string s] 40)
  have T1 : Blk (w.alloc (.cells #[.int .i64 (k : Int), .int .i64 f, .int .i64 t, .string s] 40)) w.heap.size #[.int .i64 (k : Int), .int .i64 f, .int .i64 t, .string s] 40 := blk_new w _ _
  have c0 : (w.alloc (.cells #[.int .i64 (k : Int), .int .i64 f, .int .i64 t, .string s] 40)).cell? ⟨w.heap.size, 0, none⟩ = some (.int .i64 (k : Int)) := T1.cell 0
  have c1 : (w.alloc (.cells #[.int .i64 (k : Int), .int .i64 f, .int .i64 t, .string s] 40)).cell? ⟨w.heap.size, 1, none⟩ = some (.int .i64 f) := T1.cell 1
  have c2 : (w.alloc (.cells #[.int .i64 (k : Int), .int .i64 f, .int .i64 t, .string s] 40)).cell? ⟨w.heap.size, 2, none⟩ = some (.int .i64 t) := T1.cell 2
  have c3 : (w.alloc (.cells #[.int .i64 (k : Int), .int .i64 f, .int .i64 t, .string s] 40)).cell? ⟨w.heap.size, 3, none⟩ = some (.string s) := T1.cell 3
  have BA : Hid (Below w.heap.size w (w.alloc (.cells #[.int .i64 (k : Int), .int .i64 f, .int .i64 t, .string s] 40))) := A1
  have e2 : ((k : Int) == 2) = true := by simp; omega
  have k1 := kE _ BA.out
  clear A1 T1 kE hk
  go_enter Tryz.func42, Tryz.ntmps42
  go_wp2_with (go_at_call 65; refine k1.mono ?_; rintro e w1 ⟨⟨y, rfl⟩, hq⟩; have hq' : Hid (Q _ _ w1) := hq; clear hq k1)
  go_ret
  exact ⟨_, BA.out, hq'.out⟩
set_option maxHeartbeats 1000000 in
set_option maxRecDepth 100000 in
theorem fk_key {w : World} {g : Nat} {Q : Ending → World → World → Prop} (k : Nat) (f t : Int) (s : ByteArray) (hk : k ≠ 2) (kE : ∀ w', Below w.heap.size w w' → Calls Tryz.prog 66 #[.pointer (some ⟨g, 0, none⟩), .agg #[.int .i64 (k : Int), .int .i64 f, .int .i64 t, .string s]] w' fun e w'' => (∃ y, e = .returned (.int .i64 y)) ∧ Q e w' w'') : Calls Tryz.prog 42 #[.pointer (some ⟨g, 0, none⟩), .agg #[.int .i64 (k : Int), .int .i64 f, .int .i64 t, .string s]] w fun e w'' => ∃ w', Below w.heap.size w w' ∧ Q e w' w'' := by
  have A1 := alloc_below w (.cells #[.int .i64 (k : Int), .int .i64 f, .int .i64 t, .string s] 40)
  have T1 : Blk (w.alloc (.cells #[.int .i64 (k : Int), .int .i64 f, .int .i64 t, .string s] 40)) w.heap.size #[.int .i64 (k : Int), .int .i64 f, .int .i64 t, .string s] 40 := blk_new w _ _
  have c0 : (w.alloc (.cells #[.int .i64 (k : Int), .int .i64 f, .int .i64 t, .string s] 40)).cell? ⟨w.heap.size, 0, none⟩ = some (.int .i64 (k : Int)) := T1.cell 0
  have c1 : (w.alloc (.cells #[.int .i64 (k : Int), .int .i64 f, .int .i64 t, .string s] 40)).cell? ⟨w.heap.size, 1, none⟩ = some (.int .i64 f) := T1.cell 1
  have c2 : (w.alloc (.cells #[.int .i64 (k : Int), .int .i64 f, .int .i64 t, .string s] 40)).cell? ⟨w.heap.size, 2, none⟩ = some (.int .i64 t) := T1.cell 2
  have c3 : (w.alloc (.cells #[.int .i64 (k : Int), .int .i64 f, .int .i64 t, .string s] 40)).cell? ⟨w.heap.size, 3, none⟩ = some (.string s) := T1.cell 3
  have BA : Hid (Below w.heap.size w (w.alloc (.cells #[.int .i64 (k : Int), .int .i64 f, .int .i64 t, .string s] 40))) := A1
  have e2 : ((k : Int) == 2) = false := by simp; omega
  have k1 := kE _ BA.out
  clear A1 T1 kE hk
  go_enter Tryz.func42, Tryz.ntmps42
  go_wp2_with (go_at_call 66; refine k1.mono ?_; rintro e w1 ⟨⟨y, rfl⟩, hq⟩; have hq' : Hid (Q _ _ w1) := hq; clear hq k1)
  go_ret
  exact ⟨_, BA.out, hq'.out⟩
set_option maxHeartbeats 1000000 in
set_option maxRecDepth 100000 in
theorem key_form {w : World} {g : Nat} (k : Nat) (f t : Int) (s : ByteArray) (hk : k ≠ 7) : Calls Tryz.prog 66 #[.pointer (some ⟨g, 0, none⟩), .agg #[.int .i64 (k : Int), .int .i64 f, .int .i64 t, .string s]] w fun e w' => e = .returned (.int .i64 5) ∧ Below w.heap.size w w' := by
  have A1 := alloc_below w (.cells #[.int .i64 (k : Int), .int .i64 f, .int .i64 t, .string s] 40)
  have T1 : Blk (w.alloc (.cells #[.int .i64 (k : Int), .int .i64 f, .int .i64 t, .string s] 40)) w.heap.size #[.int .i64 (k : Int), .int .i64 f, .int .i64 t, .string s] 40 := blk_new w _ _
  have c0 : (w.alloc (.cells #[.int .i64 (k : Int), .int .i64 f, .int .i64 t, .string s] 40)).cell? ⟨w.heap.size, 0, none⟩ = some (.int .i64 (k : Int)) := T1.cell 0
  have c1 : (w.alloc (.cells #[.int .i64 (k : Int), .int .i64 f, .int .i64 t, .string s] 40)).cell? ⟨w.heap.size, 1, none⟩ = some (.int .i64 f) := T1.cell 1
  have c2 : (w.alloc (.cells #[.int .i64 (k : Int), .int .i64 f, .int .i64 t, .string s] 40)).cell? ⟨w.heap.size, 2, none⟩ = some (.int .i64 t) := T1.cell 2
  have c3 : (w.alloc (.cells #[.int .i64 (k : Int), .int .i64 f, .int .i64 t, .string s] 40)).cell? ⟨w.heap.size, 3, none⟩ = some (.string s) := T1.cell 3
  have BA : Hid (Below w.heap.size w (w.alloc (.cells #[.int .i64 (k : Int), .int .i64 f, .int .i64 t, .string s] 40))) := A1
  have e7 : ((k : Int) != 7) = true := by simp; omega
  clear A1 T1 hk
  go_enter Tryz.func66, Tryz.ntmps66
  go_wp2
  go_ret
  exact ⟨rfl, BA.out⟩
end Go.Proofs.YtmlacmoembjeoaaGreatDoor
namespace Go.Proofs.YtmlacmoembjeoaaGreatDoor
open Go.RowKit
set_option linter.unusedVariables false
/-- Is this text a key already? -/
def twT (l : List Tr) (x : ByteArray) : Bool := l.any fun u => u.txt.toList == x.toList
theorem hasT_twT {bk : List Nb} {l : List Tr} (x : ByteArray) (hl : bk.length = l.length) (h : ∀ j (h : j < bk.length) (h2 : j < l.length), bk[j] = leafN l[j] ∧ Leaf l[j]) : hasT bk x = twT l x := by
  have e : bk = l.map leafN := by
    refine List.ext_getElem (by simp [hl]) fun j h1 h2 => ?_
    rw [List.getElem_map]
    exact (h j h1 (by omega)).1
  unfold hasT twT
  rw [e, List.any_map]
  rfl
theorem txt_leaf {x : ByteArray} (h : x.size ≤ 140737488351232) : Leaf (txtT x) := ⟨rfl, rfl, rfl, by show (Lit.int .i64 5).wf = true; decide, by show (Lit.int .u64 0).wf = true; decide, by show (Lit.int .i64 0).wf = true; decide, by show (⟨#[]⟩ : ByteArray).size ≤ _; decide, h⟩
/-- A key's token. -/
def keyA (s : JS) (k : Nat) (x : ByteArray) : JS × Int :=
  if k ≠ 7 then (s, 5) else match s.opn.reverse with
  | [] => (s, 5)
  | t :: l => if beginA s.free s.nodes s.opn.length (if twT t.keys x = true then 9 else 0) ≠ 0 then (s, beginA s.free s.nodes s.opn.length (if twT t.keys x = true then 9 else 0))
    else ({ s with nx := 87, nodes := s.nodes + 1, opn := l.reverse ++ [{ t with keys := t.keys ++ [txtT x] }] }, 0)
theorem keyA_snoc {s : JS} {os : List Tr} {t : Tr} (x : ByteArray) (h : s.opn = os ++ [t]) : keyA s 7 x = if beginA s.free s.nodes s.opn.length (if twT t.keys x = true then 9 else 0) ≠ 0 then (s, beginA s.free s.nodes s.opn.length (if twT t.keys x = true then 9 else 0))
    else ({ s with nx := 87, nodes := s.nodes + 1, opn := os ++ [{ t with keys := t.keys ++ [txtT x] }] }, 0) := by
  unfold keyA
  rw [if_neg (by omega), h, List.reverse_append]
  simp
/-- jread.key. -/
theorem jkey_any {B : Nat} {lab : Nat → Nat} {w : World} {g : Nat} {s : JS} (h : JMX B lab w g s) (hne : s.opn ≠ []) (hf : Few s 4500) (hB : B ≤ w.heap.size) (k : Nat) (f t : Int) (x : ByteArray) (hxs : x.size ≤ 140737488351232) :
    Calls Tryz.prog 66 #[.pointer (some ⟨g, 0, none⟩), .agg #[.int .i64 (k : Int), .int .i64 f, .int .i64 t, .string x]] w fun e w' => e = .returned (.int .i64 (keyA s k x).2) ∧ ∃ lab', ((keyA s k x).2 = 0 → JMX B lab' w' g (keyA s k x).1) ∧ Frm lab lab' w w' := by
  obtain ⟨D, nbs, ao, co, r, h⟩ := h
  by_cases h7 : k = 7
  · subst h7
    obtain ⟨os, tt, hs⟩ : ∃ os t, s.opn = os ++ [t] := by
      rcases List.eq_nil_or_concat s.opn with q | ⟨os, t, q⟩
      · exact absurd q hne
      · exact ⟨os, t, by rw [q]; simp⟩
    obtain ⟨ns, nb, rfl⟩ : ∃ ns nb, nbs = ns ++ [nb] := by
      rcases List.eq_nil_or_concat nbs with q | ⟨ns, nb, q⟩
      · have := h.len; rw [q, hs] at this; simp at this
      · exact ⟨ns, nb, by rw [q]; simp⟩
    have hln : (ns ++ [nb]).length = ns.length + 1 := by simp
    have hlo : os.length = ns.length := by have := h.len; rw [hs] at this; simp at this; omega
    have hls : s.opn.length = ns.length + 1 := by rw [hs]; simp [hlo]
    have hopn := h.opn
    rw [hln] at hopn
    obtain ⟨go, cap', cur, hv, hBg, hcur, hnc, hcm, hz, hsp⟩ := hopn.last
    have hao : ao = some ⟨go, 0, none⟩ := by cases hv; rfl
    subst hao
    have hnd := h.nd ns.length (by simp) (by rw [hs]; simp; omega)
    have e1 : (ns ++ [nb])[ns.length]'(by simp) = nb := by simp
    have e2 : s.opn[ns.length]'(by rw [hs]; simp; omega) = tt := by simp only [hs]; simp [← hlo]
    rw [e1, e2] at hnd
    obtain ⟨bk, i1, i2, i3⟩ := hnd.ks
    have hgol : lab go = 2 := h.ol go rfl
    have hsh : bk.length = nb.lk := by
      obtain ⟨a', c', hv', _⟩ := i1.shape
      simp only [Value.slice.injEq] at hv'
      exact hv'.2.1.symm
    have hft := hf.2.2 tt (by rw [hs]; simp)
    have f1 := hf.1
    have f2 := hf.2.1
    have c7 := hsp 7 (by decide)
    rw [cell_row hcur] at c7
    have hbox : RBox w g s.free s.nx (some ⟨go, 0, none⟩) (ns.length + 1) co s.nodes r s.ended := by have := h.box; rw [hln] at this; exact this
    have hht := hasT_twT x i2 i3
    rw [keyA_snoc x hs]
    by_cases hy : beginA s.free s.nodes s.opn.length (if twT tt.keys x = true then 9 else 0) ≠ 0
    · rw [if_pos hy]
      refine (key_bad hbox (by omega) hcur (ak := nb.ak) (lk := nb.lk) (cap := nb.ck) c7 i1 hsh (by omega) hB (fun e => by have := hnd.kl go e; omega) (fun e => by have := hnd.kl g e; rw [h.gl] at this; omega) (fun e => by rw [e, h.gl] at hgol; omega) f t x (by omega) (by omega) _ (by rw [hht, hls]) hy).mono ?_
      rintro e w' ⟨rfl, hd⟩
      exact ⟨rfl, lab, fun q => absurd q hy, rd_frm hd h.gl⟩
    · rw [if_neg hy]
      have hy0 : beginA s.free s.nodes (ns.length + 1) (if hasT bk x = true then 9 else 0) = 0 := by rw [hht, ← hls]; simpa using hy
      refine (key_ok hbox (by omega) hcur (ak := nb.ak) (lk := nb.lk) (cap := nb.ck) c7 i1 hsh (by omega) hB (fun e => by have := hnd.kl go e; omega) (fun e => by have := hnd.kl g e; rw [h.gl] at this; omega) (fun e => by rw [e, h.gl] at hgol; omega) f t x (by omega) (by omega) hy0).mono ?_
      rintro e w' ⟨rfl, W5, w6, hd, R5, F, N, R⟩
      have hd' : Trn (fun L => L = 1) lab lab w W5 := ⟨hd.os, hd.tape, hd.output, hd.size, fun k hk hn => ⟨rfl, hd.rest k hk (fun e => hn (by rw [e]; exact h.gl))⟩⟩
      obtain ⟨hj, hT⟩ := jm_rd (s' := { s with nodes := s.nodes + 1 }) h hd (r' := r) (by rw [hln]; simpa using R5) rfl (nds_tr h.rt hd' (by omega))
      obtain ⟨lab', nb', hj', hT'⟩ := jm_key (nx' := 87) hj hs (own_tr i1 hd' hnd.kl (by omega)).1 i2 i3 ⟨rfl, txt_leaf hxs⟩ F N (by simpa using R)
      exact ⟨rfl, lab', fun _ => ⟨_, _, _, _, _, hj'⟩, (hT.frm (by omega)).trans (hT'.frm (by omega))⟩
  · have hk : keyA s k x = (s, 5) := by unfold keyA; rw [if_pos h7]
    rw [hk]
    refine (key_form (g := g) k f t x h7).mono ?_
    rintro e w' ⟨rfl, hbw⟩
    exact ⟨rfl, lab, fun q => by simp at q, below_frm hbw⟩
end Go.Proofs.YtmlacmoembjeoaaGreatDoor
namespace Go.Proofs.YtmlacmoembjeoaaGreatDoor
open Go.RowKit
set_option linter.unusedVariables false
theorem jmx_below {B : Nat} {lab : Nat → Nat} {w w' : World} {g : Nat} {s : JS} (h : JMX B lab w g s) (hb : Below w.heap.size w w') : JMX B lab w' g s := by
  obtain ⟨D, nbs, ao, co, r, h⟩ := h
  have hT : Trn (fun _ => False) lab lab w w' := ⟨hb.os, hb.tape, hb.output, hb.size, fun k hk _ => ⟨rfl, hb.block k hk⟩⟩
  have hs := hb.size
  exact ⟨D, nbs, ao, co, r, h.lo, fun k hk => h.hi k (by omega), h.gl, h.box.same (hb.block g h.box.lt), (own_tr h.opn hT (L := 2) h.ol (fun q => q)).1, h.ol, h.len, fun i hi hi2 => (h.nd i hi hi2).tr hT (fun q => q) (fun q => q) (fun q => q), nds_tr h.rt hT (fun q => q), h.few⟩
theorem jmx_nx {B : Nat} {lab : Nat → Nat} {w w' : World} {g nx' : Nat} {s : JS} {D : Nat} {nbs : List Nb} {ao : Option Addr} {co : Nat} {r : Nb} (h : JM B D lab w g s nbs ao co r) (R : RBox w' g s.free nx' ao nbs.length co s.nodes r s.ended) (hd : Rd w w' g) : JMX B lab w' g { s with nx := nx' } ∧ Frm lab lab w w' := by
  have hd' : Trn (fun L => L = 1) lab lab w w' := ⟨hd.os, hd.tape, hd.output, hd.size, fun k hk hn => ⟨rfl, hd.rest k hk (fun e => hn (by rw [e]; exact h.gl))⟩⟩
  obtain ⟨hj, hT⟩ := jm_rd (s' := { s with nx := nx' }) h hd (r' := r) R rfl (nds_tr h.rt hd' (by omega))
  exact ⟨⟨_, _, _, _, _, hj⟩, hT.frm (by omega)⟩
/-- One step. -/
def stepA (s : JS) (k : Nat) (x : ByteArray) : JS × Int :=
  if s.nx = 27 then valA s k x
  else if s.nx = 41 then (if k = 4 then (endA s, 0) else valA s k x)
  else if s.nx = 42 then (if k = 2 then (endA s, 0) else keyA s k x)
  else if s.nx = 66 then keyA s k x
  else if s.nx = 87 then (if k = 5 then ({ s with nx := 27 }, 0) else (s, 5))
  else if s.nx = 69 then (if k = 6 then ({ s with nx := 27 }, 0) else if k = 4 then (endA s, 0) else (s, 5))
  else if s.nx = 70 then (if k = 6 then ({ s with nx := 66 }, 0) else if k = 2 then (endA s, 0) else (s, 5))
  else (s, 10)
/-- What may stand next. -/
def Nxt (s : JS) : Prop := (s.nx = 27 ∨ s.nx = 41 ∨ s.nx = 42 ∨ s.nx = 66 ∨ s.nx = 87 ∨ s.nx = 69 ∨ s.nx = 70 ∨ s.nx = 67) ∧ (s.nx ≠ 27 → s.nx ≠ 67 → s.opn ≠ [])
/-- ONE STEP OF THE READER. -/
theorem step_any {B : Nat} {lab : Nat → Nat} {w : World} {g : Nat} {s : JS} (h : JMX B lab w g s) (hn : Nxt s) (hf : Few s 4500) (hB : B ≤ w.heap.size) (k : Nat) (f t : Int) (x : ByteArray) (hl : Leaf (nodeA k x).1) (hxs : x.size ≤ 140737488351232) :
    Calls Tryz.prog s.nx #[.pointer (some ⟨g, 0, none⟩), .agg #[.int .i64 (k : Int), .int .i64 f, .int .i64 t, .string x]] w fun e w' => e = .returned (.int .i64 (stepA s k x).2) ∧ ∃ lab', ((stepA s k x).2 = 0 → JMX B lab' w' g (stepA s k x).1) ∧ Frm lab lab' w w' := by
  obtain ⟨hnx, hop⟩ := hn
  have hf5 : Few s 5000 := ⟨by have := hf.1; omega, by have := hf.2.1; omega, fun u hu => by have := hf.2.2 u hu; exact ⟨by omega, by omega⟩⟩
  have kE : s.opn ≠ [] → ∀ w', Below w.heap.size w w' → Calls Tryz.prog 65 #[.pointer (some ⟨g, 0, none⟩)] w' fun e w'' => (∃ y : Int, e = .returned (.int .i64 y)) ∧ (e = .returned (.int .i64 0) ∧ ∃ lab', JMX B lab' w'' g (endA s) ∧ Frm lab lab' w' w'') := fun ho w' hb =>
    (jend_any (jmx_below h hb) ho hf5 (Nat.le_trans hB hb.size)).mono fun e w'' ⟨q1, q2⟩ => ⟨⟨_, q1⟩, q1, q2⟩
  have kV : ∀ w', Below w.heap.size w w' → Calls Tryz.prog 27 #[.pointer (some ⟨g, 0, none⟩), .agg #[.int .i64 (k : Int), .int .i64 f, .int .i64 t, .string x]] w' fun e w'' => (∃ y : Int, e = .returned (.int .i64 y)) ∧ (e = .returned (.int .i64 (valA s k x).2) ∧ ∃ lab', ((valA s k x).2 = 0 → JMX B lab' w'' g (valA s k x).1) ∧ Frm lab lab' w' w'') := fun w' hb =>
    (jval_any (jmx_below h hb) hf (Nat.le_trans hB hb.size) k f t x hl).mono fun e w'' ⟨q1, q2⟩ => ⟨⟨_, q1⟩, q1, q2⟩
  have kK : s.opn ≠ [] → ∀ w', Below w.heap.size w w' → Calls Tryz.prog 66 #[.pointer (some ⟨g, 0, none⟩), .agg #[.int .i64 (k : Int), .int .i64 f, .int .i64 t, .string x]] w' fun e w'' => (∃ y : Int, e = .returned (.int .i64 y)) ∧ (e = .returned (.int .i64 (keyA s k x).2) ∧ ∃ lab', ((keyA s k x).2 = 0 → JMX B lab' w'' g (keyA s k x).1) ∧ Frm lab lab' w' w'') := fun ho w' hb =>
    (jkey_any (jmx_below h hb) ho hf (Nat.le_trans hB hb.size) k f t x hxs).mono fun e w'' ⟨q1, q2⟩ => ⟨⟨_, q1⟩, q1, q2⟩
  obtain ⟨D, nbs, ao, co, r, hj⟩ := id h
  rcases hnx with e | e | e | e | e | e | e | e
  · have hs : stepA s k x = valA s k x := by unfold stepA; rw [if_pos e]
    rw [hs, e]
    exact jval_any h hf hB k f t x hl
  · have ho := hop (by rw [e]; decide) (by rw [e]; decide)
    rw [e]
    by_cases hk : k = 4
    · have hs : stepA s k x = (endA s, 0) := by unfold stepA; rw [if_neg (by rw [e]; decide), if_pos e, if_pos hk]
      rw [hs]
      refine (fv_end (g := g) k f t x hk (kE ho)).mono ?_
      rintro e' w2 ⟨w1, hb, rfl, lab', q1, q2⟩
      exact ⟨rfl, lab', fun _ => q1, (below_frm hb).trans q2⟩
    · have hs : stepA s k x = valA s k x := by unfold stepA; rw [if_neg (by rw [e]; decide), if_pos e, if_neg hk]
      rw [hs]
      refine (fv_val (g := g) k f t x hk kV).mono ?_
      rintro e' w2 ⟨w1, hb, q0, lab', q1, q2⟩
      exact ⟨q0, lab', q1, (below_frm hb).trans q2⟩
  · have ho := hop (by rw [e]; decide) (by rw [e]; decide)
    rw [e]
    by_cases hk : k = 2
    · have hs : stepA s k x = (endA s, 0) := by unfold stepA; rw [if_neg (by rw [e]; decide), if_neg (by rw [e]; decide), if_pos e, if_pos hk]
      rw [hs]
      refine (fk_end (g := g) k f t x hk (kE ho)).mono ?_
      rintro e' w2 ⟨w1, hb, rfl, lab', q1, q2⟩
      exact ⟨rfl, lab', fun _ => q1, (below_frm hb).trans q2⟩
    · have hs : stepA s k x = keyA s k x := by unfold stepA; rw [if_neg (by rw [e]; decide), if_neg (by rw [e]; decide), if_pos e, if_neg hk]
      rw [hs]
      refine (fk_key (g := g) k f t x hk (kK ho)).mono ?_
      rintro e' w2 ⟨w1, hb, q0, lab', q1, q2⟩
      exact ⟨q0, lab', q1, (below_frm hb).trans q2⟩
  · have ho := hop (by rw [e]; decide) (by rw [e]; decide)
    have hs : stepA s k x = keyA s k x := by unfold stepA; rw [if_neg (by rw [e]; decide), if_neg (by rw [e]; decide), if_neg (by rw [e]; decide), if_pos e]
    rw [hs, e]
    exact jkey_any h ho hf hB k f t x hxs
  · rw [e]
    by_cases hk : k = 5
    · have hs : stepA s k x = ({ s with nx := 27 }, 0) := by unfold stepA; rw [if_neg (by rw [e]; decide), if_neg (by rw [e]; decide), if_neg (by rw [e]; decide), if_neg (by rw [e]; decide), if_pos e, if_pos hk]
      rw [hs]
      refine (col_ok hj.box k f t x hk).mono ?_
      rintro e' w2 ⟨rfl, R, hd⟩
      obtain ⟨q1, q2⟩ := jmx_nx hj R hd
      exact ⟨rfl, lab, fun _ => q1, q2⟩
    · have hs : stepA s k x = (s, 5) := by unfold stepA; rw [if_neg (by rw [e]; decide), if_neg (by rw [e]; decide), if_neg (by rw [e]; decide), if_neg (by rw [e]; decide), if_pos e, if_neg hk]
      rw [hs]
      refine (col_bad (g := g) k f t x hk).mono ?_
      rintro e' w2 ⟨rfl, hb⟩
      exact ⟨rfl, lab, fun q => by simp at q, below_frm hb⟩
  · have ho := hop (by rw [e]; decide) (by rw [e]; decide)
    have hs : stepA s k x = if k = 6 then ({ s with nx := 27 }, 0) else if k = 4 then (endA s, 0) else (s, 5) := by unfold stepA; rw [if_neg (by rw [e]; decide), if_neg (by rw [e]; decide), if_neg (by rw [e]; decide), if_neg (by rw [e]; decide), if_neg (by rw [e]; decide), if_pos e]
    rw [e, hs]
    by_cases h6 : k = 6
    · rw [if_pos h6]
      refine (bk_next hj.box k f t x h6).mono ?_
      rintro e' w2 ⟨rfl, R, hd⟩
      obtain ⟨q1, q2⟩ := jmx_nx hj R hd
      exact ⟨rfl, lab, fun _ => q1, q2⟩
    rw [if_neg h6]
    by_cases h4 : k = 4
    · rw [if_pos h4]
      refine (bk_end (g := g) k f t x h4 (kE ho)).mono ?_
      rintro e' w2 ⟨w1, hb, rfl, lab', q1, q2⟩
      exact ⟨rfl, lab', fun _ => q1, (below_frm hb).trans q2⟩
    · rw [if_neg h4]
      refine (bk_bad (g := g) k f t x h6 h4).mono ?_
      rintro e' w2 ⟨rfl, hb⟩
      exact ⟨rfl, lab, fun q => by simp at q, below_frm hb⟩
  · have ho := hop (by rw [e]; decide) (by rw [e]; decide)
    have hs : stepA s k x = if k = 6 then ({ s with nx := 66 }, 0) else if k = 2 then (endA s, 0) else (s, 5) := by unfold stepA; rw [if_neg (by rw [e]; decide), if_neg (by rw [e]; decide), if_neg (by rw [e]; decide), if_neg (by rw [e]; decide), if_neg (by rw [e]; decide), if_neg (by rw [e]; decide), if_pos e]
    rw [e, hs]
    by_cases h6 : k = 6
    · rw [if_pos h6]
      refine (bm_next hj.box k f t x h6).mono ?_
      rintro e' w2 ⟨rfl, R, hd⟩
      obtain ⟨q1, q2⟩ := jmx_nx hj R hd
      exact ⟨rfl, lab, fun _ => q1, q2⟩
    rw [if_neg h6]
    by_cases h2 : k = 2
    · rw [if_pos h2]
      refine (bm_end (g := g) k f t x h2 (kE ho)).mono ?_
      rintro e' w2 ⟨w1, hb, rfl, lab', q1, q2⟩
      exact ⟨rfl, lab', fun _ => q1, (below_frm hb).trans q2⟩
    · rw [if_neg h2]
      refine (bm_bad (g := g) k f t x h6 h2).mono ?_
      rintro e' w2 ⟨rfl, hb⟩
      exact ⟨rfl, lab, fun q => by simp at q, below_frm hb⟩
  · have hs : stepA s k x = (s, 10) := by unfold stepA; rw [if_neg (by rw [e]; decide), if_neg (by rw [e]; decide), if_neg (by rw [e]; decide), if_neg (by rw [e]; decide), if_neg (by rw [e]; decide), if_neg (by rw [e]; decide), if_neg (by rw [e]; decide)]
    rw [e, hs]
    refine (not_any (g := g) k f t x).mono ?_
    rintro e' w2 ⟨rfl, hb⟩
    exact ⟨rfl, lab, fun q => by simp at q, below_frm hb⟩
end Go.Proofs.YtmlacmoembjeoaaGreatDoor
namespace Go.Proofs.YtmlacmoembjeoaaGreatDoor
open Go.RowKit
set_option linter.unusedVariables false
theorem few_put {s : JS} {M : Nat} (u : Tr) (h1 : s.opn.length ≤ M) (h2 : s.nodes ≤ M) (h3 : ∀ t ∈ s.opn, t.keys.length ≤ M ∧ t.kids.length + 1 ≤ M) : Few (putA s u) M := by
  rcases List.eq_nil_or_concat s.opn with q | ⟨os, t, q⟩
  · rw [putA_nil u q]
    exact ⟨h1, h2, fun v hv => by rw [q] at hv; simp at hv⟩
  · have q' : s.opn = os ++ [t] := by rw [q]; simp
    rw [putA_snoc u q']
    rw [q'] at h1 h3
    refine ⟨by simpa using h1, h2, fun v hv => ?_⟩
    rcases List.mem_append.1 hv with hv | hv
    · have := h3 v (List.mem_append_left _ hv); exact ⟨this.1, by omega⟩
    · have e := List.mem_singleton.1 hv
      have := h3 t (List.mem_append_right _ (List.mem_singleton.2 rfl))
      rw [e]
      exact ⟨this.1, by simp; omega⟩
theorem nxt_put {s : JS} (u : Tr) : Nxt (putA s u) := by
  rcases List.eq_nil_or_concat s.opn with q | ⟨os, t, q⟩
  · rw [putA_nil u q]
    exact ⟨by simp, fun _ h => absurd rfl h⟩
  · have q' : s.opn = os ++ [t] := by rw [q]; simp
    rw [putA_snoc u q']
    refine ⟨?_, fun _ _ => by simp⟩
    by_cases hk : t.kind = 8
    · simp [hk]
    · simp [hk]
theorem few_up {s : JS} {M : Nat} (h : Few s M) : Few s (M + 1) := ⟨by have := h.1; omega, by have := h.2.1; omega, fun t ht => by have := h.2.2 t ht; exact ⟨by omega, by omega⟩⟩
theorem few_end {s : JS} {M : Nat} (h : Few s M) : Few (endA s) (M + 1) := by
  rcases List.eq_nil_or_concat s.opn with q | ⟨os, t, q⟩
  · unfold endA; rw [q]; exact few_up h
  · have q' : s.opn = os ++ [t] := by rw [q]; simp
    rw [endA_snoc q']
    obtain ⟨h1, h2, h3⟩ := h
    rw [q'] at h1 h3
    simp at h1
    exact few_put _ (by show os.length ≤ M + 1; omega) (by show s.nodes ≤ M + 1; omega) fun v hv => by
      have := h3 v (List.mem_append_left _ hv); exact ⟨by omega, by omega⟩
theorem nxt_end {s : JS} (h : s.opn ≠ []) : Nxt (endA s) := by
  rcases List.eq_nil_or_concat s.opn with q | ⟨os, t, q⟩
  · exact absurd q h
  · have q' : s.opn = os ++ [t] := by rw [q]; simp
    rw [endA_snoc q']
    exact nxt_put _
theorem few_push {s : JS} {M n : Nat} {t : Tr} (h : Few s M) (h1 : t.keys = []) (h2 : t.kids = []) : Few { s with nx := n, opn := s.opn ++ [t], nodes := s.nodes + 1 } (M + 1) := by
  obtain ⟨a, b, c⟩ := h
  refine ⟨by simp; omega, by show s.nodes + 1 ≤ M + 1; omega, fun v hv => ?_⟩
  rcases List.mem_append.1 hv with hv | hv
  · have := c v hv; exact ⟨by omega, by omega⟩
  · rw [List.mem_singleton.1 hv, h1, h2]; simp
theorem val_keeps {s : JS} {M : Nat} (h : Few s M) (hn : Nxt s) (k : Nat) (x : ByteArray) : Few (valA s k x).1 (M + 1) ∧ Nxt (valA s k x).1 := by
  unfold valA
  split
  · exact ⟨few_up h, hn⟩
  split
  · exact ⟨few_up h, hn⟩
  split
  · exact ⟨few_push h rfl rfl, by simp [Nxt]⟩
  split
  · exact ⟨few_push h rfl rfl, by simp [Nxt]⟩
  · obtain ⟨a, b, c⟩ := h
    exact ⟨few_put _ (by show s.opn.length ≤ M + 1; omega) (by show s.nodes + 1 ≤ M + 1; omega) (fun v hv => by have := c v hv; exact ⟨by omega, by omega⟩), nxt_put _⟩
theorem key_keeps {s : JS} {M : Nat} (h : Few s M) (hn : Nxt s) (ho : s.opn ≠ []) (k : Nat) (x : ByteArray) : Few (keyA s k x).1 (M + 1) ∧ Nxt (keyA s k x).1 := by
  by_cases hk : k = 7
  · subst hk
    rcases List.eq_nil_or_concat s.opn with q | ⟨os, t, q⟩
    · exact absurd q ho
    · have q' : s.opn = os ++ [t] := by rw [q]; simp
      rw [keyA_snoc x q']
      generalize beginA s.free s.nodes s.opn.length (if twT t.keys x = true then 9 else 0) = c0
      by_cases hc : c0 ≠ 0
      · rw [if_pos hc]
        exact ⟨few_up h, hn⟩
      rw [if_neg hc]
      · obtain ⟨a, b, c⟩ := h
        rw [q'] at a c
        simp only [List.length_append, List.length_singleton] at a
        refine ⟨⟨?_, by show s.nodes + 1 ≤ M + 1; omega, fun v hv => ?_⟩, by simp [Nxt]⟩
        · show (os ++ [_]).length ≤ M + 1
          simp only [List.length_append, List.length_singleton]
          omega
        · rcases List.mem_append.1 hv with hv | hv
          · have := c v (List.mem_append_left _ hv); exact ⟨by omega, by omega⟩
          · have e := List.mem_singleton.1 hv
            have := c t (List.mem_append_right _ (List.mem_singleton.2 rfl))
            rw [e]
            exact ⟨by simp; omega, by show t.kids.length ≤ M + 1; omega⟩
  · unfold keyA
    rw [if_pos hk]
    exact ⟨few_up h, hn⟩
/-- WHAT A STEP KEEPS. -/
theorem step_keeps {s : JS} {M : Nat} (h : Few s M) (hn : Nxt s) (k : Nat) (x : ByteArray) : Few (stepA s k x).1 (M + 1) ∧ Nxt (stepA s k x).1 := by
  have ho := hn.2
  have hv := val_keeps h hn k x
  unfold stepA
  split
  · exact hv
  rename_i n1
  split
  · rename_i e
    have o := ho n1 (by rw [e]; decide)
    split
    · exact ⟨few_end h, nxt_end o⟩
    · exact hv
  split
  · rename_i e
    have o := ho n1 (by rw [e]; decide)
    split
    · exact ⟨few_end h, nxt_end o⟩
    · exact key_keeps h hn o k x
  split
  · rename_i e
    exact key_keeps h hn (ho n1 (by rw [e]; decide)) k x
  split
  · split
    · exact ⟨few_up h, by simp [Nxt]⟩
    · exact ⟨few_up h, hn⟩
  split
  · rename_i e
    have o := ho n1 (by rw [e]; decide)
    split
    · exact ⟨few_up h, by simp [Nxt]⟩
    split
    · exact ⟨few_end h, nxt_end o⟩
    · exact ⟨few_up h, hn⟩
  split
  · rename_i e
    have o := ho n1 (by rw [e]; decide)
    split
    · exact ⟨few_up h, by simp [Nxt, o]⟩
    split
    · exact ⟨few_end h, nxt_end o⟩
    · exact ⟨few_up h, hn⟩
  · exact ⟨few_up h, hn⟩
end Go.Proofs.YtmlacmoembjeoaaGreatDoor
namespace Go.Proofs.YtmlacmoembjeoaaGreatDoor
open Go.RowKit
set_option linter.unusedVariables false
/-- Nothing was read. -/
def newS (free : Bool) : JS := ⟨free, 27, [], 0, zT, false⟩
theorem jmx_new {B : Nat} {w : World} {g : Nat} (free : Bool) (h : RBox w g free 27 none 0 0 0 zN false) (hB : B ≤ g) : JMX B (fun k => if k = g then 1 else 0) w g (newS free) := by
  have hg := h.lt
  refine ⟨1, [], none, 0, zN, fun k hk => if_neg (by omega), fun k hk => if_neg (by omega), if_pos rfl, h, ownsN_nil w B, fun k hk => by simp [Value.ownBlock] at hk, rfl, fun i h1 h2 => by simp at h1, leaf_nd (t := zT) ?_ _ _ _, by simp [newS]⟩
  exact ⟨rfl, rfl, rfl, by rfl, by rfl, by rfl, by simp [zT, ByteArray.size], by simp [zT, ByteArray.size]⟩
theorem new_few (free : Bool) : Few (newS free) 0 := ⟨by simp [newS], by simp [newS], fun t ht => by simp [newS] at ht⟩
theorem new_nxt (free : Bool) : Nxt (newS free) := ⟨.inl rfl, fun h => absurd rfl h⟩
/-- All tokens, up to the first fault. -/
def readT (s : JS) : List Tk → JS × Int × Nat
  | [] => (s, 0, 0)
  | t :: l => if (stepA s t.kind (strOfNums t.txt)).2 ≠ 0 then (s, (stepA s t.kind (strOfNums t.txt)).2, t.frm) else readT (stepA s t.kind (strOfNums t.txt)).1 l
theorem readT_cons_bad {s : JS} {t : Tk} {l : List Tk} (h : (stepA s t.kind (strOfNums t.txt)).2 ≠ 0) : readT s (t :: l) = (s, (stepA s t.kind (strOfNums t.txt)).2, t.frm) := by unfold readT; rw [if_pos h]
theorem readT_cons_ok {s : JS} {t : Tk} {l : List Tk} (h : (stepA s t.kind (strOfNums t.txt)).2 = 0) : readT s (t :: l) = readT (stepA s t.kind (strOfNums t.txt)).1 l := by
  conv => lhs; unfold readT
  rw [if_neg (by rw [h]; simp)]
end Go.Proofs.YtmlacmoembjeoaaGreatDoor
namespace Go.Proofs.YtmlacmoembjeoaaGreatDoor
open Go.RowKit
set_option linter.unusedVariables false
theorem parse_ok {s : ByteArray} (h : (parseA s).2.1 = 0) : rtN (parseA s).1.1 (parseA s).1.2.1 (parseA s).1.2.2 = true := by
  unfold parseA at h ⊢
  by_cases h1 : 4096 < s.size
  · rw [if_pos h1] at h; simp at h
  rw [if_neg h1] at h ⊢
  generalize runS (bs s) 0 0 p0 = r at h ⊢
  unfold doneA at h ⊢
  split at h
  · rename_i k hk
    simp at h
  · rename_i hk
    by_cases h2 : endS r.2.1 = true
    · simp only [if_pos h2] at h ⊢
      exact make_right (n := r.2.2.1) (s := strOfNums r.2.2.2.1) (e := expS r.2.2) (Prod.ext rfl h)
    · simp only [if_neg h2] at h
      simp at h
theorem wf64 {x : Int} (h1 : -2000 ≤ x) (h2 : x ≤ 2000) : (Lit.int .i64 x).wf = true := by
  simp [Lit.wf, IntKind.min, IntKind.max, IntKind.bits, IntKind.signed]
  omega
theorem rt_bnd {n : Bool} {s : ByteArray} {e : Int} (h : rtN n s e = true) : s.size ≤ 800 ∧ -2000 ≤ e ∧ e ≤ 2000 := by
  unfold rtN at h
  by_cases hz : bs s = [48]
  · rw [if_pos hz] at h
    have hl : s.size = 1 := by rw [← bs_len, hz]; rfl
    simp at h
    omega
  · rw [if_neg hz] at h
    simp at h
    obtain ⟨h1, h2, h3, h4⟩ := h
    refine ⟨?_, h3, h4⟩
    have := (rt_iff s).1 h1
    unfold RightS at this
    have hl := bs_len s
    omega
theorem node_leaf (k : Nat) (x : ByteArray) (hx : x.size ≤ 140737488351232) : Leaf (nodeA k x).1 := by
  have e0 : (⟨#[]⟩ : ByteArray).size ≤ 140737488351232 := by simp [ByteArray.size]
  have hk : ∀ a b : Int, (Lit.int .i64 a).wf = true → (Lit.int .u64 b).wf = true → Leaf (kindT a b) := fun a b h1 h2 => ⟨rfl, rfl, rfl, h1, h2, rfl, e0, e0⟩
  unfold nodeA
  split
  · exact hk _ _ rfl rfl
  split
  · exact hk _ _ rfl rfl
  split
  · exact ⟨rfl, rfl, rfl, rfl, rfl, rfl, e0, hx⟩
  split
  · unfold numA
    by_cases h : (parseA x).2.1 = 0
    · obtain ⟨b1, b2, b3⟩ := rt_bnd (parse_ok h)
      rw [if_neg (by rw [h]; simp)]
      generalize parseA x = p at *
      by_cases hw : (wholeA p.1.1 p.1.2.1 p.1.2.2).2 = true
      · rw [if_pos hw]
        refine ⟨rfl, rfl, rfl, rfl, rfl, rfl, ?_, e0⟩
        show (wholeA p.1.1 p.1.2.1 p.1.2.2).1.size ≤ _
        unfold wholeA
        split
        · rename_i q
          show (padW _ _).size ≤ _
          rw [padW_size]
          omega
        · exact e0
      · rw [if_neg hw]
        refine ⟨rfl, rfl, rfl, rfl, rfl, wf64 b2 b3, ?_, e0⟩
        show p.1.2.1.size ≤ _
        omega
    · rw [if_pos h]
      exact hk 0 0 rfl rfl
  split
  · exact hk _ _ rfl rfl
  split
  · exact hk _ _ rfl rfl
  · exact hk _ _ rfl rfl
end Go.Proofs.YtmlacmoembjeoaaGreatDoor
namespace Go.Proofs.YtmlacmoembjeoaaGreatDoor
open Go.RowKit
set_option linter.unusedVariables false
/-- Tokens that a call has made, told by their cells. -/
theorem OwnsT.cells {w : World} {base : Nat} {v : Value} {L : List Tk} (h : OwnsT w base v L) (h0 : L ≠ []) : ∃ g cap, v = .slice (some ⟨g, 0, none⟩) L.length cap ∧ base ≤ g ∧ g < w.heap.size ∧ L.length ≤ cap ∧ cap ≤ 9223372036854775807 ∧ ∀ j, j < L.length * 4 → w.cell? ⟨g, j, none⟩ = (tkCs L)[j]? := by
  rcases h.2 with ⟨hv, hn⟩ | ⟨g, cap, cur, hv, hg, hc, hnc, hcm, hsz, htk⟩
  · exact absurd (List.eq_nil_of_length_eq_zero hn) h0
  · refine ⟨g, cap, hv, hg, (Array.getElem?_eq_some_iff.1 hc).1, hnc, by unfold maxLen at hcm; omega, fun j hj => ?_⟩
    rw [cell_row hc j, ← htk, List.getElem?_take_of_lt hj, Array.getElem?_toList]
/-- What Lex answers for any bytes. -/
def lexW (zs : List Int) : List Tk × Nat × Nat := if zs.length ≤ 4096 then lexA zs 0 else ([], 8, 0)
set_option maxHeartbeats 2000000 in
set_option maxRecDepth 100000 in
theorem lex_many (a : Option Addr) (n cap : Nat) (w : World) (hn : 4096 < n) :
    Calls Tryz.prog 28 #[.slice a n cap] w fun e w' => e = .returned (.tuple #[.slice none 0 0, .agg #[.int .i64 8, .int .i64 0]]) ∧ Below w.heap.size w w' := by
  have a1 : decide ((4096 : Int) < (n : Int)) = true := by simp; omega
  have hA : Hid (Below w.heap.size w (w.alloc (.cells #[.int .i64 8, .int .i64 0] 29))) := alloc_below w _
  clear hn
  go_enter Tryz.func28, Tryz.ntmps28
  go_wp2
  refine bodyPost_ret (v := .tuple #[.slice none 0 0, .agg #[.int .i64 8, .int .i64 0]]) (by simp [results, Tryz.results28, go_sem, *]) rfl ⟨rfl, hA.out⟩
theorem lex_full (a : Option Addr) (n cap : Nat) (zs : List Int) (w : World) (hl : zs.length = n) (hb : Bytes w a zs) (hc : n ≤ cap) :
    Calls Tryz.prog 28 #[.slice a n cap] w fun e w' => ∃ v, e = .returned (.tuple #[v, .agg #[.int .i64 ((lexW zs).2.1 : Nat), .int .i64 ((lexW zs).2.2 : Nat)]]) ∧ OwnsT w' (w.heap.size + 1) v (lexW zs).1 ∧ Below w.heap.size w w' := by
  unfold lexW
  by_cases h : n ≤ 4096
  · rw [if_pos (by omega)]; exact lex_any a n cap zs w hl hb hc h
  · rw [if_neg (by omega)]
    exact (lex_many a n cap w (by omega)).mono fun e w' ⟨h1, h2⟩ => ⟨_, h1, ownsT_nil _ _, h2⟩
theorem tkCs_get (L : List Tk) (i j : Nat) (hi : i < L.length) (hj : j < 4) : (tkCs L)[i * 4 + j]? = (tkC (L[i]'hi))[j]? := by
  induction L generalizing i with
  | nil => simp at hi
  | cons t L ih =>
    have e : tkCs (t :: L) = tkC t ++ tkCs L := rfl
    have hl : (tkC t).length = 4 := rfl
    rw [e]
    cases i with
    | zero => rw [List.getElem?_append_left (by omega)]; simp
    | succ i =>
      rw [List.getElem?_append_right (by omega), hl, show (i + 1) * 4 + j - 4 = i * 4 + j by omega, ih i (by simpa using hi)]
      rfl
/-- Where the tokens lie. -/
def TokAt (w : World) (av : Option Addr) (L : List Tk) : Prop := L ≠ [] → ∃ g, av = some ⟨g, 0, none⟩ ∧ g < w.heap.size ∧ ∀ j, j < L.length * 4 → w.cell? ⟨g, j, none⟩ = (tkCs L)[j]?
theorem TokAt.kept {w w' : World} {av : Option Addr} {L : List Tk} (h : TokAt w av L) (hb : Below w.heap.size w w') : TokAt w' av L := fun h0 => by
  obtain ⟨g, h1, h2, h3⟩ := h h0
  exact ⟨g, h1, Nat.lt_of_lt_of_le h2 hb.size, fun j hj => (hb.cell (p := ⟨g, j, none⟩) h2).trans (h3 j hj)⟩
theorem OwnsT.at {w : World} {base : Nat} {v : Value} {L : List Tk} (h : OwnsT w base v L) : ∃ av cv, v = .slice av L.length cv ∧ L.length ≤ cv ∧ cv ≤ 9223372036854775807 ∧ TokAt w av L := by
  by_cases h0 : L = []
  · obtain ⟨av, n, cv, hv, hn, h1, h2⟩ := h.form
    exact ⟨av, cv, by rw [hv, hn.out], by rw [hn.out]; exact h1, h2, fun h => absurd h0 h⟩
  · obtain ⟨g, cap, hv, hg, hgl, h5, hc, hcs⟩ := h.cells h0
    exact ⟨_, cap, hv, h5, hc, fun _ => ⟨g, rfl, hgl, hcs⟩⟩
theorem TokAt.frm {lab lab' : Nat → Nat} {w w' : World} {av : Option Addr} {L : List Tk} (h : TokAt w av L) (hF : Frm lab lab' w w') (h0 : ∀ x, av = some x → lab x.block = 0) : TokAt w' av L := fun hL => by
  obtain ⟨g, h1, h2, h3⟩ := h hL
  refine ⟨g, h1, Nat.lt_of_lt_of_le h2 hF.size, fun j hj => ?_⟩
  rw [← h3 j hj]
  have := (hF.rest g h2 (h0 _ h1)).2
  simp [World.cell?, this]
/-- A place of two whole numbers is none of a node's places. -/
theorem NdS.avoid {S : Nat → Prop} {k0 : Nat} {x y : Int} {T : TypeId} {m : Nat × Nat} : ∀ {d : Nat} {w : World} {b : Nb} {t : Tr}, NdS S d w b t → w.heap[k0]? = some (.cells #[.int .i64 x, .int .i64 y] T m) → NdS (fun k => S k ∧ k ≠ k0) d w b t := by
  intro d
  induction d with
  | zero => intro w b t h _; exact h
  | succ d ih =>
    intro w b t h hk
    obtain ⟨h0, h1, h2, ⟨i0, i1, i2⟩, h3, h4⟩ := h
    have hrow : ∀ {a : Option Addr} {len cap : Nat} {l : List Tr}, RowN (NdS S d w) w a len cap l → In S a len → In (fun k => S k ∧ k ≠ k0) a len := by
      intro a len cap l hr hi hp z hz
      refine ⟨hi hp z hz, fun e => ?_⟩
      obtain ⟨hl, _, q⟩ := hr
      rcases q with q | ⟨bb, off, ha, hc⟩
      · rw [q] at hl; simp at hl; omega
      · rw [ha] at hz
        cases hz
        obtain ⟨nb, hn, _⟩ := hc 0 (by omega)
        have h8 := hn 8 (by omega)
        simp only at e
        rw [e, cell_row hk] at h8
        rw [List.getElem?_eq_getElem (by simp [Nb.cells]), Array.getElem?_eq_none (by simp)] at h8
        simp at h8
    refine ⟨h0, h1, h2, ⟨fun hp z hz => ⟨i0 hp z hz, fun e => ?_⟩, hrow h3 i1, hrow h4 i2⟩, h3.mono fun _ _ _ q => ih q hk, h4.mono fun _ _ _ q => ih q hk⟩
    obtain ⟨hl, _, _, _, hc⟩ := h2
    rcases hc with hc | ⟨bb, off, ha, hc⟩
    · rw [hc] at hl; simp at hl; omega
    · rw [ha] at hz
      cases hz
      have := hc 0 (by omega)
      simp only at e
      rw [e] at this
      rw [cell_row hk] at this
      rcases off with _ | _ | off <;> simp at this
end Go.Proofs.YtmlacmoembjeoaaGreatDoor
namespace Go.Proofs.YtmlacmoembjeoaaGreatDoor
open Go.RowKit
set_option linter.unusedVariables false
theorem nxt_enters {s : JS} (h : Nxt s) : ∀ args w, (callFunc s.nx args).run Tryz.prog w = .ok (.enter s.nx args) w := by
  rcases h.1 with e | e | e | e | e | e | e | e
  · rw [e]; exact enters_of Tryz.func27 (by kernel_rfl) rfl
  · rw [e]; exact enters_of Tryz.func41 (by kernel_rfl) rfl
  · rw [e]; exact enters_of Tryz.func42 (by kernel_rfl) rfl
  · rw [e]; exact enters_of Tryz.func66 (by kernel_rfl) rfl
  · rw [e]; exact enters_of Tryz.func87 (by kernel_rfl) rfl
  · rw [e]; exact enters_of Tryz.func69 (by kernel_rfl) rfl
  · rw [e]; exact enters_of Tryz.func70 (by kernel_rfl) rfl
  · rw [e]; exact enters_of Tryz.func67 (by kernel_rfl) rfl
/-- All bytes. -/
def readA (s : JS) (zs : List Int) : JS × Int × Nat :=
  if (readT s (lexW zs).1).2.1 ≠ 0 then readT s (lexW zs).1
  else if (lexW zs).2.1 = 0 ∧ (readT s (lexW zs).1).1.ended = false then ((readT s (lexW zs).1).1, 3, zs.length)
  else ((readT s (lexW zs).1).1, (((lexW zs).2.1 : Nat) : Int), (lexW zs).2.2)
theorem readT_at {s : JS} {L : List Tk} {i : Nat} (hi : i < L.length) : readT s (L.drop i) = readT s (L[i] :: L.drop (i + 1)) := by rw [List.drop_eq_getElem_cons hi]
theorem jmx_cell {B : Nat} {lab : Nat → Nat} {w : World} {g : Nat} {s : JS} (h : JMX B lab w g s) : w.cell? ⟨g, 1, none⟩ = some (.func (.func s.nx) #[.pointer (some ⟨g, 0, none⟩)] #[]) ∧ w.cell? ⟨g, 5 + 8, none⟩ = some (.bool s.ended) ∧ lab g = 1 ∧ g < w.heap.size ∧ ∀ k, w.heap.size ≤ k → lab k = 0 := by
  obtain ⟨D, nbs, ao, co, r, h⟩ := h
  exact ⟨h.box.fields.2.1, h.box.fields.2.2.2.2, h.gl, h.box.lt, h.hi⟩
end Go.Proofs.YtmlacmoembjeoaaGreatDoor
