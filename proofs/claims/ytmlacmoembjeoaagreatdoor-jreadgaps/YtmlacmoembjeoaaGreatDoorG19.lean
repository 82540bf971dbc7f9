/-
  A value that begins: jread.reader.value, where it is no Array and no Map, and where it is refused.
  The reader as a whole: what is innermost ends; a value begins.
  The reader as a whole: a value's token.
  The reader as a whole: a key put among those of what is innermost.
  Whether a key is there already: jread.twice, with slices.ContainsFunc and slices.IndexFunc.
  A call of a function as a step of a region that draws its order.
-/
import Derived.Test.YtmlacmoembjeoaaGreatDoorG16
import Derived.Test.YtmlacmoembjeoaaGreatDoorG17
import Derived.Test.YtmlacmoembjeoaaGreatDoorG18
import Derived.Test.YtmlacmoembjeoaaGreatDoorG13
namespace Go.Proofs.YtmlacmoembjeoaaGreatDoor
open Go.RowKit
set_option linter.unusedVariables false
def bvA (k : Nat) : Bool := !(k == 2 || k == 4 || k == 5 || k == 6)
set_option maxHeartbeats 1000000 in
set_option maxRecDepth 100000 in
theorem val_form {w : World} {g : Nat} (k : Nat) (f t : Int) (s : ByteArray) (hk : bvA k = false) :
    Calls Tryz.prog 27 #[.pointer (some ⟨g, 0, none⟩), .agg #[.int .i64 (k : Int), .int .i64 f, .int .i64 t, .string s]] w fun e w' => e = .returned (.int .i64 5) ∧ Below w.heap.size w w' := by
  have A1 := alloc_below w (.cells #[.int .i64 (k : Int), .int .i64 f, .int .i64 t, .string s] 40)
  have T1 : Blk (w.alloc (.cells #[.int .i64 (k : Int), .int .i64 f, .int .i64 t, .string s] 40)) w.heap.size #[.int .i64 (k : Int), .int .i64 f, .int .i64 t, .string s] 40 := blk_new w _ _
  have c0 : (w.alloc (.cells #[.int .i64 (k : Int), .int .i64 f, .int .i64 t, .string s] 40)).cell? ⟨w.heap.size, 0, none⟩ = some (.int .i64 (k : Int)) := T1.cell 0
  have c1 : (w.alloc (.cells #[.int .i64 (k : Int), .int .i64 f, .int .i64 t, .string s] 40)).cell? ⟨w.heap.size, 1, none⟩ = some (.int .i64 f) := T1.cell 1
  have c2 : (w.alloc (.cells #[.int .i64 (k : Int), .int .i64 f, .int .i64 t, .string s] 40)).cell? ⟨w.heap.size, 2, none⟩ = some (.int .i64 t) := T1.cell 2
  have c3 : (w.alloc (.cells #[.int .i64 (k : Int), .int .i64 f, .int .i64 t, .string s] 40)).cell? ⟨w.heap.size, 3, none⟩ = some (.string s) := T1.cell 3
  have kB := bv_any k (w.alloc (.cells #[.int .i64 (k : Int), .int .i64 f, .int .i64 t, .string s] 40)) false hk.symm
  have BA : Hid (Below w.heap.size w (w.alloc (.cells #[.int .i64 (k : Int), .int .i64 f, .int .i64 t, .string s] 40))) := A1
  clear A1 T1 hk
  go_enter Tryz.func27, Tryz.ntmps27
  go_wp2_with (go_at_call 38; refine kB.mono ?_; rintro e w0 ⟨rfl, hw0⟩; subst hw0; clear kB)
  go_ret
  exact ⟨rfl, BA.out⟩
set_option maxHeartbeats 2000000 in
set_option maxRecDepth 100000 in
theorem val_bad {w : World} {g no co : Nat} {ao : Option Addr} {free : Bool} {nx : Nat} {nodes : Int} {r : Nb} {ended : Bool} (h : RBox w g free nx ao no co nodes r ended) (k : Nat) (f t : Int) (s : ByteArray) (hk : bvA k = true) (h0 : 0 ≤ nodes) (h1 : nodes ≤ 1000000) (Y : Int) (hbg : beginA free nodes no (nodeA k s).2 = Y) (hY : Y ≠ 0) :
    Calls Tryz.prog 27 #[.pointer (some ⟨g, 0, none⟩), .agg #[.int .i64 (k : Int), .int .i64 f, .int .i64 t, .string s]] w fun e w' => e = .returned (.int .i64 Y) ∧ Rd w w' g := by
  have A1 := alloc_below w (.cells #[.int .i64 (k : Int), .int .i64 f, .int .i64 t, .string s] 40)
  have T1 : Blk (w.alloc (.cells #[.int .i64 (k : Int), .int .i64 f, .int .i64 t, .string s] 40)) w.heap.size #[.int .i64 (k : Int), .int .i64 f, .int .i64 t, .string s] 40 := blk_new w _ _
  have c0 : (w.alloc (.cells #[.int .i64 (k : Int), .int .i64 f, .int .i64 t, .string s] 40)).cell? ⟨w.heap.size, 0, none⟩ = some (.int .i64 (k : Int)) := T1.cell 0
  have c1 : (w.alloc (.cells #[.int .i64 (k : Int), .int .i64 f, .int .i64 t, .string s] 40)).cell? ⟨w.heap.size, 1, none⟩ = some (.int .i64 f) := T1.cell 1
  have c2 : (w.alloc (.cells #[.int .i64 (k : Int), .int .i64 f, .int .i64 t, .string s] 40)).cell? ⟨w.heap.size, 2, none⟩ = some (.int .i64 t) := T1.cell 2
  have c3 : (w.alloc (.cells #[.int .i64 (k : Int), .int .i64 f, .int .i64 t, .string s] 40)).cell? ⟨w.heap.size, 3, none⟩ = some (.string s) := T1.cell 3
  have kB := bv_any k (w.alloc (.cells #[.int .i64 (k : Int), .int .i64 f, .int .i64 t, .string s] 40)) true hk.symm
  have kN := node_any k f t s (w.alloc (.cells #[.int .i64 (k : Int), .int .i64 f, .int .i64 t, .string s] 40))
  generalize nodeA k s = R at *
  obtain ⟨T, EE⟩ := R
  dsimp only at kN hbg
  have RA : Hid (RBox (w.alloc (.cells #[.int .i64 (k : Int), .int .i64 f, .int .i64 t, .string s] 40)) g free nx ao no co nodes r ended) := h.same (A1.block g h.lt)
  have BA : Hid (Below w.heap.size w (w.alloc (.cells #[.int .i64 (k : Int), .int .i64 f, .int .i64 t, .string s] 40))) := A1
  have kG : Hid (∀ w', RBox w' g free nx ao no co nodes r ended → Calls Tryz.prog 40 #[.pointer (some ⟨g, 0, none⟩), .int .i64 EE] w' fun e w'' => e = .returned (.int .i64 Y) ∧ w'' = w'.setCell ⟨g, 3, none⟩ (.int .i64 (nodes + 1))) := fun w' h' => by have := beg_any h' EE h0 h1; rw [hbg] at this; exact this
  have hY' : (Y != 0) = true := by simp [hY]
  clear h h0 h1 hbg A1 T1 hk hY
  go_enter Tryz.func27, Tryz.ntmps27
  go_wp2_with (first
    | (go_at_call 38; refine kB.mono ?_; rintro e w0 ⟨rfl, hw0⟩; subst hw0; clear kB)
    | (go_at_call 39; refine kN.mono ?_; rintro e w1 ⟨he, hb1⟩; have he' : e = .returned (.tuple #[.agg #[.int .i64 T.kind, .int .u64 T.num, .bool T.neg, .string T.dig, .int .i64 T.exp, .string T.txt, .slice none 0 0, .slice none 0 0, .slice none 0 0], .int .i64 EE]) := he; subst he'; clear kN; have R1 : Hid (RBox w1 g free nx ao no co nodes r ended) := RA.out.same (hb1.block g RA.out.lt); have B1 : Hid (Below w.heap.size w w1) := BA.out.trans (hb1.mono BA.out.size); have R2 : Hid (RBox (w1.alloc (.cells #[.int .i64 T.kind, .int .u64 T.num, .bool T.neg, .string T.dig, .int .i64 T.exp, .string T.txt, .slice none 0 0, .slice none 0 0, .slice none 0 0] 26)) g free nx ao no co nodes r ended) := R1.out.same ((alloc_below w1 _).block g R1.out.lt); have k3 := kG.out (w1.alloc (.cells #[.int .i64 T.kind, .int .u64 T.num, .bool T.neg, .string T.dig, .int .i64 T.exp, .string T.txt, .slice none 0 0, .slice none 0 0, .slice none 0 0] 26)) R2.out; clear hb1)
    | (go_at_call 40; refine k3.mono ?_; rintro e w5 ⟨rfl, hw5⟩; subst hw5; clear k3; have D5 : Hid (Rd w ((w1.alloc (.cells #[.int .i64 T.kind, .int .u64 T.num, .bool T.neg, .string T.dig, .int .i64 T.exp, .string T.txt, .slice none 0 0, .slice none 0 0, .slice none 0 0] 26)).setCell ⟨g, 3, none⟩ (.int .i64 (nodes + 1))) g) := (Rd.of (B1.out.trans ((alloc_below w1 _).mono B1.out.size))).trans (Rd.set _ _ _ _)))
  go_ret
  exact ⟨rfl, D5.out⟩
set_option maxHeartbeats 2000000 in
set_option maxRecDepth 100000 in
theorem val_leaf {w : World} {g no co : Nat} {ao : Option Addr} {free : Bool} {nx : Nat} {nodes : Int} {r : Nb} {ended : Bool} {Q : World → World → Prop} (h : RBox w g free nx ao no co nodes r ended) (k : Nat) (f t : Int) (s : ByteArray) (hk : bvA k = true) (h0 : 0 ≤ nodes) (h1 : nodes ≤ 1000000) (hbg : beginA free nodes no (nodeA k s).2 = 0) (h7 : (nodeA k s).1.kind ≠ 7) (h8 : (nodeA k s).1.kind ≠ 8)
    (kP : ∀ w', RBox w' g free nx ao no co (nodes + 1) r ended → Rd w w' g → Calls Tryz.prog 43 #[.pointer (some ⟨g, 0, none⟩), .agg (leafN (nodeA k s).1).arr] w' fun e w'' => e = .returned (.tuple #[]) ∧ Q w' w'') :
    Calls Tryz.prog 27 #[.pointer (some ⟨g, 0, none⟩), .agg #[.int .i64 (k : Int), .int .i64 f, .int .i64 t, .string s]] w fun e w' => e = .returned (.int .i64 0) ∧ ∃ w1, Q w1 w' := by
  have A1 := alloc_below w (.cells #[.int .i64 (k : Int), .int .i64 f, .int .i64 t, .string s] 40)
  have T1 : Blk (w.alloc (.cells #[.int .i64 (k : Int), .int .i64 f, .int .i64 t, .string s] 40)) w.heap.size #[.int .i64 (k : Int), .int .i64 f, .int .i64 t, .string s] 40 := blk_new w _ _
  have c0 : (w.alloc (.cells #[.int .i64 (k : Int), .int .i64 f, .int .i64 t, .string s] 40)).cell? ⟨w.heap.size, 0, none⟩ = some (.int .i64 (k : Int)) := T1.cell 0
  have c1 : (w.alloc (.cells #[.int .i64 (k : Int), .int .i64 f, .int .i64 t, .string s] 40)).cell? ⟨w.heap.size, 1, none⟩ = some (.int .i64 f) := T1.cell 1
  have c2 : (w.alloc (.cells #[.int .i64 (k : Int), .int .i64 f, .int .i64 t, .string s] 40)).cell? ⟨w.heap.size, 2, none⟩ = some (.int .i64 t) := T1.cell 2
  have c3 : (w.alloc (.cells #[.int .i64 (k : Int), .int .i64 f, .int .i64 t, .string s] 40)).cell? ⟨w.heap.size, 3, none⟩ = some (.string s) := T1.cell 3
  have kB := bv_any k (w.alloc (.cells #[.int .i64 (k : Int), .int .i64 f, .int .i64 t, .string s] 40)) true hk.symm
  have kN := node_any k f t s (w.alloc (.cells #[.int .i64 (k : Int), .int .i64 f, .int .i64 t, .string s] 40))
  generalize nodeA k s = R at *
  obtain ⟨T, EE⟩ := R
  dsimp only at kN hbg h7 h8 kP
  have RA : Hid (RBox (w.alloc (.cells #[.int .i64 (k : Int), .int .i64 f, .int .i64 t, .string s] 40)) g free nx ao no co nodes r ended) := h.same (A1.block g h.lt)
  have BA : Hid (Below w.heap.size w (w.alloc (.cells #[.int .i64 (k : Int), .int .i64 f, .int .i64 t, .string s] 40))) := A1
  have kG : Hid (∀ w', RBox w' g free nx ao no co nodes r ended → Calls Tryz.prog 40 #[.pointer (some ⟨g, 0, none⟩), .int .i64 EE] w' fun e w'' => e = .returned (.int .i64 0) ∧ w'' = w'.setCell ⟨g, 3, none⟩ (.int .i64 (nodes + 1))) := fun w' h' => by have := beg_any h' EE h0 h1; rw [hbg] at this; exact this
  have h7' : (T.kind == 7) = false := by simp [h7]
  have h8' : (T.kind == 8) = false := by simp [h8]
  have kP' : Hid (∀ w', RBox w' g free nx ao no co (nodes + 1) r ended → Rd w w' g → Calls Tryz.prog 43 #[.pointer (some ⟨g, 0, none⟩), .agg #[.int .i64 T.kind, .int .u64 T.num, .bool T.neg, .string T.dig, .int .i64 T.exp, .string T.txt, .slice none 0 0, .slice none 0 0, .slice none 0 0]] w' fun e w'' => e = .returned (.tuple #[]) ∧ Q w' w'') := kP
  clear h h0 h1 hbg A1 T1 hk h7 h8 kP
  go_enter Tryz.func27, Tryz.ntmps27
  go_wp2_with (first
    | (go_at_call 38; refine kB.mono ?_; rintro e w0 ⟨rfl, hw0⟩; subst hw0; clear kB)
    | (go_at_call 39; refine kN.mono ?_; rintro e w1 ⟨he, hb1⟩; have he' : e = .returned (.tuple #[.agg #[.int .i64 T.kind, .int .u64 T.num, .bool T.neg, .string T.dig, .int .i64 T.exp, .string T.txt, .slice none 0 0, .slice none 0 0, .slice none 0 0], .int .i64 EE]) := he; subst he'; clear kN; have R1 : Hid (RBox w1 g free nx ao no co nodes r ended) := RA.out.same (hb1.block g RA.out.lt); have B1 : Hid (Below w.heap.size w w1) := BA.out.trans (hb1.mono BA.out.size); have R2 : Hid (RBox (w1.alloc (.cells #[.int .i64 T.kind, .int .u64 T.num, .bool T.neg, .string T.dig, .int .i64 T.exp, .string T.txt, .slice none 0 0, .slice none 0 0, .slice none 0 0] 26)) g free nx ao no co nodes r ended) := R1.out.same ((alloc_below w1 _).block g R1.out.lt); have N2 : Hid (NBox (w1.alloc (.cells #[.int .i64 T.kind, .int .u64 T.num, .bool T.neg, .string T.dig, .int .i64 T.exp, .string T.txt, .slice none 0 0, .slice none 0 0, .slice none 0 0] 26)) w1.heap.size (leafN T)) := nbox_new w1 (leafN T); have k3 := kG.out (w1.alloc (.cells #[.int .i64 T.kind, .int .u64 T.num, .bool T.neg, .string T.dig, .int .i64 T.exp, .string T.txt, .slice none 0 0, .slice none 0 0, .slice none 0 0] 26)) R2.out; clear hb1)
    | (go_at_call 40; refine k3.mono ?_; rintro e w5 ⟨rfl, hw5⟩; subst hw5; clear k3; have R5 : Hid (RBox ((w1.alloc (.cells #[.int .i64 T.kind, .int .u64 T.num, .bool T.neg, .string T.dig, .int .i64 T.exp, .string T.txt, .slice none 0 0, .slice none 0 0, .slice none 0 0] 26)).setCell ⟨g, 3, none⟩ (.int .i64 (nodes + 1))) g free nx ao no co (nodes + 1) r ended) := R2.out.set 3 _ rfl; have N5 : Hid (NBox ((w1.alloc (.cells #[.int .i64 T.kind, .int .u64 T.num, .bool T.neg, .string T.dig, .int .i64 T.exp, .string T.txt, .slice none 0 0, .slice none 0 0, .slice none 0 0] 26)).setCell ⟨g, 3, none⟩ (.int .i64 (nodes + 1))) w1.heap.size (leafN T)) := N2.out.same (setk (Nat.ne_of_gt R1.out.lt) _); have D5 : Hid (Rd w ((w1.alloc (.cells #[.int .i64 T.kind, .int .u64 T.num, .bool T.neg, .string T.dig, .int .i64 T.exp, .string T.txt, .slice none 0 0, .slice none 0 0, .slice none 0 0] 26)).setCell ⟨g, 3, none⟩ (.int .i64 (nodes + 1))) g) := (Rd.of (B1.out.trans ((alloc_below w1 _).mono B1.out.size))).trans (Rd.set _ _ _ _); have x0 : ((w1.alloc (.cells #[.int .i64 T.kind, .int .u64 T.num, .bool T.neg, .string T.dig, .int .i64 T.exp, .string T.txt, .slice none 0 0, .slice none 0 0, .slice none 0 0] 26)).setCell ⟨g, 3, none⟩ (.int .i64 (nodes + 1))).cell? ⟨w1.heap.size, 0, none⟩ = some (.int .i64 T.kind) := N5.out.cell 0; have x1 : ((w1.alloc (.cells #[.int .i64 T.kind, .int .u64 T.num, .bool T.neg, .string T.dig, .int .i64 T.exp, .string T.txt, .slice none 0 0, .slice none 0 0, .slice none 0 0] 26)).setCell ⟨g, 3, none⟩ (.int .i64 (nodes + 1))).cell? ⟨w1.heap.size, 1, none⟩ = some (.int .u64 T.num) := N5.out.cell 1; have x2 : ((w1.alloc (.cells #[.int .i64 T.kind, .int .u64 T.num, .bool T.neg, .string T.dig, .int .i64 T.exp, .string T.txt, .slice none 0 0, .slice none 0 0, .slice none 0 0] 26)).setCell ⟨g, 3, none⟩ (.int .i64 (nodes + 1))).cell? ⟨w1.heap.size, 2, none⟩ = some (.bool T.neg) := N5.out.cell 2; have x3 : ((w1.alloc (.cells #[.int .i64 T.kind, .int .u64 T.num, .bool T.neg, .string T.dig, .int .i64 T.exp, .string T.txt, .slice none 0 0, .slice none 0 0, .slice none 0 0] 26)).setCell ⟨g, 3, none⟩ (.int .i64 (nodes + 1))).cell? ⟨w1.heap.size, 3, none⟩ = some (.string T.dig) := N5.out.cell 3; have x4 : ((w1.alloc (.cells #[.int .i64 T.kind, .int .u64 T.num, .bool T.neg, .string T.dig, .int .i64 T.exp, .string T.txt, .slice none 0 0, .slice none 0 0, .slice none 0 0] 26)).setCell ⟨g, 3, none⟩ (.int .i64 (nodes + 1))).cell? ⟨w1.heap.size, 4, none⟩ = some (.int .i64 T.exp) := N5.out.cell 4; have x5 : ((w1.alloc (.cells #[.int .i64 T.kind, .int .u64 T.num, .bool T.neg, .string T.dig, .int .i64 T.exp, .string T.txt, .slice none 0 0, .slice none 0 0, .slice none 0 0] 26)).setCell ⟨g, 3, none⟩ (.int .i64 (nodes + 1))).cell? ⟨w1.heap.size, 5, none⟩ = some (.string T.txt) := N5.out.cell 5; have x6 : ((w1.alloc (.cells #[.int .i64 T.kind, .int .u64 T.num, .bool T.neg, .string T.dig, .int .i64 T.exp, .string T.txt, .slice none 0 0, .slice none 0 0, .slice none 0 0] 26)).setCell ⟨g, 3, none⟩ (.int .i64 (nodes + 1))).cell? ⟨w1.heap.size, 6, none⟩ = some (.slice none 0 0) := N5.out.cell 6; have x7 : ((w1.alloc (.cells #[.int .i64 T.kind, .int .u64 T.num, .bool T.neg, .string T.dig, .int .i64 T.exp, .string T.txt, .slice none 0 0, .slice none 0 0, .slice none 0 0] 26)).setCell ⟨g, 3, none⟩ (.int .i64 (nodes + 1))).cell? ⟨w1.heap.size, 7, none⟩ = some (.slice none 0 0) := N5.out.cell 7; have x8 : ((w1.alloc (.cells #[.int .i64 T.kind, .int .u64 T.num, .bool T.neg, .string T.dig, .int .i64 T.exp, .string T.txt, .slice none 0 0, .slice none 0 0, .slice none 0 0] 26)).setCell ⟨g, 3, none⟩ (.int .i64 (nodes + 1))).cell? ⟨w1.heap.size, 8, none⟩ = some (.slice none 0 0) := N5.out.cell 8; have k4 := kP'.out _ R5.out D5.out)
    | (go_at_call 43; refine k4.mono ?_; rintro e w6 ⟨rfl, hq⟩; have hq' : Hid (Q _ w6) := hq; clear hq k4))
  go_ret
  exact ⟨rfl, _, hq'.out⟩
end Go.Proofs.YtmlacmoembjeoaaGreatDoor
namespace Go.Proofs.YtmlacmoembjeoaaGreatDoor
open Go.RowKit
set_option linter.unusedVariables false
/-- What has the mark 0 stays, and keeps it. -/
structure Frm (lab lab' : Nat → Nat) (w w' : World) : Prop where
  os : w'.os = w.os
  tape : w'.tape = w.tape
  output : w'.output = w.output
  size : w.heap.size ≤ w'.heap.size
  rest : ∀ k, k < w.heap.size → lab k = 0 → lab' k = 0 ∧ w'.heap[k]? = w.heap[k]?
theorem Trn.frm {S : Nat → Prop} {lab lab' : Nat → Nat} {w w' : World} (h : Trn S lab lab' w w') (h0 : ¬ S 0) : Frm lab lab' w w' := ⟨h.os, h.tape, h.output, h.size, fun k hk hl => ⟨(h.rest k hk (by rw [hl]; exact h0)).1.trans hl, (h.rest k hk (by rw [hl]; exact h0)).2⟩⟩
theorem Frm.trans {a b c : Nat → Nat} {w w1 w2 : World} (h : Frm a b w w1) (k : Frm b c w1 w2) : Frm a c w w2 := ⟨k.os.trans h.os, k.tape.trans h.tape, k.output.trans h.output, Nat.le_trans h.size k.size, fun i hi hl => by
  obtain ⟨p1, p2⟩ := h.rest i hi hl
  obtain ⟨q1, q2⟩ := k.rest i (Nat.lt_of_lt_of_le hi h.size) p1
  exact ⟨q1, q2.trans p2⟩⟩
theorem Frm.refl (lab : Nat → Nat) (w : World) : Frm lab lab w w := ⟨rfl, rfl, rfl, Nat.le_refl _, fun _ _ h => ⟨h, rfl⟩⟩
/-- A reader, wherever it lies. -/
def JMX (B : Nat) (lab : Nat → Nat) (w : World) (g : Nat) (s : JS) : Prop := ∃ D nbs ao co r, JM B D lab w g s nbs ao co r
/-- No list is long. -/
def Few (s : JS) (M : Nat) : Prop := s.opn.length ≤ M ∧ s.nodes ≤ M ∧ ∀ t ∈ s.opn, t.keys.length ≤ M ∧ t.kids.length ≤ M
def endA (s : JS) : JS := match s.opn.reverse with
  | [] => s
  | t :: l => putA { s with opn := l.reverse } t
theorem endA_snoc {s : JS} {os : List Tr} {t : Tr} (h : s.opn = os ++ [t]) : endA s = putA { s with opn := os } t := by
  unfold endA
  rw [h, List.reverse_append]
  simp
/-- jread.end. -/
theorem jend_any {B : Nat} {lab : Nat → Nat} {w : World} {g : Nat} {s : JS} (h : JMX B lab w g s) (hne : s.opn ≠ []) (hf : Few s 5000) (hB : B ≤ w.heap.size) :
    Calls Tryz.prog 65 #[.pointer (some ⟨g, 0, none⟩)] w fun e w' => e = .returned (.int .i64 0) ∧ ∃ lab', JMX B lab' w' g (endA s) ∧ Frm lab lab' w w' := by
  obtain ⟨D, nbs, ao, co, r, h⟩ := h
  obtain ⟨os, t, hs⟩ : ∃ os t, s.opn = os ++ [t] := by
    rcases List.eq_nil_or_concat s.opn with q | ⟨os, t, q⟩
    · exact absurd q hne
    · exact ⟨os, t, by rw [q]; simp⟩
  obtain ⟨ns, nb, rfl⟩ : ∃ ns nb, nbs = ns ++ [nb] := by
    rcases List.eq_nil_or_concat nbs with q | ⟨ns, nb, q⟩
    · have := h.len; rw [q, hs] at this; simp at this
    · exact ⟨ns, nb, by rw [q]; simp⟩
  have hln : (ns ++ [nb]).length = ns.length + 1 := by simp
  have hlo : os.length = ns.length := by have := h.len; rw [hs] at this; simp at this; omega
  have hopn := h.opn
  rw [hln] at hopn
  obtain ⟨go, cap', cur, hv, hBg, hcur, hnc, hcm, hz, hsp⟩ := hopn.last
  have hao : ao = some ⟨go, 0, none⟩ := by cases hv; rfl
  have hco : co = cap' := by cases hv; rfl
  subst hao
  subst hco
  have hbox : RBox w g s.free s.nx (some ⟨go, 0, none⟩) (ns.length + 1) co s.nodes r s.ended := by have := h.box; rw [hln] at this; exact this
  have hgo : go < w.heap.size := (Array.getElem?_eq_some_iff.1 hcur).1
  have hft := hf.2.2 t (by rw [hs]; simp)
  have hl5 := hf.1
  rw [hs] at hl5
  simp at hl5
  refine (rend_any (x := nb) (Q := fun _ w'' => ∃ lab', JMX B lab' w'' g (endA s) ∧ Frm lab lab' w w'') hbox (by omega) hnc hcm hsp hgo ?_).mono fun e w' ⟨h1, _, h2⟩ => ⟨h1, h2⟩
  intro w1 R hr h1 h2 h3 h4
  obtain ⟨hj, hn, hT⟩ := jm_pop h hs ⟨by omega, by omega⟩ R hr h1 h2 h3 h4
  refine (jput_any hj hn (fun u hu => ?_) (Nat.le_trans hB h4)).mono ?_
  · have := (hf.2.2 u (by rw [hs]; exact List.mem_append_left _ hu)).2; omega
  · rintro e w' ⟨rfl, lab', nbs', r', hj', hT'⟩
    refine ⟨rfl, lab', ?_, (hT.frm (by omega)).trans (hT'.frm (by simp))⟩
    rw [endA_snoc hs]
    exact ⟨_, _, _, _, _, hj'⟩
/-- A value's token. -/
def valA (s : JS) (k : Nat) (x : ByteArray) : JS × Int :=
  if bvA k = false then (s, 5) else
  if beginA s.free s.nodes s.opn.length (nodeA k x).2 ≠ 0 then (s, beginA s.free s.nodes s.opn.length (nodeA k x).2) else
  if k = 3 then ({ s with nx := 41, opn := s.opn ++ [kindT 7 0], nodes := s.nodes + 1 }, 0) else
  if k = 1 then ({ s with nx := 42, opn := s.opn ++ [kindT 8 0], nodes := s.nodes + 1 }, 0) else
  (putA { s with nodes := s.nodes + 1 } (nodeA k x).1, 0)
theorem rd_frm {lab : Nat → Nat} {w w' : World} {g : Nat} (h : Rd w w' g) (hg : lab g = 1) : Frm lab lab w w' := ⟨h.os, h.tape, h.output, h.size, fun k hk hl => ⟨hl, h.rest k hk (fun e => by rw [e, hg] at hl; omega)⟩⟩
end Go.Proofs.YtmlacmoembjeoaaGreatDoor
namespace Go.Proofs.YtmlacmoembjeoaaGreatDoor
open Go.RowKit
set_option linter.unusedVariables false
theorem numA_kind (x : ByteArray) : (numA x).1.kind = 0 ∨ (numA x).1.kind = 2 ∨ (numA x).1.kind = 3 := by
  unfold numA
  split
  · exact .inl rfl
  · split
    · exact .inr (.inl rfl)
    · exact .inr (.inr rfl)
theorem nodeA_kind {k : Nat} (x : ByteArray) (h1 : k ≠ 1) (h3 : k ≠ 3) : (nodeA k x).1.kind ≠ 7 ∧ (nodeA k x).1.kind ≠ 8 := by
  unfold nodeA
  rw [if_neg h1, if_neg h3]
  split
  · exact ⟨by show (5 : Int) ≠ 7; omega, by show (5 : Int) ≠ 8; omega⟩
  · split
    · have := numA_kind x; omega
    · split
      · exact ⟨by show (1 : Int) ≠ 7; omega, by show (1 : Int) ≠ 8; omega⟩
      · split
        · exact ⟨by show (1 : Int) ≠ 7; omega, by show (1 : Int) ≠ 8; omega⟩
        · exact ⟨by show (0 : Int) ≠ 7; omega, by show (0 : Int) ≠ 8; omega⟩
theorem below_frm {lab : Nat → Nat} {w w' : World} (h : Below w.heap.size w w') : Frm lab lab w w' := ⟨h.os, h.tape, h.output, h.size, fun k hk hl => ⟨hl, h.block k hk⟩⟩
theorem jm_own {B D : Nat} {lab : Nat → Nat} {w : World} {g : Nat} {s : JS} {nbs : List Nb} {ao : Option Addr} {co : Nat} {r : Nb} (h : JM B D lab w g s nbs ao co r) : (Value.slice ao nbs.length co).ownBlock ≠ some g := fun e => by have := h.ol g e; rw [h.gl] at this; omega
theorem jm_deep {B D : Nat} {lab : Nat → Nat} {w : World} {g : Nat} {s : JS} {nbs : List Nb} {ao : Option Addr} {co : Nat} {r : Nb} (h : JM B D lab w g s nbs ao co r) : ∃ D', D = D' + 1 := by
  rcases D with _ | D
  · exact absurd h.rt id
  · exact ⟨D, rfl⟩
/-- jread.value. -/
theorem jval_any {B : Nat} {lab : Nat → Nat} {w : World} {g : Nat} {s : JS} (h : JMX B lab w g s) (hf : Few s 4500) (hB : B ≤ w.heap.size) (k : Nat) (f t : Int) (x : ByteArray) (hl : Leaf (nodeA k x).1) :
    Calls Tryz.prog 27 #[.pointer (some ⟨g, 0, none⟩), .agg #[.int .i64 (k : Int), .int .i64 f, .int .i64 t, .string x]] w fun e w' => e = .returned (.int .i64 (valA s k x).2) ∧ ∃ lab', ((valA s k x).2 = 0 → JMX B lab' w' g (valA s k x).1) ∧ Frm lab lab' w w' := by
  obtain ⟨D, nbs, ao, co, r, h⟩ := h
  have hno : nbs.length = s.opn.length := h.len
  have f1 := hf.1
  have f2 := hf.2.1
  unfold valA
  by_cases hb : bvA k = false
  · rw [if_pos hb]
    refine (val_form (g := g) k f t x hb).mono ?_
    rintro e w' ⟨rfl, hbw⟩
    exact ⟨rfl, lab, fun q => by simp at q, below_frm hbw⟩
  have hb' : bvA k = true := by simpa using hb
  rw [if_neg hb]
  by_cases hy : beginA s.free s.nodes s.opn.length (nodeA k x).2 ≠ 0
  · rw [if_pos hy]
    refine (val_bad h.box k f t x hb' (by omega) (by omega) _ (by rw [hno]) hy).mono ?_
    rintro e w' ⟨rfl, hd⟩
    exact ⟨rfl, lab, fun q => absurd q hy, rd_frm hd h.gl⟩
  rw [if_neg hy]
  have hy0 : beginA s.free s.nodes nbs.length (nodeA k x).2 = 0 := by rw [hno]; simpa using hy
  by_cases h3 : k = 3
  · rw [if_pos h3]
    have hnA : (nodeA k x).2 = 0 := by unfold nodeA; rw [h3]; rfl
    rw [hnA] at hy0
    refine (val_arr (nbs := nbs) h.box h.opn rfl (by omega) hB (jm_own h) k f t x h3 (by omega) (by omega) hy0).mono ?_
    rintro e w' ⟨rfl, F⟩
    obtain ⟨lab', ao', co', hj, hT⟩ := jm_push h (.inl rfl) (by omega) F
    exact ⟨rfl, lab', fun _ => ⟨_, _, _, _, _, hj⟩, hT.frm (by omega)⟩
  rw [if_neg h3]
  by_cases h1 : k = 1
  · rw [if_pos h1]
    have hnA : (nodeA k x).2 = 0 := by unfold nodeA; rw [h1]; rfl
    rw [hnA] at hy0
    refine (val_map (nbs := nbs) h.box h.opn rfl (by omega) hB (jm_own h) k f t x h1 (by omega) (by omega) hy0).mono ?_
    rintro e w' ⟨rfl, F⟩
    obtain ⟨lab', ao', co', hj, hT⟩ := jm_push h (.inr rfl) (by omega) F
    exact ⟨rfl, lab', fun _ => ⟨_, _, _, _, _, hj⟩, hT.frm (by omega)⟩
  rw [if_neg h1]
  obtain ⟨q7, q8⟩ := nodeA_kind x h1 h3
  obtain ⟨D', rfl⟩ := jm_deep h
  refine (val_leaf (Q := fun _ w'' => ∃ lab', JMX B lab' w'' g (putA { s with nodes := s.nodes + 1 } (nodeA k x).1) ∧ Frm lab lab' w w'') h.box k f t x hb' (by omega) (by omega) hy0 q7 q8 ?_).mono ?_
  · intro w1 R hd
    have hd' : Trn (fun L => L = 1) lab lab w w1 := ⟨hd.os, hd.tape, hd.output, hd.size, fun k hk hn => ⟨rfl, hd.rest k hk (fun e => hn (by rw [e]; exact h.gl))⟩⟩
    obtain ⟨hj, hT⟩ := jm_rd (s' := { s with nodes := s.nodes + 1 }) h hd (r' := r) (by simpa using R) rfl (nds_tr h.rt hd' (by omega))
    refine (jput_any hj (leaf_nd hl _ D' w1) (fun u hu => ?_) (Nat.le_trans hB hd.size)).mono ?_
    · have := (hf.2.2 u hu).2; omega
    · rintro e w' ⟨rfl, lab', nbs', r', hj', hT'⟩
      exact ⟨rfl, lab', ⟨_, _, _, _, _, hj'⟩, (hT.frm (by omega)).trans (hT'.frm (by simp))⟩
  · rintro e w' ⟨rfl, _, lab', hj, hF⟩
    exact ⟨rfl, lab', fun _ => hj, hF⟩
end Go.Proofs.YtmlacmoembjeoaaGreatDoor
namespace Go.Proofs.YtmlacmoembjeoaaGreatDoor
open Go.RowKit
set_option linter.unusedVariables false
/-- A KEY IS PUT AMONG THE KEYS. -/
theorem jm_key {B D : Nat} {lab : Nat → Nat} {w w6 w' : World} {g go : Nat} {s : JS} {ns bi : List Nb} {nb x : Nb} {co nx' : Nat} {r : Nb} {os : List Tr} {t u : Tr} (h : JM B D lab w g s (ns ++ [nb]) (some ⟨go, 0, none⟩) co r) (hs : s.opn = os ++ [t])
    (hbi : OwnsN 26 w B (.slice nb.ak nb.lk nb.ck) bi) (hbl : bi.length = t.keys.length) (hbn : ∀ j (h : j < bi.length) (h2 : j < t.keys.length), bi[j] = leafN t.keys[j] ∧ Leaf t.keys[j]) (hx : x = leafN u ∧ Leaf u)
    (F : PutE B w w6 g go (ns.length * 9 + 7) nb.lk (.slice nb.ak nb.lk nb.ck) bi x) (N : NxE w6 w' g) (R : RBox w' g s.free nx' (some ⟨go, 0, none⟩) (ns.length + 1) co s.nodes r s.ended) :
    ∃ lab' nb', JM B D lab' w' g { s with nx := nx', opn := os ++ [{ t with keys := t.keys ++ [u] }] } (ns ++ [nb']) (some ⟨go, 0, none⟩) co r ∧ Trn (fun L => L = 1 ∨ L = 2 ∨ L = 3 + 2 * ns.length) lab lab' w w' := by
  obtain ⟨g4, cap4, o1, o2, o3⟩ := F.own
  have hln : (ns ++ [nb]).length = ns.length + 1 := by simp
  have hlo : os.length = ns.length := by have := h.len; rw [hs] at this; simp at this; omega
  have hnd := h.nd ns.length (by simp) (by rw [hs]; simp; omega)
  have e1 : (ns ++ [nb])[ns.length]'(by simp) = nb := by simp
  have e2 : s.opn[ns.length]'(by rw [hs]; simp; omega) = t := by simp only [hs]; simp [← hlo]
  rw [e1, e2] at hnd
  have hgol : lab go = 2 := h.ol go rfl
  have hopn := h.opn
  rw [hln] at hopn
  obtain ⟨g', cap', cur, hv, hBg, hcur, hnc, hcm, hz, hsp⟩ := hopn.last
  have hgg : go = g' := by cases hv; rfl
  subst hgg
  have hgo : go < w.heap.size := (Array.getElem?_eq_some_iff.1 hcur).1
  have hlt := h.box.lt
  have hl4 : (Value.slice nb.ak nb.lk nb.ck).ownBlock = some g4 → lab g4 = 3 + 2 * ns.length := hnd.kl g4
  have ng : g4 ≠ g := by
    rcases o2 with q | q
    · intro e; have h2 := hl4 q; rw [e, h.gl] at h2; omega
    · omega
  have ngo : g4 ≠ go := by
    rcases o2 with q | q
    · intro e; have h2 := hl4 q; rw [e, hgol] at h2; omega
    · omega
  have ngg : go ≠ g := fun e => by rw [e, h.gl] at hgol; omega
  have row6 := o3 cur 26 hcur
  have rowF : w'.heap[go]? = some (.cells (cur.setIfInBounds (ns.length * 9 + 7) (.slice (some ⟨g4, 0, none⟩) (nb.lk + 1) cap4)) 26 (0, 0)) := (N.rest go ngg).trans row6
  have own6 : OwnsN 26 w' B (.slice (some ⟨g4, 0, none⟩) (nb.lk + 1) cap4) (bi ++ [x]) := by
    obtain ⟨p1, p2⟩ := o1
    refine ⟨p1, ?_⟩
    rcases p2 with ⟨q, _⟩ | ⟨gq, cq, cu, hq, hb, hg, hr⟩
    · cases q
    · have hgq : g4 = gq := by have q := congrArg Value.ownBlock hq; simpa [Value.ownBlock] using q
      subst hgq
      exact .inr ⟨g4, cq, cu, hq, hb, by rw [N.rest g4 ng]; exact hg, hr⟩
  have hg4 : g4 < w'.heap.size ∧ B ≤ g4 := by
    have := World.ownsRow.lt own6 g4 rfl
    exact ⟨this.2, this.1⟩
  have hsz : w.heap.size ≤ w'.heap.size := by rw [N.size]; exact F.size
  have keep : ∀ k, k < w.heap.size → lab k ≠ 3 + 2 * ns.length → k ≠ g4 := fun k hk hl e => by
    subst e
    rcases o2 with q | q
    · exact hl (hl4 q)
    · omega
  have hT : Trn (fun L => L = 1 ∨ L = 2 ∨ L = 3 + 2 * ns.length) lab (mark lab (.slice (some ⟨g4, 0, none⟩) (nb.lk + 1) cap4) (3 + 2 * ns.length)) w w' := by
    refine ⟨N.os.trans F.os, N.tape.trans F.tape, N.output.trans F.output, hsz, fun k hk hn => ⟨mark_other (fun e => keep k hk (fun q => hn (.inr (.inr q))) (ob_some _ _ _ _ e).symm), ?_⟩⟩
    rw [N.rest k (fun e => hn (.inl (by rw [e]; exact h.gl))), F.rest k hk (fun e => hn (.inr (.inl (by rw [e]; exact hgol)))) (fun e => hn (.inr (.inr (hnd.kl k e))))]
  have hop' : OwnsN 26 w' B (.slice (some ⟨go, 0, none⟩) (ns.length + 1) co) (ns ++ [{ nb with ak := some ⟨g4, 0, none⟩, lk := nb.lk + 1, ck := cap4 }]) := by
    refine OwnsN.put (z := nb) hopn ⟨_, rowF, fun c hc => ?_⟩
    rw [hcur] at hc
    cases hc
    refine ⟨by simp, fun j hj => ?_, fun i hi => ?_⟩
    · rw [Array.getElem?_setIfInBounds]
      have hj9 := hsp j hj
      rw [cell_row hcur] at hj9
      by_cases e : j = 7
      · subst e
        rw [if_pos rfl, if_pos (by omega)]
        rfl
      · rw [if_neg (by omega), hj9]
        have : j = 0 ∨ j = 1 ∨ j = 2 ∨ j = 3 ∨ j = 4 ∨ j = 5 ∨ j = 6 ∨ j = 8 := by omega
        rcases this with rfl | rfl | rfl | rfl | rfl | rfl | rfl | rfl <;> rfl
    · rw [Array.getElem?_setIfInBounds, if_neg (by omega)]
  obtain ⟨bq, k1, k2, k3⟩ := hnd.is
  obtain ⟨a1, a2⟩ := own_tr k1 hT hnd.il (by omega)
  have hop2 : OpN B D (mark lab (.slice (some ⟨g4, 0, none⟩) (nb.lk + 1) cap4) (3 + 2 * ns.length)) w' { nb with ak := some ⟨g4, 0, none⟩, lk := nb.lk + 1, ck := cap4 } { t with keys := t.keys ++ [u] } ns.length := by
    refine ⟨?_, ?_, hnd.kd, ⟨bi ++ [x], own6, by simp [hbl], fun j hj hj2 => ?_⟩, fun k hk => mark_own hk, ⟨bq, a1, k2, fun j hj hj2 => nds_tr (k3 j hj hj2) hT (by omega)⟩, a2⟩
    · have := hnd.fl
      conv => lhs; rw [this]
    · have := hnd.tf
      conv => lhs; rw [this]
    · by_cases hjl : j < bi.length
      · have hjk : j < t.keys.length := by omega
        have q1 : (bi ++ [x])[j] = bi[j] := List.getElem_append_left hjl
        have q2 : (t.keys ++ [u])[j]'hj2 = t.keys[j] := List.getElem_append_left hjk
        rw [q1]
        show bi[j] = leafN ((t.keys ++ [u])[j]'hj2) ∧ Leaf ((t.keys ++ [u])[j]'hj2)
        rw [q2]
        exact hbn j hjl hjk
      · have hje : j = bi.length := by simp at hj; omega
        subst hje
        have q1 : (bi ++ [x])[bi.length] = x := by simp
        have q2 : (t.keys ++ [u])[bi.length]'hj2 = u := by simp [hbl]
        rw [q1]
        show x = leafN ((t.keys ++ [u])[bi.length]'hj2) ∧ Leaf ((t.keys ++ [u])[bi.length]'hj2)
        rw [q2]
        exact hx
  refine ⟨_, { nb with ak := some ⟨g4, 0, none⟩, lk := nb.lk + 1, ck := cap4 }, ⟨fun k hk => ?_, fun k hk => ?_, ?_, ?_, ?_, fun k hk => ?_, ?_, fun i hi hi2 => ?_, nds_tr h.rt hT (by omega), ?_⟩, hT⟩
  · rw [mark_other (fun e => by have := ob_some _ _ _ _ e; omega)]
    exact h.lo k hk
  · rw [mark_other (fun e => by have := ob_some _ _ _ _ e; omega)]
    exact h.hi k (by omega)
  · rw [mark_other (fun e => ng (ob_some _ _ _ _ e))]
    exact h.gl
  · rw [List.length_append, List.length_singleton]
    exact R
  · rw [List.length_append, List.length_singleton]
    exact hop'
  · have : go = k := ob_some _ _ _ _ hk
    subst this
    rw [mark_other (fun e => ngo (ob_some _ _ _ _ e))]
    exact hgol
  · simp [hlo]
  · by_cases hlt2 : i < ns.length
    · have q1 : (ns ++ [({ nb with ak := some ⟨g4, 0, none⟩, lk := nb.lk + 1, ck := cap4 } : Nb)])[i]'hi = ns[i] := List.getElem_append_left hlt2
      rw [q1]
      show OpN B D _ w' ns[i] ((os ++ [{ t with keys := t.keys ++ [u] }])[i]'hi2) i
      have hio : i < os.length := by omega
      have q2 : (os ++ [{ t with keys := t.keys ++ [u] }])[i]'hi2 = os[i] := List.getElem_append_left hio
      rw [q2]
      have hn0 := h.nd i (by simp; omega) (by rw [hs]; simp; omega)
      have q3 : (ns ++ [nb])[i]'(by simp; omega) = ns[i] := List.getElem_append_left hlt2
      have q4 : s.opn[i]'(by rw [hs]; simp; omega) = os[i] := by simp only [hs]; exact List.getElem_append_left hio
      rw [q3, q4] at hn0
      exact hn0.tr hT (by omega) (by omega) (by omega)
    · have hie : i = ns.length := by simp at hi; omega
      subst hie
      have q1 : (ns ++ [({ nb with ak := some ⟨g4, 0, none⟩, lk := nb.lk + 1, ck := cap4 } : Nb)])[ns.length]'hi = { nb with ak := some ⟨g4, 0, none⟩, lk := nb.lk + 1, ck := cap4 } := by simp
      rw [q1]
      show OpN B D _ w' _ ((os ++ [{ t with keys := t.keys ++ [u] }])[ns.length]'hi2) _
      have q2 : (os ++ [{ t with keys := t.keys ++ [u] }])[ns.length]'hi2 = { t with keys := t.keys ++ [u] } := by simp [← hlo]
      rw [q2]
      exact hop2
  · have := h.few
    rw [hs] at this
    simpa using this
end Go.Proofs.YtmlacmoembjeoaaGreatDoor
namespace Go.Proofs.YtmlacmoembjeoaaGreatDoor
open Go.RowKit
set_option linter.unusedVariables false
set_option maxHeartbeats 1000000 in
/-- The closure: has a node this text? -/
theorem twk_any (gk : Nat) (nb : Nb) (s : ByteArray) (w : World) (hk : w.cell? ⟨gk, 0, none⟩ = some (.string s)) (hg : gk < w.heap.size) (v : Bool) (hv : (nb.txt.toList == s.toList) = v) :
    Calls Tryz.prog 114 (#[.agg nb.arr] ++ #[.pointer (some ⟨gk, 0, none⟩)]) w fun e w' => e = .returned (.bool v) ∧ Below w.heap.size w w' := by
  show Calls Tryz.prog 114 #[.agg nb.arr, .pointer (some ⟨gk, 0, none⟩)] w _
  have hal := alloc_below w (.cells nb.arr 26)
  obtain ⟨a0, a1, a2, a3, a4, a5, a6, a7, a8⟩ := (nbox_new w nb).fields
  have b0 : (w.alloc (.cells nb.arr 26)).cell? ⟨gk, 0, none⟩ = some (.string s) := (hal.cell (p := ⟨gk, 0, none⟩) hg).trans hk
  have hB : Hid (Below w.heap.size w (w.alloc (.cells nb.arr 26))) := hal
  clear hal hk
  go_enter Tryz.func114, Tryz.ntmps114
  go_wp2
  go_ret
  exact ⟨rfl, hB.out⟩
theorem nine_el {w : World} {a : Option Addr} {bk : List Nb} (h : Nine w a bk) {i : Nat} (hi : i < bk.length) : ∃ b off, a = some ⟨b, off, none⟩ ∧ ∀ j, j < 9 → w.cell? ⟨b, off + (i * 9 + j), none⟩ = (bk[i]).cells[j]? := by
  rcases h with rfl | ⟨b, off, ha, hc⟩
  · cases hi
  · exact ⟨b, off, ha, fun j hj => hc i hi j hj⟩
def hasT (bk : List Nb) (s : ByteArray) : Bool := bk.any fun b => b.txt.toList == s.toList
theorem hasT_snoc {bk : List Nb} {s : ByteArray} {i : Nat} (h : i < bk.length) : hasT (bk.take (i + 1)) s = (hasT (bk.take i) s || (bk[i].txt.toList == s.toList)) := by
  unfold hasT
  rw [List.take_succ_eq_append_getElem h, List.any_append]
  simp
set_option maxHeartbeats 4000000 in
set_option maxRecDepth 100000 in
theorem indk_any (a : Option Addr) (n c : Nat) (bk : List Nb) (gk : Nat) (s : ByteArray) (w : World) (hk : w.cell? ⟨gk, 0, none⟩ = some (.string s)) (hg : gk < w.heap.size) (hl : bk.length = n) (hN : Nine w a bk) (hc : n ≤ c) (hcm : c ≤ 9223372036854775807) :
    Calls Tryz.prog 134 #[.slice a n c, .func (.func 114) #[] #[.pointer (some ⟨gk, 0, none⟩)]] w fun e w' => (∃ r : Int, e = .returned (.int .i64 r) ∧ decide (0 ≤ r) = hasT bk s) ∧ Below w.heap.size w w' := by
  have e49 : ∀ args w, (callFunc 114 args).run Tryz.prog w = .ok (.enter 114 args) w := enters_of Tryz.func114 (by kernel_rfl) rfl
  have hx : Hid (bk.length = n) := hl
  have hA : Hid (Nine w a bk) := hN
  have hK : Hid (w.cell? ⟨gk, 0, none⟩ = some (.string s) ∧ gk < w.heap.size) := ⟨hk, hg⟩
  clear hl hk hN hg
  go_enter Tryz.func134, Tryz.ntmps134
  go_wp2
  go_loopw [5, 8] (fun _ s8 wr => ∃ (i : Nat), i ≤ n ∧ s8 = .int .i64 i ∧ Hid (Below w.heap.size w wr) ∧ Hid (hasT (bk.take i) s = false)) (fun _ i _ => n - (intOf i).toNat)
  case atStart => exact ⟨0, Nat.zero_le _, rfl, Below.refl _ _, by show _ = _; rfl⟩
  case round =>
    obtain ⟨i, him, rfl, hbl, hT⟩ := hrel
    by_cases hlt : i < n
    · have hz : (i : Int) < (n : Int) := by omega
      have hix : i < bk.length := by rw [hx.out]; exact hlt
      obtain ⟨b0, off, rfl, hck⟩ := nine_el (hA.out.kept hbl.out) hix
      obtain ⟨f0, f1, f2, f3, f4, f5, f6, f7, f8⟩ := elem_fields hck
      have kk := fun (v : Bool) (h : (bk[i].txt.toList == s.toList) = v) => twk_any gk bk[i] s wr ((hbl.out.cell (p := ⟨gk, 0, none⟩) hK.out.2).trans hK.out.1) (Nat.lt_of_lt_of_le hK.out.2 hbl.out.size) v h
      have wi : IntKind.i64.wrap ((i : Int) + 1) = (i : Int) + 1 := by rw [IntKind.wrap_i64]; omega
      have hsn := hasT_snoc (s := s) hix
      rw [hT.out, Bool.false_or] at hsn
      cases hE : (bk[i].txt.toList == s.toList) with
      | true =>
        have k1 := kk true hE
        have hm : Hid (hasT bk s = true) := by
          show _ = _
          unfold hasT
          rw [List.any_eq_true]
          exact ⟨bk[i], List.getElem_mem hix, hE⟩
        generalize bk[i] = nk at *
        clear hck kk hE hsn
        go_wp2_with (go_at_fn 114; refine k1.mono ?_; rintro e w1 ⟨rfl, hb1⟩)
        go_ret
        exact ⟨⟨_, rfl, by rw [hm.out]; simp⟩, hbl.out.trans (hb1.mono hbl.out.size)⟩
      | false =>
        have k1 := kk false hE
        have hT' : Hid (hasT (bk.take (i + 1)) s = false) := by show _ = _; rw [hsn, hE]
        generalize bk[i] = nk at *
        clear hck kk hE hsn
        go_wp2_with (go_at_fn 114; refine k1.mono ?_; rintro e w1 ⟨rfl, hb1⟩)
        go_roundw
        case rel => exact ⟨i + 1, by omega, by go_num, hbl.out.trans (hb1.mono hbl.out.size), hT'⟩
        case measure => simp [intOf]; omega
    · have hz : ¬ (i : Int) < (n : Int) := by omega
      have hm : Hid (hasT bk s = false) := by
        show _ = _
        have := hT.out
        rwa [List.take_of_length_le (by rw [hx.out]; omega)] at this
      go_wp2
      go_ret
      exact ⟨⟨-1, rfl, by rw [hm.out]; rfl⟩, hbl.out⟩
set_option maxHeartbeats 1000000 in
theorem contk_any (a : Option Addr) (n c : Nat) (bk : List Nb) (gk : Nat) (s : ByteArray) (w : World) (hk : w.cell? ⟨gk, 0, none⟩ = some (.string s)) (hg : gk < w.heap.size) (hl : bk.length = n) (hN : Nine w a bk) (hc : n ≤ c) (hcm : c ≤ 9223372036854775807) :
    Calls Tryz.prog 113 #[.slice a n c, .func (.func 114) #[] #[.pointer (some ⟨gk, 0, none⟩)]] w fun e w' => e = .returned (.bool (hasT bk s)) ∧ Below w.heap.size w w' := by
  have ki := indk_any a n c bk gk s w hk hg hl hN hc hcm
  generalize hasT bk s = v at *
  clear hk hg hl hN hc hcm
  go_enter Tryz.func113, Tryz.ntmps113
  go_wp2_with (go_at_call 134; refine ki.mono ?_; rintro e w1 ⟨⟨r, rfl, hr⟩, hb⟩)
  go_ret
  exact ⟨rfl, hb⟩
set_option maxHeartbeats 1000000 in
set_option maxRecDepth 100000 in
/-- jread.twice. -/
theorem twice_any (a : Option Addr) (n c : Nat) (bk : List Nb) (s : ByteArray) (w : World) (hl : bk.length = n) (hN : Nine w a bk) (hc : n ≤ c) (hcm : c ≤ 9223372036854775807) (v : Int) (hv : v = if hasT bk s = true then 9 else 0) :
    Calls Tryz.prog 86 #[.slice a n c, .string s] w fun e w' => e = .returned (.int .i64 v) ∧ Below w.heap.size w w' := by
  have hal := alloc_below w (.cells #[.string s] 9)
  have T1 : Blk (w.alloc (.cells #[.string s] 9)) w.heap.size #[.string s] 9 := blk_new w _ _
  have kc := contk_any a n c bk w.heap.size s (w.alloc (.cells #[.string s] 9)) (T1.cell 0) T1.lt hl (hN.kept hal) hc hcm
  have hB : Hid (Below w.heap.size w (w.alloc (.cells #[.string s] 9))) := hal
  subst hv
  cases hE : hasT bk s with
  | true =>
    rw [hE] at kc
    rw [if_pos rfl]
    clear hal T1 hl hN hc hcm hE
    go_enter Tryz.func86, Tryz.ntmps86
    go_wp2_with (go_at_call 113; refine kc.mono ?_; rintro e w1 ⟨rfl, hb⟩)
    go_ret
    exact ⟨rfl, hB.out.trans (hb.mono hB.out.size)⟩
  | false =>
    rw [hE] at kc
    rw [if_neg (by simp)]
    clear hal T1 hl hN hc hcm hE
    go_enter Tryz.func86, Tryz.ntmps86
    go_wp2_with (go_at_call 113; refine kc.mono ?_; rintro e w1 ⟨rfl, hb⟩)
    go_ret
    exact ⟨rfl, hB.out.trans (hb.mono hB.out.size)⟩
end Go.Proofs.YtmlacmoembjeoaaGreatDoor
namespace Go.Proofs.YtmlacmoembjeoaaGreatDoor
open Go.RowKit
set_option linter.unusedVariables false
set_option maxRecDepth 100000 in
theorem step_call {f : FuncId} {v r : Value} {w : World} {ops : Array Oper} {o : Oper} {a : Act} {K : Act → World → Prop} {Q : Exit → Act → World → Prop} {E : Prop} {R : World → Prop} (hgd : o.guard = none) (n : Nat) (T : TypeId)
    (ho : o.op = .call { callee := .value (.func f), args := #[.tmp n], argTypes := #[T] }) (hx : a.eval (.tmp n) = v) (hcf : ∀ args w, (callFunc f args).run Tryz.prog w = .ok (.enter f args) w)
    (k : Calls Tryz.prog f #[v] w fun e w' => e = .returned r ∧ R w') (h : ∀ w', R w' → K (a.put o.dst r) w') :
    if Region.wanted o (yielded ops a.tmps) = true then Oper.wp Tryz.prog o a w K Q else E := by
  have hw : Region.wanted o (yielded ops a.tmps) = true := by simp [Region.wanted, hgd]
  rw [if_pos hw]
  unfold Oper.wp
  simp [Act.eval] at hx
  simp [execOp, ho, resolve, invoke, hcf, hx, go_sem]
  refine Calls.mono (R := fun e w' => e = .returned r ∧ R w') k ?_
  rintro e w' ⟨he, hr⟩
  subst he
  exact h w' hr
end Go.Proofs.YtmlacmoembjeoaaGreatDoor
