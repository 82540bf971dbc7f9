/-
  A whole value put into the innermost of what is open: the walk.
-/
import Derived.Test.YtmlacmoembjeoaaGreatDoorG13
import Derived.Deep.CutRange
import Derived.Deep.DeepCutAuto
namespace Go.Proofs.YtmlacmoembjeoaaGreatDoor
open Go.RowKit
set_option linter.unusedVariables false
theorem fz_row {w : World} {g T : Nat} {cur : Array Value} (h : w.heap[g]? = some (.cells cur T (0, 0))) (q : Nat) : w.frozen? ⟨g, q, none⟩ = false := by simp [World.frozen?, h]
theorem OwnsN.last2 {w : World} {B li : Nat} {v : Value} {bs : List Nb} {z : Nb} (h : OwnsN 26 w B v (bs ++ [z])) (hl : bs.length = li) : ∃ g cap cur, v = .slice (some ⟨g, 0, none⟩) (li + 1) cap ∧ B ≤ g ∧ w.heap[g]? = some (.cells cur 26 (0, 0)) ∧ li + 1 ≤ cap ∧ cap ≤ 9223372036854775807 ∧ ∀ j, j < 9 → w.cell? ⟨g, li * 9 + j, none⟩ = z.cells[j]? := by
  subst hl
  obtain ⟨g, cap, cur, h1, h2, h3, h4, h5, h6, h7⟩ := h.last
  exact ⟨g, cap, cur, h1, h2, h3, h4, h5, h7⟩
/-- What the row's growth leaves as it was. -/
theorem grown_keep {w wb w4 : World} {v : Value} {k B : Nat} {bs : List Nb} (hO : OwnsN 26 w B v bs) (hb : Below w.heap.size w wb) (hg : wb.grownBy w4 v.ownBlock) (hk : k < wb.heap.size) (hv : v.ownBlock ≠ some k) : w4.heap[k]? = wb.heap[k]? := hg.block k hk (fun e => hv e.symm)
theorem own_lt {w : World} {v : Value} {B k : Nat} {bs : List Nb} (hO : OwnsN 26 w B v bs) (h : v.ownBlock = some k) : k < w.heap.size := (World.ownsRow.lt hO k h).2
/-- Only the reader's step has turned. -/
structure NxE (w6 w' : World) (g : Nat) : Prop where
  os : w'.os = w6.os
  tape : w'.tape = w6.tape
  output : w'.output = w6.output
  size : w'.heap.size = w6.heap.size
  rest : ∀ k, k ≠ g → w'.heap[k]? = w6.heap[k]?
theorem NxE.refl (w : World) (g : Nat) : NxE w w g := ⟨rfl, rfl, rfl, rfl, fun _ _ => rfl⟩
theorem NxE.set {w6 w' : World} {g : Nat} (h : NxE w6 w' g) (j : Nat) (v : Value) : NxE w6 (w'.setCell ⟨g, j, none⟩ v) g := ⟨h.os, h.tape, h.output, (set_size _ _ _ _).trans h.size, fun k hk => (setk hk v).trans (h.rest k hk)⟩
theorem kind_at {B : Nat} {w w6 : World} {g go n li : Nat} {v0 v : Value} {bi : List Nb} {x : Nb} {cur : Array Value} {K : Int} (F : PutE B w w6 g go (n * 9 + 8) li v0 bi x) (hrow : w.heap[go]? = some (.cells cur 26 (0, 0))) (h0 : cur[n * 9]? = some (.int .i64 K)) (hne : go ≠ g) : (w6.setCell ⟨g, 1, none⟩ v).cell? ⟨go, n * 9, none⟩ = some (.int .i64 K) := by
  obtain ⟨g4, cap4, _, _, h3⟩ := F.own
  have h := h3 cur 26 hrow
  rw [World.cell?_of_block (w := w6) (a := ⟨go, n * 9, none⟩) (setk hne v), cell_row h, Array.getElem?_setIfInBounds, if_neg (by omega)]
  exact h0
set_option maxHeartbeats 4000000 in
set_option maxRecDepth 100000 in
theorem put_some {B : Nat} {w : World} {g go n co li cap : Nat} {ai : Option Addr} {bi : List Nb} {free : Bool} {nx : Nat} {nodes K : Int} {r x : Nb} {ended : Bool} {cur : Array Value} (h : RBox w g free nx (some ⟨go, 0, none⟩) (n + 1) co nodes r ended) (hn : n ≤ 100000)
    (hrow : w.heap[go]? = some (.cells cur 26 (0, 0))) (h8 : cur[n * 9 + 8]? = some (.slice ai li cap)) (h0 : cur[n * 9]? = some (.int .i64 K)) (hO : OwnsN 26 w B (.slice ai li cap) bi) (hl : bi.length = li) (hli : li ≤ 100000) (hB : B ≤ w.heap.size)
    (n1 : (Value.slice ai li cap).ownBlock ≠ some go) (n2 : (Value.slice ai li cap).ownBlock ≠ some g) (n3 : go ≠ g) (v : Bool) (hK : (K == 8) = v) :
    Calls Tryz.prog 43 #[.pointer (some ⟨g, 0, none⟩), .agg x.arr] w fun e w' => e = .returned (.tuple #[]) ∧ ∃ w6, PutE B w w6 g go (n * 9 + 8) li (.slice ai li cap) bi x ∧ NxE w6 w' g ∧ RBox w' g free (if v = true then 70 else 69) (some ⟨go, 0, none⟩) (n + 1) co nodes r ended := by
  have hal := alloc_below w (.cells x.arr 26)
  have R1 := h.same (hal.block g h.lt)
  have kI := inn_any R1 hn
  have a2 := R1.fields.2.2.1
  have Nx : Hid (NBox (w.alloc (.cells x.arr 26)) w.heap.size x) := nbox_new w x
  have hgo : go < w.heap.size := (Array.getElem?_eq_some_iff.1 hrow).1
  have hrowA : Hid ((w.alloc (.cells x.arr 26)).heap[go]? = some (.cells cur 26 (0, 0))) := by show _ = _; rw [hal.block go hgo]; exact hrow
  have z1 : (((n + 1 : Nat) : Int) == 0) = false := by simp; omega
  have hA : Hid (Below w.heap.size w (w.alloc (.cells x.arr 26))) := hal
  have E0 : Hid (∀ wb w4 g4 cap4 z, Below w.heap.size w wb → OwnsN 26 w4 B (.slice (some ⟨g4, 0, none⟩) (li + 1) cap4) (bi ++ [z]) → wb.grownBy w4 (Value.slice ai li cap).ownBlock → ((Value.slice ai li cap).ownBlock = some g4 ∨ wb.heap.size ≤ g4) → PutE B w ((((((((((w4.setCell ⟨g4, li * 9, none⟩ (.int .i64 x.kind)).setCell ⟨g4, li * 9 + 1, none⟩ (.int .u64 x.num)).setCell ⟨g4, li * 9 + 2, none⟩ (.bool x.neg)).setCell ⟨g4, li * 9 + 3, none⟩ (.string x.dig)).setCell ⟨g4, li * 9 + 4, none⟩ (.int .i64 x.exp)).setCell ⟨g4, li * 9 + 5, none⟩ (.string x.txt)).setCell ⟨g4, li * 9 + 6, none⟩ (.slice x.ab x.lb x.cb)).setCell ⟨g4, li * 9 + 7, none⟩ (.slice x.ak x.lk x.ck)).setCell ⟨g4, li * 9 + 8, none⟩ (.slice x.ai x.li x.ci)).setCell ⟨go, n * 9 + 8, none⟩ (.slice (some ⟨g4, 0, none⟩) (li + 1) cap4)) g go (n * 9 + 8) li (.slice ai li cap) bi x) := fun wb w4 g4 cap4 z q1 q2 q3 q4 => putE_of q1 hl hgo n1 hO q2 q3 q4
  have E2 : Hid (∀ wb w4 g4 cap4 z, Below w.heap.size w wb → OwnsN 26 w4 B (.slice (some ⟨g4, 0, none⟩) (li + 1) cap4) (bi ++ [z]) → wb.grownBy w4 (Value.slice ai li cap).ownBlock → ((Value.slice ai li cap).ownBlock = some g4 ∨ wb.heap.size ≤ g4) → PutE B w ((((((((((w4.setCell ⟨go, n * 9 + 8, none⟩ (.slice (some ⟨g4, 0, none⟩) (li + 1) cap4)).setCell ⟨g4, li * 9, none⟩ (.int .i64 x.kind)).setCell ⟨g4, li * 9 + 1, none⟩ (.int .u64 x.num)).setCell ⟨g4, li * 9 + 2, none⟩ (.bool x.neg)).setCell ⟨g4, li * 9 + 3, none⟩ (.string x.dig)).setCell ⟨g4, li * 9 + 4, none⟩ (.int .i64 x.exp)).setCell ⟨g4, li * 9 + 5, none⟩ (.string x.txt)).setCell ⟨g4, li * 9 + 6, none⟩ (.slice x.ab x.lb x.cb)).setCell ⟨g4, li * 9 + 7, none⟩ (.slice x.ak x.lk x.ck)).setCell ⟨g4, li * 9 + 8, none⟩ (.slice x.ai x.li x.ci)) g go (n * 9 + 8) li (.slice ai li cap) bi x) := fun wb w4 g4 cap4 z q1 q2 q3 q4 => putE_of2 q1 hl hgo n1 hO q2 q3 q4
  have hOw : Hid (∀ wx, Below w.heap.size w wx → OwnsN 26 wx B (.slice ai li cap) bi) := fun wx hb => hO.below hb
  have kp : Hid (∀ wb w4 k, Below w.heap.size w wb → wb.grownBy w4 (Value.slice ai li cap).ownBlock → k < wb.heap.size → (k = go ∨ k = g ∨ w.heap.size ≤ k) → w4.heap[k]? = wb.heap[k]?) := fun wb w4 k q1 q2 q3 q4 => grown_keep hO q1 q2 q3 (fun e => by
    rcases q4 with rfl | rfl | q
    · exact n1 e
    · exact n2 e
    · have := own_lt hO e; omega)
  have ne4 : Hid (∀ (wb : World) g4, Below w.heap.size w wb → ((Value.slice ai li cap).ownBlock = some g4 ∨ wb.heap.size ≤ g4) → g4 ≠ go) := fun wb g4 q1 q2 e => by
    subst e
    rcases q2 with q | q
    · exact n1 q
    · have := q1.size; omega
  have G0 : Hid (go < w.heap.size ∧ g < w.heap.size ∧ go ≠ g) := ⟨hgo, h.lt, n3⟩
  have H8 : Hid (cur[n * 9 + 8]? = some (.slice ai li cap) ∧ cur[n * 9]? = some (.int .i64 K) ∧ n * 9 + 9 ≤ cur.size + 100000000) := ⟨h8, h0, by omega⟩
  have hl' : Hid (bi.length = li) := hl
  have n2' : Hid ((Value.slice ai li cap).ownBlock ≠ some g) := n2
  have hrw : Hid (w.heap[go]? = some (.cells cur 26 (0, 0))) := hrow
  have hR : Hid (RBox w g free nx (some ⟨go, 0, none⟩) (n + 1) co nodes r ended) := h
  have hB' : Hid (B ≤ w.heap.size) := hB
  have q1 : ((li : Nat) : Int) < ((li : Nat) : Int) + 1 := by omega
  have q0 : (0 : Int) ≤ ((li : Nat) : Int) := by omega
  have hli' : Hid (li ≤ 100000) := hli
  clear h hrow h8 h0 hO hl hB hal R1 hgo n1 n2 n3 hli
  go_enter Tryz.func43, Tryz.ntmps43
  go_upto_region 4 with (go_at_call 68; refine kI.mono ?_; rintro e w1 ⟨rfl, hb1, hw1⟩; clear kI a2; have N1 := Nx.out.kept hb1 Nx.out.lt; obtain ⟨x0, x1, x2, x3, x4, x5, x6, x7, x8⟩ := N1.fields; have r1 : Hid (w1.heap[go]? = some (.cells cur 26 (0, 0))) := (by show _ = _; rw [hw1]; exact hrowA.out); have c8 : w1.cell? ⟨go, n * 9 + 8, none⟩ = some (.slice ai li cap) := (cell_row r1.out _).trans H8.out.1; have b1 : Hid (Below w.heap.size w w1) := hA.out.trans (hb1.mono hA.out.size); have bA : Hid (Below w.heap.size w (w1.alloc (.cells #[.int .i64 0, .int .u64 0, .bool false, .string ⟨#[]⟩, .int .i64 0, .string ⟨#[]⟩, .slice none 0 0, .slice none 0 0, .slice none 0 0] 26))) := b1.out.trans ((alloc_below w1 _).mono b1.out.size); have bB : Hid (Below w.heap.size w (w1.drew.alloc (.cells #[.int .i64 0, .int .u64 0, .bool false, .string ⟨#[]⟩, .int .i64 0, .string ⟨#[]⟩, .slice none 0 0, .slice none 0 0, .slice none 0 0] 26))) := b1.out.drew.trans ((alloc_below w1.drew _).mono b1.out.size); have NB : Hid (NBox (w1.drew.alloc (.cells #[.int .i64 0, .int .u64 0, .bool false, .string ⟨#[]⟩, .int .i64 0, .string ⟨#[]⟩, .slice none 0 0, .slice none 0 0, .slice none 0 0] 26)) w.heap.size x) := NBox.kept (w := w1.drew) N1 (alloc_below w1.drew _) N1.lt; obtain ⟨t0, t1, t2, t3, t4, t5, t6, t7, t8⟩ := NB.out.fields; have NA : Hid (NBox (w1.alloc (.cells #[.int .i64 0, .int .u64 0, .bool false, .string ⟨#[]⟩, .int .i64 0, .string ⟨#[]⟩, .slice none 0 0, .slice none 0 0, .slice none 0 0] 26)) w.heap.size x) := N1.kept (alloc_below w1 _) N1.lt; obtain ⟨s0, s1, s2, s3, s4, s5, s6, s7, s8⟩ := NA.out.fields; have cA8 : (w1.alloc (.cells #[.int .i64 0, .int .u64 0, .bool false, .string ⟨#[]⟩, .int .i64 0, .string ⟨#[]⟩, .slice none 0 0, .slice none 0 0, .slice none 0 0] 26)).cell? ⟨go, n * 9 + 8, none⟩ = some (.slice ai li cap) := ((alloc_below w1 _).cell (p := ⟨go, n * 9 + 8, none⟩) (Nat.lt_of_lt_of_le G0.out.1 b1.out.size)).trans c8; have cB8 : (w1.drew.alloc (.cells #[.int .i64 0, .int .u64 0, .bool false, .string ⟨#[]⟩, .int .i64 0, .string ⟨#[]⟩, .slice none 0 0, .slice none 0 0, .slice none 0 0] 26)).cell? ⟨go, n * 9 + 8, none⟩ = some (.slice ai li cap) := ((alloc_below w1.drew _).cell (p := ⟨go, n * 9 + 8, none⟩) (Nat.lt_of_lt_of_le G0.out.1 b1.out.size)).trans c8; clear hb1 hw1 N1)
  go_cut [] (fun wx => Hid (PutE B w wx g go (n * 9 + 8) li (.slice ai li cap) bi x))
  case first =>
   go_region_law (refine step_append_node (by rfl) _ _ (by rfl) B (.slice ai li cap) bi [zN] (by rfl) (by first | exact hOw.out _ bB.out | exact hOw.out _ bA.out) ⟨_, 0, none⟩ 1 1 (by rfl) rfl (by decide) (by first | exact nine_one w1.drew zN | exact nine_one w1 zN) (by have := hl'.out; have := hli'.out; simp; omega) (by first | exact Nat.le_trans hB'.out bB.out.size | exact Nat.le_trans hB'.out bA.out.size) ?_; intro v4 w4 ho4 hg4 hn4; obtain ⟨g4, cap4, cur4, rfl, hB4, hc4, hnc4, hcm4, hl4⟩ := ho4.last2 hl'.out; have y0 : w4.cell? ⟨g4, li * 9, none⟩ = some (.int .i64 0) := hl4 0 (by decide); have y1 : w4.cell? ⟨g4, li * 9 + 1, none⟩ = some (.int .u64 0) := hl4 1 (by decide); have y2 : w4.cell? ⟨g4, li * 9 + 2, none⟩ = some (.bool false) := hl4 2 (by decide); have y3 : w4.cell? ⟨g4, li * 9 + 3, none⟩ = some (.string ⟨#[]⟩) := hl4 3 (by decide); have y4 : w4.cell? ⟨g4, li * 9 + 4, none⟩ = some (.int .i64 0) := hl4 4 (by decide); have y5 : w4.cell? ⟨g4, li * 9 + 5, none⟩ = some (.string ⟨#[]⟩) := hl4 5 (by decide); have y6 : w4.cell? ⟨g4, li * 9 + 6, none⟩ = some (.slice none 0 0) := hl4 6 (by decide); have y7 : w4.cell? ⟨g4, li * 9 + 7, none⟩ = some (.slice none 0 0) := hl4 7 (by decide); have y8 : w4.cell? ⟨g4, li * 9 + 8, none⟩ = some (.slice none 0 0) := hl4 8 (by decide); have f0 : w4.frozen? ⟨g4, li * 9, none⟩ = false := fz_row hc4 _; have f1 : w4.frozen? ⟨g4, li * 9 + 1, none⟩ = false := fz_row hc4 _; have f2 : w4.frozen? ⟨g4, li * 9 + 2, none⟩ = false := fz_row hc4 _; have f3 : w4.frozen? ⟨g4, li * 9 + 3, none⟩ = false := fz_row hc4 _; have f4 : w4.frozen? ⟨g4, li * 9 + 4, none⟩ = false := fz_row hc4 _; have f5 : w4.frozen? ⟨g4, li * 9 + 5, none⟩ = false := fz_row hc4 _; have f6 : w4.frozen? ⟨g4, li * 9 + 6, none⟩ = false := fz_row hc4 _; have f7 : w4.frozen? ⟨g4, li * 9 + 7, none⟩ = false := fz_row hc4 _; have f8 : w4.frozen? ⟨g4, li * 9 + 8, none⟩ = false := fz_row hc4 _; have n4 := hn4 g4 rfl; have ng : g4 ≠ go := (by first | exact ne4.out _ g4 bB.out n4 | exact ne4.out _ g4 bA.out n4); have ng' : go ≠ g4 := Ne.symm ng; have F : Hid (PutE B w ((((((((((w4.setCell ⟨g4, li * 9, none⟩ (.int .i64 x.kind)).setCell ⟨g4, li * 9 + 1, none⟩ (.int .u64 x.num)).setCell ⟨g4, li * 9 + 2, none⟩ (.bool x.neg)).setCell ⟨g4, li * 9 + 3, none⟩ (.string x.dig)).setCell ⟨g4, li * 9 + 4, none⟩ (.int .i64 x.exp)).setCell ⟨g4, li * 9 + 5, none⟩ (.string x.txt)).setCell ⟨g4, li * 9 + 6, none⟩ (.slice x.ab x.lb x.cb)).setCell ⟨g4, li * 9 + 7, none⟩ (.slice x.ak x.lk x.ck)).setCell ⟨g4, li * 9 + 8, none⟩ (.slice x.ai x.li x.ci)).setCell ⟨go, n * 9 + 8, none⟩ (.slice (some ⟨g4, 0, none⟩) (li + 1) cap4)) g go (n * 9 + 8) li (.slice ai li cap) bi x) := (by first | exact E0.out _ w4 g4 cap4 zN bB.out ho4 hg4 n4 | exact E0.out _ w4 g4 cap4 zN bA.out ho4 hg4 n4); have F2 : Hid (PutE B w ((((((((((w4.setCell ⟨go, n * 9 + 8, none⟩ (.slice (some ⟨g4, 0, none⟩) (li + 1) cap4)).setCell ⟨g4, li * 9, none⟩ (.int .i64 x.kind)).setCell ⟨g4, li * 9 + 1, none⟩ (.int .u64 x.num)).setCell ⟨g4, li * 9 + 2, none⟩ (.bool x.neg)).setCell ⟨g4, li * 9 + 3, none⟩ (.string x.dig)).setCell ⟨g4, li * 9 + 4, none⟩ (.int .i64 x.exp)).setCell ⟨g4, li * 9 + 5, none⟩ (.string x.txt)).setCell ⟨g4, li * 9 + 6, none⟩ (.slice x.ab x.lb x.cb)).setCell ⟨g4, li * 9 + 7, none⟩ (.slice x.ak x.lk x.ck)).setCell ⟨g4, li * 9 + 8, none⟩ (.slice x.ai x.li x.ci)) g go (n * 9 + 8) li (.slice ai li cap) bi x) := (by first | exact E2.out _ w4 g4 cap4 zN bB.out ho4 hg4 n4 | exact E2.out _ w4 g4 cap4 zN bA.out ho4 hg4 n4); have k8 : w4.heap[go]? = some (.cells cur 26 (0, 0)) := (by first | (rw [kp.out _ w4 go bB.out hg4 (Nat.lt_of_lt_of_le G0.out.1 bB.out.size) (.inl rfl)]; exact ((alloc_below w1.drew _).block go (Nat.lt_of_lt_of_le G0.out.1 b1.out.size)).trans r1.out)); have d8 : w4.cell? ⟨go, n * 9 + 8, none⟩ = some (.slice ai li cap) := (cell_row k8 _).trans H8.out.1; have e8 : w4.frozen? ⟨go, n * 9 + 8, none⟩ = false := fz_row k8 _; have N4 : NBox w4 w.heap.size x := NB.out.same (kp.out _ w4 _ bB.out hg4 NB.out.lt (.inr (.inr (Nat.le_refl _)))); obtain ⟨u0, u1, u2, u3, u4, u5, u6, u7, u8⟩ := N4.fields; clear ho4 hg4 hn4 hl4 hc4 k8 n4 N4)
   all_goals (go_wp2_with fail; go_meet; first | with_reducible exact F | with_reducible exact F2)
  case rest =>
    have F := hcut
    clear x0 x1 x2 x3 x4 x5 x6 x7 x8 t0 t1 t2 t3 t4 t5 t6 t7 t8 s0 s1 s2 s3 s4 s5 s6 s7 s8 c8 cA8 cB8 NA NB bA bB r1 E0 E2 hOw kp
    have hsf : ∀ (w : World) (a : Addr) (f : Fn) (x y : Array Value) (m : Mode), (store a (.func f x y) m).run Tryz.prog w = stored Tryz.prog w a (.func f x y) m := fun w a f x y m => run_store Tryz.prog w a _ m rfl
    have R6 : RBox wc g free nx (some ⟨go, 0, none⟩) (n + 1) co nodes r ended := hR.out.same (F.out.rest g G0.out.2.1 (Ne.symm G0.out.2.2) n2'.out)
    have R6' : Hid (RBox wc g free nx (some ⟨go, 0, none⟩) (n + 1) co nodes r ended) := R6
    have a1 := R6.fields.2.1
    have z6 := R6.fz 1
    have k0 : (wc.setCell ⟨g, 1, none⟩ (.func (.func 69) #[.pointer (some ⟨g, 0, none⟩)] #[])).cell? ⟨go, n * 9, none⟩ = some (.int .i64 K) := kind_at F.out hrw.out H8.out.2.1 G0.out.2.2
    have R7 := R6.set (nx' := 69) 1 (.func (.func 69) #[.pointer (some ⟨g, 0, none⟩)] #[]) rfl
    have R7' : Hid (RBox (wc.setCell ⟨g, 1, none⟩ (.func (.func 69) #[.pointer (some ⟨g, 0, none⟩)] #[])) g free 69 (some ⟨go, 0, none⟩) (n + 1) co nodes r ended) := R7
    have b1' := R7.fields.2.1
    have z7 := R7.fz 1
    clear R6 R7
    cases v
    · go_wp2
      refine bodyPost_end (results_none rfl _ _ _) rfl ⟨rfl, wc, F.out, (NxE.refl wc g).set 1 _, R7'.out⟩
    · go_wp2
      refine bodyPost_end (results_none rfl _ _ _) rfl ⟨rfl, wc, F.out, ((NxE.refl wc g).set 1 _).set 1 _, R7'.out.set (nx' := 70) 1 _ rfl⟩
end Go.Proofs.YtmlacmoembjeoaaGreatDoor
