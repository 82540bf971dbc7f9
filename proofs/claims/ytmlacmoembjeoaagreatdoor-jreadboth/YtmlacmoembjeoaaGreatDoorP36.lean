/-
  Two values in brackets, with a comma, are an Array of both: the walk.
  Two values in brackets: the walk where both are read and there is room.
  Two values in brackets: the walk where both together are too many, or too deep.
-/
import Derived.Test.YtmlacmoembjeoaaGreatDoorP35
namespace Go.Proofs.YtmlacmoembjeoaaGreatDoor
open Go.RowKit
set_option linter.unusedVariables false
/-- What a call of Parse has left in two new places. -/
structure PS (w W : World) (p : Nat) (b : Nb) (t : Tr) (x y : Int) : Prop where
  bel : Below w.heap.size w W
  lo : w.heap.size ≤ p
  lt : p + 1 < W.heap.size
  box : NBox W p b
  flt : Blk W (p + 1) #[.int .i64 x, .int .i64 y] 29
  nd : ∃ D, Nd D W b t
theorem ps_new {w w1 : World} {b : Nb} {t : Tr} {D : Nat} {x y : Int} (hB : Below w.heap.size w w1) (hN : Nd D w1 b t) : PS w ((w1.alloc (.cells b.arr 26)).alloc (.cells #[.int .i64 x, .int .i64 y] 29)) w1.heap.size b t x y := by
  have A1 := alloc_below w1 (.cells b.arr 26)
  have A2 := alloc_below (w1.alloc (.cells b.arr 26)) (.cells #[.int .i64 x, .int .i64 y] 29)
  have s1 : (w1.alloc (.cells b.arr 26)).heap.size = w1.heap.size + 1 := by simp
  have s2 : ((w1.alloc (.cells b.arr 26)).alloc (.cells #[.int .i64 x, .int .i64 y] 29)).heap.size = w1.heap.size + 2 := by simp
  have A3 := A1.trans (A2.mono (by omega))
  refine ⟨hB.trans (A3.mono hB.size), hB.size, by omega, (nbox_new w1 b).kept A2 (by omega), ?_, D, hN.kept A3⟩
  have := blk_new (w1.alloc (.cells b.arr 26)) #[.int .i64 x, .int .i64 y] 29
  rwa [s1] at this
theorem PS.kept {w W W' : World} {p : Nat} {b : Nb} {t : Tr} {x y : Int} (h : PS w W p b t x y) (hb : Below W.heap.size W W') : PS w W' p b t x y := by
  obtain ⟨D, hN⟩ := h.nd
  exact ⟨h.bel.trans (hb.mono h.bel.size), h.lo, Nat.lt_of_lt_of_le h.lt hb.size, h.box.kept hb (by have := h.lt; omega), (hb.block _ h.lt).trans h.flt, D, hN.kept hb⟩
theorem ownsB_one (w : World) {c : Int} (h : 0 ≤ c ∧ c < 256) : OwnsB (w.alloc (.cells #[.int .u8 c] 5)) w.heap.size (.slice (some ⟨w.heap.size, 0, none⟩) 1 1) [c] :=
  ⟨⟨rfl, Or.inr ⟨w.heap.size, 1, #[.int .u8 c], rfl, Nat.le_refl _, heap_alloc_new w _, Nat.le_refl _, by decide, rfl, rfl⟩⟩, fun x hx => by rw [List.mem_singleton.1 hx]; exact h⟩
set_option maxHeartbeats 1000000 in
set_option maxRecDepth 100000 in
theorem wboth_a (a0 : Option Addr) (n0 c0 : Nat) (zs : List Int) (a1 : Option Addr) (n1 c1 : Nat) (ys : List Int) (w : World) (hl0 : zs.length = n0) (hb0 : Bytes w a0 zs) (hc0 : n0 ≤ c0) (hm0 : c0 ≤ 140737488351232) (hn0 : a0 = none → c0 = 0)
    (hl1 : ys.length = n1) (hb1 : Bytes w a1 ys) (hc1 : n1 ≤ c1) (hm1 : c1 ≤ 140737488351232) (hn1 : a1 = none → c1 = 0) (hX : (parA zs).2.1 ≠ 0) :
    Calls Tryz.prog 7 #[.slice a0 n0 c0, .slice a1 n1 c1] w fun e w' => e = .returned (.bool true) ∧ Below w.heap.size w w' := by
  have k1 := rparse_any a0 n0 c0 zs w hl0 hb0 hc0 (by omega)
  have k2 : Hid (∀ w', Below w.heap.size w w' → Calls Tryz.prog 9 #[.slice a1 n1 c1] w' fun e w'' => ∃ D b, e = .returned (.tuple #[.agg b.arr, .agg #[.int .i64 (parA ys).2.1, .int .i64 ((parA ys).2.2 : Nat)]]) ∧ Nd D w'' b (parA ys).1 ∧ Below w'.heap.size w' w'') := fun w' h => rparse_any a1 n1 c1 ys w' hl1 (hb1.kept h) hc1 (by omega)
  obtain ⟨⟨T1, X1, Y1⟩, hP1⟩ : ∃ R, parA zs = R := ⟨_, rfl⟩
  rw [hP1] at k1 hX
  obtain ⟨⟨T2, X2, Y2⟩, hP2⟩ : ∃ R, parA ys = R := ⟨_, rfl⟩
  rw [hP2] at k2
  simp only at k1 k2 hX
  have x1 : (X1 == 0) = false := by simpa using hX
  clear hP1 hP2 hX
  clear hl0 hb0 hc0 hm0 hn0 hl1 hb1 hc1 hm1 hn1
  go_enter Tryz.func7, Tryz.ntmps7
  go_wp2_with (go_at_call 9; refine k1.mono ?_; rintro e w1 ⟨D1, b1, he, hN, hB⟩; rw [Nb.arr] at he; subst he; clear k1; have G1 : Hid (PS w ((w1.alloc (.cells #[.int .i64 b1.kind, .int .u64 b1.num, .bool b1.neg, .string b1.dig, .int .i64 b1.exp, .string b1.txt, .slice b1.ab b1.lb b1.cb, .slice b1.ak b1.lk b1.ck, .slice b1.ai b1.li b1.ci] 26)).alloc (.cells #[.int .i64 X1, .int .i64 (Y1 : Nat)] 29)) w1.heap.size b1 T1 X1 (Y1 : Nat)) := ps_new hB hN; clear hN hB)
  generalize ((w1.alloc (.cells #[.int .i64 b1.kind, .int .u64 b1.num, .bool b1.neg, .string b1.dig, .int .i64 b1.exp, .string b1.txt, .slice b1.ab b1.lb b1.cb, .slice b1.ak b1.lk b1.ck, .slice b1.ai b1.li b1.ci] 26)).alloc (.cells #[.int .i64 X1, .int .i64 (Y1 : Nat)] 29)) = W1 at *
  generalize w1.heap.size = p1 at *
  refine (k2.out W1 G1.out.bel).mono ?_
  rintro e w2 ⟨D2, b2, he, hN, hB⟩
  rw [Nb.arr] at he
  subst he
  clear k2
  have G2 : Hid (PS W1 ((w2.alloc (.cells #[.int .i64 b2.kind, .int .u64 b2.num, .bool b2.neg, .string b2.dig, .int .i64 b2.exp, .string b2.txt, .slice b2.ab b2.lb b2.cb, .slice b2.ak b2.lk b2.ck, .slice b2.ai b2.li b2.ci] 26)).alloc (.cells #[.int .i64 X2, .int .i64 (Y2 : Nat)] 29)) w2.heap.size b2 T2 X2 (Y2 : Nat)) := ps_new hB hN
  have H1 : Hid (PS w ((w2.alloc (.cells #[.int .i64 b2.kind, .int .u64 b2.num, .bool b2.neg, .string b2.dig, .int .i64 b2.exp, .string b2.txt, .slice b2.ab b2.lb b2.cb, .slice b2.ak b2.lk b2.ck, .slice b2.ai b2.li b2.ci] 26)).alloc (.cells #[.int .i64 X2, .int .i64 (Y2 : Nat)] 29)) p1 b1 T1 X1 (Y1 : Nat)) := G1.out.kept G2.out.bel
  have z0 := H1.out.flt.cell 0
  have z1 := H1.out.flt.cell 1
  have y0 := G2.out.flt.cell 0
  have y1 := G2.out.flt.cell 1
  clear hN hB G1
  go_wp2_with fail
  refine (alive_any _).mono ?_
  rintro e w3 ⟨rfl, hB3⟩
  go_wp2_with fail
  go_ret
  exact ⟨rfl, H1.out.bel.trans (hB3.mono H1.out.bel.size)⟩
set_option maxHeartbeats 1000000 in
set_option maxRecDepth 100000 in
theorem wboth_b (a0 : Option Addr) (n0 c0 : Nat) (zs : List Int) (a1 : Option Addr) (n1 c1 : Nat) (ys : List Int) (w : World) (hl0 : zs.length = n0) (hb0 : Bytes w a0 zs) (hc0 : n0 ≤ c0) (hm0 : c0 ≤ 140737488351232) (hn0 : a0 = none → c0 = 0)
    (hl1 : ys.length = n1) (hb1 : Bytes w a1 ys) (hc1 : n1 ≤ c1) (hm1 : c1 ≤ 140737488351232) (hn1 : a1 = none → c1 = 0) (hX : (parA zs).2.1 = 0) (hX2 : (parA ys).2.1 ≠ 0) :
    Calls Tryz.prog 7 #[.slice a0 n0 c0, .slice a1 n1 c1] w fun e w' => e = .returned (.bool true) ∧ Below w.heap.size w w' := by
  have k1 := rparse_any a0 n0 c0 zs w hl0 hb0 hc0 (by omega)
  have k2 : Hid (∀ w', Below w.heap.size w w' → Calls Tryz.prog 9 #[.slice a1 n1 c1] w' fun e w'' => ∃ D b, e = .returned (.tuple #[.agg b.arr, .agg #[.int .i64 (parA ys).2.1, .int .i64 ((parA ys).2.2 : Nat)]]) ∧ Nd D w'' b (parA ys).1 ∧ Below w'.heap.size w' w'') := fun w' h => rparse_any a1 n1 c1 ys w' hl1 (hb1.kept h) hc1 (by omega)
  have e0 : (parA zs).2.2 = 0 := (par_right hX).1
  obtain ⟨⟨T1, X1, Y1⟩, hP1⟩ : ∃ R, parA zs = R := ⟨_, rfl⟩
  rw [hP1] at k1 hX e0
  obtain ⟨⟨T2, X2, Y2⟩, hP2⟩ : ∃ R, parA ys = R := ⟨_, rfl⟩
  rw [hP2] at k2 hX2
  simp only at k1 k2 hX hX2 e0
  subst hX e0
  simp only [show ((0 : Nat) : Int) = 0 from rfl] at k1
  have x1 : (X2 == 0) = false := by simpa using hX2
  clear hP1 hP2 hX2
  clear hl0 hb0 hc0 hm0 hn0 hl1 hb1 hc1 hm1 hn1
  go_enter Tryz.func7, Tryz.ntmps7
  go_wp2_with (go_at_call 9; refine k1.mono ?_; rintro e w1 ⟨D1, b1, he, hN, hB⟩; rw [Nb.arr] at he; subst he; clear k1; have G1 : Hid (PS w ((w1.alloc (.cells #[.int .i64 b1.kind, .int .u64 b1.num, .bool b1.neg, .string b1.dig, .int .i64 b1.exp, .string b1.txt, .slice b1.ab b1.lb b1.cb, .slice b1.ak b1.lk b1.ck, .slice b1.ai b1.li b1.ci] 26)).alloc (.cells #[.int .i64 0, .int .i64 0] 29)) w1.heap.size b1 T1 0 0) := ps_new hB hN; clear hN hB)
  generalize ((w1.alloc (.cells #[.int .i64 b1.kind, .int .u64 b1.num, .bool b1.neg, .string b1.dig, .int .i64 b1.exp, .string b1.txt, .slice b1.ab b1.lb b1.cb, .slice b1.ak b1.lk b1.ck, .slice b1.ai b1.li b1.ci] 26)).alloc (.cells #[.int .i64 0, .int .i64 0] 29)) = W1 at *
  generalize w1.heap.size = p1 at *
  refine (k2.out W1 G1.out.bel).mono ?_
  rintro e w2 ⟨D2, b2, he, hN, hB⟩
  rw [Nb.arr] at he
  subst he
  clear k2
  have G2 : Hid (PS W1 ((w2.alloc (.cells #[.int .i64 b2.kind, .int .u64 b2.num, .bool b2.neg, .string b2.dig, .int .i64 b2.exp, .string b2.txt, .slice b2.ab b2.lb b2.cb, .slice b2.ak b2.lk b2.ck, .slice b2.ai b2.li b2.ci] 26)).alloc (.cells #[.int .i64 X2, .int .i64 (Y2 : Nat)] 29)) w2.heap.size b2 T2 X2 (Y2 : Nat)) := ps_new hB hN
  have H1 : Hid (PS w ((w2.alloc (.cells #[.int .i64 b2.kind, .int .u64 b2.num, .bool b2.neg, .string b2.dig, .int .i64 b2.exp, .string b2.txt, .slice b2.ab b2.lb b2.cb, .slice b2.ak b2.lk b2.ck, .slice b2.ai b2.li b2.ci] 26)).alloc (.cells #[.int .i64 X2, .int .i64 (Y2 : Nat)] 29)) p1 b1 T1 0 0) := G1.out.kept G2.out.bel
  have z0 := H1.out.flt.cell 0
  have z1 := H1.out.flt.cell 1
  have y0 := G2.out.flt.cell 0
  have y1 := G2.out.flt.cell 1
  clear hN hB G1
  go_wp2_with fail
  refine (alive_any _).mono ?_
  rintro e w3 ⟨rfl, hB3⟩
  go_wp2_with fail
  go_ret
  exact ⟨rfl, H1.out.bel.trans (hB3.mono H1.out.bel.size)⟩
set_option maxHeartbeats 1000000 in
set_option maxRecDepth 100000 in
theorem wboth_c (a0 : Option Addr) (n0 c0 : Nat) (zs : List Int) (a1 : Option Addr) (n1 c1 : Nat) (ys : List Int) (w : World) (hl0 : zs.length = n0) (hb0 : Bytes w a0 zs) (hc0 : n0 ≤ c0) (hm0 : c0 ≤ 140737488351232) (hn0 : a0 = none → c0 = 0)
    (hl1 : ys.length = n1) (hb1 : Bytes w a1 ys) (hc1 : n1 ≤ c1) (hm1 : c1 ≤ 140737488351232) (hn1 : a1 = none → c1 = 0) (hX : (parA zs).2.1 = 0) (hX2 : (parA ys).2.1 = 0) (hL : 4096 < n0 + n1 + 3) :
    Calls Tryz.prog 7 #[.slice a0 n0 c0, .slice a1 n1 c1] w fun e w' => e = .returned (.bool true) ∧ Below w.heap.size w w' := by
  have k1 := rparse_any a0 n0 c0 zs w hl0 hb0 hc0 (by omega)
  have k2 : Hid (∀ w', Below w.heap.size w w' → Calls Tryz.prog 9 #[.slice a1 n1 c1] w' fun e w'' => ∃ D b, e = .returned (.tuple #[.agg b.arr, .agg #[.int .i64 (parA ys).2.1, .int .i64 ((parA ys).2.2 : Nat)]]) ∧ Nd D w'' b (parA ys).1 ∧ Below w'.heap.size w' w'') := fun w' h => rparse_any a1 n1 c1 ys w' hl1 (hb1.kept h) hc1 (by omega)
  have e0 : (parA zs).2.2 = 0 := (par_right hX).1
  have e1 : (parA ys).2.2 = 0 := (par_right hX2).1
  obtain ⟨⟨T1, X1, Y1⟩, hP1⟩ : ∃ R, parA zs = R := ⟨_, rfl⟩
  rw [hP1] at k1 hX e0
  obtain ⟨⟨T2, X2, Y2⟩, hP2⟩ : ∃ R, parA ys = R := ⟨_, rfl⟩
  rw [hP2] at k2 hX2 e1
  simp only at k1 k2 hX hX2 e0 e1
  subst hX e0 hX2 e1
  simp only [show ((0 : Nat) : Int) = 0 from rfl] at k1 k2
  have v1 : IntKind.i64.wrap ((n0 : Int) + (n1 : Int)) = (n0 : Int) + (n1 : Int) := by rw [IntKind.wrap_i64]; omega
  have v2 : IntKind.i64.wrap ((n0 : Int) + (n1 : Int) + 3) = (n0 : Int) + (n1 : Int) + 3 := by rw [IntKind.wrap_i64]; omega
  have v3 : decide ((4096 : Int) < (n0 : Int) + (n1 : Int) + 3) = true := by simp; omega
  clear hP1 hP2 hL
  clear hl0 hb0 hc0 hm0 hn0 hl1 hb1 hc1 hm1 hn1
  go_enter Tryz.func7, Tryz.ntmps7
  go_wp2_with (go_at_call 9; refine k1.mono ?_; rintro e w1 ⟨D1, b1, he, hN, hB⟩; rw [Nb.arr] at he; subst he; clear k1; have G1 : Hid (PS w ((w1.alloc (.cells #[.int .i64 b1.kind, .int .u64 b1.num, .bool b1.neg, .string b1.dig, .int .i64 b1.exp, .string b1.txt, .slice b1.ab b1.lb b1.cb, .slice b1.ak b1.lk b1.ck, .slice b1.ai b1.li b1.ci] 26)).alloc (.cells #[.int .i64 0, .int .i64 0] 29)) w1.heap.size b1 T1 0 0) := ps_new hB hN; clear hN hB)
  generalize ((w1.alloc (.cells #[.int .i64 b1.kind, .int .u64 b1.num, .bool b1.neg, .string b1.dig, .int .i64 b1.exp, .string b1.txt, .slice b1.ab b1.lb b1.cb, .slice b1.ak b1.lk b1.ck, .slice b1.ai b1.li b1.ci] 26)).alloc (.cells #[.int .i64 0, .int .i64 0] 29)) = W1 at *
  generalize w1.heap.size = p1 at *
  refine (k2.out W1 G1.out.bel).mono ?_
  rintro e w2 ⟨D2, b2, he, hN, hB⟩
  rw [Nb.arr] at he
  subst he
  clear k2
  have G2 : Hid (PS W1 ((w2.alloc (.cells #[.int .i64 b2.kind, .int .u64 b2.num, .bool b2.neg, .string b2.dig, .int .i64 b2.exp, .string b2.txt, .slice b2.ab b2.lb b2.cb, .slice b2.ak b2.lk b2.ck, .slice b2.ai b2.li b2.ci] 26)).alloc (.cells #[.int .i64 0, .int .i64 0] 29)) w2.heap.size b2 T2 0 0) := ps_new hB hN
  have H1 : Hid (PS w ((w2.alloc (.cells #[.int .i64 b2.kind, .int .u64 b2.num, .bool b2.neg, .string b2.dig, .int .i64 b2.exp, .string b2.txt, .slice b2.ab b2.lb b2.cb, .slice b2.ak b2.lk b2.ck, .slice b2.ai b2.li b2.ci] 26)).alloc (.cells #[.int .i64 0, .int .i64 0] 29)) p1 b1 T1 0 0) := G1.out.kept G2.out.bel
  have z0 := H1.out.flt.cell 0
  have z1 := H1.out.flt.cell 1
  have y0 := G2.out.flt.cell 0
  have y1 := G2.out.flt.cell 1
  clear hN hB G1
  go_wp2_with fail
  refine (alive_any _).mono ?_
  rintro e w3 ⟨rfl, hB3⟩
  go_wp2_with fail
  go_ret
  exact ⟨rfl, H1.out.bel.trans (hB3.mono H1.out.bel.size)⟩
end Go.Proofs.YtmlacmoembjeoaaGreatDoor
namespace Go.Proofs.YtmlacmoembjeoaaGreatDoor
open Go.RowKit
set_option linter.unusedVariables false
/-- An Array of two. -/
def twoN (g : Nat) : Nb := ⟨7, 0, false, ⟨#[]⟩, 0, ⟨#[]⟩, none, 0, 0, none, 0, 0, some ⟨g, 0, none⟩, 2, 2⟩
theorem nd_two {W7 : World} {D1 D2 : Nat} {b1 b2 : Nb} {t1 t2 : Tr} (h1 : Nd D1 W7 b1 t1) (h2 : Nd D2 W7 b2 t2) : Nd (max D1 D2 + 1) ((W7.alloc (.cells #[.int .i64 b1.kind, .int .u64 b1.num, .bool b1.neg, .string b1.dig, .int .i64 b1.exp, .string b1.txt, .slice b1.ab b1.lb b1.cb, .slice b1.ak b1.lk b1.ck, .slice b1.ai b1.li b1.ci, .int .i64 b2.kind, .int .u64 b2.num, .bool b2.neg, .string b2.dig, .int .i64 b2.exp, .string b2.txt, .slice b2.ab b2.lb b2.cb, .slice b2.ak b2.lk b2.ck, .slice b2.ai b2.li b2.ci] 26)).alloc (.cells #[.int .i64 7, .int .u64 0, .bool false, .string ⟨#[]⟩, .int .i64 0, .string ⟨#[]⟩, .slice none 0 0, .slice none 0 0, .slice (some ⟨W7.heap.size, 0, none⟩) 2 2] 26)) (twoN W7.heap.size) (arrT [t1, t2]) := by
  have A1 := alloc_below W7 (.cells #[.int .i64 b1.kind, .int .u64 b1.num, .bool b1.neg, .string b1.dig, .int .i64 b1.exp, .string b1.txt, .slice b1.ab b1.lb b1.cb, .slice b1.ak b1.lk b1.ck, .slice b1.ai b1.li b1.ci, .int .i64 b2.kind, .int .u64 b2.num, .bool b2.neg, .string b2.dig, .int .i64 b2.exp, .string b2.txt, .slice b2.ab b2.lb b2.cb, .slice b2.ak b2.lk b2.ck, .slice b2.ai b2.li b2.ci] 26)
  have A2 := alloc_below (W7.alloc (.cells #[.int .i64 b1.kind, .int .u64 b1.num, .bool b1.neg, .string b1.dig, .int .i64 b1.exp, .string b1.txt, .slice b1.ab b1.lb b1.cb, .slice b1.ak b1.lk b1.ck, .slice b1.ai b1.li b1.ci, .int .i64 b2.kind, .int .u64 b2.num, .bool b2.neg, .string b2.dig, .int .i64 b2.exp, .string b2.txt, .slice b2.ab b2.lb b2.cb, .slice b2.ak b2.lk b2.ck, .slice b2.ai b2.li b2.ci] 26)) (.cells #[.int .i64 7, .int .u64 0, .bool false, .string ⟨#[]⟩, .int .i64 0, .string ⟨#[]⟩, .slice none 0 0, .slice none 0 0, .slice (some ⟨W7.heap.size, 0, none⟩) 2 2] 26)
  have A3 := A1.trans (A2.mono (by simp))
  have hc : ∀ j, ((W7.alloc (.cells #[.int .i64 b1.kind, .int .u64 b1.num, .bool b1.neg, .string b1.dig, .int .i64 b1.exp, .string b1.txt, .slice b1.ab b1.lb b1.cb, .slice b1.ak b1.lk b1.ck, .slice b1.ai b1.li b1.ci, .int .i64 b2.kind, .int .u64 b2.num, .bool b2.neg, .string b2.dig, .int .i64 b2.exp, .string b2.txt, .slice b2.ab b2.lb b2.cb, .slice b2.ak b2.lk b2.ck, .slice b2.ai b2.li b2.ci] 26)).alloc (.cells #[.int .i64 7, .int .u64 0, .bool false, .string ⟨#[]⟩, .int .i64 0, .string ⟨#[]⟩, .slice none 0 0, .slice none 0 0, .slice (some ⟨W7.heap.size, 0, none⟩) 2 2] 26)).cell? ⟨W7.heap.size, j, none⟩ = (#[.int .i64 b1.kind, .int .u64 b1.num, .bool b1.neg, .string b1.dig, .int .i64 b1.exp, .string b1.txt, .slice b1.ab b1.lb b1.cb, .slice b1.ak b1.lk b1.ck, .slice b1.ai b1.li b1.ci, .int .i64 b2.kind, .int .u64 b2.num, .bool b2.neg, .string b2.dig, .int .i64 b2.exp, .string b2.txt, .slice b2.ab b2.lb b2.cb, .slice b2.ak b2.lk b2.ck, .slice b2.ai b2.li b2.ci] : Array Value)[j]? := fun j => by
    rw [A2.cell (p := ⟨W7.heap.size, j, none⟩) (by simp)]
    exact cell_row (heap_alloc_new W7 _) j
  refine ⟨⟨rfl, rfl, rfl, rfl, rfl, rfl⟩, ⟨by show (Lit.int .i64 7).wf = true; decide, by show (Lit.int .u64 0).wf = true; decide, by show (Lit.int .i64 0).wf = true; decide, by show (0 : Nat) ≤ _; omega, by show (0 : Nat) ≤ _; omega⟩, ⟨rfl, room_nil _, bytes_nil _⟩, rowN_nil _ _, rfl, ⟨Nat.le_refl _, by show (2 : Nat) ≤ maxLen; decide, fun h => by simp [twoN] at h, by show 2 * 136 ≤ _; omega⟩, .inr ⟨W7.heap.size, 0, rfl, fun i hi => ?_⟩⟩
  have hi2 : i < 2 := hi
  rcases i with _ | _ | i
  · refine ⟨b1, fun j hj => ?_, (h1.kept A3).le (by omega)⟩
    rw [hc]
    rcases j with _ | _ | _ | _ | _ | _ | _ | _ | _ | j
    all_goals first | rfl | omega
  · refine ⟨b2, fun j hj => ?_, (h2.kept A3).le (by omega)⟩
    rw [hc]
    rcases j with _ | _ | _ | _ | _ | _ | _ | _ | _ | j
    all_goals first | rfl | omega
  · omega
set_option maxHeartbeats 2000000 in
set_option maxRecDepth 100000 in
theorem wboth_d (a0 : Option Addr) (n0 c0 : Nat) (zs : List Int) (a1 : Option Addr) (n1 c1 : Nat) (ys : List Int) (w : World) (hl0 : zs.length = n0) (hb0 : Bytes w a0 zs) (hc0 : n0 ≤ c0) (hm0 : c0 ≤ 140737488351232) (hn0 : a0 = none → c0 = 0)
    (hl1 : ys.length = n1) (hb1 : Bytes w a1 ys) (hc1 : n1 ≤ c1) (hm1 : c1 ≤ 140737488351232) (hn1 : a1 = none → c1 = 0) (hX : (parA zs).2.1 = 0) (hX2 : (parA ys).2.1 = 0) (hL : n0 + n1 + 3 ≤ 4096) (hM : (arrT [(parA zs).1, (parA ys).1]).May (fun u => alF u = 0)) :
    Calls Tryz.prog 7 #[.slice a0 n0 c0, .slice a1 n1 c1] w fun e w' => e = .returned (.bool true) ∧ Below w.heap.size w w' := by
  have k1 := rparse_any a0 n0 c0 zs w hl0 hb0 hc0 (by omega)
  have k2 : Hid (∀ w', Below w.heap.size w w' → Calls Tryz.prog 9 #[.slice a1 n1 c1] w' fun e w'' => ∃ D b, e = .returned (.tuple #[.agg b.arr, .agg #[.int .i64 (parA ys).2.1, .int .i64 ((parA ys).2.2 : Nat)]]) ∧ Nd D w'' b (parA ys).1 ∧ Below w'.heap.size w' w'') := fun w' h => rparse_any a1 n1 c1 ys w' hl1 (hb1.kept h) hc1 (by omega)
  have k3 : Hid (∀ w' a n c, (bothL zs ys).length = n → Bytes w' a (bothL zs ys) → n ≤ c → Calls Tryz.prog 9 #[.slice a n c] w' fun e w'' => ∃ D b, e = .returned (.tuple #[.agg b.arr, .agg #[.int .i64 (parA (bothL zs ys)).2.1, .int .i64 ((parA (bothL zs ys)).2.2 : Nat)]]) ∧ Nd D w'' b (parA (bothL zs ys)).1 ∧ Below w'.heap.size w' w'') := fun w' a n c h1 h2 h3 => rparse_any a n c _ w' h1 h2 h3 (by rw [← h1]; simp [bothL]; omega)
  have k4 : Hid (∀ w' a n c, (bothL zs ys).length = n → Bytes w' a (bothL zs ys) → n ≤ c → Calls Tryz.prog 13 #[.slice a n c] w' fun e w'' => e = .returned (.bool (decide ((readA (newS true) (bothL zs ys)).2.1 = 0))) ∧ Below w'.heap.size w' w'') := fun w' a n c h1 h2 h3 => rvalid_any a n c _ w' h1 h2 h3 (by rw [← h1]; simp [bothL]; omega)
  have hE : Hid (((([91] ++ zs) ++ [44]) ++ ys) ++ [93] = bothL zs ys) := by show _ = _; simp [bothL]
  have HL : Hid (n0 + n1 + 3 ≤ 4096 ∧ zs.length = n0 ∧ ys.length = n1) := ⟨hL, hl0, hl1⟩
  have HB0 : Hid (Bytes w a0 zs ∧ (a0 = none → c0 = 0)) := ⟨hb0, hn0⟩
  have HB1 : Hid (Bytes w a1 ys ∧ (a1 = none → c1 = 0)) := ⟨hb1, hn1⟩
  have hPB := par_both hX hX2 (by omega)
  have e0 : (parA zs).2.2 = 0 := (par_right hX).1
  have e1 : (parA ys).2.2 = 0 := (par_right hX2).1
  obtain ⟨⟨T1, X1, Y1⟩, hP1⟩ : ∃ R, parA zs = R := ⟨_, rfl⟩
  rw [hP1] at k1 hX e0 hPB
  obtain ⟨⟨T2, X2, Y2⟩, hP2⟩ : ∃ R, parA ys = R := ⟨_, rfl⟩
  rw [hP2] at k2 hX2 e1 hPB
  obtain ⟨⟨T3, X3, Y3⟩, hP3⟩ : ∃ R, parA (bothL zs ys) = R := ⟨_, rfl⟩
  rw [hP3] at k3 hPB
  generalize (readA (newS true) (bothL zs ys)).2.1 = V at *
  simp only at k1 k2 k3 hX hX2 e0 e1 hPB
  subst hX e0 hX2 e1
  simp only [show ((0 : Nat) : Int) = 0 from rfl] at k1 k2
  rw [hP1, hP2] at hM
  have hT := hPB.1 hM
  simp only [Prod.mk.injEq] at hT
  obtain ⟨rfl, rfl, rfl⟩ := hT
  simp only [show ((0 : Nat) : Int) = 0 from rfl] at k3
  have hM' : Hid ((arrT [T1, T2]).May (fun u => alF u = 0)) := hM
  clear hPB hM
  have v1 : IntKind.i64.wrap ((n0 : Int) + (n1 : Int)) = (n0 : Int) + (n1 : Int) := by rw [IntKind.wrap_i64]; omega
  have v2 : IntKind.i64.wrap ((n0 : Int) + (n1 : Int) + 3) = (n0 : Int) + (n1 : Int) + 3 := by rw [IntKind.wrap_i64]; omega
  have v3 : decide ((4096 : Int) < (n0 : Int) + (n1 : Int) + 3) = false := by simp; omega
  clear hP1 hP2 hP3 hL hl0 hb0 hc0 hm0 hn0 hl1 hb1 hc1 hm1 hn1
  go_enter Tryz.func7, Tryz.ntmps7
  go_wp2_with (go_at_call 9; refine k1.mono ?_; rintro e w1 ⟨D1, b1, he, hN, hB⟩; rw [Nb.arr] at he; subst he; clear k1; have G1 : Hid (PS w ((w1.alloc (.cells #[.int .i64 b1.kind, .int .u64 b1.num, .bool b1.neg, .string b1.dig, .int .i64 b1.exp, .string b1.txt, .slice b1.ab b1.lb b1.cb, .slice b1.ak b1.lk b1.ck, .slice b1.ai b1.li b1.ci] 26)).alloc (.cells #[.int .i64 0, .int .i64 0] 29)) w1.heap.size b1 T1 0 0) := ps_new hB hN; clear hN hB)
  generalize ((w1.alloc (.cells #[.int .i64 b1.kind, .int .u64 b1.num, .bool b1.neg, .string b1.dig, .int .i64 b1.exp, .string b1.txt, .slice b1.ab b1.lb b1.cb, .slice b1.ak b1.lk b1.ck, .slice b1.ai b1.li b1.ci] 26)).alloc (.cells #[.int .i64 0, .int .i64 0] 29)) = W1 at *
  generalize w1.heap.size = p1 at *
  refine (k2.out W1 G1.out.bel).mono ?_
  rintro e w2 ⟨D2, b2, he, hN, hB⟩
  rw [Nb.arr] at he
  subst he
  clear k2
  have G2 : Hid (PS W1 ((w2.alloc (.cells #[.int .i64 b2.kind, .int .u64 b2.num, .bool b2.neg, .string b2.dig, .int .i64 b2.exp, .string b2.txt, .slice b2.ab b2.lb b2.cb, .slice b2.ak b2.lk b2.ck, .slice b2.ai b2.li b2.ci] 26)).alloc (.cells #[.int .i64 0, .int .i64 0] 29)) w2.heap.size b2 T2 0 0) := ps_new hB hN
  have H1 : Hid (PS w ((w2.alloc (.cells #[.int .i64 b2.kind, .int .u64 b2.num, .bool b2.neg, .string b2.dig, .int .i64 b2.exp, .string b2.txt, .slice b2.ab b2.lb b2.cb, .slice b2.ak b2.lk b2.ck, .slice b2.ai b2.li b2.ci] 26)).alloc (.cells #[.int .i64 0, .int .i64 0] 29)) p1 b1 T1 0 0) := G1.out.kept G2.out.bel
  have z0 := H1.out.flt.cell 0
  have z1 := H1.out.flt.cell 1
  have y0 := G2.out.flt.cell 0
  have y1 := G2.out.flt.cell 1
  clear hN hB G1
  have s2 : ((w2.alloc (.cells #[.int .i64 b2.kind, .int .u64 b2.num, .bool b2.neg, .string b2.dig, .int .i64 b2.exp, .string b2.txt, .slice b2.ab b2.lb b2.cb, .slice b2.ak b2.lk b2.ck, .slice b2.ai b2.li b2.ci] 26)).alloc (.cells #[.int .i64 0, .int .i64 0] 29)).heap.size = w2.heap.size + 1 + 1 := by simp
  have S2 : Hid (((w2.alloc (.cells #[.int .i64 b2.kind, .int .u64 b2.num, .bool b2.neg, .string b2.dig, .int .i64 b2.exp, .string b2.txt, .slice b2.ab b2.lb b2.cb, .slice b2.ak b2.lk b2.ck, .slice b2.ai b2.li b2.ci] 26)).alloc (.cells #[.int .i64 0, .int .i64 0] 29)).heap.size = w2.heap.size + 1 + 1) := s2
  have O1 : Hid (OwnsB (((w2.alloc (.cells #[.int .i64 b2.kind, .int .u64 b2.num, .bool b2.neg, .string b2.dig, .int .i64 b2.exp, .string b2.txt, .slice b2.ab b2.lb b2.cb, .slice b2.ak b2.lk b2.ck, .slice b2.ai b2.li b2.ci] 26)).alloc (.cells #[.int .i64 0, .int .i64 0] 29)).alloc (.cells #[.int .u8 91] 5)) (w2.heap.size + 1 + 1) (.slice (some ⟨w2.heap.size + 1 + 1, 0, none⟩) 1 1) [91]) := by have h := ownsB_one ((w2.alloc (.cells #[.int .i64 b2.kind, .int .u64 b2.num, .bool b2.neg, .string b2.dig, .int .i64 b2.exp, .string b2.txt, .slice b2.ab b2.lb b2.cb, .slice b2.ak b2.lk b2.ck, .slice b2.ai b2.li b2.ci] 26)).alloc (.cells #[.int .i64 0, .int .i64 0] 29)) (c := 91) (by decide); rw [s2] at h; exact h
  have BB : Hid (Below w.heap.size w ((w2.alloc (.cells #[.int .i64 b2.kind, .int .u64 b2.num, .bool b2.neg, .string b2.dig, .int .i64 b2.exp, .string b2.txt, .slice b2.ab b2.lb b2.cb, .slice b2.ak b2.lk b2.ck, .slice b2.ai b2.li b2.ci] 26)).alloc (.cells #[.int .i64 0, .int .i64 0] 29))) := H1.out.bel
  clear s2
  go_wp2_with (first
    | (at_builtin; guard_hyp HB0; refine wpList_append_bytes rfl _ _ rfl (w2.heap.size + 1 + 1) (.slice (some ⟨w2.heap.size + 1 + 1, 0, none⟩) 1 1) [91] zs rfl O1.out a0 n0 c0 rfl HL.out.2.1 HB0.out.2 ((HB0.out.1.kept BB.out).kept (alloc_below ((w2.alloc (.cells #[.int .i64 b2.kind, .int .u64 b2.num, .bool b2.neg, .string b2.dig, .int .i64 b2.exp, .string b2.txt, .slice b2.ab b2.lb b2.cb, .slice b2.ak b2.lk b2.ck, .slice b2.ai b2.li b2.ci] 26)).alloc (.cells #[.int .i64 0, .int .i64 0] 29)) _)) (by have := HL.out; simp; omega) (by rw [← S2.out]; simp) ?_; intro v3 w3 hO3 hg3; have b3 : Hid (Below (w2.heap.size + 1 + 1) ((w2.alloc (.cells #[.int .i64 b2.kind, .int .u64 b2.num, .bool b2.neg, .string b2.dig, .int .i64 b2.exp, .string b2.txt, .slice b2.ab b2.lb b2.cb, .slice b2.ak b2.lk b2.ck, .slice b2.ai b2.li b2.ci] 26)).alloc (.cells #[.int .i64 0, .int .i64 0] 29)) w3) := grown_below (S2.out ▸ alloc_below ((w2.alloc (.cells #[.int .i64 b2.kind, .int .u64 b2.num, .bool b2.neg, .string b2.dig, .int .i64 b2.exp, .string b2.txt, .slice b2.ab b2.lb b2.cb, .slice b2.ak b2.lk b2.ck, .slice b2.ai b2.li b2.ci] 26)).alloc (.cells #[.int .i64 0, .int .i64 0] 29)) _) O1.out hg3 (by rw [← S2.out]; simp); have O3 : Hid (OwnsB w3 (w2.heap.size + 1 + 1) v3 ([91] ++ zs)) := hO3; have L3 : Hid (w2.heap.size + 1 + 1 ≤ w3.heap.size) := S2.out ▸ b3.out.size; clear hO3 hg3 HB0 O1)
    | (at_builtin; guard_hyp HB1; guard_hyp O3; refine wpList_append_bytes rfl _ _ rfl (w2.heap.size + 1 + 1) v3 ([91] ++ zs) [44] rfl (O3.out.alloc _) (some ⟨w3.heap.size, 0, none⟩) 1 1 rfl rfl (by simp) (bytes_row w3 [44] (0, 0) (by decide) (by decide)) (by have := HL.out; simp; omega) (Nat.le_trans L3.out (by simp)) ?_; intro v4 w4 hO4 hg4; have b4 : Hid (Below (w2.heap.size + 1 + 1) ((w2.alloc (.cells #[.int .i64 b2.kind, .int .u64 b2.num, .bool b2.neg, .string b2.dig, .int .i64 b2.exp, .string b2.txt, .slice b2.ab b2.lb b2.cb, .slice b2.ak b2.lk b2.ck, .slice b2.ai b2.li b2.ci] 26)).alloc (.cells #[.int .i64 0, .int .i64 0] 29)) w4) := grown_below (b3.out.trans ((alloc_below w3 _).mono L3.out)) (O3.out.alloc _) hg4 (Nat.le_trans L3.out (by simp)); have O4 : Hid (OwnsB w4 (w2.heap.size + 1 + 1) v4 (([91] ++ zs) ++ [44])) := hO4; have L4 : Hid (w2.heap.size + 1 + 1 ≤ w4.heap.size) := S2.out ▸ b4.out.size; clear hO4 hg4 O3 b3 L3)
    | (at_builtin; guard_hyp HB1; guard_hyp O4; refine wpList_append_bytes rfl _ _ rfl (w2.heap.size + 1 + 1) v4 (([91] ++ zs) ++ [44]) ys rfl O4.out a1 n1 c1 rfl HL.out.2.2 HB1.out.2 ((HB1.out.1.kept BB.out).kept (S2.out ▸ b4.out)) (by have := HL.out; simp; omega) L4.out ?_; intro v5 w5 hO5 hg5; have b5 : Hid (Below (w2.heap.size + 1 + 1) ((w2.alloc (.cells #[.int .i64 b2.kind, .int .u64 b2.num, .bool b2.neg, .string b2.dig, .int .i64 b2.exp, .string b2.txt, .slice b2.ab b2.lb b2.cb, .slice b2.ak b2.lk b2.ck, .slice b2.ai b2.li b2.ci] 26)).alloc (.cells #[.int .i64 0, .int .i64 0] 29)) w5) := grown_below b4.out O4.out hg5 L4.out; have O5 : Hid (OwnsB w5 (w2.heap.size + 1 + 1) v5 ((([91] ++ zs) ++ [44]) ++ ys)) := hO5; have L5 : Hid (w2.heap.size + 1 + 1 ≤ w5.heap.size) := S2.out ▸ b5.out.size; clear hO5 hg5 O4 b4 HB1 L4)
    | (at_builtin; guard_hyp O5; refine wpList_append_bytes rfl _ _ rfl (w2.heap.size + 1 + 1) v5 ((([91] ++ zs) ++ [44]) ++ ys) [93] rfl (O5.out.alloc _) (some ⟨w5.heap.size, 0, none⟩) 1 1 rfl rfl (by simp) (bytes_row w5 [93] (0, 0) (by decide) (by decide)) (by have := HL.out; simp; omega) (Nat.le_trans L5.out (by simp)) ?_; intro v6 w6 hO6 hg6; have b6 : Hid (Below (w2.heap.size + 1 + 1) ((w2.alloc (.cells #[.int .i64 b2.kind, .int .u64 b2.num, .bool b2.neg, .string b2.dig, .int .i64 b2.exp, .string b2.txt, .slice b2.ab b2.lb b2.cb, .slice b2.ak b2.lk b2.ck, .slice b2.ai b2.li b2.ci] 26)).alloc (.cells #[.int .i64 0, .int .i64 0] 29)) w6) := grown_below (b5.out.trans ((alloc_below w5 _).mono L5.out)) (O5.out.alloc _) hg6 (Nat.le_trans L5.out (by simp)); rw [hE.out] at hO6; obtain ⟨a2, n2, c2, rfl, hl2, _, hc2, hm2, hB2⟩ := hO6.form; have F6 : Hid ((bothL zs ys).length = n2 ∧ Bytes w6 a2 (bothL zs ys) ∧ n2 ≤ c2) := ⟨hl2.out, hB2, hc2⟩; have k3' := k3.out w6 a2 n2 c2 F6.out.1 F6.out.2.1 F6.out.2.2; clear hO6 hg6 O5 b5 L5 hl2 hc2 hm2 hB2 k3))
  have b6' : Hid (Below ((w2.alloc (.cells #[.int .i64 b2.kind, .int .u64 b2.num, .bool b2.neg, .string b2.dig, .int .i64 b2.exp, .string b2.txt, .slice b2.ab b2.lb b2.cb, .slice b2.ak b2.lk b2.ck, .slice b2.ai b2.li b2.ci] 26)).alloc (.cells #[.int .i64 0, .int .i64 0] 29)).heap.size ((w2.alloc (.cells #[.int .i64 b2.kind, .int .u64 b2.num, .bool b2.neg, .string b2.dig, .int .i64 b2.exp, .string b2.txt, .slice b2.ab b2.lb b2.cb, .slice b2.ak b2.lk b2.ck, .slice b2.ai b2.li b2.ci] 26)).alloc (.cells #[.int .i64 0, .int .i64 0] 29)) w6) := by have h := b6.out; rw [← S2.out] at h; exact h
  clear b6 S2
  generalize ((w2.alloc (.cells #[.int .i64 b2.kind, .int .u64 b2.num, .bool b2.neg, .string b2.dig, .int .i64 b2.exp, .string b2.txt, .slice b2.ab b2.lb b2.cb, .slice b2.ak b2.lk b2.ck, .slice b2.ai b2.li b2.ci] 26)).alloc (.cells #[.int .i64 0, .int .i64 0] 29)) = W2 at *
  generalize w2.heap.size = p2 at *
  refine k3'.mono ?_
  rintro e w7 ⟨D3, b3, he, hN, hB⟩
  rw [Nb.arr] at he
  subst he
  clear k3'
  have G3 : Hid (PS w6 ((w7.alloc (.cells #[.int .i64 b3.kind, .int .u64 b3.num, .bool b3.neg, .string b3.dig, .int .i64 b3.exp, .string b3.txt, .slice b3.ab b3.lb b3.cb, .slice b3.ak b3.lk b3.ck, .slice b3.ai b3.li b3.ci] 26)).alloc (.cells #[.int .i64 0, .int .i64 0] 29)) w7.heap.size b3 (arrT [T1, T2]) 0 0) := ps_new hB hN
  have B7 : Hid (Below W2.heap.size W2 ((w7.alloc (.cells #[.int .i64 b3.kind, .int .u64 b3.num, .bool b3.neg, .string b3.dig, .int .i64 b3.exp, .string b3.txt, .slice b3.ab b3.lb b3.cb, .slice b3.ak b3.lk b3.ck, .slice b3.ai b3.li b3.ci] 26)).alloc (.cells #[.int .i64 0, .int .i64 0] 29))) := b6'.out.trans (G3.out.bel.mono b6'.out.size)
  have H2 : Hid (PS w ((w7.alloc (.cells #[.int .i64 b3.kind, .int .u64 b3.num, .bool b3.neg, .string b3.dig, .int .i64 b3.exp, .string b3.txt, .slice b3.ab b3.lb b3.cb, .slice b3.ak b3.lk b3.ck, .slice b3.ai b3.li b3.ci] 26)).alloc (.cells #[.int .i64 0, .int .i64 0] 29)) p1 b1 T1 0 0) := H1.out.kept B7.out
  have H3 : Hid (PS W1 ((w7.alloc (.cells #[.int .i64 b3.kind, .int .u64 b3.num, .bool b3.neg, .string b3.dig, .int .i64 b3.exp, .string b3.txt, .slice b3.ab b3.lb b3.cb, .slice b3.ak b3.lk b3.ck, .slice b3.ai b3.li b3.ci] 26)).alloc (.cells #[.int .i64 0, .int .i64 0] 29)) p2 b2 T2 0 0) := G2.out.kept B7.out
  have F7 : Hid ((bothL zs ys).length = n2 ∧ Bytes ((w7.alloc (.cells #[.int .i64 b3.kind, .int .u64 b3.num, .bool b3.neg, .string b3.dig, .int .i64 b3.exp, .string b3.txt, .slice b3.ab b3.lb b3.cb, .slice b3.ak b3.lk b3.ck, .slice b3.ai b3.li b3.ci] 26)).alloc (.cells #[.int .i64 0, .int .i64 0] 29)) a2 (bothL zs ys) ∧ n2 ≤ c2) := ⟨F6.out.1, F6.out.2.1.kept G3.out.bel, F6.out.2.2⟩
  obtain ⟨m0, m1, m2, m3, m4, m5, m6, m7, m8⟩ := H2.out.box.fields
  obtain ⟨q0, q1, q2, q3, q4, q5, q6, q7, q8⟩ := H3.out.box.fields
  clear hN hB F6 b6' B7 H1 G2
  go_wp2_with fail
  have S7 : ((w7.alloc (.cells #[.int .i64 b3.kind, .int .u64 b3.num, .bool b3.neg, .string b3.dig, .int .i64 b3.exp, .string b3.txt, .slice b3.ab b3.lb b3.cb, .slice b3.ak b3.lk b3.ck, .slice b3.ai b3.li b3.ci] 26)).alloc (.cells #[.int .i64 0, .int .i64 0] 29)).heap.size = w7.heap.size + 1 + 1 := by simp
  obtain ⟨E1, N1⟩ := H2.out.nd
  obtain ⟨E2, N2⟩ := H3.out.nd
  have N8 := nd_two N1 N2
  rw [S7] at N8
  have kC := echeck_any N8
  simp only [twoN, Nb.arr] at kC
  have A8 : Hid (Below ((w7.alloc (.cells #[.int .i64 b3.kind, .int .u64 b3.num, .bool b3.neg, .string b3.dig, .int .i64 b3.exp, .string b3.txt, .slice b3.ab b3.lb b3.cb, .slice b3.ak b3.lk b3.ck, .slice b3.ai b3.li b3.ci] 26)).alloc (.cells #[.int .i64 0, .int .i64 0] 29)).heap.size ((w7.alloc (.cells #[.int .i64 b3.kind, .int .u64 b3.num, .bool b3.neg, .string b3.dig, .int .i64 b3.exp, .string b3.txt, .slice b3.ab b3.lb b3.cb, .slice b3.ak b3.lk b3.ck, .slice b3.ai b3.li b3.ci] 26)).alloc (.cells #[.int .i64 0, .int .i64 0] 29)) ((((w7.alloc (.cells #[.int .i64 b3.kind, .int .u64 b3.num, .bool b3.neg, .string b3.dig, .int .i64 b3.exp, .string b3.txt, .slice b3.ab b3.lb b3.cb, .slice b3.ak b3.lk b3.ck, .slice b3.ai b3.li b3.ci] 26)).alloc (.cells #[.int .i64 0, .int .i64 0] 29)).alloc (.cells #[.int .i64 b1.kind, .int .u64 b1.num, .bool b1.neg, .string b1.dig, .int .i64 b1.exp, .string b1.txt, .slice b1.ab b1.lb b1.cb, .slice b1.ak b1.lk b1.ck, .slice b1.ai b1.li b1.ci, .int .i64 b2.kind, .int .u64 b2.num, .bool b2.neg, .string b2.dig, .int .i64 b2.exp, .string b2.txt, .slice b2.ab b2.lb b2.cb, .slice b2.ak b2.lk b2.ck, .slice b2.ai b2.li b2.ci] 26)).alloc (.cells #[.int .i64 7, .int .u64 0, .bool false, .string ⟨#[]⟩, .int .i64 0, .string ⟨#[]⟩, .slice none 0 0, .slice none 0 0, .slice (some ⟨w7.heap.size + 1 + 1, 0, none⟩) 2 2] 26))) := (alloc_below _ _).trans ((alloc_below _ _).mono (by simp))
  have X8 : Hid (NBox ((((w7.alloc (.cells #[.int .i64 b3.kind, .int .u64 b3.num, .bool b3.neg, .string b3.dig, .int .i64 b3.exp, .string b3.txt, .slice b3.ab b3.lb b3.cb, .slice b3.ak b3.lk b3.ck, .slice b3.ai b3.li b3.ci] 26)).alloc (.cells #[.int .i64 0, .int .i64 0] 29)).alloc (.cells #[.int .i64 b1.kind, .int .u64 b1.num, .bool b1.neg, .string b1.dig, .int .i64 b1.exp, .string b1.txt, .slice b1.ab b1.lb b1.cb, .slice b1.ak b1.lk b1.ck, .slice b1.ai b1.li b1.ci, .int .i64 b2.kind, .int .u64 b2.num, .bool b2.neg, .string b2.dig, .int .i64 b2.exp, .string b2.txt, .slice b2.ab b2.lb b2.cb, .slice b2.ak b2.lk b2.ck, .slice b2.ai b2.li b2.ci] 26)).alloc (.cells #[.int .i64 7, .int .u64 0, .bool false, .string ⟨#[]⟩, .int .i64 0, .string ⟨#[]⟩, .slice none 0 0, .slice none 0 0, .slice (some ⟨w7.heap.size + 1 + 1, 0, none⟩) 2 2] 26)) (w7.heap.size + 1 + 1 + 1) (twoN (w7.heap.size + 1 + 1))) := by have h := nbox_new (((w7.alloc (.cells #[.int .i64 b3.kind, .int .u64 b3.num, .bool b3.neg, .string b3.dig, .int .i64 b3.exp, .string b3.txt, .slice b3.ab b3.lb b3.cb, .slice b3.ak b3.lk b3.ck, .slice b3.ai b3.li b3.ci] 26)).alloc (.cells #[.int .i64 0, .int .i64 0] 29)).alloc (.cells #[.int .i64 b1.kind, .int .u64 b1.num, .bool b1.neg, .string b1.dig, .int .i64 b1.exp, .string b1.txt, .slice b1.ab b1.lb b1.cb, .slice b1.ak b1.lk b1.ck, .slice b1.ai b1.li b1.ci, .int .i64 b2.kind, .int .u64 b2.num, .bool b2.neg, .string b2.dig, .int .i64 b2.exp, .string b2.txt, .slice b2.ab b2.lb b2.cb, .slice b2.ak b2.lk b2.ck, .slice b2.ai b2.li b2.ci] 26)) (twoN (w7.heap.size + 1 + 1)); rw [show (((w7.alloc (.cells #[.int .i64 b3.kind, .int .u64 b3.num, .bool b3.neg, .string b3.dig, .int .i64 b3.exp, .string b3.txt, .slice b3.ab b3.lb b3.cb, .slice b3.ak b3.lk b3.ck, .slice b3.ai b3.li b3.ci] 26)).alloc (.cells #[.int .i64 0, .int .i64 0] 29)).alloc (.cells #[.int .i64 b1.kind, .int .u64 b1.num, .bool b1.neg, .string b1.dig, .int .i64 b1.exp, .string b1.txt, .slice b1.ab b1.lb b1.cb, .slice b1.ak b1.lk b1.ck, .slice b1.ai b1.li b1.ci, .int .i64 b2.kind, .int .u64 b2.num, .bool b2.neg, .string b2.dig, .int .i64 b2.exp, .string b2.txt, .slice b2.ab b2.lb b2.cb, .slice b2.ak b2.lk b2.ck, .slice b2.ai b2.li b2.ci] 26)).heap.size = w7.heap.size + 1 + 1 + 1 by simp] at h; exact h
  have N8' : Hid (Nd (max E1 E2 + 1) ((((w7.alloc (.cells #[.int .i64 b3.kind, .int .u64 b3.num, .bool b3.neg, .string b3.dig, .int .i64 b3.exp, .string b3.txt, .slice b3.ab b3.lb b3.cb, .slice b3.ak b3.lk b3.ck, .slice b3.ai b3.li b3.ci] 26)).alloc (.cells #[.int .i64 0, .int .i64 0] 29)).alloc (.cells #[.int .i64 b1.kind, .int .u64 b1.num, .bool b1.neg, .string b1.dig, .int .i64 b1.exp, .string b1.txt, .slice b1.ab b1.lb b1.cb, .slice b1.ak b1.lk b1.ck, .slice b1.ai b1.li b1.ci, .int .i64 b2.kind, .int .u64 b2.num, .bool b2.neg, .string b2.dig, .int .i64 b2.exp, .string b2.txt, .slice b2.ab b2.lb b2.cb, .slice b2.ak b2.lk b2.ck, .slice b2.ai b2.li b2.ci] 26)).alloc (.cells #[.int .i64 7, .int .u64 0, .bool false, .string ⟨#[]⟩, .int .i64 0, .string ⟨#[]⟩, .slice none 0 0, .slice none 0 0, .slice (some ⟨w7.heap.size + 1 + 1, 0, none⟩) 2 2] 26)) (twoN (w7.heap.size + 1 + 1)) (arrT [T1, T2])) := N8
  have G8 : Hid (PS w6 ((((w7.alloc (.cells #[.int .i64 b3.kind, .int .u64 b3.num, .bool b3.neg, .string b3.dig, .int .i64 b3.exp, .string b3.txt, .slice b3.ab b3.lb b3.cb, .slice b3.ak b3.lk b3.ck, .slice b3.ai b3.li b3.ci] 26)).alloc (.cells #[.int .i64 0, .int .i64 0] 29)).alloc (.cells #[.int .i64 b1.kind, .int .u64 b1.num, .bool b1.neg, .string b1.dig, .int .i64 b1.exp, .string b1.txt, .slice b1.ab b1.lb b1.cb, .slice b1.ak b1.lk b1.ck, .slice b1.ai b1.li b1.ci, .int .i64 b2.kind, .int .u64 b2.num, .bool b2.neg, .string b2.dig, .int .i64 b2.exp, .string b2.txt, .slice b2.ab b2.lb b2.cb, .slice b2.ak b2.lk b2.ck, .slice b2.ai b2.li b2.ci] 26)).alloc (.cells #[.int .i64 7, .int .u64 0, .bool false, .string ⟨#[]⟩, .int .i64 0, .string ⟨#[]⟩, .slice none 0 0, .slice none 0 0, .slice (some ⟨w7.heap.size + 1 + 1, 0, none⟩) 2 2] 26)) w7.heap.size b3 (arrT [T1, T2]) 0 0) := G3.out.kept A8.out
  have BW8 : Hid (Below w.heap.size w ((((w7.alloc (.cells #[.int .i64 b3.kind, .int .u64 b3.num, .bool b3.neg, .string b3.dig, .int .i64 b3.exp, .string b3.txt, .slice b3.ab b3.lb b3.cb, .slice b3.ak b3.lk b3.ck, .slice b3.ai b3.li b3.ci] 26)).alloc (.cells #[.int .i64 0, .int .i64 0] 29)).alloc (.cells #[.int .i64 b1.kind, .int .u64 b1.num, .bool b1.neg, .string b1.dig, .int .i64 b1.exp, .string b1.txt, .slice b1.ab b1.lb b1.cb, .slice b1.ak b1.lk b1.ck, .slice b1.ai b1.li b1.ci, .int .i64 b2.kind, .int .u64 b2.num, .bool b2.neg, .string b2.dig, .int .i64 b2.exp, .string b2.txt, .slice b2.ab b2.lb b2.cb, .slice b2.ak b2.lk b2.ck, .slice b2.ai b2.li b2.ci] 26)).alloc (.cells #[.int .i64 7, .int .u64 0, .bool false, .string ⟨#[]⟩, .int .i64 0, .string ⟨#[]⟩, .slice none 0 0, .slice none 0 0, .slice (some ⟨w7.heap.size + 1 + 1, 0, none⟩) 2 2] 26))) := H2.out.bel.trans (A8.out.mono H2.out.bel.size)
  clear N1 N2 N8 m0 m1 m2 m3 m4 m5 m6 m7 m8 q0 q1 q2 q3 q4 q5 q6 q7 q8
  generalize ((((w7.alloc (.cells #[.int .i64 b3.kind, .int .u64 b3.num, .bool b3.neg, .string b3.dig, .int .i64 b3.exp, .string b3.txt, .slice b3.ab b3.lb b3.cb, .slice b3.ak b3.lk b3.ck, .slice b3.ai b3.li b3.ci] 26)).alloc (.cells #[.int .i64 0, .int .i64 0] 29)).alloc (.cells #[.int .i64 b1.kind, .int .u64 b1.num, .bool b1.neg, .string b1.dig, .int .i64 b1.exp, .string b1.txt, .slice b1.ab b1.lb b1.cb, .slice b1.ak b1.lk b1.ck, .slice b1.ai b1.li b1.ci, .int .i64 b2.kind, .int .u64 b2.num, .bool b2.neg, .string b2.dig, .int .i64 b2.exp, .string b2.txt, .slice b2.ab b2.lb b2.cb, .slice b2.ak b2.lk b2.ck, .slice b2.ai b2.li b2.ci] 26)).alloc (.cells #[.int .i64 7, .int .u64 0, .bool false, .string ⟨#[]⟩, .int .i64 0, .string ⟨#[]⟩, .slice none 0 0, .slice none 0 0, .slice (some ⟨w7.heap.size + 1 + 1, 0, none⟩) 2 2] 26)) = W8 at *
  refine kC.mono ?_
  rintro e w9 ⟨⟨er, rfl, hEr⟩, hB9⟩
  have he0 := (chk_zero hEr).2 hM'.out
  subst he0
  have G9 : Hid (PS w6 w9 w7.heap.size b3 (arrT [T1, T2]) 0 0) := G8.out.kept hB9
  have X9 : Hid (NBox w9 (w7.heap.size + 1 + 1 + 1) (twoN (w7.heap.size + 1 + 1))) := X8.out.kept hB9 X8.out.lt
  have N9 := N8'.out.kept hB9
  have BW9 : Hid (Below w.heap.size w w9) := BW8.out.trans (hB9.mono BW8.out.size)
  obtain ⟨E3, N3⟩ := G9.out.nd
  have kS := esame_any (v := true) N3 N9 (by have := hM'.out.1; simp [this])
  simp only [twoN, Nb.arr] at kS
  obtain ⟨m0, m1, m2, m3, m4, m5, m6, m7, m8⟩ := G9.out.box.fields
  obtain ⟨q0, q1, q2, q3, q4, q5, q6, q7, q8⟩ := X9.out.fields
  simp only [twoN] at q0 q1 q2 q3 q4 q5 q6 q7 q8
  have r0 := G9.out.flt.cell 0
  have r1 := G9.out.flt.cell 1
  clear kC hEr hB9 N9 N3 G8 X8 N8' BW8
  go_wp2_with (first
    | (go_at_call 11; refine kS.mono ?_; rintro e w10 ⟨rfl, hB10⟩; clear kS; have B10 : Hid (Below w.heap.size w w10) := BW9.out.trans (hB10.mono BW9.out.size); have kA := alive_any w10; clear hB10)
    | (go_at_call 12; refine kA.mono ?_; rintro e w11 ⟨rfl, hB11⟩))
  go_ret
  exact ⟨rfl, B10.out.trans (hB11.mono B10.out.size)⟩
end Go.Proofs.YtmlacmoembjeoaaGreatDoor
namespace Go.Proofs.YtmlacmoembjeoaaGreatDoor
open Go.RowKit
set_option linter.unusedVariables false
set_option maxHeartbeats 2000000 in
set_option maxRecDepth 100000 in
theorem wboth_e (a0 : Option Addr) (n0 c0 : Nat) (zs : List Int) (a1 : Option Addr) (n1 c1 : Nat) (ys : List Int) (w : World) (hl0 : zs.length = n0) (hb0 : Bytes w a0 zs) (hc0 : n0 ≤ c0) (hm0 : c0 ≤ 140737488351232) (hn0 : a0 = none → c0 = 0)
    (hl1 : ys.length = n1) (hb1 : Bytes w a1 ys) (hc1 : n1 ≤ c1) (hm1 : c1 ≤ 140737488351232) (hn1 : a1 = none → c1 = 0) (hX : (parA zs).2.1 = 0) (hX2 : (parA ys).2.1 = 0) (hL : n0 + n1 + 3 ≤ 4096) (hM : ¬ (arrT [(parA zs).1, (parA ys).1]).May (fun u => alF u = 0)) :
    Calls Tryz.prog 7 #[.slice a0 n0 c0, .slice a1 n1 c1] w fun e w' => e = .returned (.bool true) ∧ Below w.heap.size w w' := by
  have k1 := rparse_any a0 n0 c0 zs w hl0 hb0 hc0 (by omega)
  have k2 : Hid (∀ w', Below w.heap.size w w' → Calls Tryz.prog 9 #[.slice a1 n1 c1] w' fun e w'' => ∃ D b, e = .returned (.tuple #[.agg b.arr, .agg #[.int .i64 (parA ys).2.1, .int .i64 ((parA ys).2.2 : Nat)]]) ∧ Nd D w'' b (parA ys).1 ∧ Below w'.heap.size w' w'') := fun w' h => rparse_any a1 n1 c1 ys w' hl1 (hb1.kept h) hc1 (by omega)
  have k3 : Hid (∀ w' a n c, (bothL zs ys).length = n → Bytes w' a (bothL zs ys) → n ≤ c → Calls Tryz.prog 9 #[.slice a n c] w' fun e w'' => ∃ D b, e = .returned (.tuple #[.agg b.arr, .agg #[.int .i64 (parA (bothL zs ys)).2.1, .int .i64 ((parA (bothL zs ys)).2.2 : Nat)]]) ∧ Nd D w'' b (parA (bothL zs ys)).1 ∧ Below w'.heap.size w' w'') := fun w' a n c h1 h2 h3 => rparse_any a n c _ w' h1 h2 h3 (by rw [← h1]; simp [bothL]; omega)
  have k4 : Hid (∀ w' a n c, (bothL zs ys).length = n → Bytes w' a (bothL zs ys) → n ≤ c → Calls Tryz.prog 13 #[.slice a n c] w' fun e w'' => e = .returned (.bool (decide ((readA (newS true) (bothL zs ys)).2.1 = 0))) ∧ Below w'.heap.size w' w'') := fun w' a n c h1 h2 h3 => rvalid_any a n c _ w' h1 h2 h3 (by rw [← h1]; simp [bothL]; omega)
  have hE : Hid (((([91] ++ zs) ++ [44]) ++ ys) ++ [93] = bothL zs ys) := by show _ = _; simp [bothL]
  have HL : Hid (n0 + n1 + 3 ≤ 4096 ∧ zs.length = n0 ∧ ys.length = n1) := ⟨hL, hl0, hl1⟩
  have HB0 : Hid (Bytes w a0 zs ∧ (a0 = none → c0 = 0)) := ⟨hb0, hn0⟩
  have HB1 : Hid (Bytes w a1 ys ∧ (a1 = none → c1 = 0)) := ⟨hb1, hn1⟩
  have hPB := par_both hX hX2 (by omega)
  have e0 : (parA zs).2.2 = 0 := (par_right hX).1
  have e1 : (parA ys).2.2 = 0 := (par_right hX2).1
  obtain ⟨⟨T1, X1, Y1⟩, hP1⟩ : ∃ R, parA zs = R := ⟨_, rfl⟩
  rw [hP1] at k1 hX e0 hPB
  obtain ⟨⟨T2, X2, Y2⟩, hP2⟩ : ∃ R, parA ys = R := ⟨_, rfl⟩
  rw [hP2] at k2 hX2 e1 hPB
  obtain ⟨⟨T3, X3, Y3⟩, hP3⟩ : ∃ R, parA (bothL zs ys) = R := ⟨_, rfl⟩
  rw [hP3] at k3 hPB
  generalize (readA (newS true) (bothL zs ys)).2.1 = V at *
  simp only at k1 k2 k3 hX hX2 e0 e1 hPB
  subst hX e0 hX2 e1
  simp only [show ((0 : Nat) : Int) = 0 from rfl] at k1 k2
  rw [hP1, hP2] at hM
  have hT := hPB.2 hM
  have x3 : (X3 == 0) = false := by simpa using hT.1
  have hV := hT.2
  subst hV
  rw [decide_eq_true (show (0 : Int) = 0 from rfl)] at k4
  have hM' : Hid (¬ (arrT [T1, T2]).May (fun u => alF u = 0)) := hM
  clear hPB hM hT
  have v1 : IntKind.i64.wrap ((n0 : Int) + (n1 : Int)) = (n0 : Int) + (n1 : Int) := by rw [IntKind.wrap_i64]; omega
  have v2 : IntKind.i64.wrap ((n0 : Int) + (n1 : Int) + 3) = (n0 : Int) + (n1 : Int) + 3 := by rw [IntKind.wrap_i64]; omega
  have v3 : decide ((4096 : Int) < (n0 : Int) + (n1 : Int) + 3) = false := by simp; omega
  clear hP1 hP2 hP3 hL hl0 hb0 hc0 hm0 hn0 hl1 hb1 hc1 hm1 hn1
  go_enter Tryz.func7, Tryz.ntmps7
  go_wp2_with (go_at_call 9; refine k1.mono ?_; rintro e w1 ⟨D1, b1, he, hN, hB⟩; rw [Nb.arr] at he; subst he; clear k1; have G1 : Hid (PS w ((w1.alloc (.cells #[.int .i64 b1.kind, .int .u64 b1.num, .bool b1.neg, .string b1.dig, .int .i64 b1.exp, .string b1.txt, .slice b1.ab b1.lb b1.cb, .slice b1.ak b1.lk b1.ck, .slice b1.ai b1.li b1.ci] 26)).alloc (.cells #[.int .i64 0, .int .i64 0] 29)) w1.heap.size b1 T1 0 0) := ps_new hB hN; clear hN hB)
  generalize ((w1.alloc (.cells #[.int .i64 b1.kind, .int .u64 b1.num, .bool b1.neg, .string b1.dig, .int .i64 b1.exp, .string b1.txt, .slice b1.ab b1.lb b1.cb, .slice b1.ak b1.lk b1.ck, .slice b1.ai b1.li b1.ci] 26)).alloc (.cells #[.int .i64 0, .int .i64 0] 29)) = W1 at *
  generalize w1.heap.size = p1 at *
  refine (k2.out W1 G1.out.bel).mono ?_
  rintro e w2 ⟨D2, b2, he, hN, hB⟩
  rw [Nb.arr] at he
  subst he
  clear k2
  have G2 : Hid (PS W1 ((w2.alloc (.cells #[.int .i64 b2.kind, .int .u64 b2.num, .bool b2.neg, .string b2.dig, .int .i64 b2.exp, .string b2.txt, .slice b2.ab b2.lb b2.cb, .slice b2.ak b2.lk b2.ck, .slice b2.ai b2.li b2.ci] 26)).alloc (.cells #[.int .i64 0, .int .i64 0] 29)) w2.heap.size b2 T2 0 0) := ps_new hB hN
  have H1 : Hid (PS w ((w2.alloc (.cells #[.int .i64 b2.kind, .int .u64 b2.num, .bool b2.neg, .string b2.dig, .int .i64 b2.exp, .string b2.txt, .slice b2.ab b2.lb b2.cb, .slice b2.ak b2.lk b2.ck, .slice b2.ai b2.li b2.ci] 26)).alloc (.cells #[.int .i64 0, .int .i64 0] 29)) p1 b1 T1 0 0) := G1.out.kept G2.out.bel
  have z0 := H1.out.flt.cell 0
  have z1 := H1.out.flt.cell 1
  have y0 := G2.out.flt.cell 0
  have y1 := G2.out.flt.cell 1
  clear hN hB G1
  have s2 : ((w2.alloc (.cells #[.int .i64 b2.kind, .int .u64 b2.num, .bool b2.neg, .string b2.dig, .int .i64 b2.exp, .string b2.txt, .slice b2.ab b2.lb b2.cb, .slice b2.ak b2.lk b2.ck, .slice b2.ai b2.li b2.ci] 26)).alloc (.cells #[.int .i64 0, .int .i64 0] 29)).heap.size = w2.heap.size + 1 + 1 := by simp
  have S2 : Hid (((w2.alloc (.cells #[.int .i64 b2.kind, .int .u64 b2.num, .bool b2.neg, .string b2.dig, .int .i64 b2.exp, .string b2.txt, .slice b2.ab b2.lb b2.cb, .slice b2.ak b2.lk b2.ck, .slice b2.ai b2.li b2.ci] 26)).alloc (.cells #[.int .i64 0, .int .i64 0] 29)).heap.size = w2.heap.size + 1 + 1) := s2
  have O1 : Hid (OwnsB (((w2.alloc (.cells #[.int .i64 b2.kind, .int .u64 b2.num, .bool b2.neg, .string b2.dig, .int .i64 b2.exp, .string b2.txt, .slice b2.ab b2.lb b2.cb, .slice b2.ak b2.lk b2.ck, .slice b2.ai b2.li b2.ci] 26)).alloc (.cells #[.int .i64 0, .int .i64 0] 29)).alloc (.cells #[.int .u8 91] 5)) (w2.heap.size + 1 + 1) (.slice (some ⟨w2.heap.size + 1 + 1, 0, none⟩) 1 1) [91]) := by have h := ownsB_one ((w2.alloc (.cells #[.int .i64 b2.kind, .int .u64 b2.num, .bool b2.neg, .string b2.dig, .int .i64 b2.exp, .string b2.txt, .slice b2.ab b2.lb b2.cb, .slice b2.ak b2.lk b2.ck, .slice b2.ai b2.li b2.ci] 26)).alloc (.cells #[.int .i64 0, .int .i64 0] 29)) (c := 91) (by decide); rw [s2] at h; exact h
  have BB : Hid (Below w.heap.size w ((w2.alloc (.cells #[.int .i64 b2.kind, .int .u64 b2.num, .bool b2.neg, .string b2.dig, .int .i64 b2.exp, .string b2.txt, .slice b2.ab b2.lb b2.cb, .slice b2.ak b2.lk b2.ck, .slice b2.ai b2.li b2.ci] 26)).alloc (.cells #[.int .i64 0, .int .i64 0] 29))) := H1.out.bel
  clear s2
  go_wp2_with (first
    | (at_builtin; guard_hyp HB0; refine wpList_append_bytes rfl _ _ rfl (w2.heap.size + 1 + 1) (.slice (some ⟨w2.heap.size + 1 + 1, 0, none⟩) 1 1) [91] zs rfl O1.out a0 n0 c0 rfl HL.out.2.1 HB0.out.2 ((HB0.out.1.kept BB.out).kept (alloc_below ((w2.alloc (.cells #[.int .i64 b2.kind, .int .u64 b2.num, .bool b2.neg, .string b2.dig, .int .i64 b2.exp, .string b2.txt, .slice b2.ab b2.lb b2.cb, .slice b2.ak b2.lk b2.ck, .slice b2.ai b2.li b2.ci] 26)).alloc (.cells #[.int .i64 0, .int .i64 0] 29)) _)) (by have := HL.out; simp; omega) (by rw [← S2.out]; simp) ?_; intro v3 w3 hO3 hg3; have b3 : Hid (Below (w2.heap.size + 1 + 1) ((w2.alloc (.cells #[.int .i64 b2.kind, .int .u64 b2.num, .bool b2.neg, .string b2.dig, .int .i64 b2.exp, .string b2.txt, .slice b2.ab b2.lb b2.cb, .slice b2.ak b2.lk b2.ck, .slice b2.ai b2.li b2.ci] 26)).alloc (.cells #[.int .i64 0, .int .i64 0] 29)) w3) := grown_below (S2.out ▸ alloc_below ((w2.alloc (.cells #[.int .i64 b2.kind, .int .u64 b2.num, .bool b2.neg, .string b2.dig, .int .i64 b2.exp, .string b2.txt, .slice b2.ab b2.lb b2.cb, .slice b2.ak b2.lk b2.ck, .slice b2.ai b2.li b2.ci] 26)).alloc (.cells #[.int .i64 0, .int .i64 0] 29)) _) O1.out hg3 (by rw [← S2.out]; simp); have O3 : Hid (OwnsB w3 (w2.heap.size + 1 + 1) v3 ([91] ++ zs)) := hO3; have L3 : Hid (w2.heap.size + 1 + 1 ≤ w3.heap.size) := S2.out ▸ b3.out.size; clear hO3 hg3 HB0 O1)
    | (at_builtin; guard_hyp HB1; guard_hyp O3; refine wpList_append_bytes rfl _ _ rfl (w2.heap.size + 1 + 1) v3 ([91] ++ zs) [44] rfl (O3.out.alloc _) (some ⟨w3.heap.size, 0, none⟩) 1 1 rfl rfl (by simp) (bytes_row w3 [44] (0, 0) (by decide) (by decide)) (by have := HL.out; simp; omega) (Nat.le_trans L3.out (by simp)) ?_; intro v4 w4 hO4 hg4; have b4 : Hid (Below (w2.heap.size + 1 + 1) ((w2.alloc (.cells #[.int .i64 b2.kind, .int .u64 b2.num, .bool b2.neg, .string b2.dig, .int .i64 b2.exp, .string b2.txt, .slice b2.ab b2.lb b2.cb, .slice b2.ak b2.lk b2.ck, .slice b2.ai b2.li b2.ci] 26)).alloc (.cells #[.int .i64 0, .int .i64 0] 29)) w4) := grown_below (b3.out.trans ((alloc_below w3 _).mono L3.out)) (O3.out.alloc _) hg4 (Nat.le_trans L3.out (by simp)); have O4 : Hid (OwnsB w4 (w2.heap.size + 1 + 1) v4 (([91] ++ zs) ++ [44])) := hO4; have L4 : Hid (w2.heap.size + 1 + 1 ≤ w4.heap.size) := S2.out ▸ b4.out.size; clear hO4 hg4 O3 b3 L3)
    | (at_builtin; guard_hyp HB1; guard_hyp O4; refine wpList_append_bytes rfl _ _ rfl (w2.heap.size + 1 + 1) v4 (([91] ++ zs) ++ [44]) ys rfl O4.out a1 n1 c1 rfl HL.out.2.2 HB1.out.2 ((HB1.out.1.kept BB.out).kept (S2.out ▸ b4.out)) (by have := HL.out; simp; omega) L4.out ?_; intro v5 w5 hO5 hg5; have b5 : Hid (Below (w2.heap.size + 1 + 1) ((w2.alloc (.cells #[.int .i64 b2.kind, .int .u64 b2.num, .bool b2.neg, .string b2.dig, .int .i64 b2.exp, .string b2.txt, .slice b2.ab b2.lb b2.cb, .slice b2.ak b2.lk b2.ck, .slice b2.ai b2.li b2.ci] 26)).alloc (.cells #[.int .i64 0, .int .i64 0] 29)) w5) := grown_below b4.out O4.out hg5 L4.out; have O5 : Hid (OwnsB w5 (w2.heap.size + 1 + 1) v5 ((([91] ++ zs) ++ [44]) ++ ys)) := hO5; have L5 : Hid (w2.heap.size + 1 + 1 ≤ w5.heap.size) := S2.out ▸ b5.out.size; clear hO5 hg5 O4 b4 HB1 L4)
    | (at_builtin; guard_hyp O5; refine wpList_append_bytes rfl _ _ rfl (w2.heap.size + 1 + 1) v5 ((([91] ++ zs) ++ [44]) ++ ys) [93] rfl (O5.out.alloc _) (some ⟨w5.heap.size, 0, none⟩) 1 1 rfl rfl (by simp) (bytes_row w5 [93] (0, 0) (by decide) (by decide)) (by have := HL.out; simp; omega) (Nat.le_trans L5.out (by simp)) ?_; intro v6 w6 hO6 hg6; have b6 : Hid (Below (w2.heap.size + 1 + 1) ((w2.alloc (.cells #[.int .i64 b2.kind, .int .u64 b2.num, .bool b2.neg, .string b2.dig, .int .i64 b2.exp, .string b2.txt, .slice b2.ab b2.lb b2.cb, .slice b2.ak b2.lk b2.ck, .slice b2.ai b2.li b2.ci] 26)).alloc (.cells #[.int .i64 0, .int .i64 0] 29)) w6) := grown_below (b5.out.trans ((alloc_below w5 _).mono L5.out)) (O5.out.alloc _) hg6 (Nat.le_trans L5.out (by simp)); rw [hE.out] at hO6; obtain ⟨a2, n2, c2, rfl, hl2, _, hc2, hm2, hB2⟩ := hO6.form; have F6 : Hid ((bothL zs ys).length = n2 ∧ Bytes w6 a2 (bothL zs ys) ∧ n2 ≤ c2) := ⟨hl2.out, hB2, hc2⟩; have k3' := k3.out w6 a2 n2 c2 F6.out.1 F6.out.2.1 F6.out.2.2; clear hO6 hg6 O5 b5 L5 hl2 hc2 hm2 hB2 k3))
  have b6' : Hid (Below ((w2.alloc (.cells #[.int .i64 b2.kind, .int .u64 b2.num, .bool b2.neg, .string b2.dig, .int .i64 b2.exp, .string b2.txt, .slice b2.ab b2.lb b2.cb, .slice b2.ak b2.lk b2.ck, .slice b2.ai b2.li b2.ci] 26)).alloc (.cells #[.int .i64 0, .int .i64 0] 29)).heap.size ((w2.alloc (.cells #[.int .i64 b2.kind, .int .u64 b2.num, .bool b2.neg, .string b2.dig, .int .i64 b2.exp, .string b2.txt, .slice b2.ab b2.lb b2.cb, .slice b2.ak b2.lk b2.ck, .slice b2.ai b2.li b2.ci] 26)).alloc (.cells #[.int .i64 0, .int .i64 0] 29)) w6) := by have h := b6.out; rw [← S2.out] at h; exact h
  clear b6 S2
  generalize ((w2.alloc (.cells #[.int .i64 b2.kind, .int .u64 b2.num, .bool b2.neg, .string b2.dig, .int .i64 b2.exp, .string b2.txt, .slice b2.ab b2.lb b2.cb, .slice b2.ak b2.lk b2.ck, .slice b2.ai b2.li b2.ci] 26)).alloc (.cells #[.int .i64 0, .int .i64 0] 29)) = W2 at *
  generalize w2.heap.size = p2 at *
  refine k3'.mono ?_
  rintro e w7 ⟨D3, b3, he, hN, hB⟩
  rw [Nb.arr] at he
  subst he
  clear k3'
  have G3 : Hid (PS w6 ((w7.alloc (.cells #[.int .i64 b3.kind, .int .u64 b3.num, .bool b3.neg, .string b3.dig, .int .i64 b3.exp, .string b3.txt, .slice b3.ab b3.lb b3.cb, .slice b3.ak b3.lk b3.ck, .slice b3.ai b3.li b3.ci] 26)).alloc (.cells #[.int .i64 X3, .int .i64 (Y3 : Nat)] 29)) w7.heap.size b3 T3 X3 (Y3 : Nat)) := ps_new hB hN
  have B7 : Hid (Below W2.heap.size W2 ((w7.alloc (.cells #[.int .i64 b3.kind, .int .u64 b3.num, .bool b3.neg, .string b3.dig, .int .i64 b3.exp, .string b3.txt, .slice b3.ab b3.lb b3.cb, .slice b3.ak b3.lk b3.ck, .slice b3.ai b3.li b3.ci] 26)).alloc (.cells #[.int .i64 X3, .int .i64 (Y3 : Nat)] 29))) := b6'.out.trans (G3.out.bel.mono b6'.out.size)
  have H2 : Hid (PS w ((w7.alloc (.cells #[.int .i64 b3.kind, .int .u64 b3.num, .bool b3.neg, .string b3.dig, .int .i64 b3.exp, .string b3.txt, .slice b3.ab b3.lb b3.cb, .slice b3.ak b3.lk b3.ck, .slice b3.ai b3.li b3.ci] 26)).alloc (.cells #[.int .i64 X3, .int .i64 (Y3 : Nat)] 29)) p1 b1 T1 0 0) := H1.out.kept B7.out
  have H3 : Hid (PS W1 ((w7.alloc (.cells #[.int .i64 b3.kind, .int .u64 b3.num, .bool b3.neg, .string b3.dig, .int .i64 b3.exp, .string b3.txt, .slice b3.ab b3.lb b3.cb, .slice b3.ak b3.lk b3.ck, .slice b3.ai b3.li b3.ci] 26)).alloc (.cells #[.int .i64 X3, .int .i64 (Y3 : Nat)] 29)) p2 b2 T2 0 0) := G2.out.kept B7.out
  have F7 : Hid ((bothL zs ys).length = n2 ∧ Bytes ((w7.alloc (.cells #[.int .i64 b3.kind, .int .u64 b3.num, .bool b3.neg, .string b3.dig, .int .i64 b3.exp, .string b3.txt, .slice b3.ab b3.lb b3.cb, .slice b3.ak b3.lk b3.ck, .slice b3.ai b3.li b3.ci] 26)).alloc (.cells #[.int .i64 X3, .int .i64 (Y3 : Nat)] 29)) a2 (bothL zs ys) ∧ n2 ≤ c2) := ⟨F6.out.1, F6.out.2.1.kept G3.out.bel, F6.out.2.2⟩
  obtain ⟨m0, m1, m2, m3, m4, m5, m6, m7, m8⟩ := H2.out.box.fields
  obtain ⟨q0, q1, q2, q3, q4, q5, q6, q7, q8⟩ := H3.out.box.fields
  clear hN hB F6 b6' B7 H1 G2
  go_wp2_with fail
  have S7 : ((w7.alloc (.cells #[.int .i64 b3.kind, .int .u64 b3.num, .bool b3.neg, .string b3.dig, .int .i64 b3.exp, .string b3.txt, .slice b3.ab b3.lb b3.cb, .slice b3.ak b3.lk b3.ck, .slice b3.ai b3.li b3.ci] 26)).alloc (.cells #[.int .i64 X3, .int .i64 (Y3 : Nat)] 29)).heap.size = w7.heap.size + 1 + 1 := by simp
  obtain ⟨E1, N1⟩ := H2.out.nd
  obtain ⟨E2, N2⟩ := H3.out.nd
  have N8 := nd_two N1 N2
  rw [S7] at N8
  have kC := echeck_any N8
  simp only [twoN, Nb.arr] at kC
  have A8 : Hid (Below ((w7.alloc (.cells #[.int .i64 b3.kind, .int .u64 b3.num, .bool b3.neg, .string b3.dig, .int .i64 b3.exp, .string b3.txt, .slice b3.ab b3.lb b3.cb, .slice b3.ak b3.lk b3.ck, .slice b3.ai b3.li b3.ci] 26)).alloc (.cells #[.int .i64 X3, .int .i64 (Y3 : Nat)] 29)).heap.size ((w7.alloc (.cells #[.int .i64 b3.kind, .int .u64 b3.num, .bool b3.neg, .string b3.dig, .int .i64 b3.exp, .string b3.txt, .slice b3.ab b3.lb b3.cb, .slice b3.ak b3.lk b3.ck, .slice b3.ai b3.li b3.ci] 26)).alloc (.cells #[.int .i64 X3, .int .i64 (Y3 : Nat)] 29)) ((((w7.alloc (.cells #[.int .i64 b3.kind, .int .u64 b3.num, .bool b3.neg, .string b3.dig, .int .i64 b3.exp, .string b3.txt, .slice b3.ab b3.lb b3.cb, .slice b3.ak b3.lk b3.ck, .slice b3.ai b3.li b3.ci] 26)).alloc (.cells #[.int .i64 X3, .int .i64 (Y3 : Nat)] 29)).alloc (.cells #[.int .i64 b1.kind, .int .u64 b1.num, .bool b1.neg, .string b1.dig, .int .i64 b1.exp, .string b1.txt, .slice b1.ab b1.lb b1.cb, .slice b1.ak b1.lk b1.ck, .slice b1.ai b1.li b1.ci, .int .i64 b2.kind, .int .u64 b2.num, .bool b2.neg, .string b2.dig, .int .i64 b2.exp, .string b2.txt, .slice b2.ab b2.lb b2.cb, .slice b2.ak b2.lk b2.ck, .slice b2.ai b2.li b2.ci] 26)).alloc (.cells #[.int .i64 7, .int .u64 0, .bool false, .string ⟨#[]⟩, .int .i64 0, .string ⟨#[]⟩, .slice none 0 0, .slice none 0 0, .slice (some ⟨w7.heap.size + 1 + 1, 0, none⟩) 2 2] 26))) := (alloc_below _ _).trans ((alloc_below _ _).mono (by simp))
  have X8 : Hid (NBox ((((w7.alloc (.cells #[.int .i64 b3.kind, .int .u64 b3.num, .bool b3.neg, .string b3.dig, .int .i64 b3.exp, .string b3.txt, .slice b3.ab b3.lb b3.cb, .slice b3.ak b3.lk b3.ck, .slice b3.ai b3.li b3.ci] 26)).alloc (.cells #[.int .i64 X3, .int .i64 (Y3 : Nat)] 29)).alloc (.cells #[.int .i64 b1.kind, .int .u64 b1.num, .bool b1.neg, .string b1.dig, .int .i64 b1.exp, .string b1.txt, .slice b1.ab b1.lb b1.cb, .slice b1.ak b1.lk b1.ck, .slice b1.ai b1.li b1.ci, .int .i64 b2.kind, .int .u64 b2.num, .bool b2.neg, .string b2.dig, .int .i64 b2.exp, .string b2.txt, .slice b2.ab b2.lb b2.cb, .slice b2.ak b2.lk b2.ck, .slice b2.ai b2.li b2.ci] 26)).alloc (.cells #[.int .i64 7, .int .u64 0, .bool false, .string ⟨#[]⟩, .int .i64 0, .string ⟨#[]⟩, .slice none 0 0, .slice none 0 0, .slice (some ⟨w7.heap.size + 1 + 1, 0, none⟩) 2 2] 26)) (w7.heap.size + 1 + 1 + 1) (twoN (w7.heap.size + 1 + 1))) := by have h := nbox_new (((w7.alloc (.cells #[.int .i64 b3.kind, .int .u64 b3.num, .bool b3.neg, .string b3.dig, .int .i64 b3.exp, .string b3.txt, .slice b3.ab b3.lb b3.cb, .slice b3.ak b3.lk b3.ck, .slice b3.ai b3.li b3.ci] 26)).alloc (.cells #[.int .i64 X3, .int .i64 (Y3 : Nat)] 29)).alloc (.cells #[.int .i64 b1.kind, .int .u64 b1.num, .bool b1.neg, .string b1.dig, .int .i64 b1.exp, .string b1.txt, .slice b1.ab b1.lb b1.cb, .slice b1.ak b1.lk b1.ck, .slice b1.ai b1.li b1.ci, .int .i64 b2.kind, .int .u64 b2.num, .bool b2.neg, .string b2.dig, .int .i64 b2.exp, .string b2.txt, .slice b2.ab b2.lb b2.cb, .slice b2.ak b2.lk b2.ck, .slice b2.ai b2.li b2.ci] 26)) (twoN (w7.heap.size + 1 + 1)); rw [show (((w7.alloc (.cells #[.int .i64 b3.kind, .int .u64 b3.num, .bool b3.neg, .string b3.dig, .int .i64 b3.exp, .string b3.txt, .slice b3.ab b3.lb b3.cb, .slice b3.ak b3.lk b3.ck, .slice b3.ai b3.li b3.ci] 26)).alloc (.cells #[.int .i64 X3, .int .i64 (Y3 : Nat)] 29)).alloc (.cells #[.int .i64 b1.kind, .int .u64 b1.num, .bool b1.neg, .string b1.dig, .int .i64 b1.exp, .string b1.txt, .slice b1.ab b1.lb b1.cb, .slice b1.ak b1.lk b1.ck, .slice b1.ai b1.li b1.ci, .int .i64 b2.kind, .int .u64 b2.num, .bool b2.neg, .string b2.dig, .int .i64 b2.exp, .string b2.txt, .slice b2.ab b2.lb b2.cb, .slice b2.ak b2.lk b2.ck, .slice b2.ai b2.li b2.ci] 26)).heap.size = w7.heap.size + 1 + 1 + 1 by simp] at h; exact h
  have N8' : Hid (Nd (max E1 E2 + 1) ((((w7.alloc (.cells #[.int .i64 b3.kind, .int .u64 b3.num, .bool b3.neg, .string b3.dig, .int .i64 b3.exp, .string b3.txt, .slice b3.ab b3.lb b3.cb, .slice b3.ak b3.lk b3.ck, .slice b3.ai b3.li b3.ci] 26)).alloc (.cells #[.int .i64 X3, .int .i64 (Y3 : Nat)] 29)).alloc (.cells #[.int .i64 b1.kind, .int .u64 b1.num, .bool b1.neg, .string b1.dig, .int .i64 b1.exp, .string b1.txt, .slice b1.ab b1.lb b1.cb, .slice b1.ak b1.lk b1.ck, .slice b1.ai b1.li b1.ci, .int .i64 b2.kind, .int .u64 b2.num, .bool b2.neg, .string b2.dig, .int .i64 b2.exp, .string b2.txt, .slice b2.ab b2.lb b2.cb, .slice b2.ak b2.lk b2.ck, .slice b2.ai b2.li b2.ci] 26)).alloc (.cells #[.int .i64 7, .int .u64 0, .bool false, .string ⟨#[]⟩, .int .i64 0, .string ⟨#[]⟩, .slice none 0 0, .slice none 0 0, .slice (some ⟨w7.heap.size + 1 + 1, 0, none⟩) 2 2] 26)) (twoN (w7.heap.size + 1 + 1)) (arrT [T1, T2])) := N8
  have F8 : Hid ((bothL zs ys).length = n2 ∧ Bytes ((((w7.alloc (.cells #[.int .i64 b3.kind, .int .u64 b3.num, .bool b3.neg, .string b3.dig, .int .i64 b3.exp, .string b3.txt, .slice b3.ab b3.lb b3.cb, .slice b3.ak b3.lk b3.ck, .slice b3.ai b3.li b3.ci] 26)).alloc (.cells #[.int .i64 X3, .int .i64 (Y3 : Nat)] 29)).alloc (.cells #[.int .i64 b1.kind, .int .u64 b1.num, .bool b1.neg, .string b1.dig, .int .i64 b1.exp, .string b1.txt, .slice b1.ab b1.lb b1.cb, .slice b1.ak b1.lk b1.ck, .slice b1.ai b1.li b1.ci, .int .i64 b2.kind, .int .u64 b2.num, .bool b2.neg, .string b2.dig, .int .i64 b2.exp, .string b2.txt, .slice b2.ab b2.lb b2.cb, .slice b2.ak b2.lk b2.ck, .slice b2.ai b2.li b2.ci] 26)).alloc (.cells #[.int .i64 7, .int .u64 0, .bool false, .string ⟨#[]⟩, .int .i64 0, .string ⟨#[]⟩, .slice none 0 0, .slice none 0 0, .slice (some ⟨w7.heap.size + 1 + 1, 0, none⟩) 2 2] 26)) a2 (bothL zs ys) ∧ n2 ≤ c2) := ⟨F7.out.1, F7.out.2.1.kept A8.out, F7.out.2.2⟩
  have G8 : Hid (PS w6 ((((w7.alloc (.cells #[.int .i64 b3.kind, .int .u64 b3.num, .bool b3.neg, .string b3.dig, .int .i64 b3.exp, .string b3.txt, .slice b3.ab b3.lb b3.cb, .slice b3.ak b3.lk b3.ck, .slice b3.ai b3.li b3.ci] 26)).alloc (.cells #[.int .i64 X3, .int .i64 (Y3 : Nat)] 29)).alloc (.cells #[.int .i64 b1.kind, .int .u64 b1.num, .bool b1.neg, .string b1.dig, .int .i64 b1.exp, .string b1.txt, .slice b1.ab b1.lb b1.cb, .slice b1.ak b1.lk b1.ck, .slice b1.ai b1.li b1.ci, .int .i64 b2.kind, .int .u64 b2.num, .bool b2.neg, .string b2.dig, .int .i64 b2.exp, .string b2.txt, .slice b2.ab b2.lb b2.cb, .slice b2.ak b2.lk b2.ck, .slice b2.ai b2.li b2.ci] 26)).alloc (.cells #[.int .i64 7, .int .u64 0, .bool false, .string ⟨#[]⟩, .int .i64 0, .string ⟨#[]⟩, .slice none 0 0, .slice none 0 0, .slice (some ⟨w7.heap.size + 1 + 1, 0, none⟩) 2 2] 26)) w7.heap.size b3 T3 X3 (Y3 : Nat)) := G3.out.kept A8.out
  have BW8 : Hid (Below w.heap.size w ((((w7.alloc (.cells #[.int .i64 b3.kind, .int .u64 b3.num, .bool b3.neg, .string b3.dig, .int .i64 b3.exp, .string b3.txt, .slice b3.ab b3.lb b3.cb, .slice b3.ak b3.lk b3.ck, .slice b3.ai b3.li b3.ci] 26)).alloc (.cells #[.int .i64 X3, .int .i64 (Y3 : Nat)] 29)).alloc (.cells #[.int .i64 b1.kind, .int .u64 b1.num, .bool b1.neg, .string b1.dig, .int .i64 b1.exp, .string b1.txt, .slice b1.ab b1.lb b1.cb, .slice b1.ak b1.lk b1.ck, .slice b1.ai b1.li b1.ci, .int .i64 b2.kind, .int .u64 b2.num, .bool b2.neg, .string b2.dig, .int .i64 b2.exp, .string b2.txt, .slice b2.ab b2.lb b2.cb, .slice b2.ak b2.lk b2.ck, .slice b2.ai b2.li b2.ci] 26)).alloc (.cells #[.int .i64 7, .int .u64 0, .bool false, .string ⟨#[]⟩, .int .i64 0, .string ⟨#[]⟩, .slice none 0 0, .slice none 0 0, .slice (some ⟨w7.heap.size + 1 + 1, 0, none⟩) 2 2] 26))) := H2.out.bel.trans (A8.out.mono H2.out.bel.size)
  clear N1 N2 N8 m0 m1 m2 m3 m4 m5 m6 m7 m8 q0 q1 q2 q3 q4 q5 q6 q7 q8
  generalize ((((w7.alloc (.cells #[.int .i64 b3.kind, .int .u64 b3.num, .bool b3.neg, .string b3.dig, .int .i64 b3.exp, .string b3.txt, .slice b3.ab b3.lb b3.cb, .slice b3.ak b3.lk b3.ck, .slice b3.ai b3.li b3.ci] 26)).alloc (.cells #[.int .i64 X3, .int .i64 (Y3 : Nat)] 29)).alloc (.cells #[.int .i64 b1.kind, .int .u64 b1.num, .bool b1.neg, .string b1.dig, .int .i64 b1.exp, .string b1.txt, .slice b1.ab b1.lb b1.cb, .slice b1.ak b1.lk b1.ck, .slice b1.ai b1.li b1.ci, .int .i64 b2.kind, .int .u64 b2.num, .bool b2.neg, .string b2.dig, .int .i64 b2.exp, .string b2.txt, .slice b2.ab b2.lb b2.cb, .slice b2.ak b2.lk b2.ck, .slice b2.ai b2.li b2.ci] 26)).alloc (.cells #[.int .i64 7, .int .u64 0, .bool false, .string ⟨#[]⟩, .int .i64 0, .string ⟨#[]⟩, .slice none 0 0, .slice none 0 0, .slice (some ⟨w7.heap.size + 1 + 1, 0, none⟩) 2 2] 26)) = W8 at *
  refine kC.mono ?_
  rintro e w9 ⟨⟨er, rfl, hEr⟩, hB9⟩
  have her : (er == 0) = false := by
    have h : er ≠ 0 := fun h => hM'.out ((chk_zero hEr).1 h)
    simpa using h
  have G9 : Hid (PS w6 w9 w7.heap.size b3 T3 X3 (Y3 : Nat)) := G8.out.kept hB9
  have BW9 : Hid (Below w.heap.size w w9) := BW8.out.trans (hB9.mono BW8.out.size)
  have kV := k4.out w9 a2 n2 c2 F8.out.1 (F8.out.2.1.kept hB9) F8.out.2.2
  have r0 := G9.out.flt.cell 0
  have r1 := G9.out.flt.cell 1
  clear kC hEr hB9 G8 X8 N8' BW8 k4
  go_wp2_with (first
    | (go_at_call 13; refine kV.mono ?_; rintro e w10 ⟨rfl, hB10⟩; clear kV; have B10 : Hid (Below w.heap.size w w10) := BW9.out.trans (hB10.mono BW9.out.size); have kA := alive_any w10; clear hB10)
    | (go_at_call 12; refine kA.mono ?_; rintro e w11 ⟨rfl, hB11⟩))
  go_ret
  exact ⟨rfl, B10.out.trans (hB11.mono B10.out.size)⟩
theorem wboth (a0 : Option Addr) (n0 c0 : Nat) (zs : List Int) (a1 : Option Addr) (n1 c1 : Nat) (ys : List Int) (w : World) (hl0 : zs.length = n0) (hb0 : Bytes w a0 zs) (hc0 : n0 ≤ c0) (hm0 : c0 ≤ 140737488351232) (hn0 : a0 = none → c0 = 0)
    (hl1 : ys.length = n1) (hb1 : Bytes w a1 ys) (hc1 : n1 ≤ c1) (hm1 : c1 ≤ 140737488351232) (hn1 : a1 = none → c1 = 0) :
    Calls Tryz.prog 7 #[.slice a0 n0 c0, .slice a1 n1 c1] w fun e w' => e = .returned (.bool true) ∧ Below w.heap.size w w' := by
  by_cases hX : (parA zs).2.1 = 0
  · by_cases hX2 : (parA ys).2.1 = 0
    · by_cases hL : n0 + n1 + 3 ≤ 4096
      · by_cases hM : (arrT [(parA zs).1, (parA ys).1]).May (fun u => alF u = 0)
        · exact wboth_d a0 n0 c0 zs a1 n1 c1 ys w hl0 hb0 hc0 hm0 hn0 hl1 hb1 hc1 hm1 hn1 hX hX2 hL hM
        · exact wboth_e a0 n0 c0 zs a1 n1 c1 ys w hl0 hb0 hc0 hm0 hn0 hl1 hb1 hc1 hm1 hn1 hX hX2 hL hM
      · exact wboth_c a0 n0 c0 zs a1 n1 c1 ys w hl0 hb0 hc0 hm0 hn0 hl1 hb1 hc1 hm1 hn1 hX hX2 (by omega)
    · exact wboth_b a0 n0 c0 zs a1 n1 c1 ys w hl0 hb0 hc0 hm0 hn0 hl1 hb1 hc1 hm1 hn1 hX hX2
  · exact wboth_a a0 n0 c0 zs a1 n1 c1 ys w hl0 hb0 hc0 hm0 hn0 hl1 hb1 hc1 hm1 hn1 hX
end Go.Proofs.YtmlacmoembjeoaaGreatDoor
