/-
  Texts Lky, Llb, Llc, Lld.
-/
import Derived.Test.YtfipdldoklkciaaGreatGao
import Derived.Deep.RegionHeld
import Derived.Test.YtfipdldoklkciaaGreatGaj
import Derived.Test.YtfipdldoklkciaaGreatGam
namespace Go.Proofs.YtfipdldoklkciaaGreat
open Go.RowKit Go.ChangeShapes Go.WideShapes
set_option linter.unusedVariables false
set_option linter.unusedSimpArgs false
/-- A block of bytes that may be written over: the first n cells. -/
def DW (w : World) (g n : Nat) : Prop := ∀ i, i < n → (∃ c, w.cell? ⟨g, i, none⟩ = some (.int .u8 c)) ∧ w.frozen? ⟨g, i, none⟩ = false
theorem DW.of {w : World} {base n c : Nat} {g : Nat} {zs : List Int} (h : OwnsB w base (.slice (some ⟨g, 0, none⟩) n c) zs) : DW w g zs.length := by
  intro i hi
  obtain ⟨a, cap, hv, _, _, hb, _⟩ := h.shape
  cases hv
  rcases hb.2.2 with h0 | ⟨b, off, e, hc⟩
  · rw [h0] at hi; simp at hi
  · cases e
    refine ⟨⟨_, by have := hc i hi; rw [Nat.zero_add] at this; exact this⟩, ?_⟩
    obtain ⟨cs, hk⟩ := h.blk _ rfl
    exact hk.fz i
theorem DW.set {w : World} {g n : Nat} (h : DW w g n) (j : Nat) (v : Int) : DW (w.setCell ⟨g, j, none⟩ (.int .u8 v)) g n := by
  intro i hi
  obtain ⟨⟨c, hc⟩, hf⟩ := h i hi
  refine ⟨?_, by rw [World.frozen?_setCell]; exact hf⟩
  by_cases hij : i = j
  · subst hij
    exact ⟨v, World.cell?_setCell_same w _ _ hc⟩
  · exact ⟨c, by rw [World.cell?_setCell_other w _ _ _ (fun e => by injection e; omega)]; exact hc⟩
theorem DW.k2 {w w' : World} {g n rb : Nat} (h : DW w g n) (k : K2 rb rb w w') (hg : g ≠ rb) : DW w' g n := by
  intro i hi
  obtain ⟨⟨c, hc⟩, hf⟩ := h i hi
  have hlt : g < w.heap.size := by
    simp only [World.cell?] at hc
    rcases Nat.lt_or_ge g w.heap.size with h2 | h2
    · exact h2
    · simp [Array.getElem?_eq_none h2] at hc
  have e := k.block g hlt hg hg
  refine ⟨⟨c, by rw [World.cell?_of_block e]; exact hc⟩, ?_⟩
  unfold World.frozen? at hf ⊢
  rw [e]
  exact hf

/-! ### a link whose load lies elsewhere -/
theorem Sd.away {w w' : World} {B sb mb g : Nat} {s : St} (h : Sd w B sb mb s) (k : K2 g g w w') (h1 : sb ≠ g) (h2 : mb ≠ g) (hl : ∀ z e x, s.L z = some e → e.a = some x → x.block ≠ g) : Sd w' B sb mb s := by
  refine ⟨h.ok, h.hs, h.hm, (k.block sb h.blk.lt h1 h1).trans h.blk, ?_, fun z e he => ?_⟩
  · obtain ⟨D, ⟨es, clock, a1, a2⟩, a3⟩ := h.mp
    exact ⟨D, ⟨es, clock, (k.block mb (Array.getElem?_eq_some_iff.1 a1).1 h2 h2).trans a1, a2⟩, a3⟩
  · have l := h.ld z e he
    have hne : ∀ x, e.a = some x → x.block ≠ g ∧ x.block ≠ g := fun x hx => ⟨hl z e x he hx, hl z e x he hx⟩
    exact ⟨l.by_.k2 k hne, l.nil, l.le, l.mx, fun x hx => ⟨(l.at_ x hx).1, Nat.lt_of_lt_of_le (l.at_ x hx).2.1 k.size, (l.at_ x hx).2.2⟩, fun x hx => (l.ty x hx).imp fun cs hc => (k.block x.block (l.at_ x hx).2.1 (hne x hx).1 (hne x hx).2).trans hc⟩
theorem Lm.away {w w' : World} {B g : Nat} {q : Qb} {L : Lk} (h : Lm w B q L) (k : K2 g g w w') (h1 : q.lb ≠ g) (h2 : q.sb ≠ g) (h3 : q.mb ≠ g) (h4 : q.rb ≠ g) (hl : ∀ z e x, L.s.L z = some e → e.a = some x → x.block ≠ g) (e0 : L.n0 = []) (e1 : L.n1 = []) : Lm w' B q L :=
  ⟨h.ok, h.sd.away k h2 h3 hl, h.rv.k2 k h4 h4, h.lk.imp fun cs hc => ⟨(k.block q.lb hc.1.lt h1 h1).trans hc.1, hc.2⟩, (fun x hx => by rw [e0, e1] at hx; simp at hx), h.hl, h.hr⟩
set_option maxRecDepth 100000 in
theorem send_far {w : World} {B : Nat} {q : Qb} {L : Lk} (a : Option Addr) (n c : Nat) (zs : List Int) (h : Lm w B q L) (hB : B ≤ w.heap.size) (hn : zs.length = n) (h0 : a = none → c = 0) (hb : Bytes w a zs) (hE : sendE L n = 0) :
    Calls Tryz.prog 23 #[.pointer (some ⟨q.lb, 0, none⟩), .slice a n c] w fun e w' => e = .returned (.int .i64 0) ∧ Hid (∃ en : Ent, en.zs = zs ∧ en.time = L.now ∧ en.wait = 1 ∧ en.there = false ∧ (∀ x, en.a = some x → w.heap.size ≤ x.block) ∧ Lm w' B q { L with s := addA L.s en }) ∧ Hid (K4 q w w') := by
  have k0 := kmade h
  have c2 := h.cell.2.2.1
  have c4 := h.cell.2.2.2.2.1
  have h1 : ¬ 1100 < n := fun h2 => by unfold sendE at hE; rw [if_pos h2] at hE; cases hE
  have d1 : decide ((n : Int) > 1100) = false := by simp; omega
  have hp : pushE L.s n L.now = 0 := by unfold sendE at hE; rw [if_neg h1] at hE; exact hE
  have k1 : Hid (Calls Tryz.prog 51 #[.pointer (some ⟨q.sb, 0, none⟩), .slice a n c, .int .i64 L.now] w.drew fun e w' => ∃ v, e = .returned (.tuple #[v, .int .i64 0]) ∧ Hid (∃ en : Ent, en.zs = zs ∧ en.time = L.now ∧ en.wait = 1 ∧ en.there = false ∧ (∀ x, en.a = some x → w.heap.size ≤ x.block) ∧ Lm w' B q { L with s := addA L.s en }) ∧ Hid (K4 q w w')) := by
    refine (push_ok a n c zs L.now h.drew.sd hp hB hn h0 (hb.drewN 1)).mono ?_
    rintro e' w' ⟨rfl, en, he, hS, hK⟩
    refine ⟨_, rfl, ⟨en, he.out.1, he.out.2.1, he.out.2.2.1, he.out.2.2.2.1, he.out.2.2.2.2, ?_⟩, (K4.refl q w).drew.trans (K4.of_s hK.out)⟩
    refine h.drew.turnS hS.out hK.out (fun z e1 he1 => ?_)
    have he1 : (if z = L.s.nxt then some en else L.s.L z) = some e1 := he1
    split at he1
    · obtain rfl := Option.some.inj he1
      rw [he.out.1]; omega
    · exact h.ok.few z e1 he1
  clear h h1 hp hb h0 hn hB hE
  go_enter Tryz.func23, Tryz.ntmps23
  go_wp2_with (go_at_call 41; refine k0.mono ?_; rintro e w1 ⟨rfl, hw1⟩; obtain rfl := hw1.symm; clear hw1)
  go_region_with (go_at_call 51; refine k1.out.mono ?_; rintro e w1 ⟨v, rfl, hS, hK⟩; clear k1)
  all_goals go_wp2
  all_goals go_ret
  all_goals exact ⟨rfl, hS, hK⟩
/-! ### a load of any bytes goes over -/
def bL1 : Lk := l0 1 2
def bL2 (en : Ent) : Lk := { bL1 with s := addA bL1.s en }
def bL3 (en : Ent) (g1 g2 : Gr) : Lk := { tk1 (bL2 en) with n0 := [g1], n1 := [g2] }
def bL4 (en : Ent) (g1 g2 : Gr) (zs : List Int) : Lk := { bL3 en g1 g2 with n0 := [], r := putA (r0 2) 1 zs }
theorem b_send (n : Nat) : sendE bL1 n = if 1100 < n then 8 else 0 := by
  unfold sendE
  by_cases h : 1100 < n
  · rw [if_pos h, if_pos h]
  · rw [if_neg h, if_neg h]
    unfold pushE
    rw [if_neg (by decide), if_neg (by omega), if_neg (by decide)]
theorem b_due (en : Ent) (h2 : en.time = 0) (h4 : en.there = false) : dueN (bL2 en) = [(1, en.zs)] := by
  have t1 : tellB 1 en = true := by simp [tellB, h2, h4]
  unfold dueN
  show dueL (addA (s0 2 2) en) (0 + 1) 1 = _
  simp [dueL, addA, s0, t1]
theorem b_lok (en : Ent) (h1 : en.zs.length ≤ 1100) : Lok (bL2 en) := by
  refine ⟨by show (0 : Int) ≤ 1; decide, by show (1 : Int) < _; decide, by show (0 : Int) ≤ 0; decide, by show (0 : Int) ≤ _; decide, by show (1 : Int) ≤ 1; decide, fun z e he => ?_⟩
  have he : (if z = 1 then some en else none) = some e := he
  split at he
  · obtain rfl := Option.some.inj he
    exact h1
  · cases he
theorem b_data (zs : List Int) (h : zs.length ≤ 1100) : dataE (r0 2) 1 zs.length = 0 := by
  unfold dataE
  rw [if_neg (by decide), if_neg (by omega), if_neg (by decide), if_neg (by decide)]
theorem b_del (en : Ent) (g1 g2 : Gr) (h1 : en.zs.length ≤ 1100) (hb : ∀ c ∈ en.zs, 0 ≤ c ∧ c < 256) (hg : g1.zs = pkB (tellM (bL2 en) (mdata 1 en.zs))) : delR { bL3 en g1 g2 with n0 := (bL3 en g1 g2).n0.eraseIdx 0 } 0 g1.zs = (0, bL4 en g1 g2 en.zs) := by
  obtain ⟨p1, p2⟩ := pk_data (b_lok en h1) (by show (1 : Int) ≤ _; decide) (show (0 : Int) ≤ 1 by decide) (show (1 : Int) ≤ 4611686018427387904 by decide) h1 hb
  obtain ⟨u1, u2, _⟩ := up_pk p1 p2
  unfold delR
  rw [hg, u1, u2, if_neg (by decide), if_neg (by rintro (k | k); exact k rfl; exact k rfl), if_neg (fun k => k rfl), if_pos rfl]
  have e1 : dataE (r0 2) 1 en.zs.length = 0 := b_data en.zs h1
  show (dataE (r0 2) 1 en.zs.length, ({ bL3 en g1 g2 with n0 := [], r := dataS (r0 2) 1 en.zs } : Lk)) = _
  unfold dataS
  rw [e1, if_pos rfl]
  rfl
theorem b_tick {w' : World} {B : Nat} {q : Qb} (en : Ent) (h2 : en.time = 0) (h4 : en.there = false) (h : TkR w' B q (bL2 en)) : ∃ g1 g2, g1.zs = pkB (tellM (bL2 en) (mdata 1 en.zs)) ∧ Lm w' B q (bL3 en g1 g2) := by
  obtain ⟨gs, g, k1, _, _, k4⟩ := h.2 (by show (0 : Int) < _; decide)
  rw [b_due en h2 h4] at k1
  unfold grs at k1
  match gs, k1, k4 with
  | [], k1, _ => simp at k1
  | [g1], k1, k4 => simp at k1; exact ⟨g1, g, k1.1, k4⟩
  | a :: b :: l, k1, _ => simp at k1
theorem b_far (en : Ent) {g : Nat} (h : ∀ x, en.a = some x → x.block ≠ g) : ∀ z e x, (bL2 en).s.L z = some e → e.a = some x → x.block ≠ g := fun z e x he hx => by
  have he : (if z = 1 then some en else none) = some e := he
  split at he
  · obtain rfl := Option.some.inj he
    exact h x hx
  · cases he
/-! ### an act as an argument -/
structure Ac where
  kind : Int
  net : Int
  i : Int
  at_ : Int
  by_ : Int
  a : Option Addr
  n : Nat
  c : Nat
  zs : List Int
def Ac.cells (x : Ac) : List Value := [.int .i64 x.kind, .int .i64 x.net, .int .i64 x.i, .int .i64 x.at_, .int .u32 x.by_, .slice x.a x.n x.c]
def Ac.val (x : Ac) : Value := .agg #[.int .i64 x.kind, .int .i64 x.net, .int .i64 x.i, .int .i64 x.at_, .int .u32 x.by_, .slice x.a x.n x.c]
structure AcV (w : World) (x : Ac) : Prop where
  by_ : Bytes w x.a x.zs
  len : x.zs.length = x.n
  le : x.n ≤ x.c
  mx : x.c ≤ 9223372036854775807
  nil : x.a = none → x.c = 0
  few : x.n ≤ 140737488351232
  u32 : 0 ≤ x.by_ ∧ x.by_ < 4294967296
  i64 : (-9223372036854775808 ≤ x.kind ∧ x.kind ≤ 9223372036854775807) ∧ (-9223372036854775808 ≤ x.net ∧ x.net ≤ 9223372036854775807) ∧ (-9223372036854775808 ≤ x.i ∧ x.i ≤ 9223372036854775807) ∧ (-9223372036854775808 ≤ x.at_ ∧ x.at_ ≤ 9223372036854775807)
theorem AcV.kept {w w' : World} {x : Ac} (h : AcV w x) (hb : Below w.heap.size w w') : AcV w' x := ⟨h.by_.kept hb, h.len, h.le, h.mx, h.nil, h.few, h.u32, h.i64⟩
theorem wf_u32 {n : Int} (h : (Lit.int .u32 n).wf = true) : 0 ≤ n ∧ n < 4294967296 := by
  simp [Lit.wf, show IntKind.u32.min = 0 from by decide, show IntKind.u32.max = 4294967295 from by decide] at h
  omega
theorem wf_i64 {n : Int} (h : (Lit.int .i64 n).wf = true) : -9223372036854775808 ≤ n ∧ n ≤ 9223372036854775807 := by
  simp [Lit.wf, show IntKind.i64.min = -9223372036854775808 from by decide, show IntKind.i64.max = 9223372036854775807 from by decide] at h
  omega
section
variable {H : Type} {enc : TypeId × Value → H} {w : World}
set_option maxRecDepth 100000 in
theorem open_ac {fuel : Nat} {cs : List Value} {x : DataW H × List MemPlace} (h : DataW.trod enc Tryz.prog w 0 (fun _ => true) true fuel 44 cs = some x) (hw : ∀ n ∈ x.1.weights Tryz.prog 44, n ≤ reachBytes) :
    ∃ y : Ac, cs = y.cells ∧ AcV w y := by
  obtain ⟨fs, hfs, hty⟩ : ∃ fs : Array Field, Tryz.prog.underlying 44 = some (.struct fs) ∧ fs.toList.map (fun f => (f.type, f.offset)) = [(3, 0), (3, 1), (3, 2), (3, 3), (41, 4), (42, 5)] := ⟨_, Tryz.underlying44, rfl⟩
  obtain ⟨xs, n, rfl, hx, hlen, hxl, hf⟩ := DataW.trod_struct hfs h
  rw [show Tryz.prog.cellsOf 44 = 6 by kernel_rfl] at hlen
  have h9 : fs.size = 6 := by have := congrArg List.length hty; simpa using this
  match cs, hlen with
  | [c0, c1, c2, c3, c4, c5], _ =>
  have hF : ∀ i (hi : i < 6), ∃ y, DataW.trod enc Tryz.prog w 0 (fun _ => true) true n (([(3, 0), (3, 1), (3, 2), (3, 3), (41, 4), (42, 5)] : List (TypeId × Nat)).getD i (0, 0)).1
      ((([c0, c1, c2, c3, c4, c5] : List Value).drop (([(3, 0), (3, 1), (3, 2), (3, 3), (41, 4), (42, 5)] : List (TypeId × Nat)).getD i (0, 0)).2).take (Tryz.prog.cellsOf (([(3, 0), (3, 1), (3, 2), (3, 3), (41, 4), (42, 5)] : List (TypeId × Nat)).getD i (0, 0)).1)) = some y ∧
      ∀ n ∈ y.1.weights Tryz.prog (([(3, 0), (3, 1), (3, 2), (3, 3), (41, 4), (42, 5)] : List (TypeId × Nat)).getD i (0, 0)).1, n ≤ reachBytes := by
    intro i hi
    have hif : i < fs.size := by omega
    have e := hf i fs[i] (Array.getElem?_eq_getElem hif)
    have hy : xs[i]? = some (xs[i]'(by omega)) := List.getElem?_eq_getElem (by omega)
    have ht : ([(3, 0), (3, 1), (3, 2), (3, 3), (41, 4), (42, 5)] : List (TypeId × Nat)).getD i (0, 0) = (fs[i].type, fs[i].offset) := by
      rw [← hty, List.getD_eq_getElem?_getD, List.getElem?_map, Array.getElem?_toList, Array.getElem?_eq_getElem hif]
      rfl
    rw [ht]
    refine ⟨_, e.trans hy, fun n hn => hw n ?_⟩
    rw [hx]
    simp only [DataW.weights, hfs]
    exact DataW.weights_mem_each (j := i) (t := fs[i].type) (d := (xs[i]'(by omega)).1) (by rw [List.getElem?_map, Array.getElem?_toList, Array.getElem?_eq_getElem hif]; rfl) (by rw [List.getElem?_map, hy]; rfl) n hn
  have k0 : Tryz.prog.cellsOf 42 = 1 := by kernel_rfl
  have k1 : Tryz.prog.cellsOf 3 = 1 := by kernel_rfl
  have k2 : Tryz.prog.cellsOf 41 = 1 := by kernel_rfl
  obtain ⟨y0, e0, g0⟩ := hF 0 (by omega)
  obtain ⟨y1, e1, g1⟩ := hF 1 (by omega)
  obtain ⟨y2, e2, g2⟩ := hF 2 (by omega)
  obtain ⟨y3, e3, g3⟩ := hF 3 (by omega)
  obtain ⟨y4, e4, g4⟩ := hF 4 (by omega)
  obtain ⟨y5, e5, g5⟩ := hF 5 (by omega)
  clear hF hf
  simp only [List.getD_cons_zero, List.getD_cons_succ, k0, k1, k2, List.drop_zero, List.drop_succ_cons, List.take_succ_cons, List.take_zero] at e0 e1 e2 e3 e4 e5
  simp only [List.getD_cons_zero, List.getD_cons_succ] at g5
  obtain ⟨z0, q0, _, w0⟩ := DataW.trod_int Tryz.underlying3 e0
  obtain ⟨z1, q1, _, w1⟩ := DataW.trod_int Tryz.underlying3 e1
  obtain ⟨z2, q2, _, w2⟩ := DataW.trod_int Tryz.underlying3 e2
  obtain ⟨z3, q3, _, w3⟩ := DataW.trod_int Tryz.underlying3 e3
  obtain ⟨z4, q4, _, w4⟩ := DataW.trod_int Tryz.underlying41 e4
  obtain ⟨a, l, c, zs, q5, b1, b2, b3, b4, b5, b6⟩ := open_bytesw e5 g5
  simp only [List.cons.injEq, and_true] at q0 q1 q2 q3 q4 q5
  subst q0 q1 q2 q3 q4 q5
  exact ⟨⟨z0, z1, z2, z3, z4, a, l, c, zs⟩, rfl, b6, b1, b2, b3, b4, b5, wf_u32 w4, wf_i64 w0, wf_i64 w1, wf_i64 w2, wf_i64 w3⟩
set_option maxRecDepth 100000 in
theorem open_ac_arg {r : Reach} {b0 : Nat} {v : Value} {d : DataW H} {p : List MemPlace} (hv : Value.okWide Tryz.prog w r b0 44 v) (h : DataW.Trod enc Tryz.prog w 0 (fun _ => true) true 44 v d p) (hw : ∀ n ∈ d.weights Tryz.prog 44, n ≤ reachBytes) :
    ∃ x : Ac, v = x.val ∧ AcV w x := by
  obtain ⟨fs, hfs⟩ : ∃ fs : Array Field, Tryz.prog.underlying 44 = some (.struct fs) := ⟨_, Tryz.underlying44⟩
  obtain ⟨cs, rfl, _⟩ := okWide_struct hfs hv
  obtain ⟨fuel, hf⟩ := h
  obtain ⟨x, hcs, hn⟩ := open_ac hf hw
  refine ⟨x, ?_, hn⟩
  have h1 : cs.toList = x.cells := by rw [← hcs]; simp [Value.cells]
  have : cs = x.cells.toArray := by rw [← h1, Array.toArray_toList]
  rw [this]
  rfl
end
end Go.Proofs.YtfipdldoklkciaaGreat
namespace Go.Proofs.YtfipdldoklkciaaGreat
open Go.RowKit
set_option linter.unusedVariables false
set_option maxHeartbeats 2000000 in
theorem turned_any (a : Option Addr) (n c : Nat) (zs : List Int) (x : Int) (y : Nat) (w : World) (hn : zs.length = n) (h0 : a = none → c = 0) (hle : n ≤ c) (hb : Bytes w a zs) (h4 : 4 ≤ n) (hl : n ≤ 100000) (hx : (Lit.int .i64 x).wf = true) (hy : y < 4294967296) :
    Calls Tryz.prog 60 #[.slice a n c, .int .i64 x, .int .u32 (y : Nat)] w fun e w' => ∃ v, e = .returned v ∧ Hid (OwnsB w' w.heap.size v (turnL zs (x % ((n : Int) - 3)).toNat y)) ∧ Hid (Below w.heap.size w w') := by
  have kc := clone_any a n c zs w hn h0 hle hb hl
  have hl1 : Hid (zs.length = n) := hn
  obtain ⟨m, hm⟩ : ∃ m : Nat, (n : Int) - 3 = (m : Nat) := ⟨n - 3, by omega⟩
  have hmp : 0 < m := by omega
  have hm' : Hid ((n : Int) - 3 = (m : Nat)) := hm
  obtain ⟨t, ht, htn⟩ : ∃ t : Nat, x % (m : Int) = (t : Int) ∧ t + 4 ≤ n := by
    have q0 := Int.emod_nonneg x (show (m : Int) ≠ 0 by omega)
    have q1 := Int.emod_lt_of_pos x (show 0 < (m : Int) by omega)
    exact ⟨(x % (m : Int)).toNat, (Int.toNat_of_nonneg q0).symm, by omega⟩
  rw [hm, ht]
  have km' : Hid (∀ w, Calls Tryz.prog 94 #[.int .i64 x, .int .i64 (m : Nat)] w fun e w' => e = .returned (.int .i64 (t : Nat)) ∧ w' = w) := fun w => by have := mod_any x m w hmp (by omega) hx; rw [show (x % (m : Int)).toNat = t by omega] at this; exact this
  have htn' : Hid (t + 4 ≤ n) := htn
  have e1 : IntKind.i64.wrap ((n : Int) - 4 + 1) = (m : Int) := by rw [IntKind.wrap_i64]; omega
  have e2 : IntKind.i64.wrap ((n : Int) - 4) = (n : Int) - 4 := by rw [IntKind.wrap_i64]; omega
  obtain ⟨p, c0, c1, c2, c3, r, hL, hpl⟩ := split4 zs t (by omega)
  have hT : turnL zs (t : Int).toNat y = p ++ (qs c0 c1 c2 c3 y 4 ++ r) := by rw [show (t : Int).toNat = t by omega, hL, ← hpl]; exact turnL_of p r c0 c1 c2 c3 y
  rw [hT]
  have hpl' : Hid (p.length = t) := hpl
  have hL' : Hid (zs = p ++ ([c0, c1, c2, c3] ++ r)) := hL
  have hn3 : Hid (n ≤ 100000) := hl
  clear hn h0 hle hb h4 hl hx hm hmp ht htn hpl hL hT
  go_enter Tryz.func60, Tryz.ntmps60
  go_wp2_with fail
  refine kc.mono ?_
  rintro e w1 ⟨v, rfl, ho1, hb1⟩
  obtain ⟨g, n1, cap1, rfl, hO, hln, hc1, hm1⟩ := ho1.out.row (by have := hl1.out; have := htn'.out; omega)
  have hnn : n1 = n := by rw [← hln.out]; exact hl1.out
  subst hnn
  have hO' : Hid (OwnR w1 w.heap.size g n1 cap1 (p ++ (qs c0 c1 c2 c3 y 0 ++ r))) := by have := hO.out; rw [hL'.out] at this; exact this
  clear kc ho1 hO hln hL' hl1
  go_wp2_with (go_at_call 94; refine (km'.out _).mono ?_; rintro e w2 ⟨rfl, hw2⟩; obtain rfl := hw2.symm; clear hw2 km')
  go_loopw [17] (fun i wr => ∃ k : Nat, k ≤ 4 ∧ i = .int .i64 k ∧ OwnR wr w.heap.size g n1 cap1 (p ++ (qs c0 c1 c2 c3 y k ++ r)) ∧ Below w.heap.size w wr) (fun i _ => 4 - (intOf i).toNat)
  case atStart => exact ⟨0, by omega, rfl, hO'.out, hb1.out⟩
  case round =>
    obtain ⟨k, hk, rfl, hOr, hbr⟩ := hrel
    have hn2 := hn3.out
    have htn := htn'.out
    by_cases hlt4 : k < 4
    · rcases (show k = 0 ∨ k = 1 ∨ k = 2 ∨ k = 3 by omega) with rfl | rfl | rfl | rfl
      · have hcl : wr.cell? ⟨g, t, none⟩ = some (.int .u8 c0) := mid_cell hOr 0 _ c0 (by simp [qs]) rfl (by have := hpl'.out; omega)
        have hfr : wr.frozen? ⟨g, t, none⟩ = false := hOr.frozen _
        have i0 : (0 : Int) ≤ (t : Int) := by omega
        have i1 : (t : Int) < (n1 : Int) := by omega
        go_wp2
        go_region
        go_wp2
        go_roundw
        case rel => exact ⟨1, by omega, rfl, turn_row hOr 0 _ c0 ((y : Int) % 256) _ (by simp [qs]) rfl (by omega) rfl (by have := hpl'.out; omega), (hbr.setCell (by exact hOr.2.2.2) _).drew⟩
        case measure => simp [intOf]
      · have hcl : wr.cell? ⟨g, t + 1, none⟩ = some (.int .u8 c1) := mid_cell hOr 1 _ c1 (by simp [qs]) rfl (by have := hpl'.out; omega)
        have hfr : wr.frozen? ⟨g, t + 1, none⟩ = false := hOr.frozen _
        have i0 : (0 : Int) ≤ (t : Int) + 1 := by omega
        have i1 : (t : Int) + 1 < (n1 : Int) := by omega
        go_wp2
        go_region
        go_wp2
        go_roundw
        case rel => exact ⟨2, by omega, rfl, turn_row hOr 1 _ c1 ((y : Int) / 256 % 256) _ (by simp [qs]) rfl (by omega) rfl (by have := hpl'.out; omega), (hbr.setCell (by exact hOr.2.2.2) _).drew⟩
        case measure => simp [intOf]
      · have hcl : wr.cell? ⟨g, t + 2, none⟩ = some (.int .u8 c2) := mid_cell hOr 2 _ c2 (by simp [qs]) rfl (by have := hpl'.out; omega)
        have hfr : wr.frozen? ⟨g, t + 2, none⟩ = false := hOr.frozen _
        have i0 : (0 : Int) ≤ (t : Int) + 2 := by omega
        have i1 : (t : Int) + 2 < (n1 : Int) := by omega
        go_wp2
        go_region
        go_wp2
        go_roundw
        case rel => exact ⟨3, by omega, rfl, turn_row hOr 2 _ c2 ((y : Int) / 65536 % 256) _ (by simp [qs]) rfl (by omega) rfl (by have := hpl'.out; omega), (hbr.setCell (by exact hOr.2.2.2) _).drew⟩
        case measure => simp [intOf]
      · have hcl : wr.cell? ⟨g, t + 3, none⟩ = some (.int .u8 c3) := mid_cell hOr 3 _ c3 (by simp [qs]) rfl (by have := hpl'.out; omega)
        have hfr : wr.frozen? ⟨g, t + 3, none⟩ = false := hOr.frozen _
        have i0 : (0 : Int) ≤ (t : Int) + 3 := by omega
        have i1 : (t : Int) + 3 < (n1 : Int) := by omega
        go_wp2
        go_region
        go_wp2
        go_roundw
        case rel => exact ⟨4, by omega, rfl, turn_row hOr 3 _ c3 ((y : Int) / 16777216) _ (by simp [qs]) rfl (by omega) rfl (by have := hpl'.out; omega), (hbr.setCell (by exact hOr.2.2.2) _).drew⟩
        case measure => simp [intOf]
    · obtain rfl : k = 4 := by omega
      have hO4 : Hid (OwnsB wr w.heap.size (.slice (some ⟨g, 0, none⟩) n1 cap1) (p ++ (qs c0 c1 c2 c3 y 4 ++ r))) := hOr.owns
      have hB4 : Hid (Below w.heap.size w wr) := hbr
      clear hOr hO' hbr
      go_wp2_with fail
      go_ret
      exact ⟨_, rfl, hO4, hB4⟩
end Go.Proofs.YtfipdldoklkciaaGreat
namespace Go.Proofs.YtfipdldoklkciaaGreat
open Go.RowKit
set_option linter.unusedVariables false
theorem net_set {cs : Array Value} {o i : Nat} {G : List Gr} {g0 : Gr} (h : Net cs o G) (hi : G[i]? = some g0) (g : Gr) :
    Net ((cs.setIfInBounds (o + i * 2) (.slice g.a g.n g.c)).setIfInBounds (o + i * 2 + 1) (.bool g.sp)) o (G.set i g) := by
  obtain ⟨h1, h2, h3, h4⟩ := h
  have hl := (List.getElem?_eq_some_iff.1 hi).1
  refine ⟨by simpa using h1, ?_, fun j x hx => ?_, by simpa using h4⟩
  · rw [Array.getElem?_setIfInBounds_ne (by omega), Array.getElem?_setIfInBounds_ne (by omega), List.length_set]
    exact h2
  · rw [List.getElem?_set] at hx
    by_cases hj : i = j
    · subst hj
      rw [if_pos rfl, if_pos hl] at hx
      obtain rfl := Option.some.inj hx
      rw [Array.getElem?_setIfInBounds_ne (by omega), Array.getElem?_setIfInBounds_self_of_lt (by omega), Array.getElem?_setIfInBounds_self_of_lt (by simp; omega)]
      exact ⟨rfl, rfl⟩
    · rw [if_neg hj] at hx
      have hjl := (List.getElem?_eq_some_iff.1 hx).1
      rw [Array.getElem?_setIfInBounds_ne (by omega), Array.getElem?_setIfInBounds_ne (by omega), Array.getElem?_setIfInBounds_ne (by omega), Array.getElem?_setIfInBounds_ne (by omega)]
      exact h3 j x hx
theorem set_mem {G : List Gr} {i : Nat} {g x : Gr} (h : x ∈ G.set i g) : x ∈ G ∨ x = g := (List.mem_or_eq_of_mem_set h)
theorem Lm.nset0 {w : World} {B : Nat} {q : Qb} {L : Lk} {i : Nat} {g0 : Gr} (h : Lm w B q L) (hg : L.n0[i]? = some g0) (g : Gr) (hG : GrIn w B g) : Lm ((w.setCell ⟨q.lb, 6 + i * 2, none⟩ (.slice g.a g.n g.c)).setCell ⟨q.lb, 6 + i * 2 + 1, none⟩ (.bool g.sp)) B q { L with n0 := L.n0.set i g } ∧ K4 q w ((w.setCell ⟨q.lb, 6 + i * 2, none⟩ (.slice g.a g.n g.c)).setCell ⟨q.lb, 6 + i * 2 + 1, none⟩ (.bool g.sp)) := by
  obtain ⟨cs, hb, hc⟩ := h.lk
  have hi := (List.getElem?_eq_some_iff.1 hg).1
  have hf := hc.n0.few
  have hK : K2 q.lb q.lb w ((w.setCell ⟨q.lb, 6 + i * 2, none⟩ (.slice g.a g.n g.c)).setCell ⟨q.lb, 6 + i * 2 + 1, none⟩ (.bool g.sp)) := (K2.set w _ _).trans (K2.set _ _ _)
  refine ⟨?_, K4.of_l hK⟩
  have hA : Apart cs ((cs.setIfInBounds (6 + i * 2) (.slice g.a g.n g.c)).setIfInBounds (6 + i * 2 + 1) (.bool g.sp)) 6 := by
    refine ⟨by simp, fun j hj => ?_⟩
    rw [Array.getElem?_setIfInBounds_ne (by omega), Array.getElem?_setIfInBounds_ne (by omega)]
  refine h.turnL ((hb.set _ _).set _ _) (lkc_n0 hc hA (net_set hc.n0 hg g)) hK rfl rfl ⟨h.ok.t1, h.ok.t2, h.ok.n1, h.ok.n2, h.ok.e1, h.ok.few⟩ (fun x hx => ?_)
  rcases hx with hx | hx
  · rcases set_mem hx with hx | hx
    · exact .inl (.inl hx)
    · subst hx; exact .inr (hG.k2 hK h.no5.1 h.no5.1)
  · exact .inl (.inr hx)
theorem Lm.nset1 {w : World} {B : Nat} {q : Qb} {L : Lk} {i : Nat} {g0 : Gr} (h : Lm w B q L) (hg : L.n1[i]? = some g0) (g : Gr) (hG : GrIn w B g) : Lm ((w.setCell ⟨q.lb, 521 + i * 2, none⟩ (.slice g.a g.n g.c)).setCell ⟨q.lb, 521 + i * 2 + 1, none⟩ (.bool g.sp)) B q { L with n1 := L.n1.set i g } ∧ K4 q w ((w.setCell ⟨q.lb, 521 + i * 2, none⟩ (.slice g.a g.n g.c)).setCell ⟨q.lb, 521 + i * 2 + 1, none⟩ (.bool g.sp)) := by
  obtain ⟨cs, hb, hc⟩ := h.lk
  have hi := (List.getElem?_eq_some_iff.1 hg).1
  have hf := hc.n1.few
  have hK : K2 q.lb q.lb w ((w.setCell ⟨q.lb, 521 + i * 2, none⟩ (.slice g.a g.n g.c)).setCell ⟨q.lb, 521 + i * 2 + 1, none⟩ (.bool g.sp)) := (K2.set w _ _).trans (K2.set _ _ _)
  refine ⟨?_, K4.of_l hK⟩
  have hA : Apart cs ((cs.setIfInBounds (521 + i * 2) (.slice g.a g.n g.c)).setIfInBounds (521 + i * 2 + 1) (.bool g.sp)) 521 := by
    refine ⟨by simp, fun j hj => ?_⟩
    rw [Array.getElem?_setIfInBounds_ne (by omega), Array.getElem?_setIfInBounds_ne (by omega)]
  refine h.turnL ((hb.set _ _).set _ _) (lkc_n1 hc hA (net_set hc.n1 hg g)) hK rfl rfl ⟨h.ok.t1, h.ok.t2, h.ok.n1, h.ok.n2, h.ok.e1, h.ok.few⟩ (fun x hx => ?_)
  rcases hx with hx | hx
  · exact .inl (.inl hx)
  · rcases set_mem hx with hx | hx
    · exact .inl (.inr hx)
    · subst hx; exact .inr (hG.k2 hK h.no5.1 h.no5.1)
theorem kturn_no {w : World} {B : Nat} {q : Qb} {L : Lk} (n i x y : Int) (h : Lm w B q L) (hE : canE L n i ≠ 0) :
    Calls Tryz.prog 29 #[.pointer (some ⟨q.lb, 0, none⟩), .int .i64 n, .int .i64 i, .int .i64 x, .int .u32 y] w fun e w' => e = .returned (.int .i64 (canE L n i)) ∧ Hid (Below w.heap.size w w') := by
  have k0 := can_any n i h
  have d0 : (canE L n i != 0) = true := by simpa using hE
  clear h hE
  generalize canE L n i = x at *
  go_enter Tryz.func29, Tryz.ntmps29
  go_wp2_with (go_at_call 55; refine k0.mono ?_; rintro e w1 ⟨rfl, hb1⟩; clear k0)
  go_ret
  exact ⟨rfl, hb1⟩
set_option maxRecDepth 100000 in
theorem kturn0_sp {w : World} {B : Nat} {q : Qb} {L : Lk} (i : Nat) (g : Gr) (x y : Int) (h : Lm w B q L) (hE : canE L 0 (i : Nat) = 0) (hg : L.n0[i]? = some g) (hs : g.sp = true) :
    Calls Tryz.prog 29 #[.pointer (some ⟨q.lb, 0, none⟩), .int .i64 0, .int .i64 (i : Nat), .int .i64 x, .int .u32 y] w fun e w' => e = .returned (.int .i64 18) ∧ Hid (Below w.heap.size w w') := by
  have k0 := can_any 0 (i : Nat) h
  rw [hE] at k0
  have hL : Hid (Lm w B q L) := h
  have hgi : Hid (GrIn w B g) := h.gr g (.inl (List.mem_of_getElem? hg))
  have hib : i < 256 := by
    obtain ⟨cs, hb, hc⟩ := h.lk
    have := hc.n0.few
    have := (List.getElem?_eq_some_iff.1 hg).1
    omega
  have hc2 : Hid (∀ x, Below w.heap.size w x → x.cell? ⟨q.lb, 6 + i * 2, none⟩ = some (.slice g.a g.n g.c) ∧ x.cell? ⟨q.lb, 6 + i * 2 + 1, none⟩ = some (.bool g.sp) ∧ x.frozen? ⟨q.lb, 6 + i * 2, none⟩ = false ∧ x.frozen? ⟨q.lb, 6 + i * 2 + 1, none⟩ = false) := fun x hx => by
    obtain ⟨cs, hb, hc⟩ := h.lk
    have hb' := hb.kept hx
    exact ⟨(hb'.cell _).trans (hc.n0.row i g hg).1, (hb'.cell _).trans (hc.n0.row i g hg).2, hb'.fz _, hb'.fz _⟩
  have d0 : decide ((0 : Int) ≤ (i : Int)) = true := by simp
  have d1 : decide ((i : Int) < 256) = true := by simp; omega
  rw [hs] at hc2
  clear h hE hg hL hgi
  go_enter Tryz.func29, Tryz.ntmps29
  go_wp2_with fail
  refine k0.mono ?_
  rintro e w1 ⟨rfl, hb1⟩
  clear k0
  obtain ⟨c1, c2, f1, f2⟩ := hc2.out w1 hb1.out
  go_wp2
  go_ret
  exact ⟨rfl, hb1⟩
set_option maxRecDepth 100000 in
theorem kturn0 {w : World} {B : Nat} {q : Qb} {L : Lk} (i : Nat) (g : Gr) (x : Int) (y : Nat) (h : Lm w B q L) (hE : canE L 0 (i : Nat) = 0) (hg : L.n0[i]? = some g) (hs : g.sp = false) (h4 : 4 ≤ g.n) (hl : g.n ≤ 100000) (hx : (Lit.int .i64 x).wf = true) (hy : y < 4294967296) :
    Calls Tryz.prog 29 #[.pointer (some ⟨q.lb, 0, none⟩), .int .i64 0, .int .i64 (i : Nat), .int .i64 x, .int .u32 (y : Nat)] w fun e w' => e = .returned (.int .i64 0) ∧ Hid (∃ g' : Gr, g'.zs = turnL g.zs (x % ((g.n : Int) - 3)).toNat y ∧ g'.sp = ((y : Int) != 0) ∧ Lm w' B q { L with n0 := L.n0.set i g' }) ∧ Hid (K4 q w w') := by
  have k0 := can_any 0 (i : Nat) h
  rw [hE] at k0
  have hL : Hid (Lm w B q L) := h
  have hgi : Hid (GrIn w B g) := h.gr g (.inl (List.mem_of_getElem? hg))
  have hib : i < 256 := by
    obtain ⟨cs, hb, hc⟩ := h.lk
    have := hc.n0.few
    have := (List.getElem?_eq_some_iff.1 hg).1
    omega
  have hc2 : Hid (∀ x, Below w.heap.size w x → x.cell? ⟨q.lb, 6 + i * 2, none⟩ = some (.slice g.a g.n g.c) ∧ x.cell? ⟨q.lb, 6 + i * 2 + 1, none⟩ = some (.bool g.sp) ∧ x.frozen? ⟨q.lb, 6 + i * 2, none⟩ = false ∧ x.frozen? ⟨q.lb, 6 + i * 2 + 1, none⟩ = false) := fun x hx => by
    obtain ⟨cs, hb, hc⟩ := h.lk
    have hb' := hb.kept hx
    exact ⟨(hb'.cell _).trans (hc.n0.row i g hg).1, (hb'.cell _).trans (hc.n0.row i g hg).2, hb'.fz _, hb'.fz _⟩
  have d0 : decide ((0 : Int) ≤ (i : Int)) = true := by simp
  have d1 : decide ((i : Int) < 256) = true := by simp; omega
  rw [hs] at hc2
  have kT : Hid (∀ z, Below w.heap.size w z → Calls Tryz.prog 60 #[.slice g.a g.n g.c, .int .i64 x, .int .u32 (y : Nat)] z fun e w' => ∃ v, e = .returned v ∧ Hid (OwnsB w' z.heap.size v (turnL g.zs (x % ((g.n : Int) - 3)).toNat y)) ∧ Hid (Below z.heap.size z w')) := fun z hz => by
    have k := hgi.out.kept hz
    exact turned_any g.a g.n g.c g.zs x y z k.len k.nil k.le k.by_ h4 hl hx hy
  have hg' : Hid (L.n0[i]? = some g) := hg
  obtain ⟨sp, hsp⟩ : ∃ sp, ((y : Int) != 0) = sp := ⟨_, rfl⟩
  rw [hsp]
  generalize turnL g.zs (x % ((g.n : Int) - 3)).toNat y = T at *
  clear h hE hg h4 hl hx hy
  go_enter Tryz.func29, Tryz.ntmps29
  go_wp2_with fail
  refine k0.mono ?_
  rintro e w1 ⟨rfl, hb1⟩
  clear k0
  obtain ⟨c1, c2, f1, f2⟩ := hc2.out w1 hb1.out
  go_wp2_with (go_at_call 60; refine (kT.out _ hb1.out).mono ?_; rintro e w2 ⟨v, rfl, hO, hb2⟩; clear kT c1 c2 f1 f2; obtain ⟨c1, c2, f1, f2⟩ := hc2.out w2 (hb1.out.trans (hb2.out.mono hb1.out.size)); obtain ⟨g', e1, e2, rfl, hG⟩ := gr_of_owns sp hO.out; have hG' : Hid (GrIn w2 w1.heap.size g' ∧ g'.zs = T ∧ g'.sp = sp) := ⟨hG, e1, e2⟩; clear hG e1 e2 hO hc2)
  go_ret
  have hL2 : Lm w2 B q L := (hL.out.kept hb1.out).kept hb2.out
  have hz : B ≤ w1.heap.size := (hL.out.kept hb1.out).B_le
  obtain ⟨m1, m2⟩ := hL2.nset0 hg'.out g' (hG'.out.1.mono hz)
  rw [hG'.out.2.2] at m1 m2
  exact ⟨rfl, ⟨g', hG'.out.2.1, hG'.out.2.2, m1⟩, ((K4.of_below hb1.out).trans (K4.of_below hb2.out)).trans m2⟩
set_option maxRecDepth 100000 in
theorem kturn1_sp {w : World} {B : Nat} {q : Qb} {L : Lk} (i : Nat) (g : Gr) (x y : Int) (h : Lm w B q L) (hE : canE L 1 (i : Nat) = 0) (hg : L.n1[i]? = some g) (hs : g.sp = true) :
    Calls Tryz.prog 29 #[.pointer (some ⟨q.lb, 0, none⟩), .int .i64 1, .int .i64 (i : Nat), .int .i64 x, .int .u32 y] w fun e w' => e = .returned (.int .i64 18) ∧ Hid (Below w.heap.size w w') := by
  have k0 := can_any 1 (i : Nat) h
  rw [hE] at k0
  have hL : Hid (Lm w B q L) := h
  have hgi : Hid (GrIn w B g) := h.gr g (.inr (List.mem_of_getElem? hg))
  have hib : i < 256 := by
    obtain ⟨cs, hb, hc⟩ := h.lk
    have := hc.n1.few
    have := (List.getElem?_eq_some_iff.1 hg).1
    omega
  have hc2 : Hid (∀ x, Below w.heap.size w x → x.cell? ⟨q.lb, 521 + i * 2, none⟩ = some (.slice g.a g.n g.c) ∧ x.cell? ⟨q.lb, 521 + i * 2 + 1, none⟩ = some (.bool g.sp) ∧ x.frozen? ⟨q.lb, 521 + i * 2, none⟩ = false ∧ x.frozen? ⟨q.lb, 521 + i * 2 + 1, none⟩ = false) := fun x hx => by
    obtain ⟨cs, hb, hc⟩ := h.lk
    have hb' := hb.kept hx
    exact ⟨(hb'.cell _).trans (hc.n1.row i g hg).1, (hb'.cell _).trans (hc.n1.row i g hg).2, hb'.fz _, hb'.fz _⟩
  have d0 : decide ((0 : Int) ≤ (i : Int)) = true := by simp
  have d1 : decide ((i : Int) < 256) = true := by simp; omega
  rw [hs] at hc2
  clear h hE hg hL hgi
  go_enter Tryz.func29, Tryz.ntmps29
  go_wp2_with fail
  refine k0.mono ?_
  rintro e w1 ⟨rfl, hb1⟩
  clear k0
  obtain ⟨c1, c2, f1, f2⟩ := hc2.out w1 hb1.out
  go_wp2
  go_ret
  exact ⟨rfl, hb1⟩
set_option maxRecDepth 100000 in
theorem kturn1 {w : World} {B : Nat} {q : Qb} {L : Lk} (i : Nat) (g : Gr) (x : Int) (y : Nat) (h : Lm w B q L) (hE : canE L 1 (i : Nat) = 0) (hg : L.n1[i]? = some g) (hs : g.sp = false) (h4 : 4 ≤ g.n) (hl : g.n ≤ 100000) (hx : (Lit.int .i64 x).wf = true) (hy : y < 4294967296) :
    Calls Tryz.prog 29 #[.pointer (some ⟨q.lb, 0, none⟩), .int .i64 1, .int .i64 (i : Nat), .int .i64 x, .int .u32 (y : Nat)] w fun e w' => e = .returned (.int .i64 0) ∧ Hid (∃ g' : Gr, g'.zs = turnL g.zs (x % ((g.n : Int) - 3)).toNat y ∧ g'.sp = ((y : Int) != 0) ∧ Lm w' B q { L with n1 := L.n1.set i g' }) ∧ Hid (K4 q w w') := by
  have k0 := can_any 1 (i : Nat) h
  rw [hE] at k0
  have hL : Hid (Lm w B q L) := h
  have hgi : Hid (GrIn w B g) := h.gr g (.inr (List.mem_of_getElem? hg))
  have hib : i < 256 := by
    obtain ⟨cs, hb, hc⟩ := h.lk
    have := hc.n1.few
    have := (List.getElem?_eq_some_iff.1 hg).1
    omega
  have hc2 : Hid (∀ x, Below w.heap.size w x → x.cell? ⟨q.lb, 521 + i * 2, none⟩ = some (.slice g.a g.n g.c) ∧ x.cell? ⟨q.lb, 521 + i * 2 + 1, none⟩ = some (.bool g.sp) ∧ x.frozen? ⟨q.lb, 521 + i * 2, none⟩ = false ∧ x.frozen? ⟨q.lb, 521 + i * 2 + 1, none⟩ = false) := fun x hx => by
    obtain ⟨cs, hb, hc⟩ := h.lk
    have hb' := hb.kept hx
    exact ⟨(hb'.cell _).trans (hc.n1.row i g hg).1, (hb'.cell _).trans (hc.n1.row i g hg).2, hb'.fz _, hb'.fz _⟩
  have d0 : decide ((0 : Int) ≤ (i : Int)) = true := by simp
  have d1 : decide ((i : Int) < 256) = true := by simp; omega
  rw [hs] at hc2
  have kT : Hid (∀ z, Below w.heap.size w z → Calls Tryz.prog 60 #[.slice g.a g.n g.c, .int .i64 x, .int .u32 (y : Nat)] z fun e w' => ∃ v, e = .returned v ∧ Hid (OwnsB w' z.heap.size v (turnL g.zs (x % ((g.n : Int) - 3)).toNat y)) ∧ Hid (Below z.heap.size z w')) := fun z hz => by
    have k := hgi.out.kept hz
    exact turned_any g.a g.n g.c g.zs x y z k.len k.nil k.le k.by_ h4 hl hx hy
  have hg' : Hid (L.n1[i]? = some g) := hg
  obtain ⟨sp, hsp⟩ : ∃ sp, ((y : Int) != 0) = sp := ⟨_, rfl⟩
  rw [hsp]
  generalize turnL g.zs (x % ((g.n : Int) - 3)).toNat y = T at *
  clear h hE hg h4 hl hx hy
  go_enter Tryz.func29, Tryz.ntmps29
  go_wp2_with fail
  refine k0.mono ?_
  rintro e w1 ⟨rfl, hb1⟩
  clear k0
  obtain ⟨c1, c2, f1, f2⟩ := hc2.out w1 hb1.out
  go_wp2_with (go_at_call 60; refine (kT.out _ hb1.out).mono ?_; rintro e w2 ⟨v, rfl, hO, hb2⟩; clear kT c1 c2 f1 f2; obtain ⟨c1, c2, f1, f2⟩ := hc2.out w2 (hb1.out.trans (hb2.out.mono hb1.out.size)); obtain ⟨g', e1, e2, rfl, hG⟩ := gr_of_owns sp hO.out; have hG' : Hid (GrIn w2 w1.heap.size g' ∧ g'.zs = T ∧ g'.sp = sp) := ⟨hG, e1, e2⟩; clear hG e1 e2 hO hc2)
  go_ret
  have hL2 : Lm w2 B q L := (hL.out.kept hb1.out).kept hb2.out
  have hz : B ≤ w1.heap.size := (hL.out.kept hb1.out).B_le
  obtain ⟨m1, m2⟩ := hL2.nset1 hg'.out g' (hG'.out.1.mono hz)
  rw [hG'.out.2.2] at m1 m2
  exact ⟨rfl, ⟨g', hG'.out.2.1, hG'.out.2.2, m1⟩, ((K4.of_below hb1.out).trans (K4.of_below hb2.out)).trans m2⟩
/-- What Turn answers. -/
def turnE (L : Lk) (n i : Int) : Int := if canE L n i ≠ 0 then canE L n i else match (netL L n)[i.toNat]? with
  | some g => if g.sp = true then 18 else 0
  | none => 0
/-- What Turn leaves. -/
def TurnS (L L' : Lk) (n i x : Int) (y : Nat) : Prop := (turnE L n i ≠ 0 → L' = L) ∧ (turnE L n i = 0 → ∃ g g' : Gr, (netL L n)[i.toNat]? = some g ∧ g.sp = false ∧ canE L n i = 0 ∧ g'.zs = turnL g.zs (x % ((g.zs.length : Int) - 3)).toNat y ∧ g'.sp = ((y : Int) != 0) ∧ L' = netS L n ((netL L n).set i.toNat g'))
theorem kturn_any {w : World} {B : Nat} {q : Qb} {L : Lk} (n i x : Int) (y : Nat) (h : Lm w B q L) (hG : ∀ g, g ∈ L.n0 ∨ g ∈ L.n1 → g.sp = false → 4 ≤ g.n ∧ g.n ≤ 100000) (hx : (Lit.int .i64 x).wf = true) (hy : y < 4294967296) :
    Calls Tryz.prog 29 #[.pointer (some ⟨q.lb, 0, none⟩), .int .i64 n, .int .i64 i, .int .i64 x, .int .u32 (y : Nat)] w fun e w' => e = .returned (.int .i64 (turnE L n i)) ∧ Hid (∃ L', TurnS L L' n i x y ∧ Lm w' B q L') ∧ Hid (K4 q w w') := by
  by_cases hE : canE L n i = 0
  · obtain ⟨h1, h2, h3⟩ := can_zero hE
    obtain ⟨i, rfl⟩ : ∃ k : Nat, i = (k : Int) := ⟨i.toNat, by omega⟩
    by_cases h0 : n = 0
    · subst h0
      have h3 : ((i : Nat) : Int) < L.n0.length := h3
      obtain ⟨g, hg⟩ : ∃ g, L.n0[i]? = some g := ⟨_, List.getElem?_eq_getElem (by omega)⟩
      have hgn : (netL L 0)[((i : Nat) : Int).toNat]? = some g := hg
      by_cases hs : g.sp = true
      · have e : turnE L 0 (i : Nat) = 18 := by unfold turnE; rw [if_neg (fun k => k hE), hgn]; show (if g.sp = true then (18 : Int) else 0) = 18; rw [if_pos hs]
        rw [e]
        refine (kturn0_sp i g x _ h hE hg hs).mono ?_
        rintro e' w' ⟨rfl, hb⟩
        exact ⟨rfl, ⟨L, ⟨fun _ => rfl, fun k => by rw [e] at k; cases k⟩, h.kept hb.out⟩, K4.of_below hb.out⟩
      · have hs : g.sp = false := by simpa using hs
        have e : turnE L 0 (i : Nat) = 0 := by unfold turnE; rw [if_neg (fun k => k hE), hgn]; show (if g.sp = true then (18 : Int) else 0) = 0; rw [hs]; rfl
        rw [e]
        obtain ⟨b1, b2⟩ := hG g (.inl (List.mem_of_getElem? hg)) hs
        have hlen := (h.gr g (.inl (List.mem_of_getElem? hg))).len
        refine (kturn0 i g x y h hE hg hs b1 b2 hx hy).mono ?_
        rintro e' w' ⟨rfl, hR, hK⟩
        obtain ⟨g', e1, e2, hL⟩ := hR.out
        exact ⟨rfl, ⟨_, ⟨fun k => absurd e k, fun _ => ⟨g, g', hgn, hs, hE, by rw [e1, ← hlen], e2, rfl⟩⟩, hL⟩, hK⟩
    · have hn1 : n = 1 := by
        unfold netB at h1
        simp at h1
        omega
      subst hn1
      have h3 : ((i : Nat) : Int) < L.n1.length := h3
      obtain ⟨g, hg⟩ : ∃ g, L.n1[i]? = some g := ⟨_, List.getElem?_eq_getElem (by omega)⟩
      have hgn : (netL L 1)[((i : Nat) : Int).toNat]? = some g := hg
      by_cases hs : g.sp = true
      · have e : turnE L 1 (i : Nat) = 18 := by unfold turnE; rw [if_neg (fun k => k hE), hgn]; show (if g.sp = true then (18 : Int) else 0) = 18; rw [if_pos hs]
        rw [e]
        refine (kturn1_sp i g x _ h hE hg hs).mono ?_
        rintro e' w' ⟨rfl, hb⟩
        exact ⟨rfl, ⟨L, ⟨fun _ => rfl, fun k => by rw [e] at k; cases k⟩, h.kept hb.out⟩, K4.of_below hb.out⟩
      · have hs : g.sp = false := by simpa using hs
        have e : turnE L 1 (i : Nat) = 0 := by unfold turnE; rw [if_neg (fun k => k hE), hgn]; show (if g.sp = true then (18 : Int) else 0) = 0; rw [hs]; rfl
        rw [e]
        obtain ⟨b1, b2⟩ := hG g (.inr (List.mem_of_getElem? hg)) hs
        have hlen := (h.gr g (.inr (List.mem_of_getElem? hg))).len
        refine (kturn1 i g x y h hE hg hs b1 b2 hx hy).mono ?_
        rintro e' w' ⟨rfl, hR, hK⟩
        obtain ⟨g', e1, e2, hL⟩ := hR.out
        exact ⟨rfl, ⟨_, ⟨fun k => absurd e k, fun _ => ⟨g, g', hgn, hs, hE, by rw [e1, ← hlen], e2, rfl⟩⟩, hL⟩, hK⟩
  · have e : turnE L n i = canE L n i := by unfold turnE; rw [if_pos hE]
    rw [e]
    refine (kturn_no n i x _ h hE).mono ?_
    rintro e' w' ⟨rfl, hb⟩
    exact ⟨rfl, ⟨L, ⟨fun _ => rfl, fun k => absurd (e.symm.trans k) hE⟩, h.kept hb.out⟩, K4.of_below hb.out⟩
end Go.Proofs.YtfipdldoklkciaaGreat
namespace Go.Proofs.YtfipdldoklkciaaGreat
open Go.RowKit
set_option linter.unusedVariables false
theorem mcells_at {w : World} {b : Nat} {m : Mg} {a : Option Addr} {n c : Nat} {T : TypeId} (h : Blk w b #[.int .i64 m.kind, .int .u64 m.tok, .int .i64 m.ep, .int .i64 m.seq, .int .i64 m.ack, .int .u64 m.bits, .int .i64 m.cred, .int .i64 m.fmt, .slice a n c] T) : w.cell? ⟨b, 1, none⟩ = some (.int .u64 m.tok) := h.cell 1
def ownB (L : Lk) (zs : List Int) : Bool := decide (upE zs = 0 ∧ (upG zs).tok = L.tok)
set_option maxRecDepth 100000 in
theorem isown_any {w : World} {B : Nat} {q : Qb} {L : Lk} (a : Option Addr) (n c : Nat) (zs : List Int) (h : Lm w B q L) (hn : zs.length = n) (hb : Bytes w a zs) (hc : n ≤ c) (hcm : c ≤ 9223372036854775807) :
    Calls Tryz.prog 61 #[.pointer (some ⟨q.lb, 0, none⟩), .slice a n c] w fun e w' => e = .returned (.bool (ownB L zs)) ∧ Hid (Below w.heap.size w w') := by
  have kU := unpack_any a n c zs w hn hb hc hcm
  have hL : Hid (Lm w B q L) := h
  have hE : Hid (ownB L zs = decide (upE zs = 0 ∧ (outM zs).tok = L.tok)) := by
    show _ = _
    unfold ownB
    by_cases h0 : upE zs = 0
    · rw [outM_zero h0]
    · simp [h0]
  rw [hE.out]
  clear h hn hb hc hcm hE
  generalize hm : outM zs = m at *
  have hUp : Hid (∀ w w' e, UpR w w' zs e → ∃ a n c, e = .returned (.tuple #[mval m a n c, .int .i64 (upE zs)])) := fun w w' e h => by
    obtain ⟨a3, n3, c3, he, _⟩ := h
    exact ⟨a3, n3, c3, by rw [← hm]; exact he⟩
  clear hm
  generalize upE zs = x at *
  obtain ⟨R, hR⟩ : ∃ R, R = decide (x = 0 ∧ m.tok = L.tok) := ⟨_, rfl⟩
  rw [← hR]
  go_enter Tryz.func61, Tryz.ntmps61
  go_wp2_with fail
  refine kU.mono ?_
  rintro e w1 ⟨hU, hb1⟩
  obtain ⟨a3, n3, c3, rfl⟩ := hUp.out _ _ _ hU.out
  have hL1 : Hid (Lm w1 B q L) := hL.out.kept hb1.out
  have hb1' : Hid (Below w.heap.size w w1) := hb1.out
  clear kU hU hUp hL hb1
  unfold mval
  have hbk : Hid (Blk (w1.alloc (.cells #[.int .i64 m.kind, .int .u64 m.tok, .int .i64 m.ep, .int .i64 m.seq, .int .i64 m.ack, .int .u64 m.bits, .int .i64 m.cred, .int .i64 m.fmt, .slice a3 n3 c3] 100)) w1.heap.size #[.int .i64 m.kind, .int .u64 m.tok, .int .i64 m.ep, .int .i64 m.seq, .int .i64 m.ack, .int .u64 m.bits, .int .i64 m.cred, .int .i64 m.fmt, .slice a3 n3 c3] 100) := blk_new _ _ _
  have hA : Hid (Below w1.heap.size w1 (w1.alloc (.cells #[.int .i64 m.kind, .int .u64 m.tok, .int .i64 m.ep, .int .i64 m.seq, .int .i64 m.ack, .int .u64 m.bits, .int .i64 m.cred, .int .i64 m.fmt, .slice a3 n3 c3] 100))) := (Below.refl _ _).alloc (Nat.le_refl _) _
  have q1 := mcells_at hbk.out
  have q2 := (hL1.out.kept hA.out).cell.2.1
  have hB : Hid (Below w.heap.size w (w1.alloc (.cells #[.int .i64 m.kind, .int .u64 m.tok, .int .i64 m.ep, .int .i64 m.seq, .int .i64 m.ack, .int .u64 m.bits, .int .i64 m.cred, .int .i64 m.fmt, .slice a3 n3 c3] 100))) := hb1'.out.trans (hA.out.mono hb1'.out.size)
  clear hL1 hb1' hA hbk
  by_cases h0 : x = 0
  · subst h0
    by_cases h1 : m.tok = L.tok
    · have d1 : (m.tok == L.tok) = true := by simpa using h1
      obtain rfl : R = true := by rw [hR]; simp [h1]
      clear h1 hR
      go_wp2
      generalize w1.alloc (.cells #[.int .i64 m.kind, .int .u64 m.tok, .int .i64 m.ep, .int .i64 m.seq, .int .i64 m.ack, .int .u64 m.bits, .int .i64 m.cred, .int .i64 m.fmt, .slice a3 n3 c3] 100) = W at *
      go_quiet (fail)
      go_wp2
      go_ret
      exact ⟨rfl, Below.drN hB.out _⟩
    · have d1 : (m.tok == L.tok) = false := by simpa using h1
      obtain rfl : R = false := by rw [hR]; simp [h1]
      clear h1 hR
      go_wp2
      generalize w1.alloc (.cells #[.int .i64 m.kind, .int .u64 m.tok, .int .i64 m.ep, .int .i64 m.seq, .int .i64 m.ack, .int .u64 m.bits, .int .i64 m.cred, .int .i64 m.fmt, .slice a3 n3 c3] 100) = W at *
      go_quiet (fail)
      go_wp2
      go_ret
      exact ⟨rfl, Below.drN hB.out _⟩
  · have d0 : (x == 0) = false := by simpa using h0
    obtain rfl : R = false := by rw [hR]; simp [h0]
    clear h0 hR
    go_wp2
    generalize w1.alloc (.cells #[.int .i64 m.kind, .int .u64 m.tok, .int .i64 m.ep, .int .i64 m.seq, .int .i64 m.ack, .int .u64 m.bits, .int .i64 m.cred, .int .i64 m.fmt, .slice a3 n3 c3] 100) = W at *
    go_quiet (fail)
    go_wp2
    go_ret
    exact ⟨rfl, Below.drN hB.out _⟩
def forgeE (L : Lk) (n : Int) (zs : List Int) : Int := if netB n = false then 1 else if 1208 < zs.length then 8 else if ownB L zs = true then 1 else 0
def ForgeS (L L' : Lk) (n : Int) (zs : List Int) : Prop := (forgeE L n zs ≠ 0 → L' = L) ∧ (forgeE L n zs = 0 → ∃ g : Gr, g.zs = zs ∧ g.sp = true ∧ L' = netS L n (putG (netL L n) g))
set_option maxRecDepth 100000 in
theorem forge0 {w : World} {B : Nat} {q : Qb} {L : Lk} (a : Option Addr) (n c : Nat) (zs : List Int) (h : Lm w B q L) (hn : zs.length = n) (h0 : a = none → c = 0) (hb : Bytes w a zs) (hc : n ≤ c) (hcm : c ≤ 9223372036854775807) (h1 : n ≤ 1208) (ho : ownB L zs = false) :
    Calls Tryz.prog 30 #[.pointer (some ⟨q.lb, 0, none⟩), .int .i64 0, .slice a n c] w fun e w' => e = .returned (.int .i64 0) ∧ Hid (∃ g : Gr, g.zs = zs ∧ g.sp = true ∧ Lm w' B q { L with n0 := putG L.n0 g }) ∧ Hid (K4 q w w') := by
  have k0 := kmade h
  have k1 := isnet_any 0 w
  rw [show netB 0 = true from rfl] at k1
  have k2 := isown_any a n c zs h hn hb hc hcm
  rw [ho] at k2
  have d0 : decide ((n : Int) > 1208) = false := by simp; omega
  have kC : Hid (∀ x, Below w.heap.size w x → Calls Tryz.prog 62 #[.slice a n c] x fun e w' => ∃ g : Gr, e = .returned (.slice g.a g.n g.c) ∧ Hid (GrIn w' B g ∧ g.zs = zs ∧ g.sp = true ∧ Below w.heap.size w w' ∧ Lm w' B q L)) := fun x hx => (clone_any a n c zs x hn h0 hc (hb.kept hx) (by omega)).mono (by
    rintro e w' ⟨v, rfl, hO, hbb⟩
    obtain ⟨g, e1, e2, rfl, hG⟩ := gr_of_owns true hO.out
    exact ⟨g, rfl, hG.mono (h.kept hx).B_le, e1, e2, hx.trans (hbb.out.mono hx.size), (h.kept hx).kept hbb.out⟩)
  have kP : Hid (∀ x (g : Gr), (GrIn x B g ∧ g.zs = zs ∧ g.sp = true ∧ Below w.heap.size w x ∧ Lm x B q L) → Calls Tryz.prog 59 #[.pointer (some ⟨q.lb, 6, none⟩), .agg #[.slice g.a g.n g.c, .bool true]] x fun e w' => e = .returned (.tuple #[]) ∧ Hid (∃ g : Gr, g.zs = zs ∧ g.sp = true ∧ Lm w' B q { L with n0 := putG L.n0 g }) ∧ Hid (K4 q w w')) := fun x g hx => by
    obtain ⟨x1, x2, x3, x4, x5⟩ := hx
    have k := lput0 g x5 x1
    unfold Gr.val at k
    rw [x3] at k
    refine k.mono ?_
    rintro e w' ⟨rfl, hl, hk⟩
    exact ⟨rfl, ⟨g, x2, x3, hl.out⟩, (K4.of_below x4).trans hk.out⟩
  have hL : Hid (Lm w B q L) := h
  clear h hn h0 hb hc hcm h1 ho
  go_enter Tryz.func30, Tryz.ntmps30
  go_wp2_with fail
  refine k0.mono ?_
  rintro e wn ⟨rfl, hwn⟩
  obtain rfl := hwn.symm
  clear hwn k0
  go_wp2_with (first
    | (go_at_call 42; refine k1.mono ?_; rintro e wn ⟨rfl, hwn⟩; obtain rfl := hwn.symm; clear hwn k1)
    | (go_at_call 61; refine k2.mono ?_; rintro e w1 ⟨rfl, hb1⟩; clear k2))
  go_region_with (first
    | (go_at_call 62; refine (kC.out _ (by repeat' with_reducible first | exact hb1.out | refine Below.drew ?_ | refine Below.drN ?_ _)).mono ?_; rintro e w2 ⟨g, rfl, hG⟩; clear kC)
    | (go_at_call 59; refine (kP.out _ _ hG.out).mono ?_; rintro e w3 ⟨rfl, hL3, hK3⟩; clear kP))
  all_goals go_wp2
  all_goals go_ret
  all_goals exact ⟨rfl, hL3, hK3⟩
set_option maxRecDepth 100000 in
theorem forge1 {w : World} {B : Nat} {q : Qb} {L : Lk} (a : Option Addr) (n c : Nat) (zs : List Int) (h : Lm w B q L) (hn : zs.length = n) (h0 : a = none → c = 0) (hb : Bytes w a zs) (hc : n ≤ c) (hcm : c ≤ 9223372036854775807) (h1 : n ≤ 1208) (ho : ownB L zs = false) :
    Calls Tryz.prog 30 #[.pointer (some ⟨q.lb, 0, none⟩), .int .i64 1, .slice a n c] w fun e w' => e = .returned (.int .i64 0) ∧ Hid (∃ g : Gr, g.zs = zs ∧ g.sp = true ∧ Lm w' B q { L with n1 := putG L.n1 g }) ∧ Hid (K4 q w w') := by
  have k0 := kmade h
  have k1 := isnet_any 1 w
  rw [show netB 1 = true from rfl] at k1
  have k2 := isown_any a n c zs h hn hb hc hcm
  rw [ho] at k2
  have d0 : decide ((n : Int) > 1208) = false := by simp; omega
  have kC : Hid (∀ x, Below w.heap.size w x → Calls Tryz.prog 62 #[.slice a n c] x fun e w' => ∃ g : Gr, e = .returned (.slice g.a g.n g.c) ∧ Hid (GrIn w' B g ∧ g.zs = zs ∧ g.sp = true ∧ Below w.heap.size w w' ∧ Lm w' B q L)) := fun x hx => (clone_any a n c zs x hn h0 hc (hb.kept hx) (by omega)).mono (by
    rintro e w' ⟨v, rfl, hO, hbb⟩
    obtain ⟨g, e1, e2, rfl, hG⟩ := gr_of_owns true hO.out
    exact ⟨g, rfl, hG.mono (h.kept hx).B_le, e1, e2, hx.trans (hbb.out.mono hx.size), (h.kept hx).kept hbb.out⟩)
  have kP : Hid (∀ x (g : Gr), (GrIn x B g ∧ g.zs = zs ∧ g.sp = true ∧ Below w.heap.size w x ∧ Lm x B q L) → Calls Tryz.prog 59 #[.pointer (some ⟨q.lb, 521, none⟩), .agg #[.slice g.a g.n g.c, .bool true]] x fun e w' => e = .returned (.tuple #[]) ∧ Hid (∃ g : Gr, g.zs = zs ∧ g.sp = true ∧ Lm w' B q { L with n1 := putG L.n1 g }) ∧ Hid (K4 q w w')) := fun x g hx => by
    obtain ⟨x1, x2, x3, x4, x5⟩ := hx
    have k := lput1 g x5 x1
    unfold Gr.val at k
    rw [x3] at k
    refine k.mono ?_
    rintro e w' ⟨rfl, hl, hk⟩
    exact ⟨rfl, ⟨g, x2, x3, hl.out⟩, (K4.of_below x4).trans hk.out⟩
  have hL : Hid (Lm w B q L) := h
  clear h hn h0 hb hc hcm h1 ho
  go_enter Tryz.func30, Tryz.ntmps30
  go_wp2_with fail
  refine k0.mono ?_
  rintro e wn ⟨rfl, hwn⟩
  obtain rfl := hwn.symm
  clear hwn k0
  go_wp2_with (first
    | (go_at_call 42; refine k1.mono ?_; rintro e wn ⟨rfl, hwn⟩; obtain rfl := hwn.symm; clear hwn k1)
    | (go_at_call 61; refine k2.mono ?_; rintro e w1 ⟨rfl, hb1⟩; clear k2))
  go_region_with (first
    | (go_at_call 62; refine (kC.out _ (by repeat' with_reducible first | exact hb1.out | refine Below.drew ?_ | refine Below.drN ?_ _)).mono ?_; rintro e w2 ⟨g, rfl, hG⟩; clear kC)
    | (go_at_call 59; refine (kP.out _ _ hG.out).mono ?_; rintro e w3 ⟨rfl, hL3, hK3⟩; clear kP))
  all_goals go_wp2
  all_goals go_ret
  all_goals exact ⟨rfl, hL3, hK3⟩
set_option maxRecDepth 100000 in
theorem forge_no {w : World} {B : Nat} {q : Qb} {L : Lk} (k : Int) (a : Option Addr) (n c : Nat) (zs : List Int) (h : Lm w B q L) (hn : zs.length = n) (hb : Bytes w a zs) (hc : n ≤ c) (hcm : c ≤ 9223372036854775807) (hE : forgeE L k zs ≠ 0) :
    Calls Tryz.prog 30 #[.pointer (some ⟨q.lb, 0, none⟩), .int .i64 k, .slice a n c] w fun e w' => e = .returned (.int .i64 (forgeE L k zs)) ∧ Hid (Below w.heap.size w w') := by
  have k0 := kmade h
  have k1 := isnet_any k w
  cases hk : netB k with
  | false =>
    have e : forgeE L k zs = 1 := by unfold forgeE; rw [if_pos hk]
    rw [e]
    rw [hk] at k1
    clear h hn hb hc hcm hE e hk
    go_enter Tryz.func30, Tryz.ntmps30
    go_wp2_with (first
      | (go_at_call 41; refine k0.mono ?_; rintro e wn ⟨rfl, hwn⟩; obtain rfl := hwn.symm; clear hwn k0)
      | (go_at_call 42; refine k1.mono ?_; rintro e wn ⟨rfl, hwn⟩; obtain rfl := hwn.symm; clear hwn k1))
    go_ret
    exact ⟨rfl, Below.refl _ _⟩
  | true =>
    rw [hk] at k1
    by_cases h1 : 1208 < zs.length
    · have e : forgeE L k zs = 8 := by unfold forgeE; rw [if_neg (by rw [hk]; decide), if_pos h1]
      rw [e]
      have d0 : decide ((n : Int) > 1208) = true := by simp; omega
      clear h hn hb hc hcm hE e hk h1
      go_enter Tryz.func30, Tryz.ntmps30
      go_wp2_with (first
        | (go_at_call 41; refine k0.mono ?_; rintro e wn ⟨rfl, hwn⟩; obtain rfl := hwn.symm; clear hwn k0)
        | (go_at_call 42; refine k1.mono ?_; rintro e wn ⟨rfl, hwn⟩; obtain rfl := hwn.symm; clear hwn k1))
      go_ret
      exact ⟨rfl, Below.refl _ _⟩
    · have ho : ownB L zs = true := by
        rcases Bool.eq_false_or_eq_true (ownB L zs) with h2 | h2
        · exact h2
        · exfalso
          apply hE
          unfold forgeE
          rw [if_neg (by rw [hk]; decide), if_neg h1, if_neg (by rw [h2]; decide)]
      have e : forgeE L k zs = 1 := by unfold forgeE; rw [if_neg (by rw [hk]; decide), if_neg h1, if_pos ho]
      rw [e]
      have d0 : decide ((n : Int) > 1208) = false := by simp; omega
      have k2 := isown_any a n c zs h hn hb hc hcm
      rw [ho] at k2
      clear h hn hb hc hcm hE e hk h1 ho
      go_enter Tryz.func30, Tryz.ntmps30
      go_wp2_with (first
        | (go_at_call 41; refine k0.mono ?_; rintro e wn ⟨rfl, hwn⟩; obtain rfl := hwn.symm; clear hwn k0)
        | (go_at_call 42; refine k1.mono ?_; rintro e wn ⟨rfl, hwn⟩; obtain rfl := hwn.symm; clear hwn k1)
        | (go_at_call 61; refine k2.mono ?_; rintro e w1 ⟨rfl, hb1⟩; clear k2))
      go_ret
      exact ⟨rfl, hb1⟩
theorem forge_any {w : World} {B : Nat} {q : Qb} {L : Lk} (k : Int) (a : Option Addr) (n c : Nat) (zs : List Int) (h : Lm w B q L) (hn : zs.length = n) (h0 : a = none → c = 0) (hb : Bytes w a zs) (hc : n ≤ c) (hcm : c ≤ 9223372036854775807) :
    Calls Tryz.prog 30 #[.pointer (some ⟨q.lb, 0, none⟩), .int .i64 k, .slice a n c] w fun e w' => e = .returned (.int .i64 (forgeE L k zs)) ∧ Hid (∃ L', ForgeS L L' k zs ∧ Lm w' B q L') ∧ Hid (K4 q w w') := by
  by_cases hE : forgeE L k zs = 0
  · have hE' := hE
    unfold forgeE at hE'
    split at hE'
    · cases hE'
    split at hE'
    · cases hE'
    split at hE'
    · cases hE'
    rename_i h1 h2 h3
    have ho : ownB L zs = false := by simpa using h3
    have h1 : netB k = true := by simpa using h1
    rw [hE]
    by_cases hk : k = 0
    · subst hk
      refine (forge0 a n c zs h hn h0 hb hc hcm (by omega) ho).mono ?_
      rintro e' w' ⟨rfl, hR, hK⟩
      obtain ⟨g, e1, e2, hL⟩ := hR.out
      exact ⟨rfl, ⟨_, ⟨fun x => absurd hE x, fun _ => ⟨g, e1, e2, rfl⟩⟩, hL⟩, hK⟩
    · have hn1 : k = 1 := by
        unfold netB at h1
        simp at h1
        omega
      subst hn1
      refine (forge1 a n c zs h hn h0 hb hc hcm (by omega) ho).mono ?_
      rintro e' w' ⟨rfl, hR, hK⟩
      obtain ⟨g, e1, e2, hL⟩ := hR.out
      exact ⟨rfl, ⟨_, ⟨fun x => absurd hE x, fun _ => ⟨g, e1, e2, rfl⟩⟩, hL⟩, hK⟩
  · refine (forge_no k a n c zs h hn hb hc hcm hE).mono ?_
    rintro e' w' ⟨rfl, hb⟩
    exact ⟨rfl, ⟨L, ⟨fun _ => rfl, fun x => absurd x hE⟩, h.kept hb.out⟩, K4.of_below hb.out⟩
theorem del_any {w : World} {B : Nat} {q : Qb} {L : Lk} (n i : Int) (h : Lm w B q L) :
    Calls Tryz.prog 25 #[.pointer (some ⟨q.lb, 0, none⟩), .int .i64 n, .int .i64 i] w fun e w' => e = .returned (.int .i64 (delS L n i).1) ∧ Hid (Lm w' B q (delS L n i).2) ∧ Hid (K4 q w w') := by
  by_cases hE : canE L n i = 0
  · obtain ⟨h1, h2, h3⟩ := can_zero hE
    obtain ⟨i, rfl⟩ : ∃ k : Nat, i = (k : Int) := ⟨i.toNat, by omega⟩
    by_cases h0 : n = 0
    · subst h0
      have h3 : ((i : Nat) : Int) < L.n0.length := h3
      obtain ⟨g, hg⟩ : ∃ g, L.n0[i]? = some g := ⟨_, List.getElem?_eq_getElem (by omega)⟩
      have e : delS L 0 (i : Nat) = delR { L with n0 := L.n0.eraseIdx i } 0 g.zs := by
        unfold delS
        rw [show (netL L 0)[((i : Nat) : Int).toNat]? = some g from hg]
        show (if canE L 0 (i : Nat) = 0 then _ else _) = _
        rw [if_pos hE]; rfl
      rw [e]
      exact del0 i g h hE hg
    · have hn1 : n = 1 := by
        unfold netB at h1
        simp at h1
        omega
      subst hn1
      have h3 : ((i : Nat) : Int) < L.n1.length := h3
      obtain ⟨g, hg⟩ : ∃ g, L.n1[i]? = some g := ⟨_, List.getElem?_eq_getElem (by omega)⟩
      have e : delS L 1 (i : Nat) = delR { L with n1 := L.n1.eraseIdx i } 1 g.zs := by
        unfold delS
        rw [show (netL L 1)[((i : Nat) : Int).toNat]? = some g from hg]
        show (if canE L 1 (i : Nat) = 0 then _ else _) = _
        rw [if_pos hE]; rfl
      rw [e]
      exact del1 i g h hE hg
  · have e : delS L n i = (canE L n i, L) := by
      unfold delS
      split
      · rw [if_neg hE]
      · rfl
    rw [e]
    refine (del_no n i h hE).mono ?_
    rintro e w' ⟨rfl, hb⟩
    exact ⟨rfl, h.kept hb.out, K4.of_below hb.out⟩
end Go.Proofs.YtfipdldoklkciaaGreat
