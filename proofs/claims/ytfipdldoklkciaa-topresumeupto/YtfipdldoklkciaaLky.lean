/-
  A load that goes over, of any bytes; a block that is written over; an act as an argument.
-/
import Derived.Test.YtfipdldoklkciaaLkx
import Derived.Deep.RegionHeld
namespace Go.Proofs.Ytfipdldoklkciaa
open Go.RowKit Go.ChangeShapes Go.WideShapes
set_option linter.unusedVariables false
set_option linter.unusedSimpArgs false
/-- A block of bytes that may be written over: the first n cells. -/
def DW (w : World) (g n : Nat) : Prop := ∀ i, i < n → (∃ c, w.cell? ⟨g, i, none⟩ = some (.int .u8 c)) ∧ w.frozen? ⟨g, i, none⟩ = false
theorem DW.of {w : World} {base n c : Nat} {g : Nat} {zs : List Int} (h : OwnsB w base (.slice (some ⟨g, 0, none⟩) n c) zs) : DW w g zs.length := by
  intro i hi
  obtain ⟨a, cap, hv, _, _, hb, _⟩ := h.shape
  cases hv
  rcases hb.2.2 with h0 | ⟨b, off, e, hc⟩
  · rw [h0] at hi; simp at hi
  · cases e
    refine ⟨⟨_, by have := hc i hi; rw [Nat.zero_add] at this; exact this⟩, ?_⟩
    obtain ⟨cs, hk⟩ := h.blk _ rfl
    exact hk.fz i
theorem DW.set {w : World} {g n : Nat} (h : DW w g n) (j : Nat) (v : Int) : DW (w.setCell ⟨g, j, none⟩ (.int .u8 v)) g n := by
  intro i hi
  obtain ⟨⟨c, hc⟩, hf⟩ := h i hi
  refine ⟨?_, by rw [World.frozen?_setCell]; exact hf⟩
  by_cases hij : i = j
  · subst hij
    exact ⟨v, World.cell?_setCell_same w _ _ hc⟩
  · exact ⟨c, by rw [World.cell?_setCell_other w _ _ _ (fun e => by injection e; omega)]; exact hc⟩
theorem DW.k2 {w w' : World} {g n rb : Nat} (h : DW w g n) (k : K2 rb rb w w') (hg : g ≠ rb) : DW w' g n := by
  intro i hi
  obtain ⟨⟨c, hc⟩, hf⟩ := h i hi
  have hlt : g < w.heap.size := by
    simp only [World.cell?] at hc
    rcases Nat.lt_or_ge g w.heap.size with h2 | h2
    · exact h2
    · simp [Array.getElem?_eq_none h2] at hc
  have e := k.block g hlt hg hg
  refine ⟨⟨c, by rw [World.cell?_of_block e]; exact hc⟩, ?_⟩
  unfold World.frozen? at hf ⊢
  rw [e]
  exact hf

/-! ### a link whose load lies elsewhere -/
theorem Sd.away {w w' : World} {B sb mb g : Nat} {s : St} (h : Sd w B sb mb s) (k : K2 g g w w') (h1 : sb ≠ g) (h2 : mb ≠ g) (hl : ∀ z e x, s.L z = some e → e.a = some x → x.block ≠ g) : Sd w' B sb mb s := by
  refine ⟨h.ok, h.hs, h.hm, (k.block sb h.blk.lt h1 h1).trans h.blk, ?_, fun z e he => ?_⟩
  · obtain ⟨D, ⟨es, clock, a1, a2⟩, a3⟩ := h.mp
    exact ⟨D, ⟨es, clock, (k.block mb (Array.getElem?_eq_some_iff.1 a1).1 h2 h2).trans a1, a2⟩, a3⟩
  · have l := h.ld z e he
    have hne : ∀ x, e.a = some x → x.block ≠ g ∧ x.block ≠ g := fun x hx => ⟨hl z e x he hx, hl z e x he hx⟩
    exact ⟨l.by_.k2 k hne, l.nil, l.le, l.mx, fun x hx => ⟨(l.at_ x hx).1, Nat.lt_of_lt_of_le (l.at_ x hx).2.1 k.size, (l.at_ x hx).2.2⟩, fun x hx => (l.ty x hx).imp fun cs hc => (k.block x.block (l.at_ x hx).2.1 (hne x hx).1 (hne x hx).2).trans hc⟩
theorem Lm.away {w w' : World} {B g : Nat} {q : Qb} {L : Lk} (h : Lm w B q L) (k : K2 g g w w') (h1 : q.lb ≠ g) (h2 : q.sb ≠ g) (h3 : q.mb ≠ g) (h4 : q.rb ≠ g) (hl : ∀ z e x, L.s.L z = some e → e.a = some x → x.block ≠ g) (e0 : L.n0 = []) (e1 : L.n1 = []) : Lm w' B q L :=
  ⟨h.ok, h.sd.away k h2 h3 hl, h.rv.k2 k h4 h4, h.lk.imp fun cs hc => ⟨(k.block q.lb hc.1.lt h1 h1).trans hc.1, hc.2⟩, (fun x hx => by rw [e0, e1] at hx; simp at hx), h.hl, h.hr⟩
set_option maxRecDepth 100000 in
theorem send_far {w : World} {B : Nat} {q : Qb} {L : Lk} (a : Option Addr) (n c : Nat) (zs : List Int) (h : Lm w B q L) (hB : B ≤ w.heap.size) (hn : zs.length = n) (h0 : a = none → c = 0) (hb : Bytes w a zs) (hE : sendE L n = 0) :
    Calls Try.prog 26 #[.pointer (some ⟨q.lb, 0, none⟩), .slice a n c] w fun e w' => e = .returned (.int .i64 0) ∧ Hid (∃ en : Ent, en.zs = zs ∧ en.time = L.now ∧ en.wait = 1 ∧ en.there = false ∧ (∀ x, en.a = some x → w.heap.size ≤ x.block) ∧ Lm w' B q { L with s := addA L.s en }) ∧ Hid (K4 q w w') := by
  have k0 := kmade h
  have c2 := h.cell.2.2.1
  have c4 := h.cell.2.2.2.2.1
  have h1 : ¬ 1100 < n := fun h2 => by unfold sendE at hE; rw [if_pos h2] at hE; cases hE
  have d1 : decide ((n : Int) > 1100) = false := by simp; omega
  have hp : pushE L.s n L.now = 0 := by unfold sendE at hE; rw [if_neg h1] at hE; exact hE
  have k1 : Hid (Calls Try.prog 64 #[.pointer (some ⟨q.sb, 0, none⟩), .slice a n c, .int .i64 L.now] w.drew fun e w' => ∃ v, e = .returned (.tuple #[v, .int .i64 0]) ∧ Hid (∃ en : Ent, en.zs = zs ∧ en.time = L.now ∧ en.wait = 1 ∧ en.there = false ∧ (∀ x, en.a = some x → w.heap.size ≤ x.block) ∧ Lm w' B q { L with s := addA L.s en }) ∧ Hid (K4 q w w')) := by
    refine (push_ok a n c zs L.now h.drew.sd hp hB hn h0 (hb.drewN 1)).mono ?_
    rintro e' w' ⟨rfl, en, he, hS, hK⟩
    refine ⟨_, rfl, ⟨en, he.out.1, he.out.2.1, he.out.2.2.1, he.out.2.2.2.1, he.out.2.2.2.2, ?_⟩, (K4.refl q w).drew.trans (K4.of_s hK.out)⟩
    refine h.drew.turnS hS.out hK.out (fun z e1 he1 => ?_)
    have he1 : (if z = L.s.nxt then some en else L.s.L z) = some e1 := he1
    split at he1
    · obtain rfl := Option.some.inj he1
      rw [he.out.1]; omega
    · exact h.ok.few z e1 he1
  clear h h1 hp hb h0 hn hB hE
  go_enter Try.func26, Try.ntmps26
  go_wp2_with (go_at_call 58; refine k0.mono ?_; rintro e w1 ⟨rfl, hw1⟩; obtain rfl := hw1.symm; clear hw1)
  go_region_with (go_at_call 64; refine k1.out.mono ?_; rintro e w1 ⟨v, rfl, hS, hK⟩; clear k1)
  all_goals go_wp2
  all_goals go_ret
  all_goals exact ⟨rfl, hS, hK⟩
/-! ### a load of any bytes goes over -/
def bL1 : Lk := l0 1 2
def bL2 (en : Ent) : Lk := { bL1 with s := addA bL1.s en }
def bL3 (en : Ent) (g1 g2 : Gr) : Lk := { tk1 (bL2 en) with n0 := [g1], n1 := [g2] }
def bL4 (en : Ent) (g1 g2 : Gr) (zs : List Int) : Lk := { bL3 en g1 g2 with n0 := [], r := putA (r0 2) 1 zs }
theorem b_send (n : Nat) : sendE bL1 n = if 1100 < n then 8 else 0 := by
  unfold sendE
  by_cases h : 1100 < n
  · rw [if_pos h, if_pos h]
  · rw [if_neg h, if_neg h]
    unfold pushE
    rw [if_neg (by decide), if_neg (by omega), if_neg (by decide)]
theorem b_due (en : Ent) (h2 : en.time = 0) (h4 : en.there = false) : dueN (bL2 en) = [(1, en.zs)] := by
  have t1 : tellB 1 en = true := by simp [tellB, h2, h4]
  unfold dueN
  show dueL (addA (s0 2 2) en) (0 + 1) 1 = _
  simp [dueL, addA, s0, t1]
theorem b_lok (en : Ent) (h1 : en.zs.length ≤ 1100) : Lok (bL2 en) := by
  refine ⟨by show (0 : Int) ≤ 1; decide, by show (1 : Int) < _; decide, by show (0 : Int) ≤ 0; decide, by show (0 : Int) ≤ _; decide, by show (1 : Int) ≤ 1; decide, fun z e he => ?_⟩
  have he : (if z = 1 then some en else none) = some e := he
  split at he
  · obtain rfl := Option.some.inj he
    exact h1
  · cases he
theorem b_data (zs : List Int) (h : zs.length ≤ 1100) : dataE (r0 2) 1 zs.length = 0 := by
  unfold dataE
  rw [if_neg (by decide), if_neg (by omega), if_neg (by decide), if_neg (by decide)]
theorem b_del (en : Ent) (g1 g2 : Gr) (h1 : en.zs.length ≤ 1100) (hb : ∀ c ∈ en.zs, 0 ≤ c ∧ c < 256) (hg : g1.zs = pkB (tellM (bL2 en) (mdata 1 en.zs))) : delR { bL3 en g1 g2 with n0 := (bL3 en g1 g2).n0.eraseIdx 0 } 0 g1.zs = (0, bL4 en g1 g2 en.zs) := by
  obtain ⟨p1, p2⟩ := pk_data (b_lok en h1) (by show (1 : Int) ≤ _; decide) (show (0 : Int) ≤ 1 by decide) (show (1 : Int) ≤ 4611686018427387904 by decide) h1 hb
  obtain ⟨u1, u2, _⟩ := up_pk p1 p2
  unfold delR
  rw [hg, u1, u2, if_neg (by decide), if_neg (by rintro (k | k); exact k rfl; exact k rfl), if_neg (fun k => k rfl), if_pos rfl]
  have e1 : dataE (r0 2) 1 en.zs.length = 0 := b_data en.zs h1
  show (dataE (r0 2) 1 en.zs.length, ({ bL3 en g1 g2 with n0 := [], r := dataS (r0 2) 1 en.zs } : Lk)) = _
  unfold dataS
  rw [e1, if_pos rfl]
  rfl
theorem b_tick {w' : World} {B : Nat} {q : Qb} (en : Ent) (h2 : en.time = 0) (h4 : en.there = false) (h : TkR w' B q (bL2 en)) : ∃ g1 g2, g1.zs = pkB (tellM (bL2 en) (mdata 1 en.zs)) ∧ Lm w' B q (bL3 en g1 g2) := by
  obtain ⟨gs, g, k1, _, _, k4⟩ := h.2 (by show (0 : Int) < _; decide)
  rw [b_due en h2 h4] at k1
  unfold grs at k1
  match gs, k1, k4 with
  | [], k1, _ => simp at k1
  | [g1], k1, k4 => simp at k1; exact ⟨g1, g, k1.1, k4⟩
  | a :: b :: l, k1, _ => simp at k1
theorem b_far (en : Ent) {g : Nat} (h : ∀ x, en.a = some x → x.block ≠ g) : ∀ z e x, (bL2 en).s.L z = some e → e.a = some x → x.block ≠ g := fun z e x he hx => by
  have he : (if z = 1 then some en else none) = some e := he
  split at he
  · obtain rfl := Option.some.inj he
    exact h x hx
  · cases he
/-! ### an act as an argument -/
structure Ac where
  kind : Int
  net : Int
  i : Int
  at_ : Int
  by_ : Int
  a : Option Addr
  n : Nat
  c : Nat
  zs : List Int
def Ac.cells (x : Ac) : List Value := [.int .i64 x.kind, .int .i64 x.net, .int .i64 x.i, .int .i64 x.at_, .int .u32 x.by_, .slice x.a x.n x.c]
def Ac.val (x : Ac) : Value := .agg #[.int .i64 x.kind, .int .i64 x.net, .int .i64 x.i, .int .i64 x.at_, .int .u32 x.by_, .slice x.a x.n x.c]
structure AcV (w : World) (x : Ac) : Prop where
  by_ : Bytes w x.a x.zs
  len : x.zs.length = x.n
  le : x.n ≤ x.c
  mx : x.c ≤ 9223372036854775807
  nil : x.a = none → x.c = 0
  few : x.n ≤ 140737488351232
  u32 : 0 ≤ x.by_ ∧ x.by_ < 4294967296
  i64 : (-9223372036854775808 ≤ x.kind ∧ x.kind ≤ 9223372036854775807) ∧ (-9223372036854775808 ≤ x.net ∧ x.net ≤ 9223372036854775807) ∧ (-9223372036854775808 ≤ x.i ∧ x.i ≤ 9223372036854775807) ∧ (-9223372036854775808 ≤ x.at_ ∧ x.at_ ≤ 9223372036854775807)
theorem AcV.kept {w w' : World} {x : Ac} (h : AcV w x) (hb : Below w.heap.size w w') : AcV w' x := ⟨h.by_.kept hb, h.len, h.le, h.mx, h.nil, h.few, h.u32, h.i64⟩
theorem wf_u32 {n : Int} (h : (Lit.int .u32 n).wf = true) : 0 ≤ n ∧ n < 4294967296 := by
  simp [Lit.wf, show IntKind.u32.min = 0 from by decide, show IntKind.u32.max = 4294967295 from by decide] at h
  omega
theorem wf_i64 {n : Int} (h : (Lit.int .i64 n).wf = true) : -9223372036854775808 ≤ n ∧ n ≤ 9223372036854775807 := by
  simp [Lit.wf, show IntKind.i64.min = -9223372036854775808 from by decide, show IntKind.i64.max = 9223372036854775807 from by decide] at h
  omega
section
variable {H : Type} {enc : TypeId × Value → H} {w : World}
set_option maxRecDepth 100000 in
theorem open_ac {fuel : Nat} {cs : List Value} {x : DataW H × List MemPlace} (h : DataW.trod enc Try.prog w 0 (fun _ => true) true fuel 49 cs = some x) (hw : ∀ n ∈ x.1.weights Try.prog 49, n ≤ reachBytes) :
    ∃ y : Ac, cs = y.cells ∧ AcV w y := by
  obtain ⟨fs, hfs, hty⟩ : ∃ fs : Array Field, Try.prog.underlying 49 = some (.struct fs) ∧ fs.toList.map (fun f => (f.type, f.offset)) = [(3, 0), (3, 1), (3, 2), (3, 3), (47, 4), (23, 5)] := ⟨_, Try.underlying49, rfl⟩
  obtain ⟨xs, n, rfl, hx, hlen, hxl, hf⟩ := DataW.trod_struct hfs h
  rw [show Try.prog.cellsOf 49 = 6 by kernel_rfl] at hlen
  have h9 : fs.size = 6 := by have := congrArg List.length hty; simpa using this
  match cs, hlen with
  | [c0, c1, c2, c3, c4, c5], _ =>
  have hF : ∀ i (hi : i < 6), ∃ y, DataW.trod enc Try.prog w 0 (fun _ => true) true n (([(3, 0), (3, 1), (3, 2), (3, 3), (47, 4), (23, 5)] : List (TypeId × Nat)).getD i (0, 0)).1
      ((([c0, c1, c2, c3, c4, c5] : List Value).drop (([(3, 0), (3, 1), (3, 2), (3, 3), (47, 4), (23, 5)] : List (TypeId × Nat)).getD i (0, 0)).2).take (Try.prog.cellsOf (([(3, 0), (3, 1), (3, 2), (3, 3), (47, 4), (23, 5)] : List (TypeId × Nat)).getD i (0, 0)).1)) = some y ∧
      ∀ n ∈ y.1.weights Try.prog (([(3, 0), (3, 1), (3, 2), (3, 3), (47, 4), (23, 5)] : List (TypeId × Nat)).getD i (0, 0)).1, n ≤ reachBytes := by
    intro i hi
    have hif : i < fs.size := by omega
    have e := hf i fs[i] (Array.getElem?_eq_getElem hif)
    have hy : xs[i]? = some (xs[i]'(by omega)) := List.getElem?_eq_getElem (by omega)
    have ht : ([(3, 0), (3, 1), (3, 2), (3, 3), (47, 4), (23, 5)] : List (TypeId × Nat)).getD i (0, 0) = (fs[i].type, fs[i].offset) := by
      rw [← hty, List.getD_eq_getElem?_getD, List.getElem?_map, Array.getElem?_toList, Array.getElem?_eq_getElem hif]
      rfl
    rw [ht]
    refine ⟨_, e.trans hy, fun n hn => hw n ?_⟩
    rw [hx]
    simp only [DataW.weights, hfs]
    exact DataW.weights_mem_each (j := i) (t := fs[i].type) (d := (xs[i]'(by omega)).1) (by rw [List.getElem?_map, Array.getElem?_toList, Array.getElem?_eq_getElem hif]; rfl) (by rw [List.getElem?_map, hy]; rfl) n hn
  have k0 : Try.prog.cellsOf 23 = 1 := by kernel_rfl
  have k1 : Try.prog.cellsOf 3 = 1 := by kernel_rfl
  have k2 : Try.prog.cellsOf 47 = 1 := by kernel_rfl
  obtain ⟨y0, e0, g0⟩ := hF 0 (by omega)
  obtain ⟨y1, e1, g1⟩ := hF 1 (by omega)
  obtain ⟨y2, e2, g2⟩ := hF 2 (by omega)
  obtain ⟨y3, e3, g3⟩ := hF 3 (by omega)
  obtain ⟨y4, e4, g4⟩ := hF 4 (by omega)
  obtain ⟨y5, e5, g5⟩ := hF 5 (by omega)
  clear hF hf
  simp only [List.getD_cons_zero, List.getD_cons_succ, k0, k1, k2, List.drop_zero, List.drop_succ_cons, List.take_succ_cons, List.take_zero] at e0 e1 e2 e3 e4 e5
  simp only [List.getD_cons_zero, List.getD_cons_succ] at g5
  obtain ⟨z0, q0, _, w0⟩ := DataW.trod_int Try.underlying3 e0
  obtain ⟨z1, q1, _, w1⟩ := DataW.trod_int Try.underlying3 e1
  obtain ⟨z2, q2, _, w2⟩ := DataW.trod_int Try.underlying3 e2
  obtain ⟨z3, q3, _, w3⟩ := DataW.trod_int Try.underlying3 e3
  obtain ⟨z4, q4, _, w4⟩ := DataW.trod_int Try.underlying47 e4
  obtain ⟨a, l, c, zs, q5, b1, b2, b3, b4, b5, b6⟩ := open_bytesw e5 g5
  simp only [List.cons.injEq, and_true] at q0 q1 q2 q3 q4 q5
  subst q0 q1 q2 q3 q4 q5
  exact ⟨⟨z0, z1, z2, z3, z4, a, l, c, zs⟩, rfl, b6, b1, b2, b3, b4, b5, wf_u32 w4, wf_i64 w0, wf_i64 w1, wf_i64 w2, wf_i64 w3⟩
set_option maxRecDepth 100000 in
theorem open_ac_arg {r : Reach} {b0 : Nat} {v : Value} {d : DataW H} {p : List MemPlace} (hv : Value.okWide Try.prog w r b0 49 v) (h : DataW.Trod enc Try.prog w 0 (fun _ => true) true 49 v d p) (hw : ∀ n ∈ d.weights Try.prog 49, n ≤ reachBytes) :
    ∃ x : Ac, v = x.val ∧ AcV w x := by
  obtain ⟨fs, hfs⟩ : ∃ fs : Array Field, Try.prog.underlying 49 = some (.struct fs) := ⟨_, Try.underlying49⟩
  obtain ⟨cs, rfl, _⟩ := okWide_struct hfs hv
  obtain ⟨fuel, hf⟩ := h
  obtain ⟨x, hcs, hn⟩ := open_ac hf hw
  refine ⟨x, ?_, hn⟩
  have h1 : cs.toList = x.cells := by rw [← hcs]; simp [Value.cells]
  have : cs = x.cells.toArray := by rw [← h1, Array.toArray_toList]
  rw [this]
  rfl
end
end Go.Proofs.Ytfipdldoklkciaa
