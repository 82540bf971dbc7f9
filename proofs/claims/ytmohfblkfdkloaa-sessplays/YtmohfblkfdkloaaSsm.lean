/-
  Acts, scripts and lists of numbers as arguments.
-/
import Derived.Test.YtmohfblkfdkloaaSsl
import Derived.Deep.Slices
import Derived.Deep.Strs
import Derived.ChangeReads
import Derived.SizedLaws
namespace Go.Proofs.Ytmohfblkfdkloaa
open Go.RowKit Go.ChangeShapes Go.WideShapes
set_option linter.unusedVariables false
set_option linter.unusedSimpArgs false
/-- One act, as it is read. -/
structure Ac where
  kind : Int
  now : Int
  m : Mg
  d : Int
def Ac.cells (x : Ac) : List Value := [.int .i64 x.kind, .int .i64 x.now, .int .i64 x.m.k, .int .u64 x.m.t, .int .i64 x.m.e, .int .i64 x.m.s, .int .i64 x.m.a, .int .u64 x.m.b, .int .i64 x.m.c, .int .i64 x.m.f, .slice x.m.la x.m.ln x.m.lc, .int .u64 x.d]
def Ac.val (x : Ac) : Value := .agg #[.int .i64 x.kind, .int .i64 x.now, .int .i64 x.m.k, .int .u64 x.m.t, .int .i64 x.m.e, .int .i64 x.m.s, .int .i64 x.m.a, .int .u64 x.m.b, .int .i64 x.m.c, .int .i64 x.m.f, .slice x.m.la x.m.ln x.m.lc, .int .u64 x.d]
def AcV (x : Ac) : Prop := (0 ≤ x.d ∧ x.d < 18446744073709551616) ∧ 0 ≤ x.m.t ∧ x.m.t < 18446744073709551616
theorem wf_u64 {n : Int} (h : (Lit.int .u64 n).wf = true) : 0 ≤ n ∧ n < 18446744073709551616 := by
  simp [Lit.wf, show IntKind.u64.min = 0 from by decide, show IntKind.u64.max = 18446744073709551615 from by decide] at h
  omega
theorem wf_u8 {n : Int} (h : (Lit.int .u8 n).wf = true) : 0 ≤ n ∧ n < 256 := by
  simp [Lit.wf, show IntKind.u8.min = 0 from by decide, show IntKind.u8.max = 255 from by decide] at h
  omega
section
variable {H : Type} {enc : TypeId × Value → H} {w : World}
theorem open_bytes {fuel : Nat} {cs : List Value} {x : DataW H × List MemPlace} (h : DataW.trod enc Try.prog w 0 (fun _ => true) true fuel 35 cs = some x) :
    ∃ a n cap, cs = [.slice a n cap] := by
  rcases open_ints Try.underlying35 Try.underlying5 (by kernel_rfl) h with ⟨hcs, hx⟩ | ⟨a, l, c, zs, hcs, _, hl, hm, hz, hx, hcell, hwz⟩
  · exact ⟨none, 0, 0, hcs⟩
  · exact ⟨some a, l, c, hcs⟩
set_option maxRecDepth 100000 in
theorem open_msg {fuel : Nat} {cs : List Value} {x : DataW H × List MemPlace} (h : DataW.trod enc Try.prog w 0 (fun _ => true) true fuel 37 cs = some x) :
    ∃ m : Mg, cs = m.cs ∧ 0 ≤ m.t ∧ m.t < 18446744073709551616 := by
  obtain ⟨fs, hfs, hty⟩ : ∃ fs : Array Field, Try.prog.underlying 37 = some (.struct fs) ∧ fs.toList.map (fun f => (f.type, f.offset)) = [(3, 0), (34, 1), (3, 2), (3, 3), (3, 4), (34, 5), (3, 6), (3, 7), (35, 8)] := ⟨_, Try.underlying37, rfl⟩
  obtain ⟨xs, n, rfl, hx, hlen, hxl, hf⟩ := DataW.trod_struct hfs h
  rw [show Try.prog.cellsOf 37 = 9 by kernel_rfl] at hlen
  have h9 : fs.size = 9 := by have := congrArg List.length hty; simpa using this
  match cs, hlen with
  | [c0, c1, c2, c3, c4, c5, c6, c7, c8], _ =>
  have hF : ∀ i (hi : i < 9), ∃ y, DataW.trod enc Try.prog w 0 (fun _ => true) true n (([(3, 0), (34, 1), (3, 2), (3, 3), (3, 4), (34, 5), (3, 6), (3, 7), (35, 8)] : List (TypeId × Nat)).getD i (0, 0)).1
      ((([c0, c1, c2, c3, c4, c5, c6, c7, c8] : List Value).drop (([(3, 0), (34, 1), (3, 2), (3, 3), (3, 4), (34, 5), (3, 6), (3, 7), (35, 8)] : List (TypeId × Nat)).getD i (0, 0)).2).take (Try.prog.cellsOf (([(3, 0), (34, 1), (3, 2), (3, 3), (3, 4), (34, 5), (3, 6), (3, 7), (35, 8)] : List (TypeId × Nat)).getD i (0, 0)).1)) = some y := by
    intro i hi
    have hif : i < fs.size := by omega
    have e := hf i fs[i] (Array.getElem?_eq_getElem hif)
    have hy : xs[i]? = some (xs[i]'(by omega)) := List.getElem?_eq_getElem (by omega)
    have ht : ([(3, 0), (34, 1), (3, 2), (3, 3), (3, 4), (34, 5), (3, 6), (3, 7), (35, 8)] : List (TypeId × Nat)).getD i (0, 0) = (fs[i].type, fs[i].offset) := by
      rw [← hty, List.getD_eq_getElem?_getD, List.getElem?_map, Array.getElem?_toList, Array.getElem?_eq_getElem hif]
      rfl
    rw [ht]
    exact ⟨_, e.trans hy⟩
  have k0 : Try.prog.cellsOf 35 = 1 := by kernel_rfl
  have k1 : Try.prog.cellsOf 3 = 1 := by kernel_rfl
  have k2 : Try.prog.cellsOf 34 = 1 := by kernel_rfl
  obtain ⟨y0, e0⟩ := hF 0 (by omega)
  obtain ⟨y1, e1⟩ := hF 1 (by omega)
  obtain ⟨y2, e2⟩ := hF 2 (by omega)
  obtain ⟨y3, e3⟩ := hF 3 (by omega)
  obtain ⟨y4, e4⟩ := hF 4 (by omega)
  obtain ⟨y5, e5⟩ := hF 5 (by omega)
  obtain ⟨y6, e6⟩ := hF 6 (by omega)
  obtain ⟨y7, e7⟩ := hF 7 (by omega)
  obtain ⟨y8, e8⟩ := hF 8 (by omega)
  clear hF hf
  simp only [List.getD_cons_zero, List.getD_cons_succ, k0, k1, k2, List.drop_zero, List.drop_succ_cons, List.take_succ_cons, List.take_zero] at e0 e1 e2 e3 e4 e5 e6 e7 e8
  obtain ⟨z0, q0, _, w0⟩ := DataW.trod_int Try.underlying3 e0
  obtain ⟨z1, q1, _, w1⟩ := DataW.trod_int Try.underlying34 e1
  obtain ⟨z2, q2, _, w2⟩ := DataW.trod_int Try.underlying3 e2
  obtain ⟨z3, q3, _, w3⟩ := DataW.trod_int Try.underlying3 e3
  obtain ⟨z4, q4, _, w4⟩ := DataW.trod_int Try.underlying3 e4
  obtain ⟨z5, q5, _, w5⟩ := DataW.trod_int Try.underlying34 e5
  obtain ⟨z6, q6, _, w6⟩ := DataW.trod_int Try.underlying3 e6
  obtain ⟨z7, q7, _, w7⟩ := DataW.trod_int Try.underlying3 e7
  obtain ⟨a, l, c, q8⟩ := open_bytes e8
  simp only [List.cons.injEq, and_true] at q0 q1 q2 q3 q4 q5 q6 q7 q8
  subst q0 q1 q2 q3 q4 q5 q6 q7 q8
  have u1 := wf_u64 w1
  exact ⟨⟨z0, z1, z2, z3, z4, z5, z6, z7, a, l, c⟩, rfl, u1⟩
set_option maxRecDepth 100000 in
theorem open_ac {fuel : Nat} {cs : List Value} {x : DataW H × List MemPlace} (h : DataW.trod enc Try.prog w 0 (fun _ => true) true fuel 39 cs = some x) :
    ∃ y : Ac, cs = y.cells ∧ AcV y := by
  obtain ⟨fs, hfs, hty⟩ : ∃ fs : Array Field, Try.prog.underlying 39 = some (.struct fs) ∧ fs.toList.map (fun f => (f.type, f.offset)) = [(3, 0), (3, 1), (37, 2), (34, 11)] := ⟨_, Try.underlying39, rfl⟩
  obtain ⟨xs, n, rfl, hx, hlen, hxl, hf⟩ := DataW.trod_struct hfs h
  rw [show Try.prog.cellsOf 39 = 12 by kernel_rfl] at hlen
  have h9 : fs.size = 4 := by have := congrArg List.length hty; simpa using this
  match cs, hlen with
  | [c0, c1, c2, c3, c4, c5, c6, c7, c8, c9, c10, c11], _ =>
  have hF : ∀ i (hi : i < 4), ∃ y, DataW.trod enc Try.prog w 0 (fun _ => true) true n (([(3, 0), (3, 1), (37, 2), (34, 11)] : List (TypeId × Nat)).getD i (0, 0)).1
      ((([c0, c1, c2, c3, c4, c5, c6, c7, c8, c9, c10, c11] : List Value).drop (([(3, 0), (3, 1), (37, 2), (34, 11)] : List (TypeId × Nat)).getD i (0, 0)).2).take (Try.prog.cellsOf (([(3, 0), (3, 1), (37, 2), (34, 11)] : List (TypeId × Nat)).getD i (0, 0)).1)) = some y := by
    intro i hi
    have hif : i < fs.size := by omega
    have e := hf i fs[i] (Array.getElem?_eq_getElem hif)
    have hy : xs[i]? = some (xs[i]'(by omega)) := List.getElem?_eq_getElem (by omega)
    have ht : ([(3, 0), (3, 1), (37, 2), (34, 11)] : List (TypeId × Nat)).getD i (0, 0) = (fs[i].type, fs[i].offset) := by
      rw [← hty, List.getD_eq_getElem?_getD, List.getElem?_map, Array.getElem?_toList, Array.getElem?_eq_getElem hif]
      rfl
    rw [ht]
    exact ⟨_, e.trans hy⟩
  have k0 : Try.prog.cellsOf 37 = 9 := by kernel_rfl
  have k1 : Try.prog.cellsOf 3 = 1 := by kernel_rfl
  have k2 : Try.prog.cellsOf 34 = 1 := by kernel_rfl
  obtain ⟨y0, e0⟩ := hF 0 (by omega)
  obtain ⟨y1, e1⟩ := hF 1 (by omega)
  obtain ⟨y2, e2⟩ := hF 2 (by omega)
  obtain ⟨y3, e3⟩ := hF 3 (by omega)
  clear hF hf
  simp only [List.getD_cons_zero, List.getD_cons_succ, k0, k1, k2, List.drop_zero, List.drop_succ_cons, List.take_succ_cons, List.take_zero] at e0 e1 e2 e3
  obtain ⟨z0, q0, _, w0⟩ := DataW.trod_int Try.underlying3 e0
  obtain ⟨z1, q1, _, w1⟩ := DataW.trod_int Try.underlying3 e1
  obtain ⟨z3, q3, _, w3⟩ := DataW.trod_int Try.underlying34 e3
  obtain ⟨m, q2, u1⟩ := open_msg e2
  simp only [Mg.cs, List.cons.injEq, and_true] at q0 q1 q2 q3
  obtain ⟨p0, p1, p2, p3, p4, p5, p6, p7, p8⟩ := q2
  subst q0 q1 q3 p0 p1 p2 p3 p4 p5 p6 p7 p8
  exact ⟨⟨z0, z1, m, z3⟩, rfl, wf_u64 w3, u1⟩
theorem cells_at {a : Addr} {n : Nat} {cs : List Value} (h : w.cells? 0 a n = some cs) : cs.length = n ∧ ∀ j, j < n → w.cell? (a.add j) = cs[j]? := by
  unfold World.cells? at h
  rw [if_pos (Nat.zero_le _)] at h
  refine ⟨by simpa using mapM_some_length h, fun j hj => ?_⟩
  exact mapM_some_get h j j (by simp [hj])
theorem cell_lt {w : World} {a : Addr} {v : Value} (h : w.cell? a = some v) : a.block < w.heap.size := by
  by_cases hb : a.block < w.heap.size
  · exact hb
  · rw [World.cell?, Array.getElem?_eq_none (by omega)] at h
    cases h
/-- A SCRIPT IN MEMORY. -/
def Acs (w : World) (a : Option Addr) (L : List Ac) : Prop := L.length ≤ maxLen ∧ (L = [] ∨ ∃ b off, a = some ⟨b, off, none⟩ ∧ b < w.heap.size ∧ ∀ i x, L[i]? = some x → (∀ j, j < 12 → w.cell? ⟨b, off + i * 12 + j, none⟩ = x.cells[j]?) ∧ AcV x)
def AcArg (w : World) (a : Option Addr) (n cap : Nat) (L : List Ac) : Prop := L.length = n ∧ n ≤ cap ∧ cap ≤ 9223372036854775807 ∧ (a = none → cap = 0) ∧ Acs w a L
theorem Acs.kept {w w' : World} {a : Option Addr} {L : List Ac} (h : Acs w a L) (hb : Below w.heap.size w w') : Acs w' a L := by
  refine ⟨h.1, ?_⟩
  rcases h.2 with h | ⟨b, off, rfl, hlt, hc⟩
  · exact .inl h
  · exact .inr ⟨b, off, rfl, Nat.lt_of_lt_of_le hlt hb.size, fun i x hx => ⟨fun j hj => by rw [hb.cell (p := ⟨b, off + i * 12 + j, none⟩) hlt]; exact (hc i x hx).1 j hj, (hc i x hx).2⟩⟩
theorem acs_at {w : World} {a : Option Addr} {L : List Ac} (h : Acs w a L) {i : Nat} {x : Ac} (hx : L[i]? = some x) : ∃ b off, a = some ⟨b, off, none⟩ ∧ b < w.heap.size ∧ (∀ j, j < 12 → w.cell? ⟨b, off + i * 12 + j, none⟩ = x.cells[j]?) ∧ AcV x := by
  rcases h.2 with h | ⟨b, off, h1, h2, h3⟩
  · rw [h] at hx; cases hx
  · exact ⟨b, off, h1, h2, (h3 i x hx).1, (h3 i x hx).2⟩
set_option maxRecDepth 100000 in
theorem open_acs {fuel : Nat} {c : Value} {y : DataW H × List MemPlace} (e : DataW.trod enc Try.prog w 0 (fun _ => true) true fuel 22 [c] = some y) : ∃ a len cap L, c = .slice a len cap ∧ AcArg w a len cap L := by
  rcases DataW.trod_slice Try.underlying22 e with ⟨hc, _⟩ | ⟨a, len, cap, elems, rest, m, hn, hc, hyx, _, hl, hm, hel, hat, _, _⟩
  · obtain rfl : c = .slice none 0 0 := by simpa using hc
    exact ⟨none, 0, 0, [], rfl, rfl, Nat.le_refl _, by decide, fun _ => rfl, by simp, .inl rfl⟩
  · obtain rfl : c = .slice (some a) len cap := by simpa using hc
    have each : ∀ i, i < len → ∃ x : Ac, (∀ j, j < 12 → w.cell? ((a.add (i * 12)).add j) = x.cells[j]?) ∧ AcV x := by
      intro i hi
      have e1 := hat i hi
      rw [show Try.prog.cellsOf 39 = 12 by kernel_rfl, List.getElem?_eq_getElem (by omega), Option.bind_eq_some_iff] at e1
      obtain ⟨cs', hcs', hr⟩ := e1
      obtain ⟨x, rfl, hx⟩ := open_ac hr
      exact ⟨x, (cells_at hcs').2, hx⟩
    have hI : Inhabited Ac := ⟨⟨0, 0, ⟨0, 0, 0, 0, 0, 0, 0, 0, none, 0, 0⟩, 0⟩⟩
    obtain ⟨g, hg⟩ := Deep.choose_lt each
    refine ⟨some a, len, cap, (List.range len).map g, rfl, by simp, hl, by unfold maxLen at hm; omega, (fun h => by cases h), by simp; omega, ?_⟩
    by_cases h0 : len = 0
    · left; subst h0; rfl
    · right
      have hs : a.spot = none := by
        have h1 := (hg 0 (by omega)).1 0 (by omega)
        rw [Nat.zero_mul] at h1
        simp only [Addr.add, if_true, Ac.cells, List.getElem?_cons_zero] at h1
        exact World.cell?_spot h1
      obtain ⟨b, off, sp⟩ := a
      obtain rfl : sp = none := hs
      have hcell : ∀ i, i < len → ∀ j, j < 12 → w.cell? ⟨b, off + i * 12 + j, none⟩ = (g i).cells[j]? := fun i hi j hj => by
        rw [← (hg i hi).1 j hj, Deep.add_add, Nat.add_assoc]
        congr 1
        unfold Addr.add
        split
        · rename_i hz; rw [hz]; rfl
        · rfl
      refine ⟨b, off, rfl, ?_, fun i x hx => ?_⟩
      · have h1 := hcell 0 (by omega) 0 (by omega)
        exact cell_lt h1
      · have hi' : i < len := by have := (List.getElem?_eq_some_iff.1 hx).1; simpa using this
        have hx' : x = g i := by
          rw [List.getElem?_map, List.getElem?_range hi'] at hx
          simpa using hx.symm
        subst hx'
        exact ⟨hcell i hi', (hg i hi').2⟩
theorem open_acs_arg {r : Reach} {b0 : Nat} {v : Value} {d : DataW H} {p : List MemPlace} (hv : Value.okWide Try.prog w r b0 22 v) (h : DataW.Trod enc Try.prog w 0 (fun _ => true) true 22 v d p) :
    ∃ a len cap L, v = .slice a len cap ∧ AcArg w a len cap L ∧ (len = 0 ∨ ∃ el sp, d = .slice el sp ∧ el.length = len) := by
  obtain ⟨a, len, cap, rfl⟩ := okWide_slice Try.underlying22 hv
  obtain ⟨fuel, hf⟩ := h
  obtain ⟨a', len', cap', L, e, hA⟩ := open_acs hf
  cases e
  refine ⟨a, len, cap, L, rfl, hA, ?_⟩
  rcases DataW.trod_slice Try.underlying22 hf with ⟨hc, _⟩ | ⟨a, len, cap, elems, rest, m, hn, hc, hyx, _, hl, hm, hel, hat, _, _⟩
  · left
    simp [Value.cells] at hc
    exact hc.2.1
  · right
    simp [Value.cells] at hc
    exact ⟨_, _, (Prod.mk.inj hyx).1, by rw [List.length_map, hel, hc.2.1]⟩
theorem open_ac_arg {r : Reach} {b0 : Nat} {v : Value} {d : DataW H} {p : List MemPlace} (hv : Value.okWide Try.prog w r b0 39 v) (h : DataW.Trod enc Try.prog w 0 (fun _ => true) true 39 v d p) :
    ∃ x : Ac, v = x.val ∧ AcV x := by
  obtain ⟨fs, hfs⟩ : ∃ fs : Array Field, Try.prog.underlying 39 = some (.struct fs) := ⟨_, Try.underlying39⟩
  obtain ⟨cs, rfl, _⟩ := okWide_struct hfs hv
  obtain ⟨fuel, hf⟩ := h
  obtain ⟨x, hcs, hx⟩ := open_ac hf
  refine ⟨x, ?_, hx⟩
  have h1 : cs.toList = x.cells := by rw [← hcs]; simp [Value.cells]
  have : cs = x.cells.toArray := by rw [← h1, Array.toArray_toList]
  rw [this]
  rfl
end
end Go.Proofs.Ytmohfblkfdkloaa
