/-
  Loads, and tries, as arguments.
-/
import Derived.Test.YtfipdldoklkciaaLlf
namespace Go.Proofs.Ytfipdldoklkciaa
open Go.RowKit Go.ChangeShapes Go.WideShapes
set_option linter.unusedVariables false
set_option linter.unusedSimpArgs false
/-- One load, as it is read. -/
structure Bl where
  a : Option Addr
  cap : Nat
  zs : List Int
def Bl.cells (x : Bl) : List Value := [.slice x.a x.zs.length x.cap]
def BlV (w : World) (x : Bl) : Prop := Bytes w x.a x.zs ∧ x.zs.length ≤ x.cap ∧ x.cap ≤ 9223372036854775807 ∧ (x.a = none → x.cap = 0)
theorem BlV.kept {w w' : World} {x : Bl} (h : BlV w x) (hb : Below w.heap.size w w') : BlV w' x := ⟨h.1.kept hb, h.2⟩
section
variable {H : Type} {enc : TypeId × Value → H} {w : World}
set_option maxRecDepth 100000 in
theorem open_bl {fuel : Nat} {cs : List Value} {x : DataW H × List MemPlace} (h : DataW.trod enc Try.prog w 0 (fun _ => true) true fuel 23 cs = some x) : ∃ y : Bl, cs = y.cells ∧ BlV w y := by
  obtain ⟨a, n, cap, zs, rfl, rfl, h1, h2, h3, h4⟩ := open_bytesx h
  exact ⟨⟨a, cap, zs⟩, rfl, h4, h1, h2, h3⟩
/-- LOADS IN MEMORY. -/
def Bls (w : World) (a : Option Addr) (L : List Bl) : Prop := L.length ≤ maxLen ∧ (L = [] ∨ ∃ b off, a = some ⟨b, off, none⟩ ∧ b < w.heap.size ∧ ∀ i x, L[i]? = some x → (∀ j, j < 1 → w.cell? ⟨b, off + i * 1 + j, none⟩ = x.cells[j]?) ∧ BlV w x)
def BlArg (w : World) (a : Option Addr) (n cap : Nat) (L : List Bl) : Prop := L.length = n ∧ n ≤ cap ∧ cap ≤ 9223372036854775807 ∧ (a = none → cap = 0) ∧ Bls w a L
theorem Bls.kept {w w' : World} {a : Option Addr} {L : List Bl} (h : Bls w a L) (hb : Below w.heap.size w w') : Bls w' a L := by
  refine ⟨h.1, ?_⟩
  rcases h.2 with h | ⟨b, off, rfl, hlt, hc⟩
  · exact .inl h
  · exact .inr ⟨b, off, rfl, Nat.lt_of_lt_of_le hlt hb.size, fun i x hx => ⟨fun j hj => by rw [hb.cell (p := ⟨b, off + i * 1 + j, none⟩) hlt]; exact (hc i x hx).1 j hj, (hc i x hx).2.kept hb⟩⟩
set_option maxRecDepth 100000 in
theorem open_bls {fuel : Nat} {c : Value} {y : DataW H × List MemPlace} (e : DataW.trod enc Try.prog w 0 (fun _ => true) true fuel 44 [c] = some y) : ∃ a len cap L, c = .slice a len cap ∧ BlArg w a len cap L := by
  rcases DataW.trod_slice Try.underlying44 e with ⟨hc, _⟩ | ⟨a, len, cap, elems, rest, m, hn, hc, hyx, _, hl, hm, hel, hat, _, _⟩
  · obtain rfl : c = .slice none 0 0 := by simpa using hc
    exact ⟨none, 0, 0, [], rfl, rfl, Nat.le_refl _, by decide, fun _ => rfl, by simp, .inl rfl⟩
  · obtain rfl : c = .slice (some a) len cap := by simpa using hc
    have each : ∀ i, i < len → ∃ x : Bl, (∀ j, j < 1 → w.cell? ((a.add (i * 1)).add j) = x.cells[j]?) ∧ BlV w x := by
      intro i hi
      have e1 := hat i hi
      rw [show Try.prog.cellsOf 23 = 1 by kernel_rfl, List.getElem?_eq_getElem (by omega), Option.bind_eq_some_iff] at e1
      obtain ⟨cs', hcs', hr⟩ := e1
      obtain ⟨x, rfl, hx⟩ := open_bl hr
      exact ⟨x, (cells_at hcs').2, hx⟩
    have hI : Inhabited Bl := ⟨⟨none, 0, []⟩⟩
    obtain ⟨g, hg⟩ := Deep.choose_lt each
    refine ⟨some a, len, cap, (List.range len).map g, rfl, by simp, hl, by unfold maxLen at hm; omega, (fun h => by cases h), by simp; omega, ?_⟩
    by_cases h0 : len = 0
    · left; subst h0; rfl
    · right
      have hs : a.spot = none := by
        have h1 := (hg 0 (by omega)).1 0 (by omega)
        rw [Nat.zero_mul] at h1
        simp only [Addr.add, if_true, Bl.cells, List.getElem?_cons_zero] at h1
        exact World.cell?_spot h1
      obtain ⟨b, off, sp⟩ := a
      obtain rfl : sp = none := hs
      have hcell : ∀ i, i < len → ∀ j, j < 1 → w.cell? ⟨b, off + i * 1 + j, none⟩ = (g i).cells[j]? := fun i hi j hj => by
        rw [← (hg i hi).1 j hj, Deep.add_add, Nat.add_assoc]
        congr 1
        unfold Addr.add
        split
        · rename_i hz; rw [hz]; rfl
        · rfl
      refine ⟨b, off, rfl, ?_, fun i x hx => ?_⟩
      · have h1 := hcell 0 (by omega) 0 (by omega)
        exact cell_lt h1
      · have hi' : i < len := by have := (List.getElem?_eq_some_iff.1 hx).1; simpa using this
        have hx' : x = g i := by
          rw [List.getElem?_map, List.getElem?_range hi'] at hx
          simpa using hx.symm
        subst hx'
        exact ⟨hcell i hi', (hg i hi').2⟩
set_option maxRecDepth 100000 in
theorem open_bls_arg {r : Reach} {b0 : Nat} {v : Value} {d : DataW H} {p : List MemPlace} (hv : Value.okWide Try.prog w r b0 44 v) (h : DataW.Trod enc Try.prog w 0 (fun _ => true) true 44 v d p) :
    ∃ a len cap L, v = .slice a len cap ∧ BlArg w a len cap L ∧ (len = 0 ∨ ∃ el sp, d = .slice el sp ∧ el.length = len) := by
  obtain ⟨a, len, cap, rfl⟩ := okWide_slice Try.underlying44 hv
  obtain ⟨fuel, hf⟩ := h
  obtain ⟨a', len', cap', L, e, hA⟩ := open_bls hf
  cases e
  refine ⟨a, len, cap, L, rfl, hA, ?_⟩
  rcases DataW.trod_slice Try.underlying44 hf with ⟨hc, _⟩ | ⟨a, len, cap, elems, rest, m, hn, hc, hyx, _, hl, hm, hel, hat, _, _⟩
  · left
    simp [Value.cells] at hc
    exact hc.2.1
  · right
    simp [Value.cells] at hc
    exact ⟨_, _, (Prod.mk.inj hyx).1, by rw [List.length_map, hel, hc.2.1]⟩
end
theorem bls_at {w : World} {a : Option Addr} {L : List Bl} (h : Bls w a L) {i : Nat} {x : Bl} (hx : L[i]? = some x) : ∃ b off, a = some ⟨b, off, none⟩ ∧ b < w.heap.size ∧ w.cell? ⟨b, off + i, none⟩ = some (.slice x.a x.zs.length x.cap) ∧ BlV w x := by
  rcases h.2 with rfl | ⟨b, off, rfl, hlt, hc⟩
  · simp at hx
  · refine ⟨b, off, rfl, hlt, ?_, (hc i x hx).2⟩
    have := (hc i x hx).1 0 (by decide)
    rw [Nat.mul_one] at this
    exact this
/-- One try, as it is read. -/
structure Ty where
  net : Int
  i : Int
  at_ : Int
  by_ : Int
  a : Option Addr
  n : Nat
  c : Nat
  zs : List Int
def Ty.cells (x : Ty) : List Value := [.int .i64 x.net, .int .i64 x.i, .int .i64 x.at_, .int .u32 x.by_, .slice x.a x.n x.c]
structure TyW (w : World) (x : Ty) : Prop where
  by_ : Bytes w x.a x.zs
  len : x.zs.length = x.n
  le : x.n ≤ x.c
  mx : x.c ≤ 9223372036854775807
  nil : x.a = none → x.c = 0
  u32 : 0 ≤ x.by_ ∧ x.by_ < 4294967296
  at_ : (Lit.int .i64 x.at_).wf = true
theorem TyW.kept {w w' : World} {x : Ty} (h : TyW w x) (hb : Below w.heap.size w w') : TyW w' x := ⟨h.by_.kept hb, h.len, h.le, h.mx, h.nil, h.u32, h.at_⟩
section
variable {H : Type} {enc : TypeId × Value → H} {w : World}
set_option maxRecDepth 100000 in
theorem open_tyw {fuel : Nat} {cs : List Value} {x : DataW H × List MemPlace} (h : DataW.trod enc Try.prog w 0 (fun _ => true) true fuel 75 cs = some x) :
    ∃ y : Ty, cs = y.cells ∧ TyW w y := by
  obtain ⟨fs, hfs, hty⟩ : ∃ fs : Array Field, Try.prog.underlying 75 = some (.struct fs) ∧ fs.toList.map (fun f => (f.type, f.offset)) = [(3, 0), (3, 1), (3, 2), (47, 3), (23, 4)] := ⟨_, Try.underlying75, rfl⟩
  obtain ⟨xs, n, rfl, hx, hlen, hxl, hf⟩ := DataW.trod_struct hfs h
  rw [show Try.prog.cellsOf 75 = 5 by kernel_rfl] at hlen
  have h9 : fs.size = 5 := by have := congrArg List.length hty; simpa using this
  match cs, hlen with
  | [c0, c1, c2, c3, c4], _ =>
  have hF : ∀ i (hi : i < 5), ∃ y, DataW.trod enc Try.prog w 0 (fun _ => true) true n (([(3, 0), (3, 1), (3, 2), (47, 3), (23, 4)] : List (TypeId × Nat)).getD i (0, 0)).1
      ((([c0, c1, c2, c3, c4] : List Value).drop (([(3, 0), (3, 1), (3, 2), (47, 3), (23, 4)] : List (TypeId × Nat)).getD i (0, 0)).2).take (Try.prog.cellsOf (([(3, 0), (3, 1), (3, 2), (47, 3), (23, 4)] : List (TypeId × Nat)).getD i (0, 0)).1)) = some y := by
    intro i hi
    have hif : i < fs.size := by omega
    have e := hf i fs[i] (Array.getElem?_eq_getElem hif)
    have hy : xs[i]? = some (xs[i]'(by omega)) := List.getElem?_eq_getElem (by omega)
    have ht : ([(3, 0), (3, 1), (3, 2), (47, 3), (23, 4)] : List (TypeId × Nat)).getD i (0, 0) = (fs[i].type, fs[i].offset) := by
      rw [← hty, List.getD_eq_getElem?_getD, List.getElem?_map, Array.getElem?_toList, Array.getElem?_eq_getElem hif]
      rfl
    rw [ht]
    exact ⟨_, e.trans hy⟩
  have k0 : Try.prog.cellsOf 23 = 1 := by kernel_rfl
  have k1 : Try.prog.cellsOf 3 = 1 := by kernel_rfl
  have k2 : Try.prog.cellsOf 47 = 1 := by kernel_rfl
  obtain ⟨y0, e0⟩ := hF 0 (by omega)
  obtain ⟨y1, e1⟩ := hF 1 (by omega)
  obtain ⟨y2, e2⟩ := hF 2 (by omega)
  obtain ⟨y3, e3⟩ := hF 3 (by omega)
  obtain ⟨y4, e4⟩ := hF 4 (by omega)
  clear hF hf
  simp only [List.getD_cons_zero, List.getD_cons_succ, k0, k1, k2, List.drop_zero, List.drop_succ_cons, List.take_succ_cons, List.take_zero] at e0 e1 e2 e3 e4
  obtain ⟨z0, q0, _, w0⟩ := DataW.trod_int Try.underlying3 e0
  obtain ⟨z1, q1, _, w1⟩ := DataW.trod_int Try.underlying3 e1
  obtain ⟨z2, q2, _, w2⟩ := DataW.trod_int Try.underlying3 e2
  obtain ⟨z3, q3, _, w3⟩ := DataW.trod_int Try.underlying47 e3
  obtain ⟨a, l, c, zs, q4, b1, b2, b3, b4, b6⟩ := open_bytesx e4
  simp only [List.cons.injEq, and_true] at q0 q1 q2 q3 q4
  subst q0 q1 q2 q3 q4
  exact ⟨⟨z0, z1, z2, z3, a, l, c, zs⟩, rfl, b6, b1, b2, b3, b4, wf_u32 w3, w2⟩
/-- A SCRIPT IN MEMORY. -/
def Tys (w : World) (a : Option Addr) (L : List Ty) : Prop := L.length ≤ maxLen ∧ (L = [] ∨ ∃ b off, a = some ⟨b, off, none⟩ ∧ b < w.heap.size ∧ ∀ i x, L[i]? = some x → (∀ j, j < 5 → w.cell? ⟨b, off + i * 5 + j, none⟩ = x.cells[j]?) ∧ TyW w x)
def TyArg (w : World) (a : Option Addr) (n cap : Nat) (L : List Ty) : Prop := L.length = n ∧ n ≤ cap ∧ cap ≤ 9223372036854775807 ∧ (a = none → cap = 0) ∧ Tys w a L
theorem Tys.kept {w w' : World} {a : Option Addr} {L : List Ty} (h : Tys w a L) (hb : Below w.heap.size w w') : Tys w' a L := by
  refine ⟨h.1, ?_⟩
  rcases h.2 with h | ⟨b, off, rfl, hlt, hc⟩
  · exact .inl h
  · exact .inr ⟨b, off, rfl, Nat.lt_of_lt_of_le hlt hb.size, fun i x hx => ⟨fun j hj => by rw [hb.cell (p := ⟨b, off + i * 5 + j, none⟩) hlt]; exact (hc i x hx).1 j hj, (hc i x hx).2.kept hb⟩⟩
set_option maxRecDepth 100000 in
theorem open_tys {fuel : Nat} {c : Value} {y : DataW H × List MemPlace} (e : DataW.trod enc Try.prog w 0 (fun _ => true) true fuel 73 [c] = some y) : ∃ a len cap L, c = .slice a len cap ∧ TyArg w a len cap L := by
  rcases DataW.trod_slice Try.underlying73 e with ⟨hc, _⟩ | ⟨a, len, cap, elems, rest, m, hn, hc, hyx, _, hl, hm, hel, hat, _, _⟩
  · obtain rfl : c = .slice none 0 0 := by simpa using hc
    exact ⟨none, 0, 0, [], rfl, rfl, Nat.le_refl _, by decide, fun _ => rfl, by simp, .inl rfl⟩
  · obtain rfl : c = .slice (some a) len cap := by simpa using hc
    have each : ∀ i, i < len → ∃ x : Ty, (∀ j, j < 5 → w.cell? ((a.add (i * 5)).add j) = x.cells[j]?) ∧ TyW w x := by
      intro i hi
      have e1 := hat i hi
      rw [show Try.prog.cellsOf 75 = 5 by kernel_rfl, List.getElem?_eq_getElem (by omega), Option.bind_eq_some_iff] at e1
      obtain ⟨cs', hcs', hr⟩ := e1
      obtain ⟨x, rfl, hx⟩ := open_tyw hr
      exact ⟨x, (cells_at hcs').2, hx⟩
    have hI : Inhabited Ty := ⟨⟨0, 0, 0, 0, none, 0, 0, []⟩⟩
    obtain ⟨g, hg⟩ := Deep.choose_lt each
    refine ⟨some a, len, cap, (List.range len).map g, rfl, by simp, hl, by unfold maxLen at hm; omega, (fun h => by cases h), by simp; omega, ?_⟩
    by_cases h0 : len = 0
    · left; subst h0; rfl
    · right
      have hs : a.spot = none := by
        have h1 := (hg 0 (by omega)).1 0 (by omega)
        rw [Nat.zero_mul] at h1
        simp only [Addr.add, if_true, Ty.cells, List.getElem?_cons_zero] at h1
        exact World.cell?_spot h1
      obtain ⟨b, off, sp⟩ := a
      obtain rfl : sp = none := hs
      have hcell : ∀ i, i < len → ∀ j, j < 5 → w.cell? ⟨b, off + i * 5 + j, none⟩ = (g i).cells[j]? := fun i hi j hj => by
        rw [← (hg i hi).1 j hj, Deep.add_add, Nat.add_assoc]
        congr 1
        unfold Addr.add
        split
        · rename_i hz; rw [hz]; rfl
        · rfl
      refine ⟨b, off, rfl, ?_, fun i x hx => ?_⟩
      · have h1 := hcell 0 (by omega) 0 (by omega)
        exact cell_lt h1
      · have hi' : i < len := by have := (List.getElem?_eq_some_iff.1 hx).1; simpa using this
        have hx' : x = g i := by
          rw [List.getElem?_map, List.getElem?_range hi'] at hx
          simpa using hx.symm
        subst hx'
        exact ⟨hcell i hi', (hg i hi').2⟩
set_option maxRecDepth 100000 in
theorem open_tys_arg {r : Reach} {b0 : Nat} {v : Value} {d : DataW H} {p : List MemPlace} (hv : Value.okWide Try.prog w r b0 73 v) (h : DataW.Trod enc Try.prog w 0 (fun _ => true) true 73 v d p) :
    ∃ a len cap L, v = .slice a len cap ∧ TyArg w a len cap L ∧ (len = 0 ∨ ∃ el sp, d = .slice el sp ∧ el.length = len) := by
  obtain ⟨a, len, cap, rfl⟩ := okWide_slice Try.underlying73 hv
  obtain ⟨fuel, hf⟩ := h
  obtain ⟨a', len', cap', L, e, hA⟩ := open_tys hf
  cases e
  refine ⟨a, len, cap, L, rfl, hA, ?_⟩
  rcases DataW.trod_slice Try.underlying73 hf with ⟨hc, _⟩ | ⟨a, len, cap, elems, rest, m, hn, hc, hyx, _, hl, hm, hel, hat, _, _⟩
  · left
    simp [Value.cells] at hc
    exact hc.2.1
  · right
    simp [Value.cells] at hc
    exact ⟨_, _, (Prod.mk.inj hyx).1, by rw [List.length_map, hel, hc.2.1]⟩
end
set_option maxRecDepth 100000 in
/-- An act's cells in memory. -/
theorem tys_at {w : World} {a : Option Addr} {L : List Ty} (h : Tys w a L) {i : Nat} {x : Ty} (hx : L[i]? = some x) : ∃ b off, a = some ⟨b, off, none⟩ ∧ b < w.heap.size ∧ (∀ j, j < 5 → w.cell? ⟨b, off + i * 5 + j, none⟩ = x.cells[j]?) ∧ TyW w x := by
  rcases h.2 with rfl | ⟨b, off, rfl, hlt, hc⟩
  · simp at hx
  · exact ⟨b, off, rfl, hlt, (hc i x hx).1, (hc i x hx).2⟩
end Go.Proofs.Ytfipdldoklkciaa
