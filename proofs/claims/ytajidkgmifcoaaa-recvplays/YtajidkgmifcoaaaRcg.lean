/-
  A script as an argument.
-/
import Derived.Test.YtajidkgmifcoaaaRcf
import Derived.Deep.Slices
import Derived.Deep.Strs
import Derived.ChangeReads
import Derived.SizedLaws
namespace Go.Proofs.Ytajidkgmifcoaaa
open Go.RowKit Go.ChangeShapes Go.WideShapes
set_option linter.unusedVariables false
set_option linter.unusedSimpArgs false
/-- One act, as it is read. -/
structure Ac where
  seq : Int
  a : Option Addr
  cap : Nat
  zs : List Int
def Ac.cells (x : Ac) : List Value := [.int .i64 x.seq, .slice x.a x.zs.length x.cap]
def Ac.val (x : Ac) : Value := .agg #[.int .i64 x.seq, .slice x.a x.zs.length x.cap]
def AcV (w : World) (x : Ac) : Prop := Bytes w x.a x.zs ∧ x.zs.length ≤ x.cap ∧ x.cap ≤ 9223372036854775807 ∧ (x.a = none → x.cap = 0)
theorem AcV.kept {w w' : World} {x : Ac} (h : AcV w x) (hb : Below w.heap.size w w') : AcV w' x := ⟨h.1.kept hb, h.2⟩
section
variable {H : Type} {enc : TypeId × Value → H} {w : World}
/-- A slice of bytes, read. -/
theorem open_bytes {fuel : Nat} {cs : List Value} {x : DataW H × List MemPlace} (h : DataW.trod enc Try.prog w 0 (fun _ => true) true fuel 33 cs = some x) :
    ∃ a cap zs, cs = [.slice a (List.length zs) cap] ∧ zs.length ≤ cap ∧ cap ≤ 9223372036854775807 ∧ (a = none → cap = 0) ∧ Bytes w a zs := by
  rcases open_ints Try.underlying33 Try.underlying5 (by kernel_rfl) h with ⟨hcs, hx⟩ | ⟨a, l, c, zs, hcs, _, hl, hm, hz, hx, hcell, hwz⟩
  · exact ⟨none, 0, [], hcs, Nat.le_refl _, by decide, fun _ => rfl, ⟨by simp, by simp, .inl rfl⟩⟩
  · have hz' : zs.length = c := by simpa using hz
    have hlen : (zs.take l).length = l := by rw [List.length_take]; omega
    have hr : IsRow .u8 w (some a) l c zs := .inr ⟨a, rfl, hl, hm, hz', hcell, hwz⟩
    exact ⟨some a, c, zs.take l, by rw [hlen]; exact hcs, by omega, by unfold maxLen at hm; omega, (fun h => by cases h), (bytes_of_row hr).2⟩
theorem open_ac {fuel : Nat} {cs : List Value} {x : DataW H × List MemPlace} (h : DataW.trod enc Try.prog w 0 (fun _ => true) true fuel 35 cs = some x) :
    ∃ y : Ac, cs = y.cells ∧ AcV w y := by
  obtain ⟨fs, hfs, hty⟩ : ∃ fs : Array Field, Try.prog.underlying 35 = some (.struct fs) ∧ fs.toList.map (fun f => (f.type, f.offset)) = [(3, 0), (33, 1)] := ⟨_, Try.underlying35, rfl⟩
  obtain ⟨xs, n, rfl, hx, hlen, hxl, hf⟩ := DataW.trod_struct hfs h
  rw [show Try.prog.cellsOf 35 = 2 by kernel_rfl] at hlen
  have h3 : fs.size = 2 := by have := congrArg List.length hty; simpa using this
  match cs, hlen with
  | [c0, c1], _ =>
  have hF : ∀ i (hi : i < 2), ∃ y, DataW.trod enc Try.prog w 0 (fun _ => true) true n (([(3, 0), (33, 1)] : List (TypeId × Nat)).getD i (0, 0)).1
      ((([c0, c1] : List Value).drop (([(3, 0), (33, 1)] : List (TypeId × Nat)).getD i (0, 0)).2).take (Try.prog.cellsOf (([(3, 0), (33, 1)] : List (TypeId × Nat)).getD i (0, 0)).1)) = some y := by
    intro i hi
    have hif : i < fs.size := by omega
    have e := hf i fs[i] (Array.getElem?_eq_getElem hif)
    have hy : xs[i]? = some (xs[i]'(by omega)) := List.getElem?_eq_getElem (by omega)
    have ht : ([(3, 0), (33, 1)] : List (TypeId × Nat)).getD i (0, 0) = (fs[i].type, fs[i].offset) := by
      rw [← hty, List.getD_eq_getElem?_getD, List.getElem?_map, Array.getElem?_toList, Array.getElem?_eq_getElem hif]
      rfl
    rw [ht]
    exact ⟨_, e.trans hy⟩
  have k0 : Try.prog.cellsOf 33 = 1 := by kernel_rfl
  have k1 : Try.prog.cellsOf 3 = 1 := by kernel_rfl
  obtain ⟨y0, e0⟩ := hF 0 (by omega)
  obtain ⟨y1, e1⟩ := hF 1 (by omega)
  clear hF hf
  simp only [List.getD_cons_zero, List.getD_cons_succ, k0, k1, List.drop_zero, List.drop_succ_cons, List.take_succ_cons, List.take_zero] at e0 e1
  obtain ⟨z0, q0, _, _⟩ := DataW.trod_int Try.underlying3 e0
  obtain ⟨pa, pc, zs, q1, g1, g2, g3, g4⟩ := open_bytes e1
  simp only [List.cons.injEq, and_true] at q0 q1
  subst q0 q1
  exact ⟨⟨z0, pa, pc, zs⟩, rfl, g4, g1, g2, g3⟩
theorem cells_at {a : Addr} {n : Nat} {cs : List Value} (h : w.cells? 0 a n = some cs) : cs.length = n ∧ ∀ j, j < n → w.cell? (a.add j) = cs[j]? := by
  unfold World.cells? at h
  rw [if_pos (Nat.zero_le _)] at h
  refine ⟨by simpa using mapM_some_length h, fun j hj => ?_⟩
  exact mapM_some_get h j j (by simp [hj])
theorem cell_lt {w : World} {a : Addr} {v : Value} (h : w.cell? a = some v) : a.block < w.heap.size := by
  by_cases hb : a.block < w.heap.size
  · exact hb
  · rw [World.cell?, Array.getElem?_eq_none (by omega)] at h
    cases h
/-- A SCRIPT IN MEMORY. -/
def Acs (w : World) (a : Option Addr) (L : List Ac) : Prop := L.length ≤ maxLen ∧ (L = [] ∨ ∃ b off, a = some ⟨b, off, none⟩ ∧ b < w.heap.size ∧ ∀ i x, L[i]? = some x → (∀ j, j < 2 → w.cell? ⟨b, off + i * 2 + j, none⟩ = x.cells[j]?) ∧ AcV w x)
def AcArg (w : World) (a : Option Addr) (n cap : Nat) (L : List Ac) : Prop := L.length = n ∧ n ≤ cap ∧ cap ≤ 9223372036854775807 ∧ (a = none → cap = 0) ∧ Acs w a L
theorem Acs.kept {w w' : World} {a : Option Addr} {L : List Ac} (h : Acs w a L) (hb : Below w.heap.size w w') : Acs w' a L := by
  refine ⟨h.1, ?_⟩
  rcases h.2 with h | ⟨b, off, rfl, hlt, hc⟩
  · exact .inl h
  · exact .inr ⟨b, off, rfl, Nat.lt_of_lt_of_le hlt hb.size, fun i x hx => ⟨fun j hj => by rw [hb.cell (p := ⟨b, off + i * 2 + j, none⟩) hlt]; exact (hc i x hx).1 j hj, (hc i x hx).2.kept hb⟩⟩
theorem open_acs {fuel : Nat} {c : Value} {y : DataW H × List MemPlace} (e : DataW.trod enc Try.prog w 0 (fun _ => true) true fuel 22 [c] = some y) : ∃ a len cap L, c = .slice a len cap ∧ AcArg w a len cap L := by
  rcases DataW.trod_slice Try.underlying22 e with ⟨hc, _⟩ | ⟨a, len, cap, elems, rest, m, hn, hc, hyx, _, hl, hm, hel, hat, _, _⟩
  · obtain rfl : c = .slice none 0 0 := by simpa using hc
    exact ⟨none, 0, 0, [], rfl, rfl, Nat.le_refl _, by decide, fun _ => rfl, by simp, .inl rfl⟩
  · obtain rfl : c = .slice (some a) len cap := by simpa using hc
    have each : ∀ i, i < len → ∃ x : Ac, (∀ j, j < 2 → w.cell? ((a.add (i * 2)).add j) = x.cells[j]?) ∧ AcV w x := by
      intro i hi
      have e1 := hat i hi
      rw [show Try.prog.cellsOf 35 = 2 by kernel_rfl, List.getElem?_eq_getElem (by omega), Option.bind_eq_some_iff] at e1
      obtain ⟨cs', hcs', hr⟩ := e1
      obtain ⟨x, rfl, hx⟩ := open_ac hr
      exact ⟨x, (cells_at hcs').2, hx⟩
    have hI : Inhabited Ac := ⟨⟨0, none, 0, []⟩⟩
    obtain ⟨g, hg⟩ := Deep.choose_lt each
    refine ⟨some a, len, cap, (List.range len).map g, rfl, by simp, hl, by unfold maxLen at hm; omega, (fun h => by cases h), by simp; omega, ?_⟩
    by_cases h0 : len = 0
    · left; subst h0; rfl
    · right
      have hs : a.spot = none := by
        have h1 := (hg 0 (by omega)).1 0 (by omega)
        rw [Nat.zero_mul] at h1
        simp only [Addr.add, if_true, Ac.cells, List.getElem?_cons_zero] at h1
        exact World.cell?_spot h1
      obtain ⟨b, off, sp⟩ := a
      obtain rfl : sp = none := hs
      have hcell : ∀ i, i < len → ∀ j, j < 2 → w.cell? ⟨b, off + i * 2 + j, none⟩ = (g i).cells[j]? := fun i hi j hj => by
        rw [← (hg i hi).1 j hj, Deep.add_add, Nat.add_assoc]
        congr 1
        unfold Addr.add
        split
        · rename_i hz; rw [hz]; rfl
        · rfl
      refine ⟨b, off, rfl, ?_, fun i x hx => ?_⟩
      · have h1 := hcell 0 (by omega) 0 (by omega)
        exact cell_lt h1
      · have hi' : i < len := by have := (List.getElem?_eq_some_iff.1 hx).1; simpa using this
        have hx' : x = g i := by
          rw [List.getElem?_map, List.getElem?_range hi'] at hx
          simpa using hx.symm
        subst hx'
        exact ⟨hcell i hi', (hg i hi').2⟩
theorem open_acs_arg {r : Reach} {b0 : Nat} {v : Value} {d : DataW H} {p : List MemPlace} (hv : Value.okWide Try.prog w r b0 22 v) (h : DataW.Trod enc Try.prog w 0 (fun _ => true) true 22 v d p) :
    ∃ a len cap L, v = .slice a len cap ∧ AcArg w a len cap L ∧ (len = 0 ∨ ∃ el sp, d = .slice el sp ∧ el.length = len) := by
  obtain ⟨a, len, cap, rfl⟩ := okWide_slice Try.underlying22 hv
  obtain ⟨fuel, hf⟩ := h
  obtain ⟨a', len', cap', L, e, hA⟩ := open_acs hf
  cases e
  refine ⟨a, len, cap, L, rfl, hA, ?_⟩
  rcases DataW.trod_slice Try.underlying22 hf with ⟨hc, _⟩ | ⟨a, len, cap, elems, rest, m, hn, hc, hyx, _, hl, hm, hel, hat, _, _⟩
  · left
    simp [Value.cells] at hc
    exact hc.2.1
  · right
    simp [Value.cells] at hc
    exact ⟨_, _, (Prod.mk.inj hyx).1, by rw [List.length_map, hel, hc.2.1]⟩
theorem open_ac_arg {r : Reach} {b0 : Nat} {v : Value} {d : DataW H} {p : List MemPlace} (hv : Value.okWide Try.prog w r b0 35 v) (h : DataW.Trod enc Try.prog w 0 (fun _ => true) true 35 v d p) :
    ∃ x : Ac, v = x.val ∧ AcV w x := by
  obtain ⟨fs, hfs, hty⟩ : ∃ fs : Array Field, Try.prog.underlying 35 = some (.struct fs) ∧ fs.toList.map (fun f => (f.type, f.offset)) = [(3, 0), (33, 1)] := ⟨_, Try.underlying35, rfl⟩
  obtain ⟨cs, rfl, _⟩ := okWide_struct hfs hv
  obtain ⟨fuel, hf⟩ := h
  obtain ⟨x, hcs, hx⟩ := open_ac hf
  refine ⟨x, ?_, hx⟩
  have h1 : cs.toList = x.cells := by rw [← hcs]; simp [Value.cells]
  have : cs = x.cells.toArray := by rw [← h1, Array.toArray_toList]
  rw [this]
  rfl
end
/-- An act's cells in memory. -/
theorem acs_at {w : World} {a : Option Addr} {L : List Ac} (h : Acs w a L) {i : Nat} {x : Ac} (hx : L[i]? = some x) : ∃ b off, a = some ⟨b, off, none⟩ ∧ b < w.heap.size ∧ (∀ j, j < 2 → w.cell? ⟨b, off + i * 2 + j, none⟩ = x.cells[j]?) ∧ AcV w x := by
  rcases h.2 with rfl | ⟨b, off, rfl, hlt, hc⟩
  · simp at hx
  · exact ⟨b, off, rfl, hlt, (hc i x hx).1, (hc i x hx).2⟩
end Go.Proofs.Ytajidkgmifcoaaa
