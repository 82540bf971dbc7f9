/-
  Loads as an argument.
-/
import Derived.Test.YtajidkgmifcoaaaRch
namespace Go.Proofs.Ytajidkgmifcoaaa
open Go.RowKit Go.ChangeShapes Go.WideShapes
set_option linter.unusedVariables false
set_option linter.unusedSimpArgs false
/-- One load, as it is read. -/
structure Bl where
  a : Option Addr
  cap : Nat
  zs : List Int
def Bl.cells (x : Bl) : List Value := [.slice x.a x.zs.length x.cap]
def BlV (w : World) (x : Bl) : Prop := Bytes w x.a x.zs ∧ x.zs.length ≤ x.cap ∧ x.cap ≤ 9223372036854775807 ∧ (x.a = none → x.cap = 0)
theorem BlV.kept {w w' : World} {x : Bl} (h : BlV w x) (hb : Below w.heap.size w w') : BlV w' x := ⟨h.1.kept hb, h.2⟩
section
variable {H : Type} {enc : TypeId × Value → H} {w : World}
theorem open_bl {fuel : Nat} {cs : List Value} {x : DataW H × List MemPlace} (h : DataW.trod enc Try.prog w 0 (fun _ => true) true fuel 33 cs = some x) : ∃ y : Bl, cs = y.cells ∧ BlV w y := by
  obtain ⟨a, cap, zs, rfl, h1, h2, h3, h4⟩ := open_bytes h
  exact ⟨⟨a, cap, zs⟩, rfl, h4, h1, h2, h3⟩
/-- LOADS IN MEMORY. -/
def Bls (w : World) (a : Option Addr) (L : List Bl) : Prop := L.length ≤ maxLen ∧ (L = [] ∨ ∃ b off, a = some ⟨b, off, none⟩ ∧ b < w.heap.size ∧ ∀ i x, L[i]? = some x → (∀ j, j < 1 → w.cell? ⟨b, off + i * 1 + j, none⟩ = x.cells[j]?) ∧ BlV w x)
def BlArg (w : World) (a : Option Addr) (n cap : Nat) (L : List Bl) : Prop := L.length = n ∧ n ≤ cap ∧ cap ≤ 9223372036854775807 ∧ (a = none → cap = 0) ∧ Bls w a L
theorem Bls.kept {w w' : World} {a : Option Addr} {L : List Bl} (h : Bls w a L) (hb : Below w.heap.size w w') : Bls w' a L := by
  refine ⟨h.1, ?_⟩
  rcases h.2 with h | ⟨b, off, rfl, hlt, hc⟩
  · exact .inl h
  · exact .inr ⟨b, off, rfl, Nat.lt_of_lt_of_le hlt hb.size, fun i x hx => ⟨fun j hj => by rw [hb.cell (p := ⟨b, off + i * 1 + j, none⟩) hlt]; exact (hc i x hx).1 j hj, (hc i x hx).2.kept hb⟩⟩
theorem open_bls {fuel : Nat} {c : Value} {y : DataW H × List MemPlace} (e : DataW.trod enc Try.prog w 0 (fun _ => true) true fuel 47 [c] = some y) : ∃ a len cap L, c = .slice a len cap ∧ BlArg w a len cap L := by
  rcases DataW.trod_slice Try.underlying47 e with ⟨hc, _⟩ | ⟨a, len, cap, elems, rest, m, hn, hc, hyx, _, hl, hm, hel, hat, _, _⟩
  · obtain rfl : c = .slice none 0 0 := by simpa using hc
    exact ⟨none, 0, 0, [], rfl, rfl, Nat.le_refl _, by decide, fun _ => rfl, by simp, .inl rfl⟩
  · obtain rfl : c = .slice (some a) len cap := by simpa using hc
    have each : ∀ i, i < len → ∃ x : Bl, (∀ j, j < 1 → w.cell? ((a.add (i * 1)).add j) = x.cells[j]?) ∧ BlV w x := by
      intro i hi
      have e1 := hat i hi
      rw [show Try.prog.cellsOf 33 = 1 by kernel_rfl, List.getElem?_eq_getElem (by omega), Option.bind_eq_some_iff] at e1
      obtain ⟨cs', hcs', hr⟩ := e1
      obtain ⟨x, rfl, hx⟩ := open_bl hr
      exact ⟨x, (cells_at hcs').2, hx⟩
    have hI : Inhabited Bl := ⟨⟨none, 0, []⟩⟩
    obtain ⟨g, hg⟩ := Deep.choose_lt each
    refine ⟨some a, len, cap, (List.range len).map g, rfl, by simp, hl, by unfold maxLen at hm; omega, (fun h => by cases h), by simp; omega, ?_⟩
    by_cases h0 : len = 0
    · left; subst h0; rfl
    · right
      have hs : a.spot = none := by
        have h1 := (hg 0 (by omega)).1 0 (by omega)
        rw [Nat.zero_mul] at h1
        simp only [Addr.add, if_true, Bl.cells, List.getElem?_cons_zero] at h1
        exact World.cell?_spot h1
      obtain ⟨b, off, sp⟩ := a
      obtain rfl : sp = none := hs
      have hcell : ∀ i, i < len → ∀ j, j < 1 → w.cell? ⟨b, off + i * 1 + j, none⟩ = (g i).cells[j]? := fun i hi j hj => by
        rw [← (hg i hi).1 j hj, Deep.add_add, Nat.add_assoc]
        congr 1
        unfold Addr.add
        split
        · rename_i hz; rw [hz]; rfl
        · rfl
      refine ⟨b, off, rfl, ?_, fun i x hx => ?_⟩
      · have h1 := hcell 0 (by omega) 0 (by omega)
        exact cell_lt h1
      · have hi' : i < len := by have := (List.getElem?_eq_some_iff.1 hx).1; simpa using this
        have hx' : x = g i := by
          rw [List.getElem?_map, List.getElem?_range hi'] at hx
          simpa using hx.symm
        subst hx'
        exact ⟨hcell i hi', (hg i hi').2⟩
theorem open_bls_arg {r : Reach} {b0 : Nat} {v : Value} {d : DataW H} {p : List MemPlace} (hv : Value.okWide Try.prog w r b0 47 v) (h : DataW.Trod enc Try.prog w 0 (fun _ => true) true 47 v d p) :
    ∃ a len cap L, v = .slice a len cap ∧ BlArg w a len cap L ∧ (len = 0 ∨ ∃ el sp, d = .slice el sp ∧ el.length = len) := by
  obtain ⟨a, len, cap, rfl⟩ := okWide_slice Try.underlying47 hv
  obtain ⟨fuel, hf⟩ := h
  obtain ⟨a', len', cap', L, e, hA⟩ := open_bls hf
  cases e
  refine ⟨a, len, cap, L, rfl, hA, ?_⟩
  rcases DataW.trod_slice Try.underlying47 hf with ⟨hc, _⟩ | ⟨a, len, cap, elems, rest, m, hn, hc, hyx, _, hl, hm, hel, hat, _, _⟩
  · left
    simp [Value.cells] at hc
    exact hc.2.1
  · right
    simp [Value.cells] at hc
    exact ⟨_, _, (Prod.mk.inj hyx).1, by rw [List.length_map, hel, hc.2.1]⟩
end
theorem bls_at {w : World} {a : Option Addr} {L : List Bl} (h : Bls w a L) {i : Nat} {x : Bl} (hx : L[i]? = some x) : ∃ b off, a = some ⟨b, off, none⟩ ∧ b < w.heap.size ∧ w.cell? ⟨b, off + i, none⟩ = some (.slice x.a x.zs.length x.cap) ∧ BlV w x := by
  rcases h.2 with rfl | ⟨b, off, rfl, hlt, hc⟩
  · simp at hx
  · refine ⟨b, off, rfl, hlt, ?_, (hc i x hx).2⟩
    have := (hc i x hx).1 0 (by decide)
    rw [Nat.mul_one] at this
    exact this
end Go.Proofs.Ytajidkgmifcoaaa
