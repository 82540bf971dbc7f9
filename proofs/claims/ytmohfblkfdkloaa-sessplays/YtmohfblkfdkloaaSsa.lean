/-
  Blocks, what may turn, and maps of numbers of 64 bits.
-/
import Derived.Test.YtmohfblkfdkloaaSame
import Derived.Maps.OwnSet
import Derived.Maps.OwnOps
import Derived.Deep.QuietTactic
import Derived.Deep.DeepAppendWide
import Derived.Shelf.Abstract
namespace Go.Proofs.Ytmohfblkfdkloaa
open Go.RowKit
set_option linter.unusedVariables false

/-- A block's cells. -/
def Blk (w : World) (g : Nat) (cs : Array Value) (T : TypeId) : Prop := w.heap[g]? = some (.cells cs T (0, 0))
theorem Blk.lt {w : World} {g : Nat} {cs : Array Value} {T : TypeId} (h : Blk w g cs T) : g < w.heap.size := (Array.getElem?_eq_some_iff.1 h).1
theorem Blk.cell {w : World} {g : Nat} {cs : Array Value} {T : TypeId} (h : Blk w g cs T) (j : Nat) : w.cell? ⟨g, j, none⟩ = cs[j]? := cell_row h j
theorem Blk.fz {w : World} {g : Nat} {cs : Array Value} {T : TypeId} (h : Blk w g cs T) (j : Nat) : w.frozen? ⟨g, j, none⟩ = false := by
  unfold Blk at h
  simp [World.frozen?, h]
theorem Blk.set {w : World} {g : Nat} {cs : Array Value} {T : TypeId} (h : Blk w g cs T) (j : Nat) (v : Value) : Blk (w.setCell ⟨g, j, none⟩ v) g (cs.setIfInBounds j v) T := heap_setCell_same w g j cs T v h
theorem Blk.kept {w w' : World} {g : Nat} {cs : Array Value} {T : TypeId} (h : Blk w g cs T) (hb : Below w.heap.size w w') : Blk w' g cs T := by
  unfold Blk
  rw [hb.block g h.lt]
  exact h
theorem Blk.but {w w' : World} {g r : Nat} {cs : Array Value} {T : TypeId} (h : Blk w g cs T) (hg : w.grownBy w' (some r)) (hr : g ≠ r) : Blk w' g cs T := by
  unfold Blk
  rw [hg.block g h.lt (fun e => hr (Option.some.inj e))]
  exact h
theorem blk_new (w : World) (cs : Array Value) (T : TypeId) : Blk (w.alloc (.cells cs T)) w.heap.size cs T := heap_alloc_new w _


/-- NOTHING BUT BLOCKS OF C, AND NEW ONES, HAS TURNED. -/
structure KS (C : Nat → Prop) (w w' : World) : Prop where
  os : w'.os = w.os
  tape : w'.tape = w.tape
  output : w'.output = w.output
  size : w.heap.size ≤ w'.heap.size
  block : ∀ k, k < w.heap.size → ¬ C k → w'.heap[k]? = w.heap[k]?
theorem KS.refl (C : Nat → Prop) (w : World) : KS C w w := ⟨rfl, rfl, rfl, Nat.le_refl _, fun _ _ _ => rfl⟩
theorem KS.trans {C : Nat → Prop} {a b c : World} (h : KS C a b) (k : KS C b c) : KS C a c :=
  ⟨k.os.trans h.os, k.tape.trans h.tape, k.output.trans h.output, Nat.le_trans h.size k.size, fun i hi h1 => (k.block i (Nat.lt_of_lt_of_le hi h.size) h1).trans (h.block i hi h1)⟩
theorem KS.mono {C D : Nat → Prop} {w w' : World} (h : KS C w w') (hd : ∀ k, k < w.heap.size → C k → D k) : KS D w w' := ⟨h.os, h.tape, h.output, h.size, fun k hk hD => h.block k hk (fun hc => hD (hd k hk hc))⟩
theorem KS.of_below {C : Nat → Prop} {w w' : World} (h : Below w.heap.size w w') : KS C w w' := ⟨h.os, h.tape, h.output, h.size, fun k hk _ => h.block k hk⟩
theorem KS.of_g {C : Nat → Prop} {w w' : World} {r : Option Nat} (h : w.grownBy w' r) (hr : ∀ k, r = some k → C k) : KS C w w' := ⟨h.os, h.tape, h.output, h.size, fun k hk hC => h.block k hk (fun e => hC (hr k e.symm))⟩
theorem KS.set {C : Nat → Prop} (w : World) (q j : Nat) (hq : C q) (v : Value) : KS C w (w.setCell ⟨q, j, none⟩ v) := ⟨rfl, rfl, rfl, by simp [World.setCell], fun k hk h1 => Below.heap_setCell _ _ _ _ (fun e => h1 (by simp at e; rw [e]; exact hq))⟩
theorem KS.below {C : Nat → Prop} {B : Nat} {a w w' : World} (k : KS C w w') (h : Below B a w) (hB : B ≤ w.heap.size) (hC : ∀ i, C i → B ≤ i) : Below B a w' :=
  ⟨k.os.trans h.os, k.tape.trans h.tape, k.output.trans h.output, Nat.le_trans h.size k.size, fun i hi => (k.block i (by omega) (fun hc => by have := hC i hc; omega)).trans (h.block i hi)⟩
theorem Blk.ks {C : Nat → Prop} {w w' : World} {g : Nat} {cs : Array Value} {T : TypeId} (h : Blk w g cs T) (k : KS C w w') (hg : ¬ C g) : Blk w' g cs T := (k.block g h.lt hg).trans h

/-- How an element reads: as itself. -/
def hel (v : Value) : Option (DataW Value × List MemPlace) := some (.held v, [])
/-- BLOCK b IS A MAP OF n NUMBERS, AND HOLDS AT EACH WHAT f SAYS. -/
def MapU (zE : Value) (w : World) (b : Nat) (f : Int → Option Value) (n : Nat) : Prop :=
  ∃ D : DataW Value, w.ownsMap Try.prog 34 hel b n D ∧ Maps.size D = n ∧ ∀ z : Int, D.atKey (.int .u64 z) (.held zE) = .held ((f z).getD zE) ∧ Maps.has D (.int .u64 z) = (f z).isSome
def put (f : Int → Option Value) (z : Int) (v : Option Value) : Int → Option Value := fun x => if x = z then v else f x

theorem keyedU : Maps.Keyed Try.prog 34 := Maps.int_keyed Try.underlying34
theorem keyU {z : Int} (h : 0 ≤ z ∧ z < 18446744073709551616) : keyOf Try.prog 34 (.int .u64 z) = some (.int .u64 z) :=
  Maps.keyOf_int_mk Try.underlying34 (by
    simp [Lit.wf, show IntKind.u64.min = 0 from by decide, show IntKind.u64.max = 18446744073709551615 from by decide]
    omega)
section
variable {zE : Value}
theorem MapU.lt {w : World} {b n : Nat} {f : Int → Option Value} (h : MapU zE w b f n) : b < w.heap.size := by
  obtain ⟨D, h1, _⟩ := h
  exact h1.lt
theorem MapU.drew {w : World} {b n : Nat} {f : Int → Option Value} (h : MapU zE w b f n) : MapU zE w.drew b f n := h
theorem MapU.eq {w w' : World} {b n : Nat} {f : Int → Option Value} (h : MapU zE w b f n) (hb : w'.heap[b]? = w.heap[b]?) : MapU zE w' b f n := by
  obtain ⟨D, ⟨es, clock, h1, h2⟩, h3⟩ := h
  exact ⟨D, ⟨es, clock, by rw [hb]; exact h1, h2⟩, h3⟩
theorem MapU.kept {w w' : World} {b n : Nat} {f : Int → Option Value} (h : MapU zE w b f n) (hb : Below w.heap.size w w') : MapU zE w' b f n := h.eq (hb.block b h.lt)
theorem MapU.set {w : World} {b n g : Nat} {f : Int → Option Value} (h : MapU zE w b f n) (hg : b ≠ g) (j : Nat) (v : Value) : MapU zE (w.setCell ⟨g, j, none⟩ v) b f n := by
  obtain ⟨D, h1, h3⟩ := h
  exact ⟨D, h1.setCell (a := ⟨g, j, none⟩) hg v, h3⟩
theorem mapU_new (w : World) : MapU zE (w.alloc (.map #[] 0)) w.heap.size (fun _ => none) 0 :=
  ⟨.map [], World.ownsMap_made w Try.prog 34 hel, rfl, fun z => ⟨rfl, rfl⟩⟩
/-- No block of cells is a map. -/
theorem MapU.ne {w : World} {b g n : Nat} {f : Int → Option Value} (h : MapU zE w b f n) {cs : Array Value} {T : TypeId} {m : Nat × Nat} (hg : w.heap[g]? = some (.cells cs T m)) : b ≠ g := by
  intro e
  obtain ⟨D, ⟨es, clock, h1, _⟩, _⟩ := h
  rw [← e, h1] at hg
  cases hg
theorem MapU.look {t e : TypeId} {w : World} {b n : Nat} {f : Int → Option Value} (h : MapU zE w b f n) (ht : Try.prog.underlying t = some (.map 34 e)) (hz0 : (zeroValue e).run Try.prog w = .ok zE w) {z : Int} (hz : 0 ≤ z ∧ z < 18446744073709551616) :
    (Instr.lookup t (.map (some b)) (.int .u64 z) false).run Try.prog w = .ok ((f z).getD zE) w := by
  obtain ⟨D, h1, h2, h3⟩ := h
  obtain ⟨v, ps, hr, hv⟩ := h1.lookup keyedU ht hz0 (zd := .held zE) (zp := []) rfl (keyU hz)
  rw [(h3 z).1] at hv
  simp [hel] at hv
  rw [hr, hv.1]
theorem MapU.look2 {t e : TypeId} {w : World} {b n : Nat} {f : Int → Option Value} (h : MapU zE w b f n) (ht : Try.prog.underlying t = some (.map 34 e)) (hz0 : (zeroValue e).run Try.prog w = .ok zE w) {z : Int} (hz : 0 ≤ z ∧ z < 18446744073709551616) :
    (Instr.lookup t (.map (some b)) (.int .u64 z) true).run Try.prog w = .ok (.tuple #[(f z).getD zE, .bool (f z).isSome]) w := by
  obtain ⟨D, h1, h2, h3⟩ := h
  obtain ⟨v, ps, hr, hv⟩ := h1.look_ok keyedU ht hz0 (zd := .held zE) (zp := []) rfl (keyU hz)
  rw [(h3 z).1] at hv
  simp [hel] at hv
  rw [hr, hv.1, (h3 z).2]
theorem MapU.store {t e : TypeId} {w : World} {b n : Nat} {f : Int → Option Value} (h : MapU zE w b f n) (ht : Try.prog.underlying t = some (.map 34 e)) (hn : n < 140737488351232) {z : Int} (hz : 0 ≤ z ∧ z < 18446744073709551616) (v : Value) :
    ∃ w', (Instr.mapUpdate t (.map (some b)) (.int .u64 z) v).run Try.prog w = .ok () w' ∧ MapU zE w' b (put f z (some v)) (if (f z).isSome then n else n + 1) ∧ w.grownBy w' (some b) := by
  obtain ⟨D, h1, h2, h3⟩ := h
  obtain ⟨w', hr, h4, h5⟩ := h1.store keyedU ht (by unfold maxLen; omega) (keyU hz) (val := v) (d := .held v) (ps := []) rfl
  have hs : Maps.size (D.put (.int .u64 z) (.held v)) = if (f z).isSome then n else n + 1 := by
    rw [Maps.size_put (h1.tidy keyedU), (h3 z).2, h2]
  refine ⟨w', hr, ⟨_, ?_, hs, fun x => ?_⟩, h5.grown⟩
  · obtain ⟨es, clock, hb, F, hle, hD⟩ := h4
    refine ⟨es, clock, hb, F, ?_, hD⟩
    have e1 : Maps.size (D.put (.int .u64 z) (.held v)) = es.size := by rw [hD]; simp [Maps.size, length_sorted]
    rw [← e1, hs]
    exact Nat.le_refl _
  · by_cases hx : x = z
    · subst hx
      have hk : WideAt.IsKeyLit (.int .u64 x) := trivial
      rw [Maps.atKey_put_same h1.isMap hk, Maps.has_put_same h1.isMap hk]
      simp [put]
    · have hne : (Lit.int .u64 x) ≠ Lit.int .u64 z := fun e => hx (by cases e; rfl)
      rw [Maps.atKey_put_other hne, Maps.has_put_other hne]
      simp [put, hx, h3]
end
/-! ### rows -/
theorem addr_add0 (g j : Nat) : (⟨g, 0, none⟩ : Addr).add j = ⟨g, j, none⟩ := by simp [Addr.add]; exact fun h => h.symm
theorem ownsRow_keep {w w' : World} {base e k n : Nat} {v : Value} {cs : List Value} (h : w.ownsRow base e k v n cs) (hb : ∀ b cur, base ≤ b → v.ownBlock = some b → w.heap[b]? = some (.cells cur e (0, 0)) → w'.heap[b]? = w.heap[b]?) : w'.ownsRow base e k v n cs := by
  obtain ⟨h1, h2⟩ := h
  refine ⟨h1, ?_⟩
  rcases h2 with h2 | ⟨g, cap, cur, hv, hg, hc, r⟩
  · exact .inl h2
  · exact .inr ⟨g, cap, cur, hv, hg, by rw [hb g cur hg (by rw [hv]; rfl) hc]; exact hc, r⟩
theorem ownsRow_kept {w w' : World} {base e k n : Nat} {v : Value} {cs : List Value} (h : w.ownsRow base e k v n cs) (hb : Below w.heap.size w w') : w'.ownsRow base e k v n cs :=
  ownsRow_keep h fun b cur _ _ h2 => hb.block b (Array.getElem?_eq_some_iff.1 h2).1
theorem ownsRow_base {w : World} {b b' e k n : Nat} {v : Value} {cs : List Value} (h : w.ownsRow b e k v n cs) (hb : b' ≤ b) : w.ownsRow b' e k v n cs := by
  obtain ⟨h1, h2⟩ := h
  refine ⟨h1, ?_⟩
  rcases h2 with h2 | ⟨g, cap, cur, hv, hg, r⟩
  · exact .inl h2
  · exact .inr ⟨g, cap, cur, hv, Nat.le_trans hb hg, r⟩
theorem ownsRow_lt {w : World} {base e k n : Nat} {v : Value} {cs : List Value} (h : w.ownsRow base e k v n cs) : ∀ g, v.ownBlock = some g → base ≤ g ∧ g < w.heap.size ∧ ∃ cur, w.heap[g]? = some (.cells cur e (0, 0)) := by
  intro g hg
  rcases h.2 with ⟨rfl, _⟩ | ⟨g', cap, cur, rfl, h1, hc, _⟩
  · simp [Value.ownBlock] at hg
  · simp [Value.ownBlock] at hg
    subst hg
    exact ⟨h1, (Array.getElem?_eq_some_iff.1 hc).1, cur, hc⟩
theorem ownsRow_form {w : World} {base e k n : Nat} {v : Value} {cs : List Value} (h : w.ownsRow base e k v n cs) : ∃ a c, v = .slice a n c ∧ n ≤ c ∧ c ≤ 9223372036854775807 ∧ (a = none → c = 0) := by
  rcases h.2 with ⟨hv, hn⟩ | ⟨g, cap, cur, hv, hg, hc, hnc, hcm, r⟩
  · exact ⟨none, 0, by rw [hv, hn], by omega, by omega, fun _ => rfl⟩
  · exact ⟨some ⟨g, 0, none⟩, cap, hv, hnc, (by unfold maxLen at hcm; omega), (fun h => by cases h)⟩
theorem own_below {w w1 w2 : World} {base e k n : Nat} {v : Value} {cs : List Value} (hb : Below base w w1) (h : w1.ownsRow base e k v n cs) (hg : w1.grownBy w2 v.ownBlock) (hB : base ≤ w1.heap.size) : Below base w w2 :=
  hb.grown hg hB fun g hk => (ownsRow_lt h g hk).1
end Go.Proofs.Ytmohfblkfdkloaa
