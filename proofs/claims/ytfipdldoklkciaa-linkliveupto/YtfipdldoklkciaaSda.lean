/-
  A map of whole numbers to values as they are; what holds of it behind each operation.
-/
import Derived.Test.YtfipdldoklkciaaSame
import Derived.Maps.OwnSet
import Derived.Maps.OwnOps
import Derived.Deep.QuietTactic
namespace Go.Proofs.Ytfipdldoklkciaa
open Go.RowKit
set_option linter.unusedVariables false

/-- A block's cells. -/
def Blk (w : World) (g : Nat) (cs : Array Value) (T : TypeId) : Prop := w.heap[g]? = some (.cells cs T (0, 0))
theorem Blk.lt {w : World} {g : Nat} {cs : Array Value} {T : TypeId} (h : Blk w g cs T) : g < w.heap.size := (Array.getElem?_eq_some_iff.1 h).1
theorem Blk.cell {w : World} {g : Nat} {cs : Array Value} {T : TypeId} (h : Blk w g cs T) (j : Nat) : w.cell? ⟨g, j, none⟩ = cs[j]? := cell_row h j
theorem Blk.fz {w : World} {g : Nat} {cs : Array Value} {T : TypeId} (h : Blk w g cs T) (j : Nat) : w.frozen? ⟨g, j, none⟩ = false := by
  unfold Blk at h
  simp [World.frozen?, h]
theorem Blk.set {w : World} {g : Nat} {cs : Array Value} {T : TypeId} (h : Blk w g cs T) (j : Nat) (v : Value) : Blk (w.setCell ⟨g, j, none⟩ v) g (cs.setIfInBounds j v) T := heap_setCell_same w g j cs T v h
theorem Blk.kept {w w' : World} {g : Nat} {cs : Array Value} {T : TypeId} (h : Blk w g cs T) (hb : Below w.heap.size w w') : Blk w' g cs T := by
  unfold Blk
  rw [hb.block g h.lt]
  exact h
theorem Blk.but {w w' : World} {g r : Nat} {cs : Array Value} {T : TypeId} (h : Blk w g cs T) (hg : w.grownBy w' (some r)) (hr : g ≠ r) : Blk w' g cs T := by
  unfold Blk
  rw [hg.block g h.lt (fun e => hr (Option.some.inj e))]
  exact h
theorem blk_new (w : World) (cs : Array Value) (T : TypeId) : Blk (w.alloc (.cells cs T)) w.heap.size cs T := heap_alloc_new w _

/-- NOTHING BUT TWO BLOCKS HAS TURNED. -/
structure K2 (q g : Nat) (w w' : World) : Prop where
  os : w'.os = w.os
  tape : w'.tape = w.tape
  output : w'.output = w.output
  size : w.heap.size ≤ w'.heap.size
  block : ∀ k, k < w.heap.size → k ≠ q → k ≠ g → w'.heap[k]? = w.heap[k]?
theorem K2.refl (q g : Nat) (w : World) : K2 q g w w := ⟨rfl, rfl, rfl, Nat.le_refl _, fun _ _ _ _ => rfl⟩
theorem K2.drew {q g : Nat} {w w' : World} (h : K2 q g w w') : K2 q g w w'.drew := ⟨h.os, h.tape, h.output, h.size, h.block⟩
theorem K2.trans {q g : Nat} {a b c : World} (h : K2 q g a b) (k : K2 q g b c) : K2 q g a c :=
  ⟨k.os.trans h.os, k.tape.trans h.tape, k.output.trans h.output, Nat.le_trans h.size k.size, fun i hi h1 h2 => (k.block i (Nat.lt_of_lt_of_le hi h.size) h1 h2).trans (h.block i hi h1 h2)⟩
theorem K2.of_g {q g : Nat} {w w' : World} (h : w.grownBy w' (some g)) : K2 q g w w' := ⟨h.os, h.tape, h.output, h.size, fun k hk _ hg => h.block k hk (fun e => hg (Option.some.inj e))⟩
theorem K2.of_q {q g : Nat} {w w' : World} (h : w.grownBy w' (some q)) : K2 q g w w' := ⟨h.os, h.tape, h.output, h.size, fun k hk hq _ => h.block k hk (fun e => hq (Option.some.inj e))⟩
theorem K2.of_below {q g : Nat} {w w' : World} (h : Below w.heap.size w w') : K2 q g w w' := ⟨h.os, h.tape, h.output, h.size, fun k hk _ _ => h.block k hk⟩
theorem K2.set {q g : Nat} (w : World) (j : Nat) (v : Value) : K2 q g w (w.setCell ⟨q, j, none⟩ v) := ⟨rfl, rfl, rfl, by simp [World.setCell], fun k hk h1 _ => Below.heap_setCell _ _ _ _ (by simpa using h1)⟩
theorem K2.below {q g B : Nat} {a w w' : World} (k : K2 q g w w') (h : Below B a w) (hB : B ≤ w.heap.size) (hq : B ≤ q) (hg : B ≤ g) : Below B a w' :=
  ⟨k.os.trans h.os, k.tape.trans h.tape, k.output.trans h.output, Nat.le_trans h.size k.size, fun i hi => (k.block i (by omega) (by omega) (by omega)).trans (h.block i hi)⟩
theorem Bytes.k2 {q g : Nat} {w w' : World} {a : Option Addr} {zs : List Int} (hb : Bytes w a zs) (k : K2 q g w w') (hq : ∀ x, a = some x → x.block ≠ q ∧ x.block ≠ g) : Bytes w' a zs := by
  refine ⟨hb.1, hb.2.1, ?_⟩
  by_cases h0 : zs = []
  · exact .inl h0
  rcases hb.2.2 with h | ⟨b, off, rfl, hc⟩
  · exact .inl h
  · refine .inr ⟨b, off, rfl, fun i hi => ?_⟩
    have hlt := hb.lt h0
    rw [← hc i hi]
    exact World.cell?_of_block (k.block b hlt (hq _ rfl).1 (hq _ rfl).2)

/-- How an element reads: as itself. -/
def hel (v : Value) : Option (DataW Value × List MemPlace) := some (.held v, [])
/-- The element that is not there. -/
def zE : Value := .agg #[.slice none 0 0, .int .i64 0, .int .i64 0, .bool false]
theorem zero_pu (w : World) : (zeroValue 145).run Try.prog w = .ok zE w := by kernel_rfl

/-- BLOCK b IS A MAP OF n NUMBERS, AND HOLDS AT EACH WHAT f SAYS. -/
def MapI (w : World) (b : Nat) (f : Int → Option Value) (n : Nat) : Prop :=
  ∃ D : DataW Value, w.ownsMap Try.prog 3 hel b n D ∧ Maps.size D = n ∧ ∀ z : Int, D.atKey (.int .i64 z) (.held zE) = .held ((f z).getD zE) ∧ Maps.has D (.int .i64 z) = (f z).isSome
def put (f : Int → Option Value) (z : Int) (v : Option Value) : Int → Option Value := fun x => if x = z then v else f x

theorem keyed3 : Maps.Keyed Try.prog 3 := Maps.int_keyed Try.underlying3
theorem key3 {z : Int} (h : -9223372036854775808 ≤ z ∧ z < 9223372036854775808) : keyOf Try.prog 3 (.int .i64 z) = some (.int .i64 z) :=
  Maps.keyOf_int_mk Try.underlying3 (by
    simp [Lit.wf, show IntKind.i64.min = -9223372036854775808 from by decide, show IntKind.i64.max = 9223372036854775807 from by decide]
    omega)

theorem MapI.lt {w : World} {b n : Nat} {f : Int → Option Value} (h : MapI w b f n) : b < w.heap.size := by
  obtain ⟨D, h1, _⟩ := h
  exact h1.lt
theorem MapI.drew {w : World} {b n : Nat} {f : Int → Option Value} (h : MapI w b f n) : MapI w.drew b f n := h
theorem MapI.kept {w w' : World} {b n : Nat} {f : Int → Option Value} (h : MapI w b f n) (hb : Below w.heap.size w w') : MapI w' b f n := by
  obtain ⟨D, ⟨es, clock, h1, h2⟩, h3⟩ := h
  exact ⟨D, ⟨es, clock, by rw [hb.block b (Array.getElem?_eq_some_iff.1 h1).1]; exact h1, h2⟩, h3⟩
theorem MapI.set {w : World} {b n g : Nat} {f : Int → Option Value} (h : MapI w b f n) (hg : b ≠ g) (j : Nat) (v : Value) : MapI (w.setCell ⟨g, j, none⟩ v) b f n := by
  obtain ⟨D, h1, h3⟩ := h
  exact ⟨D, h1.setCell (a := ⟨g, j, none⟩) hg v, h3⟩
theorem mapI_new (w : World) : MapI (w.alloc (.map #[] 0)) w.heap.size (fun _ => none) 0 :=
  ⟨.map [], World.ownsMap_made w Try.prog 3 hel, rfl, fun z => ⟨rfl, rfl⟩⟩

theorem MapI.look {w : World} {b n : Nat} {f : Int → Option Value} (h : MapI w b f n) {z : Int} (hz : -9223372036854775808 ≤ z ∧ z < 9223372036854775808) :
    (Instr.lookup 139 (.map (some b)) (.int .i64 z) false).run Try.prog w = .ok ((f z).getD zE) w := by
  obtain ⟨D, h1, h2, h3⟩ := h
  obtain ⟨v, ps, hr, hv⟩ := h1.lookup keyed3 Try.underlying139 (zero_pu w) (zd := .held zE) (zp := []) rfl (key3 hz)
  rw [(h3 z).1] at hv
  simp [hel] at hv
  rw [hr, hv.1]
theorem MapI.look2 {w : World} {b n : Nat} {f : Int → Option Value} (h : MapI w b f n) {z : Int} (hz : -9223372036854775808 ≤ z ∧ z < 9223372036854775808) :
    (Instr.lookup 139 (.map (some b)) (.int .i64 z) true).run Try.prog w = .ok (.tuple #[(f z).getD zE, .bool (f z).isSome]) w := by
  obtain ⟨D, h1, h2, h3⟩ := h
  obtain ⟨v, ps, hr, hv⟩ := h1.look_ok keyed3 Try.underlying139 (zero_pu w) (zd := .held zE) (zp := []) rfl (key3 hz)
  rw [(h3 z).1] at hv
  simp [hel] at hv
  rw [hr, hv.1, (h3 z).2]
theorem MapI.len {w : World} {b n : Nat} {f : Int → Option Value} (h : MapI w b f n) (ty : TypeId) : (Builtin.len_ #[139] ty #[.map (some b)]).run Try.prog w = .ok (.int .i64 (n : Nat)) w := by
  obtain ⟨D, h1, h2, h3⟩ := h
  rw [h1.len Try.underlying139 ty, h2]
theorem MapI.store {w : World} {b n : Nat} {f : Int → Option Value} (h : MapI w b f n) (hn : n < 1000) {z : Int} (hz : -9223372036854775808 ≤ z ∧ z < 9223372036854775808) (v : Value) :
    ∃ w', (Instr.mapUpdate 139 (.map (some b)) (.int .i64 z) v).run Try.prog w = .ok () w' ∧ MapI w' b (put f z (some v)) (if (f z).isSome then n else n + 1) ∧ w.grownBy w' (some b) := by
  obtain ⟨D, h1, h2, h3⟩ := h
  obtain ⟨w', hr, h4, h5⟩ := h1.store keyed3 Try.underlying139 (by unfold maxLen; omega) (key3 hz) (val := v) (d := .held v) (ps := []) rfl
  have hs : Maps.size (D.put (.int .i64 z) (.held v)) = if (f z).isSome then n else n + 1 := by
    rw [Maps.size_put (h1.tidy keyed3), (h3 z).2, h2]
  refine ⟨w', hr, ⟨_, ?_, hs, fun x => ?_⟩, h5.grown⟩
  · obtain ⟨es, clock, hb, F, hle, hD⟩ := h4
    refine ⟨es, clock, hb, F, ?_, hD⟩
    have e1 : Maps.size (D.put (.int .i64 z) (.held v)) = es.size := by rw [hD]; simp [Maps.size, length_sorted]
    rw [← e1, hs]
    exact Nat.le_refl _
  · by_cases hx : x = z
    · subst hx
      have hk : WideAt.IsKeyLit (.int .i64 x) := trivial
      rw [Maps.atKey_put_same h1.isMap hk, Maps.has_put_same h1.isMap hk]
      simp [put]
    · have hne : (Lit.int .i64 x) ≠ Lit.int .i64 z := fun e => hx (by cases e; rfl)
      rw [Maps.atKey_put_other hne, Maps.has_put_other hne]
      simp [put, hx, h3]
theorem MapI.drop {w : World} {b n : Nat} {f : Int → Option Value} (h : MapI w b f n) {z : Int} (hz : -9223372036854775808 ≤ z ∧ z < 9223372036854775808) (ty : TypeId) :
    ∃ w', (Builtin.delete_ #[139, 3] ty #[.map (some b), .int .i64 z]).run Try.prog w = .ok (.tuple #[]) w' ∧ MapI w' b (put f z none) (if (f z).isSome then n - 1 else n) ∧ w.grownBy w' (some b) := by
  obtain ⟨D, h1, h2, h3⟩ := h
  obtain ⟨w', hr, h4, h5⟩ := h1.drop keyed3 Try.underlying139 (key3 hz) ty
  have hs : Maps.size (D.del (.int .i64 z)) = if (f z).isSome then n - 1 else n := by
    have := Maps.size_del (k := .int .i64 z) (h1.tidy keyed3)
    rw [(h3 z).2, h2] at this
    split at this <;> simp_all <;> omega
  refine ⟨w', hr, ⟨_, ?_, hs, fun x => ?_⟩, h5.grown⟩
  · obtain ⟨es, clock, hb, F, hle, hD⟩ := h4
    refine ⟨es, clock, hb, F, ?_, hD⟩
    have e1 : Maps.size (D.del (.int .i64 z)) = es.size := by rw [hD]; simp [Maps.size, length_sorted]
    rw [← e1, hs]
    exact Nat.le_refl _
  · by_cases hx : x = z
    · subst hx
      rw [Maps.atKey_del_same, Maps.has_del_same]
      simp [put]
    · have hne : (Lit.int .i64 x) ≠ Lit.int .i64 z := fun e => hx (by cases e; rfl)
      rw [Maps.atKey_del_other hne, Maps.has_del_other hne]
      simp [put, hx, h3]
end Go.Proofs.Ytfipdldoklkciaa
