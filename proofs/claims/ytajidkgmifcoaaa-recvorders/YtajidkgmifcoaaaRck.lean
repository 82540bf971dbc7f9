/-
  A map of whole numbers to loads; what holds of it behind each operation.
-/
import Derived.Test.YtajidkgmifcoaaaRch
import Derived.Maps.OwnSet
import Derived.Maps.OwnOps
namespace Go.Proofs.Ytajidkgmifcoaaa
open Go.RowKit
set_option linter.unusedVariables false
/-- How an element reads: as itself. -/
def hel (v : Value) : Option (DataW Value × List MemPlace) := some (.held v, [])
/-- The element that is not there. -/
def zE : Value := .slice none 0 0
theorem zero_pu (w : World) : (zeroValue 33).run Try.prog w = .ok zE w := by kernel_rfl

/-- BLOCK b IS A MAP OF n NUMBERS, AND HOLDS AT EACH WHAT f SAYS. -/
def MapI (w : World) (b : Nat) (f : Int → Option Value) (n : Nat) : Prop :=
  ∃ D : DataW Value, w.ownsMap Try.prog 3 hel b n D ∧ Maps.size D = n ∧ ∀ z : Int, D.atKey (.int .i64 z) (.held zE) = .held ((f z).getD zE) ∧ Maps.has D (.int .i64 z) = (f z).isSome
def put (f : Int → Option Value) (z : Int) (v : Option Value) : Int → Option Value := fun x => if x = z then v else f x

theorem keyed3 : Maps.Keyed Try.prog 3 := Maps.int_keyed Try.underlying3
theorem key3 {z : Int} (h : -9223372036854775808 ≤ z ∧ z < 9223372036854775808) : keyOf Try.prog 3 (.int .i64 z) = some (.int .i64 z) :=
  Maps.keyOf_int_mk Try.underlying3 (by
    simp [Lit.wf, show IntKind.i64.min = -9223372036854775808 from by decide, show IntKind.i64.max = 9223372036854775807 from by decide]
    omega)

theorem MapI.lt {w : World} {b n : Nat} {f : Int → Option Value} (h : MapI w b f n) : b < w.heap.size := by
  obtain ⟨D, h1, _⟩ := h
  exact h1.lt
theorem MapI.drew {w : World} {b n : Nat} {f : Int → Option Value} (h : MapI w b f n) : MapI w.drew b f n := h
theorem MapI.kept {w w' : World} {b n : Nat} {f : Int → Option Value} (h : MapI w b f n) (hb : Below w.heap.size w w') : MapI w' b f n := by
  obtain ⟨D, ⟨es, clock, h1, h2⟩, h3⟩ := h
  exact ⟨D, ⟨es, clock, by rw [hb.block b (Array.getElem?_eq_some_iff.1 h1).1]; exact h1, h2⟩, h3⟩
theorem MapI.set {w : World} {b n g : Nat} {f : Int → Option Value} (h : MapI w b f n) (hg : b ≠ g) (j : Nat) (v : Value) : MapI (w.setCell ⟨g, j, none⟩ v) b f n := by
  obtain ⟨D, h1, h3⟩ := h
  exact ⟨D, h1.setCell (a := ⟨g, j, none⟩) hg v, h3⟩
theorem MapI.k2 {w w' : World} {b n g : Nat} {f : Int → Option Value} (h : MapI w b f n) (k : K2 g g w w') (hg : b ≠ g) : MapI w' b f n := by
  obtain ⟨D, ⟨es, clock, h1, h2⟩, h3⟩ := h
  exact ⟨D, ⟨es, clock, by rw [k.block b (Array.getElem?_eq_some_iff.1 h1).1 hg hg]; exact h1, h2⟩, h3⟩
theorem mapI_new (w : World) : MapI (w.alloc (.map #[] 0)) w.heap.size (fun _ => none) 0 :=
  ⟨.map [], World.ownsMap_made w Try.prog 3 hel, rfl, fun z => ⟨rfl, rfl⟩⟩

theorem MapI.look {w : World} {b n : Nat} {f : Int → Option Value} (h : MapI w b f n) {z : Int} (hz : -9223372036854775808 ≤ z ∧ z < 9223372036854775808) :
    (Instr.lookup 46 (.map (some b)) (.int .i64 z) false).run Try.prog w = .ok ((f z).getD zE) w := by
  obtain ⟨D, h1, h2, h3⟩ := h
  obtain ⟨v, ps, hr, hv⟩ := h1.lookup keyed3 Try.underlying46 (zero_pu w) (zd := .held zE) (zp := []) rfl (key3 hz)
  rw [(h3 z).1] at hv
  simp [hel] at hv
  rw [hr, hv.1]
theorem MapI.look2 {w : World} {b n : Nat} {f : Int → Option Value} (h : MapI w b f n) {z : Int} (hz : -9223372036854775808 ≤ z ∧ z < 9223372036854775808) :
    (Instr.lookup 46 (.map (some b)) (.int .i64 z) true).run Try.prog w = .ok (.tuple #[(f z).getD zE, .bool (f z).isSome]) w := by
  obtain ⟨D, h1, h2, h3⟩ := h
  obtain ⟨v, ps, hr, hv⟩ := h1.look_ok keyed3 Try.underlying46 (zero_pu w) (zd := .held zE) (zp := []) rfl (key3 hz)
  rw [(h3 z).1] at hv
  simp [hel] at hv
  rw [hr, hv.1, (h3 z).2]
theorem MapI.len {w : World} {b n : Nat} {f : Int → Option Value} (h : MapI w b f n) (ty : TypeId) : (Builtin.len_ #[46] ty #[.map (some b)]).run Try.prog w = .ok (.int .i64 (n : Nat)) w := by
  obtain ⟨D, h1, h2, h3⟩ := h
  rw [h1.len Try.underlying46 ty, h2]
theorem MapI.store {w : World} {b n : Nat} {f : Int → Option Value} (h : MapI w b f n) (hn : n < 9223372036854775807) {z : Int} (hz : -9223372036854775808 ≤ z ∧ z < 9223372036854775808) (v : Value) :
    ∃ w', (Instr.mapUpdate 46 (.map (some b)) (.int .i64 z) v).run Try.prog w = .ok () w' ∧ MapI w' b (put f z (some v)) (if (f z).isSome then n else n + 1) ∧ w.grownBy w' (some b) := by
  obtain ⟨D, h1, h2, h3⟩ := h
  obtain ⟨w', hr, h4, h5⟩ := h1.store keyed3 Try.underlying46 (by unfold maxLen; omega) (key3 hz) (val := v) (d := .held v) (ps := []) rfl
  have hs : Maps.size (D.put (.int .i64 z) (.held v)) = if (f z).isSome then n else n + 1 := by
    rw [Maps.size_put (h1.tidy keyed3), (h3 z).2, h2]
  refine ⟨w', hr, ⟨_, ?_, hs, fun x => ?_⟩, h5.grown⟩
  · obtain ⟨es, clock, hb, F, hle, hD⟩ := h4
    refine ⟨es, clock, hb, F, ?_, hD⟩
    have e1 : Maps.size (D.put (.int .i64 z) (.held v)) = es.size := by rw [hD]; simp [Maps.size, length_sorted]
    rw [← e1, hs]
    exact Nat.le_refl _
  · by_cases hx : x = z
    · subst hx
      have hk : WideAt.IsKeyLit (.int .i64 x) := trivial
      rw [Maps.atKey_put_same h1.isMap hk, Maps.has_put_same h1.isMap hk]
      simp [put]
    · have hne : (Lit.int .i64 x) ≠ Lit.int .i64 z := fun e => hx (by cases e; rfl)
      rw [Maps.atKey_put_other hne, Maps.has_put_other hne]
      simp [put, hx, h3]
end Go.Proofs.Ytajidkgmifcoaaa
