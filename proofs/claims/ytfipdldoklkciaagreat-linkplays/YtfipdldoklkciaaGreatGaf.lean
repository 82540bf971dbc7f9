/-
  Texts Sda, Sdb, Sdc, Sdd, Sde, Sdf, Sdg, Sdi.
-/
import Derived.Test.YtfipdldoklkciaaGreatGaa
import Derived.Maps.OwnSet
import Derived.Maps.OwnOps
import Derived.Deep.QuietTactic
import Derived.Lib.MinMax
import Derived.Deep.RegionHeld3
import Derived.BigQuiet
namespace Go.Proofs.YtfipdldoklkciaaGreat
open Go.RowKit
set_option linter.unusedVariables false

/-- A block's cells. -/
def Blk (w : World) (g : Nat) (cs : Array Value) (T : TypeId) : Prop := w.heap[g]? = some (.cells cs T (0, 0))
theorem Blk.lt {w : World} {g : Nat} {cs : Array Value} {T : TypeId} (h : Blk w g cs T) : g < w.heap.size := (Array.getElem?_eq_some_iff.1 h).1
theorem Blk.cell {w : World} {g : Nat} {cs : Array Value} {T : TypeId} (h : Blk w g cs T) (j : Nat) : w.cell? ⟨g, j, none⟩ = cs[j]? := cell_row h j
theorem Blk.fz {w : World} {g : Nat} {cs : Array Value} {T : TypeId} (h : Blk w g cs T) (j : Nat) : w.frozen? ⟨g, j, none⟩ = false := by
  unfold Blk at h
  simp [World.frozen?, h]
theorem Blk.set {w : World} {g : Nat} {cs : Array Value} {T : TypeId} (h : Blk w g cs T) (j : Nat) (v : Value) : Blk (w.setCell ⟨g, j, none⟩ v) g (cs.setIfInBounds j v) T := heap_setCell_same w g j cs T v h
theorem Blk.kept {w w' : World} {g : Nat} {cs : Array Value} {T : TypeId} (h : Blk w g cs T) (hb : Below w.heap.size w w') : Blk w' g cs T := by
  unfold Blk
  rw [hb.block g h.lt]
  exact h
theorem Blk.but {w w' : World} {g r : Nat} {cs : Array Value} {T : TypeId} (h : Blk w g cs T) (hg : w.grownBy w' (some r)) (hr : g ≠ r) : Blk w' g cs T := by
  unfold Blk
  rw [hg.block g h.lt (fun e => hr (Option.some.inj e))]
  exact h
theorem blk_new (w : World) (cs : Array Value) (T : TypeId) : Blk (w.alloc (.cells cs T)) w.heap.size cs T := heap_alloc_new w _

/-- NOTHING BUT TWO BLOCKS HAS TURNED. -/
structure K2 (q g : Nat) (w w' : World) : Prop where
  os : w'.os = w.os
  tape : w'.tape = w.tape
  output : w'.output = w.output
  size : w.heap.size ≤ w'.heap.size
  block : ∀ k, k < w.heap.size → k ≠ q → k ≠ g → w'.heap[k]? = w.heap[k]?
theorem K2.refl (q g : Nat) (w : World) : K2 q g w w := ⟨rfl, rfl, rfl, Nat.le_refl _, fun _ _ _ _ => rfl⟩
theorem K2.drew {q g : Nat} {w w' : World} (h : K2 q g w w') : K2 q g w w'.drew := ⟨h.os, h.tape, h.output, h.size, h.block⟩
theorem K2.trans {q g : Nat} {a b c : World} (h : K2 q g a b) (k : K2 q g b c) : K2 q g a c :=
  ⟨k.os.trans h.os, k.tape.trans h.tape, k.output.trans h.output, Nat.le_trans h.size k.size, fun i hi h1 h2 => (k.block i (Nat.lt_of_lt_of_le hi h.size) h1 h2).trans (h.block i hi h1 h2)⟩
theorem K2.of_g {q g : Nat} {w w' : World} (h : w.grownBy w' (some g)) : K2 q g w w' := ⟨h.os, h.tape, h.output, h.size, fun k hk _ hg => h.block k hk (fun e => hg (Option.some.inj e))⟩
theorem K2.of_q {q g : Nat} {w w' : World} (h : w.grownBy w' (some q)) : K2 q g w w' := ⟨h.os, h.tape, h.output, h.size, fun k hk hq _ => h.block k hk (fun e => hq (Option.some.inj e))⟩
theorem K2.of_below {q g : Nat} {w w' : World} (h : Below w.heap.size w w') : K2 q g w w' := ⟨h.os, h.tape, h.output, h.size, fun k hk _ _ => h.block k hk⟩
theorem K2.set {q g : Nat} (w : World) (j : Nat) (v : Value) : K2 q g w (w.setCell ⟨q, j, none⟩ v) := ⟨rfl, rfl, rfl, by simp [World.setCell], fun k hk h1 _ => Below.heap_setCell _ _ _ _ (by simpa using h1)⟩
theorem K2.below {q g B : Nat} {a w w' : World} (k : K2 q g w w') (h : Below B a w) (hB : B ≤ w.heap.size) (hq : B ≤ q) (hg : B ≤ g) : Below B a w' :=
  ⟨k.os.trans h.os, k.tape.trans h.tape, k.output.trans h.output, Nat.le_trans h.size k.size, fun i hi => (k.block i (by omega) (by omega) (by omega)).trans (h.block i hi)⟩
theorem Bytes.k2 {q g : Nat} {w w' : World} {a : Option Addr} {zs : List Int} (hb : Bytes w a zs) (k : K2 q g w w') (hq : ∀ x, a = some x → x.block ≠ q ∧ x.block ≠ g) : Bytes w' a zs := by
  refine ⟨hb.1, hb.2.1, ?_⟩
  by_cases h0 : zs = []
  · exact .inl h0
  rcases hb.2.2 with h | ⟨b, off, rfl, hc⟩
  · exact .inl h
  · refine .inr ⟨b, off, rfl, fun i hi => ?_⟩
    have hlt := hb.lt h0
    rw [← hc i hi]
    exact World.cell?_of_block (k.block b hlt (hq _ rfl).1 (hq _ rfl).2)

/-- How an element reads: as itself. -/
def hel (v : Value) : Option (DataW Value × List MemPlace) := some (.held v, [])
/-- The element that is not there. -/
def zE : Value := .agg #[.slice none 0 0, .int .i64 0, .int .i64 0, .bool false]
theorem zero_pu (w : World) : (zeroValue 98).run Tryz.prog w = .ok zE w := by kernel_rfl

/-- BLOCK b IS A MAP OF n NUMBERS, AND HOLDS AT EACH WHAT f SAYS. -/
def MapI (w : World) (b : Nat) (f : Int → Option Value) (n : Nat) : Prop :=
  ∃ D : DataW Value, w.ownsMap Tryz.prog 3 hel b n D ∧ Maps.size D = n ∧ ∀ z : Int, D.atKey (.int .i64 z) (.held zE) = .held ((f z).getD zE) ∧ Maps.has D (.int .i64 z) = (f z).isSome
def put (f : Int → Option Value) (z : Int) (v : Option Value) : Int → Option Value := fun x => if x = z then v else f x

theorem keyed3 : Maps.Keyed Tryz.prog 3 := Maps.int_keyed Tryz.underlying3
theorem key3 {z : Int} (h : -9223372036854775808 ≤ z ∧ z < 9223372036854775808) : keyOf Tryz.prog 3 (.int .i64 z) = some (.int .i64 z) :=
  Maps.keyOf_int_mk Tryz.underlying3 (by
    simp [Lit.wf, show IntKind.i64.min = -9223372036854775808 from by decide, show IntKind.i64.max = 9223372036854775807 from by decide]
    omega)

theorem MapI.lt {w : World} {b n : Nat} {f : Int → Option Value} (h : MapI w b f n) : b < w.heap.size := by
  obtain ⟨D, h1, _⟩ := h
  exact h1.lt
theorem MapI.drew {w : World} {b n : Nat} {f : Int → Option Value} (h : MapI w b f n) : MapI w.drew b f n := h
theorem MapI.kept {w w' : World} {b n : Nat} {f : Int → Option Value} (h : MapI w b f n) (hb : Below w.heap.size w w') : MapI w' b f n := by
  obtain ⟨D, ⟨es, clock, h1, h2⟩, h3⟩ := h
  exact ⟨D, ⟨es, clock, by rw [hb.block b (Array.getElem?_eq_some_iff.1 h1).1]; exact h1, h2⟩, h3⟩
theorem MapI.set {w : World} {b n g : Nat} {f : Int → Option Value} (h : MapI w b f n) (hg : b ≠ g) (j : Nat) (v : Value) : MapI (w.setCell ⟨g, j, none⟩ v) b f n := by
  obtain ⟨D, h1, h3⟩ := h
  exact ⟨D, h1.setCell (a := ⟨g, j, none⟩) hg v, h3⟩
theorem mapI_new (w : World) : MapI (w.alloc (.map #[] 0)) w.heap.size (fun _ => none) 0 :=
  ⟨.map [], World.ownsMap_made w Tryz.prog 3 hel, rfl, fun z => ⟨rfl, rfl⟩⟩

theorem MapI.look {w : World} {b n : Nat} {f : Int → Option Value} (h : MapI w b f n) {z : Int} (hz : -9223372036854775808 ≤ z ∧ z < 9223372036854775808) :
    (Instr.lookup 92 (.map (some b)) (.int .i64 z) false).run Tryz.prog w = .ok ((f z).getD zE) w := by
  obtain ⟨D, h1, h2, h3⟩ := h
  obtain ⟨v, ps, hr, hv⟩ := h1.lookup keyed3 Tryz.underlying92 (zero_pu w) (zd := .held zE) (zp := []) rfl (key3 hz)
  rw [(h3 z).1] at hv
  simp [hel] at hv
  rw [hr, hv.1]
theorem MapI.look2 {w : World} {b n : Nat} {f : Int → Option Value} (h : MapI w b f n) {z : Int} (hz : -9223372036854775808 ≤ z ∧ z < 9223372036854775808) :
    (Instr.lookup 92 (.map (some b)) (.int .i64 z) true).run Tryz.prog w = .ok (.tuple #[(f z).getD zE, .bool (f z).isSome]) w := by
  obtain ⟨D, h1, h2, h3⟩ := h
  obtain ⟨v, ps, hr, hv⟩ := h1.look_ok keyed3 Tryz.underlying92 (zero_pu w) (zd := .held zE) (zp := []) rfl (key3 hz)
  rw [(h3 z).1] at hv
  simp [hel] at hv
  rw [hr, hv.1, (h3 z).2]
theorem MapI.len {w : World} {b n : Nat} {f : Int → Option Value} (h : MapI w b f n) (ty : TypeId) : (Builtin.len_ #[92] ty #[.map (some b)]).run Tryz.prog w = .ok (.int .i64 (n : Nat)) w := by
  obtain ⟨D, h1, h2, h3⟩ := h
  rw [h1.len Tryz.underlying92 ty, h2]
theorem MapI.store {w : World} {b n : Nat} {f : Int → Option Value} (h : MapI w b f n) (hn : n < 1000) {z : Int} (hz : -9223372036854775808 ≤ z ∧ z < 9223372036854775808) (v : Value) :
    ∃ w', (Instr.mapUpdate 92 (.map (some b)) (.int .i64 z) v).run Tryz.prog w = .ok () w' ∧ MapI w' b (put f z (some v)) (if (f z).isSome then n else n + 1) ∧ w.grownBy w' (some b) := by
  obtain ⟨D, h1, h2, h3⟩ := h
  obtain ⟨w', hr, h4, h5⟩ := h1.store keyed3 Tryz.underlying92 (by unfold maxLen; omega) (key3 hz) (val := v) (d := .held v) (ps := []) rfl
  have hs : Maps.size (D.put (.int .i64 z) (.held v)) = if (f z).isSome then n else n + 1 := by
    rw [Maps.size_put (h1.tidy keyed3), (h3 z).2, h2]
  refine ⟨w', hr, ⟨_, ?_, hs, fun x => ?_⟩, h5.grown⟩
  · obtain ⟨es, clock, hb, F, hle, hD⟩ := h4
    refine ⟨es, clock, hb, F, ?_, hD⟩
    have e1 : Maps.size (D.put (.int .i64 z) (.held v)) = es.size := by rw [hD]; simp [Maps.size, length_sorted]
    rw [← e1, hs]
    exact Nat.le_refl _
  · by_cases hx : x = z
    · subst hx
      have hk : WideAt.IsKeyLit (.int .i64 x) := trivial
      rw [Maps.atKey_put_same h1.isMap hk, Maps.has_put_same h1.isMap hk]
      simp [put]
    · have hne : (Lit.int .i64 x) ≠ Lit.int .i64 z := fun e => hx (by cases e; rfl)
      rw [Maps.atKey_put_other hne, Maps.has_put_other hne]
      simp [put, hx, h3]
theorem MapI.drop {w : World} {b n : Nat} {f : Int → Option Value} (h : MapI w b f n) {z : Int} (hz : -9223372036854775808 ≤ z ∧ z < 9223372036854775808) (ty : TypeId) :
    ∃ w', (Builtin.delete_ #[92, 3] ty #[.map (some b), .int .i64 z]).run Tryz.prog w = .ok (.tuple #[]) w' ∧ MapI w' b (put f z none) (if (f z).isSome then n - 1 else n) ∧ w.grownBy w' (some b) := by
  obtain ⟨D, h1, h2, h3⟩ := h
  obtain ⟨w', hr, h4, h5⟩ := h1.drop keyed3 Tryz.underlying92 (key3 hz) ty
  have hs : Maps.size (D.del (.int .i64 z)) = if (f z).isSome then n - 1 else n := by
    have := Maps.size_del (k := .int .i64 z) (h1.tidy keyed3)
    rw [(h3 z).2, h2] at this
    split at this <;> simp_all <;> omega
  refine ⟨w', hr, ⟨_, ?_, hs, fun x => ?_⟩, h5.grown⟩
  · obtain ⟨es, clock, hb, F, hle, hD⟩ := h4
    refine ⟨es, clock, hb, F, ?_, hD⟩
    have e1 : Maps.size (D.del (.int .i64 z)) = es.size := by rw [hD]; simp [Maps.size, length_sorted]
    rw [← e1, hs]
    exact Nat.le_refl _
  · by_cases hx : x = z
    · subst hx
      rw [Maps.atKey_del_same, Maps.has_del_same]
      simp [put]
    · have hne : (Lit.int .i64 x) ≠ Lit.int .i64 z := fun e => hx (by cases e; rfl)
      rw [Maps.atKey_del_other hne, Maps.has_del_other hne]
      simp [put, hx, h3]
end Go.Proofs.YtfipdldoklkciaaGreat
namespace Go.Proofs.YtfipdldoklkciaaGreat
open Go.RowKit
set_option linter.unusedVariables false

/-- A load that is not done: its slice, its bytes, its time and wait. -/
structure Ent where
  a : Option Addr
  n : Nat
  c : Nat
  zs : List Int
  time : Int
  wait : Int
  there : Bool
def Ent.val (e : Ent) : Value := .agg #[.slice e.a e.n e.c, .int .i64 e.time, .int .i64 e.wait, .bool e.there]
/-- A sender as plain data. -/
structure St where
  win : Int
  lim : Int
  base : Int
  nxt : Int
  L : Int → Option Ent
def St.f (s : St) : Int → Option Value := fun z => (s.L z).map Ent.val
/-- WHAT ALWAYS HOLDS OF IT. -/
structure Ok (s : St) : Prop where
  w1 : 1 ≤ s.win
  w2 : s.win ≤ 32
  b1 : 1 ≤ s.base
  b2 : s.base ≤ s.nxt
  few : s.nxt - s.base ≤ s.win
  l1 : s.nxt - 1 ≤ s.lim
  l2 : s.lim ≤ 4611686018427387904
  inn : ∀ z, (s.L z).isSome = true ↔ s.base ≤ z ∧ z < s.nxt
  ent : ∀ z e, s.L z = some e → e.zs.length = e.n ∧ e.n ≤ 1200 ∧ 0 ≤ e.time ∧ e.time ≤ 1099511627840 ∧ 1 ≤ e.wait ∧ e.wait ≤ 64
/-- A load's slice, apart from two blocks. -/
structure Ld (w : World) (B sb mb : Nat) (e : Ent) : Prop where
  by_ : Bytes w e.a e.zs
  nil : e.a = none → e.c = 0
  le : e.n ≤ e.c
  mx : e.c ≤ 9223372036854775807
  at_ : ∀ x, e.a = some x → B ≤ x.block ∧ x.block < w.heap.size ∧ x.block ≠ sb ∧ x.block ≠ mb
  ty : ∀ x, e.a = some x → ∃ cs, Blk w x.block cs 5
/-- A SENDER IN MEMORY: its block sb, its map mb, the loads in blocks of their own, all from B on. -/
structure Sd (w : World) (B sb mb : Nat) (s : St) : Prop where
  ok : Ok s
  hs : B ≤ sb
  hm : B ≤ mb
  blk : Blk w sb #[.bool true, .int .i64 s.win, .int .i64 s.lim, .int .i64 s.base, .int .i64 s.nxt, .map (some mb)] 94
  mp : MapI w mb s.f (s.nxt - s.base).toNat
  ld : ∀ z e, s.L z = some e → Ld w B sb mb e
theorem Ld.kept {w w' : World} {B sb mb : Nat} {e : Ent} (h : Ld w B sb mb e) (hb : Below w.heap.size w w') : Ld w' B sb mb e :=
  ⟨h.by_.kept hb, h.nil, h.le, h.mx, fun x hx => ⟨(h.at_ x hx).1, Nat.lt_of_lt_of_le (h.at_ x hx).2.1 hb.size, (h.at_ x hx).2.2⟩, fun x hx => (h.ty x hx).imp fun cs hc => hc.kept hb⟩
theorem Ld.k2 {w w' : World} {B sb mb : Nat} {e : Ent} (h : Ld w B sb mb e) (k : K2 sb mb w w') : Ld w' B sb mb e :=
  ⟨h.by_.k2 k (fun x hx => (h.at_ x hx).2.2), h.nil, h.le, h.mx, fun x hx => ⟨(h.at_ x hx).1, Nat.lt_of_lt_of_le (h.at_ x hx).2.1 k.size, (h.at_ x hx).2.2⟩, fun x hx => (h.ty x hx).imp fun cs hc => (k.block x.block (h.at_ x hx).2.1 (h.at_ x hx).2.2.1 (h.at_ x hx).2.2.2).trans hc⟩
theorem Sd.kept {w w' : World} {B sb mb : Nat} {s : St} (h : Sd w B sb mb s) (hb : Below w.heap.size w w') : Sd w' B sb mb s :=
  ⟨h.ok, h.hs, h.hm, h.blk.kept hb, h.mp.kept hb, fun z e he => (h.ld z e he).kept hb⟩
theorem Sd.drew {w : World} {B sb mb : Nat} {s : St} (h : Sd w B sb mb s) : Sd w.drew B sb mb s := h.kept (Below.refl _ _).drew
theorem Sd.alloc {w : World} {B sb mb : Nat} {s : St} (h : Sd w B sb mb s) (o : Obj) : Sd (w.alloc o) B sb mb s := h.kept ((Below.refl _ _).alloc (Nat.le_refl _) o)
theorem Sd.ne {w : World} {B sb mb : Nat} {s : St} (h : Sd w B sb mb s) : mb ≠ sb := by
  intro e
  obtain ⟨D, ⟨es, clock, h1, _⟩, _⟩ := h.mp
  have h2 := h.blk
  unfold Blk at h2
  rw [← e, h1] at h2
  cases h2
theorem Sd.c0 {w : World} {B sb mb : Nat} {s : St} (h : Sd w B sb mb s) : w.cell? ⟨sb, 0, none⟩ = some (.bool true) := h.blk.cell 0
theorem Sd.c1 {w : World} {B sb mb : Nat} {s : St} (h : Sd w B sb mb s) : w.cell? ⟨sb, 1, none⟩ = some (.int .i64 s.win) := h.blk.cell 1
theorem Sd.c2 {w : World} {B sb mb : Nat} {s : St} (h : Sd w B sb mb s) : w.cell? ⟨sb, 2, none⟩ = some (.int .i64 s.lim) := h.blk.cell 2
theorem Sd.c3 {w : World} {B sb mb : Nat} {s : St} (h : Sd w B sb mb s) : w.cell? ⟨sb, 3, none⟩ = some (.int .i64 s.base) := h.blk.cell 3
theorem Sd.c4 {w : World} {B sb mb : Nat} {s : St} (h : Sd w B sb mb s) : w.cell? ⟨sb, 4, none⟩ = some (.int .i64 s.nxt) := h.blk.cell 4
theorem Sd.c5 {w : World} {B sb mb : Nat} {s : St} (h : Sd w B sb mb s) : w.cell? ⟨sb, 5, none⟩ = some (.map (some mb)) := h.blk.cell 5

/-! ### the small calls -/
theorem made_yes (sb : Nat) (w : World) (h : w.cell? ⟨sb, 0, none⟩ = some (.bool true)) : Calls Tryz.prog 46 #[.pointer (some ⟨sb, 0, none⟩)] w fun e w' => e = .returned (.bool true) ∧ w' = w := by
  go_enter Tryz.func46, Tryz.ntmps46
  go_wp2
  go_ret
  all_goals simp_all
theorem made_nil (w : World) : Calls Tryz.prog 46 #[.pointer none] w fun e w' => e = .returned (.bool false) ∧ w' = w := by
  go_enter Tryz.func46, Tryz.ntmps46
  go_wp2
  go_ret
  all_goals simp_all
theorem made_no (sb : Nat) (w : World) (h : w.cell? ⟨sb, 0, none⟩ = some (.bool false)) : Calls Tryz.prog 46 #[.pointer (some ⟨sb, 0, none⟩)] w fun e w' => e = .returned (.bool false) ∧ w' = w := by
  go_enter Tryz.func46, Tryz.ntmps46
  go_wp2
  go_ret
  all_goals simp_all
def timeB (now : Int) : Bool := decide (0 ≤ now) && decide (now ≤ 1099511627776)
theorem time_any (now : Int) (w : World) : Calls Tryz.prog 81 #[.int .i64 now] w fun e w' => e = .returned (.bool (timeB now)) ∧ w' = w := by
  by_cases h0 : 0 ≤ now
  · have d0 : decide (now ≥ 0) = true := by simp; omega
    by_cases h1 : now ≤ 1099511627776
    · have d1 : decide (now ≤ 1099511627776) = true := by simp; omega
      have e : timeB now = true := by simp [timeB]; omega
      rw [e]
      clear h0 h1 e
      go_enter Tryz.func81, Tryz.ntmps81
      go_wp2
      go_ret
      all_goals simp_all
    · have d1 : decide (now ≤ 1099511627776) = false := by simp; omega
      have e : timeB now = false := by simp [timeB]; omega
      rw [e]
      clear h0 h1 e
      go_enter Tryz.func81, Tryz.ntmps81
      go_wp2
      go_ret
      all_goals simp_all
  · have d0 : decide (now ≥ 0) = false := by simp; omega
    have e : timeB now = false := by simp [timeB]; omega
    rw [e]
    clear h0 e
    go_enter Tryz.func81, Tryz.ntmps81
    go_wp2
    go_ret
    all_goals simp_all
theorem copy_any (a : Option Addr) (n c : Nat) (zs : List Int) (w : World) (hn : zs.length = n) (h0 : a = none → c = 0) (hb : Bytes w a zs) (hl : n ≤ 1200) :
    Calls Tryz.prog 83 #[.slice a n c] w fun e w' => ∃ v, e = .returned v ∧ OwnsB w' w.heap.size v zs ∧ Below w.heap.size w w' := by
  go_enter Tryz.func83, Tryz.ntmps83
  go_wp2_with (first | (at_builtin; refine wpList_append_bytes rfl _ _ rfl w.heap.size (.slice none 0 0) [] zs rfl (ownsB_nil _ _) _ _ _ rfl hn h0 hb (by simp; omega) (Nat.le_refl _) ?_; intro v' w' h1 h2))
  go_ret
  refine ⟨_, rfl, h1, (Below.refl _ _).grown h2 (Nat.le_refl _) (by simp [Value.ownBlock])⟩
end Go.Proofs.YtfipdldoklkciaaGreat
namespace Go.Proofs.YtfipdldoklkciaaGreat
open Go.RowKit
set_option linter.unusedVariables false
theorem last_any {B sb mb : Nat} {s : St} {w : World} (h : Sd w B sb mb s) : Calls Tryz.prog 77 #[.pointer (some ⟨sb, 0, none⟩)] w fun e w' => e = .returned (.int .i64 (s.nxt - 1)) ∧ w' = w := by
  have c4 := h.c4
  have hw : IntKind.i64.wrap (s.nxt - 1) = s.nxt - 1 := by
    have := h.ok.b1; have := h.ok.b2; have := h.ok.l1; have := h.ok.l2
    rw [IntKind.wrap_i64]; omega
  clear h
  go_enter Tryz.func77, Tryz.ntmps77
  go_wp2
  go_ret
  all_goals simp_all
def mayB (s : St) (ack credit : Int) : Bool := decide (0 ≤ ack) && decide (ack ≤ s.nxt - 1) && decide (0 ≤ credit) && decide (credit ≤ 4611686018427387904)
theorem may_any {B sb mb : Nat} {s : St} {w : World} (ack credit : Int) (h : Sd w B sb mb s) : Calls Tryz.prog 47 #[.pointer (some ⟨sb, 0, none⟩), .int .i64 ack, .int .i64 credit] w fun e w' => e = .returned (.bool (mayB s ack credit)) ∧ w' = w := by
  have k1 := last_any h
  clear h
  by_cases h0 : 0 ≤ ack
  · have d0 : decide (ack ≥ 0) = true := by simp; omega
    by_cases h1 : ack ≤ s.nxt - 1
    · have d1 : decide (ack ≤ s.nxt - 1) = true := by simp; omega
      by_cases h2 : 0 ≤ credit
      · have d2 : decide (credit ≥ 0) = true := by simp; omega
        by_cases h3 : credit ≤ 4611686018427387904
        · have d3 : decide (credit ≤ 4611686018427387904) = true := by simp; omega
          have e : mayB s ack credit = true := by simp [mayB]; omega
          rw [e]
          clear h0 h1 h2 h3 e
          go_enter Tryz.func47, Tryz.ntmps47
          go_wp2_with (go_at_call 77; refine k1.mono ?_; rintro e w1 ⟨rfl, hw1⟩; obtain rfl := hw1.symm)
          go_ret
          all_goals simp_all
        · have d3 : decide (credit ≤ 4611686018427387904) = false := by simp; omega
          have e : mayB s ack credit = false := by simp [mayB]; omega
          rw [e]
          clear h0 h1 h2 h3 e
          go_enter Tryz.func47, Tryz.ntmps47
          go_wp2_with (go_at_call 77; refine k1.mono ?_; rintro e w1 ⟨rfl, hw1⟩; obtain rfl := hw1.symm)
          go_ret
          all_goals simp_all
      · have d2 : decide (credit ≥ 0) = false := by simp; omega
        have e : mayB s ack credit = false := by simp [mayB]; omega
        rw [e]
        clear h0 h1 h2 e
        go_enter Tryz.func47, Tryz.ntmps47
        go_wp2_with (go_at_call 77; refine k1.mono ?_; rintro e w1 ⟨rfl, hw1⟩; obtain rfl := hw1.symm)
        go_ret
        all_goals simp_all
    · have d1 : decide (ack ≤ s.nxt - 1) = false := by simp; omega
      have e : mayB s ack credit = false := by simp [mayB]; omega
      rw [e]
      clear h0 h1 e
      go_enter Tryz.func47, Tryz.ntmps47
      go_wp2_with (go_at_call 77; refine k1.mono ?_; rintro e w1 ⟨rfl, hw1⟩; obtain rfl := hw1.symm)
      go_ret
      all_goals simp_all
  · have d0 : decide (ack ≥ 0) = false := by simp; omega
    have e : mayB s ack credit = false := by simp [mayB]; omega
    rw [e]
    clear h0 e
    go_enter Tryz.func47, Tryz.ntmps47
    go_wp2_with (go_at_call 77; refine k1.mono ?_; rintro e w1 ⟨rfl, hw1⟩; obtain rfl := hw1.symm)
    go_ret
    all_goals simp_all
theorem next_any {B sb mb : Nat} {s : St} {w : World} (h : Sd w B sb mb s) : Calls Tryz.prog 43 #[.pointer (some ⟨sb, 0, none⟩)] w fun e w' => e = .returned (.int .i64 s.nxt) ∧ w' = w := by
  have k1 := made_yes sb w h.c0
  have c := h.c4
  clear h
  go_enter Tryz.func43, Tryz.ntmps43
  go_wp2_with (go_at_call 46; refine k1.mono ?_; rintro e w1 ⟨rfl, hw1⟩; obtain rfl := hw1.symm)
  go_ret
  all_goals simp_all
theorem next_nil (w : World) : Calls Tryz.prog 43 #[.pointer none] w fun e w' => e = .returned (.int .i64 0) ∧ w' = w := by
  have k1 := made_nil w
  go_enter Tryz.func43, Tryz.ntmps43
  go_wp2_with (go_at_call 46; refine k1.mono ?_; rintro e w1 ⟨rfl, hw1⟩; obtain rfl := hw1.symm)
  go_ret
  all_goals simp_all
theorem next_no (sb : Nat) (w : World) (h : w.cell? ⟨sb, 0, none⟩ = some (.bool false)) : Calls Tryz.prog 43 #[.pointer (some ⟨sb, 0, none⟩)] w fun e w' => e = .returned (.int .i64 0) ∧ w' = w := by
  have k1 := made_no sb w h
  go_enter Tryz.func43, Tryz.ntmps43
  go_wp2_with (go_at_call 46; refine k1.mono ?_; rintro e w1 ⟨rfl, hw1⟩; obtain rfl := hw1.symm)
  go_ret
  all_goals simp_all
theorem outF_any (a : Option Addr) (n c : Nat) (now : Int) (w : World) : Calls Tryz.prog 82 #[.int .i64 now, .slice a n c] w fun e w' => e = .returned (.agg #[.slice a n c, .int .i64 now, .int .i64 1, .bool false]) ∧ Below w.heap.size w w' := by
  go_enter Tryz.func82, Tryz.ntmps82
  go_wp2
  refine bodyPost_ret (v := .agg #[.slice a n c, .int .i64 now, .int .i64 1, .bool false]) (by simp [results, Tryz.results82, go_sem]) rfl ⟨rfl, ?_⟩
  repeat (refine Below.setCell ?_ (by first | exact Nat.le_refl _ | simp) _)
  exact (Below.refl w.heap.size w).alloc (Nat.le_refl _) _
end Go.Proofs.YtfipdldoklkciaaGreat
namespace Go.Proofs.YtfipdldoklkciaaGreat
open Go.RowKit
set_option linter.unusedVariables false
theorem new_yes (win : Int) (w : World) (h1 : 1 ≤ win) (h2 : win ≤ 32) :
    Calls Tryz.prog 17 #[.int .i64 win] w fun e w' => e = .returned (.tuple #[.pointer (some ⟨w.heap.size + 1, 0, none⟩), .int .i64 0]) ∧ Hid (Sd w' w.heap.size (w.heap.size + 1) w.heap.size ⟨win, 0, 1, 1, fun _ => none⟩) ∧ Hid (Below w.heap.size w w') := by
  have d0 : decide (win < 1) = false := by simp; omega
  have d1 : decide (win > 32) = false := by simp; omega
  have hO : Hid (Ok ⟨win, 0, 1, 1, fun _ => none⟩) := ⟨h1, h2, by simp, by simp, by show (1:Int) - 1 ≤ win; omega, by simp, by simp, (fun z => by constructor <;> intro h <;> simp at h ⊢ <;> omega), by simp⟩
  have hmk := run_makeMap (P := Tryz.prog) 92 w
  clear h1 h2
  go_enter Tryz.func17, Tryz.ntmps17
  go_wp2
  go_ret2
  refine ⟨rfl, ?_, ?_⟩
  · refine ⟨hO.out, by omega, by omega, ?_, ?_, by simp⟩
    · have e := blk_new (w.alloc (.map #[] 0)) #[.bool true, .int .i64 win, .int .i64 0, .int .i64 1, .int .i64 1, .map (some w.heap.size)] 94
      rw [show (w.alloc (.map #[] 0)).heap.size = w.heap.size + 1 by simp] at e
      exact e
    · exact (mapI_new w).kept ((Below.refl _ _).alloc (Nat.le_refl _) _)
  · exact ((Below.refl _ _).alloc (Nat.le_refl _) _).alloc (by simp) _
theorem new_no (win : Int) (w : World) (h : win < 1 ∨ 32 < win) :
    Calls Tryz.prog 17 #[.int .i64 win] w fun e w' => e = .returned (.tuple #[.pointer none, .int .i64 1]) ∧ w' = w := by
  by_cases h0 : win < 1
  · have d0 : decide (win < 1) = true := by simp; omega
    clear h h0
    go_enter Tryz.func17, Tryz.ntmps17
    go_wp2
    go_ret2
    all_goals simp_all
  · have d0 : decide (win < 1) = false := by simp; omega
    have d1 : decide (win > 32) = true := by simp; omega
    clear h h0
    go_enter Tryz.func17, Tryz.ntmps17
    go_wp2
    go_ret2
    all_goals simp_all

/-- A number in memory. -/
def cellI (w : World) (g j : Nat) : Int := match w.cell? ⟨g, j, none⟩ with | some (.int _ z) => z | _ => 0
theorem Sd.cell3 {w : World} {B sb mb : Nat} {s : St} (h : Sd w B sb mb s) : cellI w sb 3 = s.base := by unfold cellI; rw [h.c3]
/-- ALL UP TO k ARE DONE. -/
def finA (s : St) (k : Int) : St := { s with base := if s.base ≤ k then k + 1 else s.base, L := fun z => if z ≤ k then none else s.L z }
theorem fin_ok {s : St} {k : Int} (h : Ok s) (hk : k < s.nxt) : Ok (finA s k) := by
  obtain ⟨w1, w2, b1, b2, few, l1, l2, inn, ent⟩ := h
  unfold finA
  refine ⟨w1, w2, ?_, ?_, ?_, l1, l2, fun z => ?_, fun z e he => ?_⟩
  · show 1 ≤ if s.base ≤ k then k + 1 else s.base
    split <;> omega
  · show (if s.base ≤ k then k + 1 else s.base) ≤ s.nxt
    split <;> omega
  · show s.nxt - (if s.base ≤ k then k + 1 else s.base) ≤ s.win
    split <;> omega
  · show (if z ≤ k then none else s.L z).isSome = true ↔ (if s.base ≤ k then k + 1 else s.base) ≤ z ∧ z < s.nxt
    have := inn z
    by_cases hz : z ≤ k
    · rw [if_pos hz]; simp; split <;> omega
    · rw [if_neg hz, this]; split <;> omega
  · have he : (if z ≤ k then none else s.L z) = some e := he
    split at he
    · cases he
    · exact ent z e he
/-- One number is done. -/
def popA (s : St) : St := { s with base := s.base + 1, L := fun z => if z = s.base then none else s.L z }
theorem pop_ok {s : St} (h : Ok s) (hk : s.base < s.nxt) : Ok (popA s) := by
  obtain ⟨w1, w2, b1, b2, few, l1, l2, inn, ent⟩ := h
  unfold popA
  refine ⟨w1, w2, ?_, ?_, ?_, l1, l2, fun z => ?_, fun z e he => ?_⟩
  · show 1 ≤ s.base + 1
    omega
  · show s.base + 1 ≤ s.nxt
    omega
  · show s.nxt - (s.base + 1) ≤ s.win
    omega
  · show (if z = s.base then none else s.L z).isSome = true ↔ s.base + 1 ≤ z ∧ z < s.nxt
    have := inn z
    by_cases hz : z = s.base
    · rw [if_pos hz]; simp; omega
    · rw [if_neg hz, this]; omega
  · have he : (if z = s.base then none else s.L z) = some e := he
    split at he
    · cases he
    · exact ent z e he
theorem St.ext' {s t : St} (h1 : s.win = t.win) (h2 : s.lim = t.lim) (h3 : s.base = t.base) (h4 : s.nxt = t.nxt) (h5 : ∀ z, s.L z = t.L z) : s = t := by
  cases s; cases t
  simp at h1 h2 h3 h4
  subst h1 h2 h3 h4
  congr 1
  exact funext h5
theorem fin_pop {s : St} {k : Int} (h : Ok s) (hk : s.base ≤ k) : finA (popA s) k = finA s k := by
  refine St.ext' rfl rfl ?_ rfl fun z => ?_
  · show (if s.base + 1 ≤ k then k + 1 else s.base + 1) = if s.base ≤ k then k + 1 else s.base
    rw [if_pos hk]
    split <;> omega
  · show (if z ≤ k then none else if z = s.base then none else s.L z) = if z ≤ k then none else s.L z
    split
    · rfl
    · rw [if_neg (by omega)]
theorem fin_none {s : St} {k : Int} (h : Ok s) (hk : ¬ s.base ≤ k) : finA s k = s := by
  refine St.ext' rfl rfl ?_ rfl fun z => ?_
  · show (if s.base ≤ k then k + 1 else s.base) = s.base
    rw [if_neg hk]
  · show (if z ≤ k then none else s.L z) = s.L z
    split
    · have := h.inn z
      cases hL : s.L z with
      | none => rfl
      | some e => rw [hL] at this; simp at this; omega
    · rfl
/-- One number deleted, and the base raised: the sender behind it. -/
theorem sd_pop {w w1 : World} {B sb mb : Nat} {s : St} (h : Sd w B sb mb s) (hk : s.base < s.nxt) (m : MapI w1 mb (put s.f s.base none) (if (s.f s.base).isSome then (s.nxt - s.base).toNat - 1 else (s.nxt - s.base).toNat)) (g : w.grownBy w1 (some mb)) :
    Sd (w1.setCell ⟨sb, 3, none⟩ (.int .i64 (s.base + 1))) B sb mb (popA s) := by
  have hne := h.ne
  have hb1 : Blk w1 sb _ 94 := h.blk.but g (Ne.symm hne)
  refine ⟨pop_ok h.ok hk, h.hs, h.hm, hb1.set 3 _, ?_, fun z e he => ?_⟩
  · have hf : (popA s).f = put s.f s.base none := by
      funext z
      show (if z = s.base then none else s.L z).map Ent.val = if z = s.base then none else (s.L z).map Ent.val
      split <;> rfl
    have hsome : (s.f s.base).isSome = true := by
      have := (h.ok.inn s.base).2 ⟨by omega, hk⟩
      simpa [St.f] using this
    rw [hsome, if_pos rfl] at m
    rw [hf, show ((popA s).nxt - (popA s).base).toNat = (s.nxt - s.base).toNat - 1 by show (s.nxt - (s.base + 1)).toNat = _; omega]
    exact m.set hne 3 _
  · have he : (if z = s.base then none else s.L z) = some e := he
    split at he
    · cases he
    · exact (h.ld z e he).k2 ((K2.of_g g).trans (K2.set w1 3 _))
theorem finish_any {B sb mb : Nat} {s : St} {w : World} (k : Int) (h : Sd w B sb mb s) (hk : k < s.nxt) :
    Calls Tryz.prog 48 #[.pointer (some ⟨sb, 0, none⟩), .int .i64 k] w fun e w' => e = .returned (.tuple #[]) ∧ Hid (Sd w' B sb mb (finA s k)) ∧ Hid (K2 sb mb w w') := by
  have hS : Hid (Sd w B sb mb s) := h
  have hk' : Hid (k < s.nxt) := hk
  clear h hk
  go_enter Tryz.func48, Tryz.ntmps48
  go_wp2
  go_loopw [] (fun wr => ∃ s' : St, Hid (Sd wr B sb mb s') ∧ Hid (s'.nxt = s.nxt) ∧ Hid (finA s' k = finA s k) ∧ Hid (K2 sb mb w wr)) (fun wr => (k + 1 - cellI wr sb 3).toNat)
  case atStart => exact ⟨s, hS, rfl, rfl, K2.refl _ _ _⟩
  case round =>
    obtain ⟨s', hS', hn', hf', hK'⟩ := hrel
    have c3 := hS'.out.c3
    have c5 := hS'.out.c5
    have f3 := hS'.out.blk.fz 3
    by_cases hlt : s'.base ≤ k
    · have hd : decide (s'.base ≤ k) = true := by simp; omega
      have hsn : Hid (s'.base < s'.nxt) := by have := hn'.out; have := hk'.out; show _ < _; omega
      have hwr : IntKind.i64.wrap (s'.base + 1) = s'.base + 1 := by
        have := hS'.out.ok.b1; have := hS'.out.ok.b2; have := hS'.out.ok.l1; have := hS'.out.ok.l2
        rw [IntKind.wrap_i64]; omega
      have hrg : -9223372036854775808 ≤ s'.base ∧ s'.base < 9223372036854775808 := by
        have := hS'.out.ok.b1; have := hS'.out.ok.b2; have := hS'.out.ok.l1; have := hS'.out.ok.l2
        omega
      obtain ⟨w1, hr, hm, hg⟩ := hS'.out.mp.drew.drop hrg 0
      have hg0 : Hid (wr.grownBy w1 (some mb)) := ⟨hg.os, hg.tape, hg.output, hg.size, hg.block⟩
      have hm1 : Hid (MapI w1 mb (put s'.f s'.base none) (if (s'.f s'.base).isSome then (s'.nxt - s'.base).toNat - 1 else (s'.nxt - s'.base).toNat)) := hm
      have b1 := hS'.out.blk.but hg0.out (Ne.symm hS'.out.ne)
      have c31 := b1.cell 3
      have f31 := b1.fz 3
      have hS2 : Hid (Sd (w1.setCell ⟨sb, 3, none⟩ (.int .i64 (s'.base + 1))) B sb mb (popA s')) := sd_pop hS'.out hsn.out hm1.out hg0.out
      have hF2 : Hid (finA (popA s') k = finA s k) := (fin_pop hS'.out.ok hlt).trans hf'.out
      have hK2 : Hid (K2 sb mb w (w1.setCell ⟨sb, 3, none⟩ (.int .i64 (s'.base + 1)))) := hK'.out.trans ((K2.of_g hg0.out).trans (K2.set w1 3 _))
      have hm3 : Hid (cellI wr sb 3 = s'.base) := hS'.out.cell3
      clear b1 hm hg hm1 hrg hlt
      go_wp2
      go_region
      go_wp2
      go_roundw
      · exact ⟨popA s', hS2, hn', hF2, hK2⟩
      · rw [hS2.out.cell3, hm3.out]
        show (k + 1 - (s'.base + 1)).toNat < _
        have := of_decide_eq_true hd
        omega
    · have hd : decide (s'.base ≤ k) = false := by simp; omega
      have hN : Hid (finA s' k = s') := fin_none hS'.out.ok hlt
      clear hlt c5 f3
      go_wp2
      refine bodyPost_end (results_none rfl _ _ _) rfl ?_
      refine ⟨rfl, ?_, hK'⟩
      rw [← hf'.out, hN.out]
      exact hS'
end Go.Proofs.YtfipdldoklkciaaGreat
namespace Go.Proofs.YtfipdldoklkciaaGreat
open Go.RowKit
set_option linter.unusedVariables false
/-- One load's state anew. -/
def setA (s : St) (z : Int) (e : Ent) : St := { s with L := fun x => if x = z then some e else s.L x }
theorem set_ok {s : St} {z : Int} {e e' : Ent} (h : Ok s) (hL : s.L z = some e) (hz : e'.zs = e.zs) (hn : e'.n = e.n) (ht : 0 ≤ e'.time ∧ e'.time ≤ 1099511627840 ∧ 1 ≤ e'.wait ∧ e'.wait ≤ 64) : Ok (setA s z e') := by
  obtain ⟨w1, w2, b1, b2, few, l1, l2, inn, ent⟩ := h
  refine ⟨w1, w2, b1, b2, few, l1, l2, fun x => ?_, fun x e1 he => ?_⟩
  · show (if x = z then some e' else s.L x).isSome = true ↔ s.base ≤ x ∧ x < s.nxt
    have := inn x
    by_cases hx : x = z
    · subst hx
      rw [if_pos rfl]
      rw [hL] at this
      simpa using this
    · rw [if_neg hx]; exact this
  · have he : (if x = z then some e' else s.L x) = some e1 := he
    split at he
    · cases he
      have := ent z e hL
      rw [hz, hn]
      exact ⟨this.1, this.2.1, ht⟩
    · exact ent x e1 he
theorem sd_put {w w1 : World} {B sb mb : Nat} {s : St} {z : Int} {e e' : Ent} (h : Sd w B sb mb s) (hL : s.L z = some e) (ha : e'.a = e.a) (hn : e'.n = e.n) (hc : e'.c = e.c) (hz : e'.zs = e.zs) (ht : 0 ≤ e'.time ∧ e'.time ≤ 1099511627840 ∧ 1 ≤ e'.wait ∧ e'.wait ≤ 64)
    (m : MapI w1 mb (put s.f z (some e'.val)) (if (s.f z).isSome then (s.nxt - s.base).toNat else (s.nxt - s.base).toNat + 1)) (g : w.grownBy w1 (some mb)) : Sd w1 B sb mb (setA s z e') := by
  refine ⟨set_ok h.ok hL hz hn ht, h.hs, h.hm, h.blk.but g (Ne.symm h.ne), ?_, fun x e1 he => ?_⟩
  · have hf : (setA s z e').f = put s.f z (some e'.val) := by
      funext x
      show (if x = z then some e' else s.L x).map Ent.val = if x = z then some e'.val else (s.L x).map Ent.val
      split <;> rfl
    have hsome : (s.f z).isSome = true := by simp [St.f, hL]
    rw [hsome, if_pos rfl] at m
    rw [hf]
    exact m
  · have he : (if x = z then some e' else s.L x) = some e1 := he
    split at he
    · cases he
      have k := (h.ld z e hL).k2 (K2.of_g g)
      exact ⟨by rw [ha, hz]; exact k.by_, by rw [ha, hc]; exact k.nil, by rw [hn, hc]; exact k.le, by rw [hc]; exact k.mx, by rw [ha]; exact k.at_, by rw [ha]; exact k.ty⟩
    · exact (h.ld x e1 he).k2 (K2.of_g g)
theorem sd_rg {w : World} {B sb mb : Nat} {s : St} (h : Sd w B sb mb s) {z : Int} {e : Ent} (hL : s.L z = some e) : -9223372036854775808 ≤ z ∧ z < 9223372036854775808 := by
  have := (h.ok.inn z).1 (by rw [hL]; rfl)
  have := h.ok.b1; have := h.ok.b2; have := h.ok.l1; have := h.ok.l2
  omega
def beyA (s : St) (z : Int) : St := match s.L z with | some e => setA s z { e with there := true } | none => s
theorem bey_any {B sb mb : Nat} {s : St} {w : World} (z : Int) (h : Sd w B sb mb s) (hrg : -9223372036854775808 ≤ z ∧ z < 9223372036854775808) :
    Calls Tryz.prog 49 #[.pointer (some ⟨sb, 0, none⟩), .int .i64 z] w fun e w' => e = .returned (.tuple #[]) ∧ Hid (Sd w' B sb mb (beyA s z)) ∧ Hid (K2 sb mb w w') := by
  have hS : Hid (Sd w B sb mb s) := h
  have c5 := h.c5
  have hl := h.mp.look2 hrg
  have hlt := h.blk.lt
  cases hL : s.L z with
  | none =>
    have e1 : Hid (beyA s z = s) := by show _ = _; unfold beyA; rw [hL]
    rw [show s.f z = none by simp [St.f, hL]] at hl
    simp only [Option.getD_none, Option.isSome_none, zE] at hl
    clear h hL hrg
    go_enter Tryz.func49, Tryz.ntmps49
    go_wp2
    refine bodyPost_end (results_none rfl _ _ _) rfl ?_
    refine ⟨rfl, ?_, ?_⟩
    · rw [e1.out]
      refine hS.out.kept ?_
      repeat (refine Below.setCell ?_ (by first | exact Nat.le_refl _ | simp) _)
      exact (Below.refl w.heap.size w).alloc (Nat.le_refl _) _
    · refine K2.of_below ?_
      repeat (refine Below.setCell ?_ (by first | exact Nat.le_refl _ | simp) _)
      exact (Below.refl w.heap.size w).alloc (Nat.le_refl _) _
  | some e =>
    have e1 : Hid (beyA s z = setA s z { e with there := true }) := by show _ = _; unfold beyA; rw [hL]
    have hL' : Hid (s.L z = some e) := hL
    have hrg' : Hid (-9223372036854775808 ≤ z ∧ z < 9223372036854775808) := hrg
    rw [show s.f z = some e.val by simp [St.f, hL]] at hl
    simp only [Option.getD_some, Option.isSome_some, Ent.val] at hl
    clear h hL hrg
    go_enter Tryz.func49, Tryz.ntmps49
    go_wp2
    have hB2 : Hid (Below w.heap.size w (w.alloc (.cells #[.slice e.a e.n e.c, .int .i64 e.time, .int .i64 e.wait, .bool true] 98))) := (Below.refl w.heap.size w).alloc (Nat.le_refl _) _
    have hbk : Hid (Blk (w.alloc (.cells #[.slice e.a e.n e.c, .int .i64 e.time, .int .i64 e.wait, .bool true] 98)) w.heap.size _ 98) := blk_new w _ _
    generalize (w.alloc (.cells #[.slice e.a e.n e.c, .int .i64 e.time, .int .i64 e.wait, .bool true] 98)) = w2 at hB2 hbk ⊢
    have hS2 : Hid (Sd w2 B sb mb s) := hS.out.kept hB2.out
    have c5' := hS2.out.c5
    have d0 := hbk.out.cell 0
    have d1 := hbk.out.cell 1
    have d2 := hbk.out.cell 2
    have d3 := hbk.out.cell 3
    have hsz : Hid ((s.nxt - s.base).toNat < 1000) := by have := hS2.out.ok.few; have := hS2.out.ok.w2; show _ < _; omega
    obtain ⟨w3, hr, hm, hg⟩ := hS2.out.mp.drew.store hsz.out hrg'.out (Ent.val { e with there := true })
    have hg0 : Hid (w2.grownBy w3 (some mb)) := ⟨hg.os, hg.tape, hg.output, hg.size, hg.block⟩
    have hS3 : Hid (Sd w3 B sb mb (beyA s z)) := by
      show Sd w3 B sb mb (beyA s z)
      rw [e1.out]
      have := hS2.out.ok.ent z e hL'.out
      exact sd_put hS2.out hL'.out rfl rfl rfl rfl this.2.2 hm hg0.out
    have hK3 : Hid (K2 sb mb w w3) := (K2.of_below hB2.out).trans (K2.of_g hg0.out)
    simp only [Ent.val] at hr
    clear hm hg hsz c5 hl hlt
    go_region
    go_wp2
    refine bodyPost_end (results_none rfl _ _ _) rfl ?_
    exact ⟨rfl, hS3, hK3⟩
end Go.Proofs.YtfipdldoklkciaaGreat
namespace Go.Proofs.YtfipdldoklkciaaGreat
open Go.RowKit
set_option linter.unusedVariables false
theorem OwnsB.blk {w : World} {base n c : Nat} {a : Option Addr} {zs : List Int} (h : OwnsB w base (.slice a n c) zs) : ∀ x, a = some x → ∃ cs, Blk w x.block cs 5 := by
  intro x hx
  rcases h.1.2 with ⟨hv, _⟩ | ⟨g, cap, cur, hv, _, hc, _⟩
  · cases hv; cases hx
  · cases hv; cases hx
    exact ⟨cur, hc⟩
def pushE (s : St) (n : Nat) (now : Int) : Int := if timeB now = false then 1 else if 1200 < n then 8 else if s.lim < s.nxt ∨ s.win ≤ s.nxt - s.base then 13 else 0
def addA (s : St) (e : Ent) : St := { s with nxt := s.nxt + 1, L := fun z => if z = s.nxt then some e else s.L z }
theorem add_ok {s : St} {e : Ent} (h : Ok s) (h1 : ¬ s.lim < s.nxt) (h2 : ¬ s.win ≤ s.nxt - s.base) (he : e.zs.length = e.n ∧ e.n ≤ 1200 ∧ 0 ≤ e.time ∧ e.time ≤ 1099511627840 ∧ 1 ≤ e.wait ∧ e.wait ≤ 64) : Ok (addA s e) := by
  obtain ⟨w1, w2, b1, b2, few, l1, l2, inn, ent⟩ := h
  refine ⟨w1, w2, b1, ?_, ?_, ?_, l2, fun x => ?_, fun x e1 he1 => ?_⟩
  · show s.base ≤ s.nxt + 1
    omega
  · show s.nxt + 1 - s.base ≤ s.win
    omega
  · show s.nxt + 1 - 1 ≤ s.lim
    omega
  · show (if x = s.nxt then some e else s.L x).isSome = true ↔ s.base ≤ x ∧ x < s.nxt + 1
    have := inn x
    by_cases hx : x = s.nxt
    · rw [if_pos hx]; simp; omega
    · rw [if_neg hx, this]; omega
  · have he1 : (if x = s.nxt then some e else s.L x) = some e1 := he1
    split at he1
    · cases he1
      exact he
    · exact ent x e1 he1
theorem sd_add {w w1 : World} {B sb mb : Nat} {s : St} {e : Ent} (h : Sd w B sb mb s) (h1 : ¬ s.lim < s.nxt) (h2 : ¬ s.win ≤ s.nxt - s.base) (he : e.zs.length = e.n ∧ e.n ≤ 1200 ∧ 0 ≤ e.time ∧ e.time ≤ 1099511627840 ∧ 1 ≤ e.wait ∧ e.wait ≤ 64)
    (hl : Ld w B sb mb e) (m : MapI w1 mb (put s.f s.nxt (some e.val)) (if (s.f s.nxt).isSome then (s.nxt - s.base).toNat else (s.nxt - s.base).toNat + 1)) (g : w.grownBy w1 (some mb)) :
    Sd (w1.setCell ⟨sb, 4, none⟩ (.int .i64 (s.nxt + 1))) B sb mb (addA s e) := by
  have hne := h.ne
  have hb1 : Blk w1 sb _ 94 := h.blk.but g (Ne.symm hne)
  refine ⟨add_ok h.ok h1 h2 he, h.hs, h.hm, hb1.set 4 _, ?_, fun z e1 he1 => ?_⟩
  · have hf : (addA s e).f = put s.f s.nxt (some e.val) := by
      funext z
      show (if z = s.nxt then some e else s.L z).map Ent.val = if z = s.nxt then some e.val else (s.L z).map Ent.val
      split <;> rfl
    have hnone : (s.f s.nxt).isSome = false := by
      have := h.ok.inn s.nxt
      cases hL : s.L s.nxt with
      | none => simp [St.f, hL]
      | some e1 => rw [hL] at this; simp at this
    rw [hnone, if_neg (by simp)] at m
    have hb := h.ok.b2
    rw [hf, show ((addA s e).nxt - (addA s e).base).toNat = (s.nxt - s.base).toNat + 1 by show (s.nxt + 1 - s.base).toNat = _; omega]
    exact m.set hne 4 _
  · have he1 : (if z = s.nxt then some e else s.L z) = some e1 := he1
    split at he1
    · cases he1
      exact hl.k2 ((K2.of_g g).trans (K2.set w1 4 _))
    · exact (h.ld z e1 he1).k2 ((K2.of_g g).trans (K2.set w1 4 _))
theorem below_drewN (w : World) (n : Nat) : Below w.heap.size w (w.drewN n) := ⟨rfl, rfl, rfl, Nat.le_refl _, fun _ _ => rfl⟩
set_option maxHeartbeats 1000000 in
theorem push_ok {B sb mb : Nat} {s : St} {w : World} (a : Option Addr) (n c : Nat) (zs : List Int) (now : Int) (h : Sd w B sb mb s) (hE : pushE s n now = 0) (hB : B ≤ w.heap.size) (hn : zs.length = n) (h0 : a = none → c = 0) (hb : Bytes w a zs) :
    Calls Tryz.prog 51 #[.pointer (some ⟨sb, 0, none⟩), .slice a n c, .int .i64 now] w fun e w' => e = .returned (.tuple #[.int .i64 s.nxt, .int .i64 0]) ∧ ∃ en : Ent, Hid (en.zs = zs ∧ en.time = now ∧ en.wait = 1 ∧ en.there = false ∧ ∀ x, en.a = some x → w.heap.size ≤ x.block) ∧ Hid (Sd w' B sb mb (addA s en)) ∧ Hid (K2 sb mb w w') := by
  have k1 := made_yes sb w h.c0
  have k2 := time_any now w
  have hS : Hid (Sd w B sb mb s) := h
  have h1 : timeB now = true := by
    unfold pushE at hE
    cases ht : timeB now with
    | true => rfl
    | false => rw [ht, if_pos rfl] at hE; cases hE
  rw [h1] at k2
  have h2 : ¬ 1200 < n := fun h2 => by
    unfold pushE at hE
    rw [if_neg (by simp [h1]), if_pos h2] at hE
    cases hE
  have h3 : ¬ (s.lim < s.nxt ∨ s.win ≤ s.nxt - s.base) := fun h3 => by
    unfold pushE at hE
    rw [if_neg (by simp [h1]), if_neg h2, if_pos h3] at hE
    cases hE
  have h3a : Hid (¬ s.lim < s.nxt) := fun h => h3 (.inl h)
  have h3b : Hid (¬ s.win ≤ s.nxt - s.base) := fun h => h3 (.inr h)
  have d2 : decide ((n : Int) > 1200) = false := by simp; omega
  have d4 : decide (s.nxt > s.lim) = false := by have := h3a.out; simp; omega
  have d5 : decide (s.nxt - s.base ≥ s.win) = false := by have := h3b.out; simp; omega
  have c1 := h.c1
  have c2 := h.c2
  have c3 := h.c3
  have c4 := h.c4
  have c5 := h.c5
  have hw : IntKind.i64.wrap (s.nxt - s.base) = s.nxt - s.base := by
    have := h.ok.b1; have := h.ok.b2; have := h.ok.l1; have := h.ok.l2
    rw [IntKind.wrap_i64]; omega
  have hw2 : IntKind.i64.wrap (s.nxt + 1) = s.nxt + 1 := by
    have := h.ok.b1; have := h.ok.b2; have := h.ok.l1; have := h.ok.l2
    rw [IntKind.wrap_i64]; omega
  have hbt : Hid (0 ≤ now ∧ now ≤ 1099511627776) := by
    simp [timeB] at h1
    exact h1
  have hrg : Hid (-9223372036854775808 ≤ s.nxt ∧ s.nxt < 9223372036854775808) := by
    have := h.ok.b1; have := h.ok.b2; have := h.ok.l1; have := h.ok.l2
    show _ ∧ _; omega
  have k3 : Hid (∀ w', Below w.heap.size w w' → Calls Tryz.prog 83 #[.slice a n c] w' fun e w'' => ∃ v, e = .returned v ∧ OwnsB w'' w'.heap.size v zs ∧ Below w'.heap.size w' w'') := fun w' hw' => copy_any a n c zs w' hn h0 (hb.kept hw') (by omega)
  have hn' : Hid (zs.length = n) := hn
  have hBB : Hid (B ≤ w.heap.size) := hB
  have h2' : Hid (n ≤ 1200) := by show n ≤ 1200; omega
  have SK : Hid (∀ w', Below w.heap.size w w' → w'.cell? ⟨sb, 5, none⟩ = some (.map (some mb))) := fun w' hb => (hS.out.kept hb).c5
  clear h hE h1 h2 h3 hb h0 hn hB
  go_enter Tryz.func51, Tryz.ntmps51
  go_wp2_with (first | (go_at_call 46; refine k1.mono ?_; rintro e w1 ⟨rfl, hw1⟩; obtain rfl := hw1.symm) | (go_at_call 81; refine k2.mono ?_; rintro e w1 ⟨rfl, hw1⟩; obtain rfl := hw1.symm))
  go_quiet (fail)
  go_wp2
  have hB1 : Hid (Below w.heap.size w (w.drewN nq)) := below_drewN _ _
  generalize w.drewN nq = w1 at *
  have hsz : Hid ((s.nxt - s.base).toNat < 1000) := by have := hS.out.ok.few; have := hS.out.ok.w2; show _ < _; omega
  clear k1 k2
  go_region_held3 (fun wx => wx.cell? ⟨sb, 5, none⟩ = some (.map (some mb))) ((first | with_reducible exact cc5 | ((with_reducible refine SK.out _ ?_); (repeat' with_reducible first | exact hB1.out | exact hB3.out | exact hB4.out | refine Below.drew ?_)))) (first
    | (go_at_call 83; refine (k3.out _ hB1.out.drew).mono ?_; rintro e w3 ⟨v, rfl, hO, hb3⟩; obtain ⟨a3, n3, c3', rfl, hn3, hz3, hle3, hmx3, hby3⟩ := hO.form; have hB3 : Hid (Below w.heap.size w w3) := hB1.out.drew.trans (hb3.mono hB1.out.size); have hO3 : Hid (OwnsB w3 w1.heap.size (.slice a3 n3 c3') zs) := hO; clear hO hb3)
    | (go_at_call 82; refine (outF_any _ _ _ _ _).mono ?_; rintro e w4 ⟨rfl, hb4⟩; have hB4 : Hid (Below w.heap.size w w4) := hB3.out.trans (hb4.mono hB3.out.size); have hO4 : Hid (OwnsB w4 w1.heap.size (.slice a3 n3 c3') zs) := hO3.out.below hb4; have hS4 : Hid (Sd w4 B sb mb s) := hS.out.kept hB4.out; obtain ⟨w5, hr, hm, hg⟩ := hS4.out.mp.store hsz.out hrg.out (.agg #[.slice a3 n3 c3', .int .i64 now, .int .i64 1, .bool false]); have hm5 : Hid (MapI w5 mb _ _) := hm; have hg5 : Hid (w4.grownBy w5 (some mb)) := hg; have cc5 : w5.cell? ⟨sb, 5, none⟩ = some (.map (some mb)) := (hS4.out.blk.but hg (Ne.symm hS4.out.ne)).cell 5; have cc4 : w5.cell? ⟨sb, 4, none⟩ = some (.int .i64 s.nxt) := (hS4.out.blk.but hg (Ne.symm hS4.out.ne)).cell 4; have ff4 : w5.frozen? ⟨sb, 4, none⟩ = false := (hS4.out.blk.but hg (Ne.symm hS4.out.ne)).fz 4; clear hm hg hb4))
  go_wp2
  go_ret2
  obtain ⟨ax, cx, hv, hnil, ⟨hle, hmx⟩, hbx, hax⟩ := hO4.out.shape
  cases hv
  have hs1 := hS4.out.blk.lt
  have hs2 := hS4.out.mp.lt
  have hsb := hS.out.blk.lt
  have hmb := hS.out.mp.lt
  have hw1 := hB1.out.size
  refine ⟨rfl, ⟨a3, zs.length, c3', zs, now, 1, false⟩, ⟨rfl, rfl, rfl, rfl, fun x hx => Nat.le_trans hw1 (hax x hx).1⟩, ?_, ?_⟩
  · refine sd_add hS4.out (by have := h3a.out; omega) (by have := h3b.out; omega) ⟨rfl, by have := hn'.out; have := h2'.out; show zs.length ≤ 1200; omega, hbt.out.1, by have := hbt.out.2; show now ≤ _; omega, by show (1 : Int) ≤ 1; omega, by show (1 : Int) ≤ 64; omega⟩ ⟨hbx, hnil, hle, by unfold maxLen at hmx; exact hmx, fun x hx => ?_, fun x hx => hO4.out.blk x hx⟩ hm5.out hg5.out
    have := hax x hx
    have := hBB.out
    exact ⟨by omega, by omega, by omega, by omega⟩
  · exact (K2.of_below hB4.out).trans ((K2.of_g hg5.out).trans (K2.set w5 4 _))
end Go.Proofs.YtfipdldoklkciaaGreat
namespace Go.Proofs.YtfipdldoklkciaaGreat
open Go.RowKit
set_option linter.unusedVariables false
set_option maxHeartbeats 1000000 in
theorem push_bad {B sb mb : Nat} {s : St} {w : World} (a : Option Addr) (n c : Nat) (now : Int) (h : Sd w B sb mb s) (hE : pushE s n now ≠ 0) (hn : (n : Int) ≤ 9223372036854775807) :
    Calls Tryz.prog 51 #[.pointer (some ⟨sb, 0, none⟩), .slice a n c, .int .i64 now] w fun e w' => e = .returned (.tuple #[.int .i64 0, .int .i64 (pushE s n now)]) ∧ Hid (Below w.heap.size w w') := by
  have k1 := made_yes sb w h.c0
  have k2 := time_any now w
  by_cases h1 : timeB now = false
  · rw [h1] at k2
    rw [show pushE s n now = 1 by unfold pushE; rw [if_pos h1]]
    clear h hE hn h1
    go_enter Tryz.func51, Tryz.ntmps51
    go_wp2_with (first | (go_at_call 46; refine k1.mono ?_; rintro e w1 ⟨rfl, hw1⟩; obtain rfl := hw1.symm) | (go_at_call 81; refine k2.mono ?_; rintro e w1 ⟨rfl, hw1⟩; obtain rfl := hw1.symm))
    go_ret2
    exact ⟨rfl, Below.refl _ _⟩
  · rw [show timeB now = true by simpa using h1] at k2
    by_cases h2 : 1200 < n
    · have d2 : decide ((n : Int) > 1200) = true := by simp; omega
      rw [show pushE s n now = 8 by unfold pushE; rw [if_neg h1, if_pos h2]]
      clear h hE hn h1 h2
      go_enter Tryz.func51, Tryz.ntmps51
      go_wp2_with (first | (go_at_call 46; refine k1.mono ?_; rintro e w1 ⟨rfl, hw1⟩; obtain rfl := hw1.symm) | (go_at_call 81; refine k2.mono ?_; rintro e w1 ⟨rfl, hw1⟩; obtain rfl := hw1.symm))
      go_ret2
      exact ⟨rfl, Below.refl _ _⟩
    · have d2 : decide ((n : Int) > 1200) = false := by simp; omega
      have h3 : s.lim < s.nxt ∨ s.win ≤ s.nxt - s.base := by
        by_cases h3 : s.lim < s.nxt ∨ s.win ≤ s.nxt - s.base
        · exact h3
        · exact absurd (by unfold pushE; rw [if_neg h1, if_neg h2, if_neg h3]) hE
      rw [show pushE s n now = 13 by unfold pushE; rw [if_neg h1, if_neg h2, if_pos h3]]
      have c1 := h.c1
      have c2 := h.c2
      have c3 := h.c3
      have c4 := h.c4
      have hw : IntKind.i64.wrap (s.nxt - s.base) = s.nxt - s.base := by
        have := h.ok.b1; have := h.ok.b2; have := h.ok.l1; have := h.ok.l2
        rw [IntKind.wrap_i64]; omega
      by_cases h4 : s.lim < s.nxt
      · have d4 : decide (s.nxt > s.lim) = true := by simp; omega
        clear h hE hn h1 h2 h3 h4
        go_enter Tryz.func51, Tryz.ntmps51
        go_wp2_with (first | (go_at_call 46; refine k1.mono ?_; rintro e w1 ⟨rfl, hw1⟩; obtain rfl := hw1.symm) | (go_at_call 81; refine k2.mono ?_; rintro e w1 ⟨rfl, hw1⟩; obtain rfl := hw1.symm))
        go_big_quiet (fail)
        go_wp2
        go_ret2
        exact ⟨rfl, below_drewN _ _⟩
      · have d4 : decide (s.nxt > s.lim) = false := by simp; omega
        have d5 : decide (s.nxt - s.base ≥ s.win) = true := by simp; omega
        clear h hE hn h1 h2 h3 h4
        go_enter Tryz.func51, Tryz.ntmps51
        go_wp2_with (first | (go_at_call 46; refine k1.mono ?_; rintro e w1 ⟨rfl, hw1⟩; obtain rfl := hw1.symm) | (go_at_call 81; refine k2.mono ?_; rintro e w1 ⟨rfl, hw1⟩; obtain rfl := hw1.symm))
        go_quiet (fail)
        go_wp2
        go_ret2
        exact ⟨rfl, below_drewN _ _⟩
end Go.Proofs.YtfipdldoklkciaaGreat
namespace Go.Proofs.YtfipdldoklkciaaGreat
open Go.RowKit
set_option linter.unusedVariables false
def bitB (bits : Int) (i : Nat) : Bool := Go.bits .and .u64 (bits / 2 ^ i) 1 == 1
def bitsA (s : St) (ack bits : Int) : Nat → St
  | 0 => s
  | i + 1 => if bitB bits i = true then beyA (bitsA s ack bits i) (ack + 2 + (i : Int)) else bitsA s ack bits i
def popsF : Nat → St → St
  | 0, s => s
  | k + 1, s => match s.L s.base with
    | some e => if e.there = true then popsF k (finA s s.base) else s
    | none => s
def limA (s : St) (credit : Int) : St := { s with lim := max s.lim credit }
def ackA (s : St) (ack bits credit : Int) : St := limA (popsF 64 (bitsA (finA s ack) ack bits 64)) credit
theorem bey_nxt (s : St) (z : Int) : (beyA s z).nxt = s.nxt := by unfold beyA; split <;> rfl
theorem bits_nxt (s : St) (ack bits : Int) : ∀ i, (bitsA s ack bits i).nxt = s.nxt
  | 0 => rfl
  | i + 1 => by
    unfold bitsA
    split
    · rw [bey_nxt]; exact bits_nxt s ack bits i
    · exact bits_nxt s ack bits i
theorem lim_ok {s : St} {credit : Int} (h : Ok s) (hc : credit ≤ 4611686018427387904) : Ok (limA s credit) := by
  obtain ⟨w1, w2, b1, b2, few, l1, l2, inn, ent⟩ := h
  refine ⟨w1, w2, b1, b2, few, ?_, ?_, inn, ent⟩
  · show s.nxt - 1 ≤ max s.lim credit
    omega
  · show max s.lim credit ≤ _
    omega
theorem sd_lim {w : World} {B sb mb : Nat} {s : St} {credit : Int} (h : Sd w B sb mb s) (hc : credit ≤ 4611686018427387904) : Sd (w.setCell ⟨sb, 2, none⟩ (.int .i64 (max s.lim credit))) B sb mb (limA s credit) :=
  ⟨lim_ok h.ok hc, h.hs, h.hm, h.blk.set 2 _, h.mp.set h.ne 2 _, fun z e he => (h.ld z e he).k2 (K2.set w 2 _)⟩
theorem ack_bad {B sb mb : Nat} {s : St} {w : World} (ack bits credit : Int) (h : Sd w B sb mb s) (hE : mayB s ack credit = false) :
    Calls Tryz.prog 18 #[.pointer (some ⟨sb, 0, none⟩), .int .i64 ack, .int .u64 bits, .int .i64 credit] w fun e w' => e = .returned (.int .i64 1) ∧ w' = w := by
  have k1 := made_yes sb w h.c0
  have k2 := may_any ack credit h
  rw [hE] at k2
  clear h hE
  go_enter Tryz.func18, Tryz.ntmps18
  go_wp2_with (first | (go_at_call 46; refine k1.mono ?_; rintro e w1 ⟨rfl, hw1⟩; obtain rfl := hw1.symm) | (go_at_call 47; refine k2.mono ?_; rintro e w1 ⟨rfl, hw1⟩; obtain rfl := hw1.symm))
  go_ret
  all_goals simp_all
theorem Sd.cell4 {w : World} {B sb mb : Nat} {s : St} (h : Sd w B sb mb s) : cellI w sb 4 = s.nxt := by unfold cellI; rw [h.c4]
theorem field3 (e : Ent) (w : World) : (Instr.field 98 (.agg #[.slice e.a e.n e.c, .int .i64 e.time, .int .i64 e.wait, .bool e.there]) 3).run Tryz.prog w = .ok (.bool e.there) w := by kernel_rfl
theorem field3z (w : World) : (Instr.field 98 (.agg #[.slice none 0 0, .int .i64 0, .int .i64 0, .bool false]) 3).run Tryz.prog w = .ok (.bool false) w := by kernel_rfl
theorem ack_ok {B sb mb : Nat} {s : St} {w : World} (ack bits credit : Int) (h : Sd w B sb mb s) (hE : mayB s ack credit = true) :
    Calls Tryz.prog 18 #[.pointer (some ⟨sb, 0, none⟩), .int .i64 ack, .int .u64 bits, .int .i64 credit] w fun e w' => e = .returned (.int .i64 0) ∧ Hid (Sd w' B sb mb (ackA s ack bits credit)) ∧ Hid (K2 sb mb w w') := by
  have k1 := made_yes sb w h.c0
  have k2 := may_any ack credit h
  rw [hE] at k2
  have hk : ack < s.nxt := by simp [mayB] at hE; omega
  have hm : Hid (0 ≤ ack ∧ ack ≤ 4611686018427387904 ∧ credit ≤ 4611686018427387904) := by
    have := h.ok.l1; have := h.ok.l2
    simp [mayB] at hE
    show _ ∧ _ ∧ _
    omega
  have k3 := finish_any ack h hk
  have hR : Hid (popsF 64 (bitsA (finA s ack) ack bits 64) = popsF 64 (bitsA (finA s ack) ack bits 64)) := rfl
  have hA : Hid (ackA s ack bits credit = limA (popsF 64 (bitsA (finA s ack) ack bits 64)) credit) := rfl
  have hN : Hid ((finA s ack).nxt = s.nxt) := rfl
  clear h hE hk
  generalize finA s ack = s1 at *
  go_enter Tryz.func18, Tryz.ntmps18
  go_wp2_with (first | (go_at_call 46; refine k1.mono ?_; rintro e w1 ⟨rfl, hw1⟩; obtain rfl := hw1.symm; clear k1 hw1) | (go_at_call 47; refine k2.mono ?_; rintro e w1 ⟨rfl, hw1⟩; obtain rfl := hw1.symm; clear k2 hw1) | (go_at_call 48; refine k3.mono ?_; rintro e w1 ⟨rfl, hS1, hK1⟩; clear k3))
  go_loopw [9, 21] (fun _ s21 wr => ∃ i : Nat, i ≤ 64 ∧ s21 = .int .i64 (i : Nat) ∧ Hid (Sd wr B sb mb (bitsA s1 ack bits i)) ∧ Hid (K2 sb mb w wr)) (fun _ i _ => 64 - (intOf i).toNat)
  case atStart => exact ⟨0, by omega, rfl, hS1, hK1⟩
  case round =>
    obtain ⟨i, hi, rfl, hS, hK⟩ := hrel
    by_cases hlt : i < 64
    · have hd : decide ((i : Int) < 64) = true := by simp; omega
      have hwr1 : IntKind.i64.wrap (ack + 2) = ack + 2 := by have := hm.out; rw [IntKind.wrap_i64]; omega
      have hwr2 : IntKind.i64.wrap (ack + 2 + (i : Int)) = ack + 2 + (i : Int) := by have := hm.out; rw [IntKind.wrap_i64]; omega
      cases hb : bitB bits i with
      | true =>
        have hbit : (Go.bits .and .u64 (bits / 2 ^ i) 1 == 1) = true := hb
        have k4 := bey_any (ack + 2 + (i : Int)) hS.out (by have := hm.out; omega)
        have hE : Hid (bitsA s1 ack bits (i + 1) = beyA (bitsA s1 ack bits i) (ack + 2 + (i : Int))) := by show _ = _; rw [bitsA, if_pos hb]
        clear hb
        go_wp2_with (go_at_call 49; refine k4.mono ?_; rintro e w4 ⟨rfl, hS4, hK4⟩)
        exact ⟨⟨i + 1, by omega, by simp, by rw [hE.out]; exact hS4, hK.out.trans hK4.out⟩, by simp [intOf]; omega⟩
      | false =>
        have hbit : (Go.bits .and .u64 (bits / 2 ^ i) 1 == 1) = false := hb
        have hE : Hid (bitsA s1 ack bits (i + 1) = bitsA s1 ack bits i) := by show _ = _; rw [bitsA, if_neg (by simp [hb])]
        clear hb
        go_wp2
        exact ⟨⟨i + 1, by omega, by simp, by rw [hE.out]; exact hS, hK⟩, by simp [intOf]; omega⟩
    · have hd : decide ((i : Int) < 64) = false := by simp; omega
      obtain rfl : i = 64 := by omega
      have hfew : Hid (∃ k, k = 64 ∧ ((bitsA s1 ack bits 64).nxt - (bitsA s1 ack bits 64).base) < (k : Nat)) := by
        have := hS.out.ok.few; have := hS.out.ok.w2
        exact ⟨64, rfl, by omega⟩
      generalize bitsA s1 ack bits 64 = s2 at *
      clear hlt hi
      go_wp2
      go_loopw [] (fun wr => ∃ (s' : St) (k : Nat), Hid (Sd wr B sb mb s') ∧ Hid (popsF k s' = popsF 64 s2) ∧ Hid (s'.nxt - s'.base < (k : Nat)) ∧ Hid (K2 sb mb w wr)) (fun wr => (cellI wr sb 4 - cellI wr sb 3).toNat)
      case atStart =>
        obtain ⟨k, rfl, hk⟩ := hfew.out
        exact ⟨s2, 64, hS, rfl, hk, hK⟩
      case round =>
        obtain ⟨s', k, hS', hp, hk, hK'⟩ := hrel
        have c2 := hS'.out.c2
        have c3 := hS'.out.c3
        have c5 := hS'.out.c5
        have f2 := hS'.out.blk.fz 2
        have hrg : -9223372036854775808 ≤ s'.base ∧ s'.base < 9223372036854775808 := by
          have := hS'.out.ok.b1; have := hS'.out.ok.b2; have := hS'.out.ok.l1; have := hS'.out.ok.l2
          omega
        have hl := hS'.out.mp.drew.look hrg
        have hcr : Hid (credit ≤ 4611686018427387904) := hm.out.2.2
        clear hrg hfew hS hd
        cases k with
        | zero => have := hS'.out.ok.b2; have := hk.out; simp at this; omega
        | succ k =>
        cases hL : s'.L s'.base with
        | none =>
          have hp' : Hid (s' = popsF 64 s2) := by have := hp.out; rw [popsF, hL] at this; exact this
          have hf := field3z
          rw [show s'.f s'.base = none by simp [St.f, hL]] at hl
          simp only [Option.getD_none, zE] at hl
          clear hL hp hk
          go_wp2
          go_region
          go_wp2
          go_ret
          refine ⟨rfl, ?_, ?_⟩
          · rw [hA.out, ← hp'.out]
            exact sd_lim hS'.out.drew hcr.out
          · exact hK'.out.drew.trans (K2.set _ 2 _)
        | some e =>
          have hf := field3 e
          rw [show s'.f s'.base = some e.val by simp [St.f, hL]] at hl
          simp only [Option.getD_some, Ent.val] at hl
          cases ht : e.there with
          | false =>
            have hp' : Hid (s' = popsF 64 s2) := by have := hp.out; rw [popsF, hL] at this; simp [ht] at this; exact this
            rw [ht] at hl hf
            clear hL hp hk ht
            go_wp2
            go_region
            go_wp2
            go_ret
            refine ⟨rfl, ?_, ?_⟩
            · rw [hA.out, ← hp'.out]
              exact sd_lim hS'.out.drew hcr.out
            · exact hK'.out.drew.trans (K2.set _ 2 _)
          | true =>
            have hp' : Hid (popsF k (finA s' s'.base) = popsF 64 s2) := by have := hp.out; rw [popsF, hL] at this; simp [ht] at this; exact this
            rw [ht] at hl hf
            have hb := (hS'.out.ok.inn s'.base).1 (by rw [hL]; rfl)
            have k5 := finish_any s'.base hS'.out.drew hb.2
            have hlt' : Hid (s'.base < s'.nxt) := hb.2
            have e3 : Hid (cellI wr sb 3 = s'.base) := hS'.out.cell3
            have e4 : Hid (cellI wr sb 4 = s'.nxt) := hS'.out.cell4
            have eb : Hid ((finA s' s'.base).base = s'.base + 1) := by show (if s'.base ≤ s'.base then _ else _) = _; rw [if_pos (Int.le_refl _)]
            clear hL hp ht hb
            go_wp2
            go_region
            go_wp2_with (go_at_call 48; refine k5.mono ?_; rintro e w5 ⟨rfl, hS5, hK5⟩)
            refine ⟨⟨_, _, _, _, _, _, _, _, _, _, _, _, _, _, _, _, ⟨finA s' s'.base, k, hS5, hp', ?_, hK'.out.drew.trans hK5.out⟩, rfl⟩, ?_⟩
            · have h6 : s'.nxt - s'.base < ((k + 1 : Nat) : Int) := hk.out
              have h7 := eb.out
              show (finA s' s'.base).nxt - (finA s' s'.base).base < (k : Int)
              rw [h7]
              show s'.nxt - (s'.base + 1) < (k : Int)
              omega
            · rw [hS5.out.cell3, hS5.out.cell4, e3.out, e4.out, eb.out]
              show (s'.nxt - (s'.base + 1)).toNat < _
              have := hlt'.out
              omega
end Go.Proofs.YtfipdldoklkciaaGreat
