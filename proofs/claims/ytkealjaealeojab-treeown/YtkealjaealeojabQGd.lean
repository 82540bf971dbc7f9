/-
  Where a path leads: tree.within, tree.find.
  Rows of integers: read, made, appended to, written.
  Where a path leads: tree.find.
  Nodes appended to nodes of the call's own: the row stays where it is, or lies in a new block.
  Trees in new memory: what they are; tree.cloneAll.
  A tree in new memory: tree.clone.
  The node to which a path leads: tree.At.
-/
import Derived.Test.YtkealjaealeojabQMea
import Derived.Test.YtkealjaealeojabQSam
import Derived.Test.YtkealjaealeojabQGa
import Derived.Test.YtkealjaealeojabQGc
import Derived.Test.YtkealjaealeojabQGe
import Derived.Deep.RegionHeld3
import Derived.Deep.RegionWith
import Derived.Deep.CutRange
import Derived.Deep.DeepAppendWide
import Derived.Deep.QuietTactic
import Derived.BigQuiet
namespace Go.Proofs.Ytkealjaealeojab
open Go.RowKit
set_option linter.unusedVariables false

/-- The list into which a number leads, and the place there, as tree.within has it. -/
def wthn (b : Nb) (k : Int) : Value × Int :=
  if b.kind = 7 ∨ b.kind = 9 then (.slice b.ai b.li b.ci, k)
  else if b.kind = 8 then (if k.tmod 2 = 0 then (.slice b.ak b.lk b.ck, k.tdiv 2) else (.slice b.ai b.li b.ci, k.tdiv 2))
  else (.slice none 0 0, 0)
set_option maxHeartbeats 2000000 in
theorem within_any (b : Nb) (k : Int) (hk : -9223372036854775808 ≤ k ∧ k ≤ 9223372036854775807) (w : World) : Calls Try.prog 30 #[.agg b.arr, .int .i64 k] w fun e w' => e = .returned (.tuple #[(wthn b k).1, .int .i64 (wthn b k).2]) ∧ Below w.heap.size w w' := by
  have hal := alloc_below w (.cells b.arr 26)
  have hB : Hid (Below w.heap.size w (w.alloc (.cells b.arr 26))) := hal
  obtain ⟨a0, a1, a2, a3, a4, a5, a6, a7, a8⟩ := (nbox_new w b).fields
  clear hal
  have hq : -9223372036854775808 ≤ k.tdiv 2 ∧ k.tdiv 2 ≤ 9223372036854775807 := by
    rcases Int.le_total 0 k with h | h
    · rw [Int.tdiv_eq_ediv_of_nonneg h]; omega
    · obtain ⟨m, rfl⟩ : ∃ m : Int, k = -m := ⟨-k, by omega⟩
      rw [Int.neg_tdiv, Int.tdiv_eq_ediv_of_nonneg (by omega)]; omega
  have hw : IntKind.i64.wrap (k.tdiv 2) = k.tdiv 2 := by rw [IntKind.wrap_i64]; omega
  have hm : -2 < k.tmod 2 ∧ k.tmod 2 < 2 := by
    rcases Int.le_total 0 k with h | h
    · rw [Int.tmod_eq_emod_of_nonneg h]; omega
    · obtain ⟨m, rfl⟩ : ∃ m : Int, k = -m := ⟨-k, by omega⟩
      rw [Int.neg_tmod, Int.tmod_eq_emod_of_nonneg (by omega)]; omega
  have hwm : IntKind.i64.wrap (k.tmod 2) = k.tmod 2 := by rw [IntKind.wrap_i64]; omega
  by_cases h7 : b.kind = 7
  · have hR : wthn b k = (.slice b.ai b.li b.ci, k) := if_pos (.inl h7)
    rw [hR]
    clear hR
    go_enter Try.func30, Try.ntmps30
    go_wp2
    go_ret2
    exact ⟨rfl, hB.out⟩
  by_cases h9 : b.kind = 9
  · have hR : wthn b k = (.slice b.ai b.li b.ci, k) := if_pos (.inr h9)
    rw [hR]
    clear hR h7
    go_enter Try.func30, Try.ntmps30
    go_wp2
    go_ret2
    exact ⟨rfl, hB.out⟩
  have h79 : ¬ (b.kind = 7 ∨ b.kind = 9) := fun h => h.elim h7 h9
  by_cases h8 : b.kind = 8
  · by_cases hk2 : k.tmod 2 = 0
    · have hR : wthn b k = (.slice b.ak b.lk b.ck, k.tdiv 2) := by unfold wthn; rw [if_neg h79, if_pos h8, if_pos hk2]
      rw [hR]
      clear hR h7 h9 h79
      go_enter Try.func30, Try.ntmps30
      go_wp2
      go_ret2
      exact ⟨rfl, hB.out⟩
    · have hR : wthn b k = (.slice b.ai b.li b.ci, k.tdiv 2) := by unfold wthn; rw [if_neg h79, if_pos h8, if_neg hk2]
      rw [hR]
      clear hR h7 h9 h79
      go_enter Try.func30, Try.ntmps30
      go_wp2
      go_ret2
      exact ⟨rfl, hB.out⟩
  · have hR : wthn b k = (.slice none 0 0, 0) := by unfold wthn; rw [if_neg h79, if_neg h8]
    rw [hR]
    clear hR h79
    go_enter Try.func30, Try.ntmps30
    go_wp2
    go_ret2
    exact ⟨rfl, hB.out⟩
end Go.Proofs.Ytkealjaealeojab
namespace Go.Proofs.Ytkealjaealeojab
open Go.RowKit

/-- The integers l lie at a. -/
def Ints (w : World) (a : Option Addr) (l : List Int) : Prop :=
  l.length ≤ maxLen ∧ (l = [] ∨ ∃ b off, a = some ⟨b, off, none⟩ ∧ ∀ i, i < l.length → w.cell? ⟨b, off + i, none⟩ = some (.int .i64 (l.getD i 0)))
/-- Integers in new memory. -/
def OwnsI (w : World) (base : Nat) (v : Value) (l : List Int) : Prop := w.ownsRow base 3 1 v l.length (l.map (Value.int .i64))
theorem info3 : (Try.prog.info? 3).map (fun i => (i.zero, i.size, i.bytes)) = some (some (.int .i64 0), 1, 8) := by kernel_rfl

theorem ownsI_nil (w : World) (base : Nat) : OwnsI w base (.slice none 0 0) [] := World.ownsRow_nil w base 3 1
theorem OwnsI.shape {w : World} {base : Nat} {v : Value} {l : List Int} (h : OwnsI w base v l) :
    ∃ a cap, v = .slice a l.length cap ∧ (a = none → cap = 0) ∧ (l.length ≤ cap ∧ cap ≤ maxLen) ∧ Ints w a l ∧ (∀ x, a = some x → base ≤ x.block ∧ x.block < w.heap.size ∧ x.off = 0 ∧ x.spot = none) := by
  obtain ⟨hl, hv⟩ := h
  rcases hv with ⟨rfl, hn⟩ | ⟨g, cap, cur, rfl, hb, hg, hnc, hcm, hcs, htk⟩
  · have h0 : l = [] := List.eq_nil_of_length_eq_zero hn
    subst h0
    exact ⟨none, 0, rfl, fun _ => rfl, by simp, ⟨by simp, .inl rfl⟩, fun x hx => by cases hx⟩
  · refine ⟨some ⟨g, 0, none⟩, cap, rfl, (fun hx => by cases hx), ⟨hnc, hcm⟩, ⟨by omega, .inr ⟨g, 0, rfl, fun i hi => ?_⟩⟩, ?_⟩
    · rw [Nat.zero_add, cell_row hg, ← Array.getElem?_toList]
      have h1 : (cur.toList.take (l.length * 1))[i]? = (l.map (Value.int .i64))[i]? := by rw [htk]
      rw [List.getElem?_take, if_pos (by omega), List.getElem?_map] at h1
      rw [h1, List.getD_eq_getElem?_getD, List.getElem?_eq_getElem hi]; rfl
    · intro x hx
      cases hx
      exact ⟨hb, (Array.getElem?_eq_some_iff.1 hg).1, rfl, rfl⟩
theorem OwnsI.form {w : World} {base : Nat} {v : Value} {l : List Int} (h : OwnsI w base v l) :
    ∃ a n cap, v = .slice a n cap ∧ Hid (l.length = n) ∧ Hid (a = none → cap = 0) ∧ n ≤ cap ∧ cap ≤ 9223372036854775807 ∧ Hid (Ints w a l) := by
  obtain ⟨a, cap, hv, hn, ⟨hl, hm⟩, hb, _⟩ := h.shape
  exact ⟨a, l.length, cap, hv, rfl, hn, hl, by simpa [maxLen] using hm, hb⟩
theorem OwnsI.below {w w' : World} {base : Nat} {v : Value} {l : List Int} (h : OwnsI w base v l) (hb : Below w.heap.size w w') : OwnsI w' base v l :=
  World.ownsRow.kept (row := none) h ⟨hb.os, hb.tape, hb.output, hb.size, fun k hk _ => hb.block k hk⟩ (by cases hv : v.ownBlock <;> simp)
theorem OwnsI.alloc {w : World} {base : Nat} {v : Value} {l : List Int} (h : OwnsI w base v l) (o : Obj) : OwnsI (w.alloc o) base v l := h.below ((Below.refl _ _).alloc (Nat.le_refl _) o)
/-- Where blocks below stay it stays. -/
theorem OwnsI.low {w : World} {base : Nat} {v : Value} {l : List Int} (h : OwnsI w base v l) {a : Addr} (ha : a.block < base) (u : Value) : OwnsI (w.setCell a u) base v l := ownsRow_setCell_below h ha u
theorem OwnsI.base {w : World} {base base' : Nat} {v : Value} {l : List Int} (h : OwnsI w base v l) (hB : base' ≤ base) : OwnsI w base' v l := by
  obtain ⟨hl, hv⟩ := h
  refine ⟨hl, ?_⟩
  rcases hv with ⟨rfl, hn⟩ | ⟨g, cap, cur, rfl, hb, hr⟩
  · exact .inl ⟨rfl, hn⟩
  · exact .inr ⟨g, cap, cur, rfl, by omega, hr⟩
theorem grownI_below {w w1 w2 : World} {base : Nat} {v : Value} {l : List Int} (hb : Below base w w1) (h : OwnsI w1 base v l) (hg : w1.grownBy w2 v.ownBlock) (hB : base ≤ w1.heap.size) : Below base w w2 :=
  hb.grown hg hB fun k hk => (World.ownsRow.lt h k hk).1

theorem Ints.lt {w : World} {x : Addr} {l : List Int} (hb : Ints w (some x) l) (h0 : l ≠ []) : x.block < w.heap.size := by
  rcases hb.2 with h1 | ⟨b, off, h1, hc⟩
  · exact absurd h1 h0
  · cases h1
    have hp : 0 < l.length := List.length_pos_iff.2 h0
    have := hc 0 hp
    simp only [World.cell?] at this
    show b < w.heap.size
    rcases Nat.lt_or_ge b w.heap.size with h2 | h2
    · exact h2
    · simp [Array.getElem?_eq_none h2] at this
theorem Ints.kept {w w' : World} {a : Option Addr} {l : List Int} (hb : Ints w a l) (h : Below w.heap.size w w') : Ints w' a l := by
  refine ⟨hb.1, ?_⟩
  rcases hb.2 with h0 | ⟨b, off, rfl, hc⟩
  · exact .inl h0
  · by_cases h0 : l = []
    · exact .inl h0
    · refine .inr ⟨b, off, rfl, fun i hi => ?_⟩
      rw [h.cell (p := ⟨b, off + i, none⟩) (hb.lt h0)]
      exact hc i hi
theorem ints_some {w : World} {a : Option Addr} {l : List Int} (hb : Ints w a l) (h : 0 < l.length) : ∃ b off, a = some ⟨b, off, none⟩ := by
  rcases hb.2 with rfl | ⟨b, off, h1, _⟩
  · simp at h
  · exact ⟨b, off, h1⟩
theorem Ints.cell {w : World} {b off : Nat} {l : List Int} (hb : Ints w (some ⟨b, off, none⟩) l) {i : Nat} (hi : i < l.length) : w.cell? ⟨b, off + i, none⟩ = some (.int .i64 (l.getD i 0)) := by
  rcases hb.2 with h | ⟨b', off', h, hc⟩
  · subst h; simp at hi
  · cases h
    exact hc i hi
theorem ints_news {w : World} {x : Addr} {l : List Int} (hb : Ints w (some x) l) : ∀ j u, (l.map (Value.int .i64))[j]? = some u → w.cell? (x.add j) = some u := by
  intro j u hu
  rcases hb.2 with rfl | ⟨b, off, hx, hc⟩
  · simp at hu
  · cases hx
    have hj : j < l.length := by
      have := (List.getElem?_eq_some_iff.1 hu).1
      simpa using this
    have h1 := hc j hj
    rw [List.getElem?_map, List.getElem?_eq_getElem hj] at hu
    simp only [Option.map_some, Option.some.injEq] at hu
    subst hu
    have e : (⟨b, off, none⟩ : Addr).add j = ⟨b, off + j, none⟩ := by
      by_cases h0 : j = 0
      · subst h0; simp [Addr.add]
      · simp [Addr.add, h0]
    rw [e, h1, List.getD_eq_getElem?_getD, List.getElem?_eq_getElem hj]; rfl
theorem ints_one (l : List Int) : ∀ u ∈ l.map (Value.int .i64), u.oneCell' = true := by
  intro u hu
  obtain ⟨c, _, rfl⟩ := List.mem_map.1 hu
  rfl
theorem one_int (w : World) (n : Int) : Ints (w.alloc (.cells #[.int .i64 n] 3)) (some ⟨w.heap.size, 0, none⟩) [n] := by
  refine ⟨by simp [maxLen], .inr ⟨_, _, rfl, ?_⟩⟩
  intro i hi
  rw [World.cell?_alloc_mark]
  match i, hi with
  | 0, _ => rfl

/-- 'append(v, x...)', v the call's own integers, x any integers. -/
theorem wpList_append_ints {w : World} {ops : Array Oper} {rest : List Oper} {o : Oper} {a : Act} {Q : Exit → Act → World → Prop} (hgd : o.guard = none) (s x : Operand)
    (ho : o.op = .call { callee := .builtin .append, args := #[s, x], argTypes := #[27, 27] })
    (base : Nat) (v : Value) (ys zs : List Int) (hs : a.eval s = v) (hown : OwnsI w base v ys)
    (ad : Option Addr) (m c : Nat) (hx : a.eval x = .slice ad m c) (hm : zs.length = m) (hn : ad = none → c = 0) (hb : Ints w ad zs)
    (hbytes : ys.length + zs.length ≤ 17592186044416) (hbase : base ≤ w.heap.size)
    (h : ∀ v' w', OwnsI w' base v' (ys ++ zs) → w.grownBy w' v.ownBlock → wpList Try.prog ops Q rest (a.put o.dst v') w') : wpList Try.prog ops Q (o :: rest) a w := by
  subst hm
  obtain ⟨i, hi, hz, hsz, hby⟩ := info_parts info3
  cases ad with
  | none =>
    have h0 : zs = [] := by
      rcases hb.2 with h0 | ⟨_, _, h0, _⟩
      · exact h0
      · cases h0
    subst h0
    rw [hn rfl] at hx
    refine wpList_append_own_none hgd s x 27 ho base 3 i 1 Try.underlying27 hi v ys.length _ hs hown hx ?_
    have := h v w (by simpa using hown) (World.grownBy.refl _ _)
    exact this
  | some ad =>
    refine wpList_append_own_wide w hgd s x 27 ho base 3 i (.int .i64 0) 1 8 Try.underlying27 hi hz hsz hby rfl (by decide) v ys.length _ hs hown ad zs.length c (zs.map (Value.int .i64)) hx (by simp) (ints_news hb) (ints_one zs) ?_ (by omega) hbase ?_
    · unfold maxLen; omega
    · intro v' w' ho' hg _
      refine h v' w' ?_ hg
      unfold OwnsI
      rw [List.length_append, List.map_append]
      exact ho'


/-- A row that has an element is written out. -/
theorem OwnsI.row {w : World} {base : Nat} {v : Value} {l : List Int} (h : OwnsI w base v l) (h0 : 0 < l.length) :
    ∃ g n cap, v = .slice (some ⟨g, 0, none⟩) n cap ∧ Hid (l.length = n) ∧ n ≤ cap ∧ cap ≤ 9223372036854775807 ∧ base ≤ g := by
  obtain ⟨hl, hv⟩ := h
  rcases hv with ⟨rfl, hn⟩ | ⟨g, cap, cur, rfl, hb, hg, hnc, hcm, hcs, htk⟩
  · omega
  · exact ⟨g, l.length, cap, rfl, rfl, hnc, by simpa [maxLen] using hcm, hb⟩
theorem OwnsI.len {w : World} {base n cap : Nat} {a : Option Addr} {l : List Int} (h : OwnsI w base (.slice a n cap) l) : l.length = n := by
  obtain ⟨hl, hv⟩ := h
  rcases hv with ⟨h1, h2⟩ | ⟨g', cap', cur, h1, _⟩
  · cases h1; exact h2
  · cases h1; rfl
theorem OwnsI.cell {w : World} {base g n cap : Nat} {l : List Int} (h : OwnsI w base (.slice (some ⟨g, 0, none⟩) n cap) l) {j : Nat} (hj : j < l.length) : w.cell? ⟨g, j, none⟩ = some (.int .i64 (l.getD j 0)) := by
  obtain rfl := h.len
  have h1 := World.ownsRow.cellAt h j (by omega)
  rw [h1, List.getElem?_map, List.getD_eq_getElem?_getD, List.getElem?_eq_getElem hj]; rfl
theorem OwnsI.frozen {w : World} {base g n cap : Nat} {l : List Int} (h : OwnsI w base (.slice (some ⟨g, 0, none⟩) n cap) l) (j : Nat) : w.frozen? ⟨g, j, none⟩ = false := by
  obtain rfl := h.len
  exact World.ownsRow.frozenAt h j
theorem OwnsI.store {w : World} {base g n cap : Nat} {l : List Int} (h : OwnsI w base (.slice (some ⟨g, 0, none⟩) n cap) l) (j : Nat) (c : Int) : OwnsI (w.setCell ⟨g, j, none⟩ (.int .i64 c)) base (.slice (some ⟨g, 0, none⟩) n cap) (l.set j c) := by
  obtain rfl := h.len
  have := (World.ownsRow.stored h j (.int .i64 c)).1
  rw [← List.map_set] at this
  unfold OwnsI
  rw [List.length_set]
  exact this
theorem OwnsI.ge {w : World} {base g n cap : Nat} {l : List Int} (h : OwnsI w base (.slice (some ⟨g, 0, none⟩) n cap) l) : base ≤ g ∧ g < w.heap.size := by
  obtain ⟨hl, hv⟩ := h
  rcases hv with ⟨h1, _⟩ | ⟨g', cap', cur, h1, hb, hg, _⟩
  · cases h1
  · cases h1
    exact ⟨hb, (Array.getElem?_eq_some_iff.1 hg).1⟩
/-- Its first elements. -/
theorem OwnsI.firsts {w : World} {base g n cap : Nat} {l : List Int} (h : OwnsI w base (.slice (some ⟨g, 0, none⟩) n cap) l) (k : Nat) (hk : k ≤ l.length) : OwnsI w base (.slice (some ⟨g, 0, none⟩) k cap) (l.take k) := by
  obtain ⟨hl, hv⟩ := h
  have e : (l.take k).length = k := by rw [List.length_take]; omega
  unfold OwnsI
  rw [e]
  refine ⟨by rw [List.length_map, e]; omega, ?_⟩
  rcases hv with ⟨h1, _⟩ | ⟨g', cap', cur, h1, hb, hg, hnc, hcm, hcs, htk⟩
  · cases h1
  · cases h1
    refine .inr ⟨g, cap, cur, rfl, hb, hg, by omega, hcm, hcs, ?_⟩
    rw [List.map_take, ← htk, List.take_take]
    congr 1
    omega
end Go.Proofs.Ytkealjaealeojab
namespace Go.Proofs.Ytkealjaealeojab
open Go.RowKit
set_option linter.unusedVariables false

/-- A node's cells lie at a place. -/
def Spot (w : World) (g o : Nat) (nb : Nb) : Prop := ∀ j, j < 9 → w.cell? ⟨g, o + j, none⟩ = nb.cells[j]?
theorem Spot.lt {w : World} {g o : Nat} {nb : Nb} (h : Spot w g o nb) : g < w.heap.size := some_block ((h 0 (by omega)).trans (List.getElem?_eq_getElem (by simp [Nb.cells])))
theorem Spot.kept {w w' : World} {g o : Nat} {nb : Nb} (h : Spot w g o nb) (hb : Below w.heap.size w w') : Spot w' g o nb := fun j hj => by
  rw [hb.cell (p := ⟨g, o + j, none⟩) h.lt]; exact h j hj
theorem NBox.spot {w : World} {g : Nat} {b : Nb} (h : NBox w g b) : Spot w g 0 b := fun j hj => by rw [Nat.zero_add]; exact h.cell j
theorem Spot.fields {w : World} {g o : Nat} {nb : Nb} (h : Spot w g o nb) :
    w.cell? ⟨g, o, none⟩ = some (.int .i64 nb.kind) ∧ w.cell? ⟨g, o + 1, none⟩ = some (.int .u64 nb.num) ∧ w.cell? ⟨g, o + 2, none⟩ = some (.bool nb.neg) ∧ w.cell? ⟨g, o + 3, none⟩ = some (.string nb.dig) ∧ w.cell? ⟨g, o + 4, none⟩ = some (.int .i64 nb.exp) ∧ w.cell? ⟨g, o + 5, none⟩ = some (.string nb.txt) ∧ w.cell? ⟨g, o + 6, none⟩ = some (.slice nb.ab nb.lb nb.cb) ∧ w.cell? ⟨g, o + 7, none⟩ = some (.slice nb.ak nb.lk nb.ck) ∧ w.cell? ⟨g, o + 8, none⟩ = some (.slice nb.ai nb.li nb.ci) :=
  ⟨h 0 (by omega), h 1 (by omega), h 2 (by omega), h 3 (by omega), h 4 (by omega), h 5 (by omega), h 6 (by omega), h 7 (by omega), h 8 (by omega)⟩

/-- A node's keys (true) or kids: where they lie, how many there are. -/
def Nb.sideA (b : Nb) (sd : Bool) : Option Addr := if sd then b.ak else b.ai
def Nb.sideL (b : Nb) (sd : Bool) : Nat := if sd then b.lk else b.li
def Nb.sideC (b : Nb) (sd : Bool) : Nat := if sd then b.ck else b.ci
theorem Nd.side {D : Nat} {w : World} {b : Nb} {t : Tr} (h : Nd (D + 1) w b t) (sd : Bool) : RowN (Nd D w) w (b.sideA sd) (b.sideL sd) (b.sideC sd) (t.side sd) := by
  cases sd with
  | true => exact h.2.2.2.1
  | false => exact h.2.2.2.2

theorem way_yes {D : Nat} {w : World} {b : Nb} {t : Tr} (h : Nd (D + 1) w b t) {k : Int} {i : Nat} {sd : Bool} (hw : t.way k = some (i, sd)) : 0 ≤ k ∧ wthn b k = (.slice (b.sideA sd) (b.sideL sd) (b.sideC sd), (i : Int)) ∧ i < b.sideL sd := by
  have hk : b.kind = t.kind := h.1.1
  have hlk : t.keys.length = b.lk := h.2.2.2.1.1
  have hli : t.kids.length = b.li := h.2.2.2.2.1
  unfold Tr.way at hw
  split at hw
  · cases hw
  rename_i h0
  have h0' : 0 ≤ k := by omega
  refine ⟨h0', ?_⟩
  unfold wthn
  rw [hk, Int.tmod_eq_emod_of_nonneg h0', Int.tdiv_eq_ediv_of_nonneg h0']
  split at hw
  · rename_i h8
    rw [if_neg (by omega), if_pos h8]
    split at hw
    · rename_i h2
      rw [if_pos h2]
      split at hw
      · rename_i h3
        cases hw
        exact ⟨by simp only [Nb.sideA, Nb.sideL, Nb.sideC, if_true, Prod.mk.injEq, true_and]; omega, by simp only [Nb.sideL, if_true]; omega⟩
      · cases hw
    · rename_i h2
      rw [if_neg h2]
      split at hw
      · rename_i h3
        cases hw
        exact ⟨by simp only [Nb.sideA, Nb.sideL, Nb.sideC, Bool.false_eq_true, if_false, Prod.mk.injEq, true_and]; omega, by simp only [Nb.sideL, Bool.false_eq_true, if_false]; omega⟩
      · cases hw
  · split at hw
    · rename_i h7
      rw [if_pos h7]
      split at hw
      · rename_i h3
        cases hw
        exact ⟨by simp only [Nb.sideA, Nb.sideL, Nb.sideC, Bool.false_eq_true, if_false, Prod.mk.injEq, true_and]; omega, by simp only [Nb.sideL, Bool.false_eq_true, if_false]; omega⟩
      · cases hw
    · cases hw

theorem way_no {D : Nat} {w : World} {b : Nb} {t : Tr} (h : Nd (D + 1) w b t) {k : Int} (hw : t.way k = none) (h0 : 0 ≤ k) : ∃ a n c, (wthn b k).1 = .slice a n c ∧ (n : Int) ≤ (wthn b k).2 ∧ n ≤ c ∧ c ≤ 9223372036854775807 := by
  have hk : b.kind = t.kind := h.1.1
  have hlk : t.keys.length = b.lk := h.2.2.2.1.1
  have hli : t.kids.length = b.li := h.2.2.2.2.1
  have rk := h.2.2.2.1.2.1
  have ri := h.2.2.2.2.2.1
  unfold Room maxLen at rk ri
  unfold Tr.way at hw
  rw [if_neg (by omega)] at hw
  unfold wthn
  rw [hk, Int.tmod_eq_emod_of_nonneg h0, Int.tdiv_eq_ediv_of_nonneg h0]
  split at hw
  · rename_i h8
    rw [if_neg (by omega), if_pos h8]
    split at hw
    · rename_i h2
      rw [if_pos h2]
      split at hw
      · cases hw
      · exact ⟨_, _, _, rfl, by simp only; omega, rk.1, by omega⟩
    · rename_i h2
      rw [if_neg h2]
      split at hw
      · cases hw
      · exact ⟨_, _, _, rfl, by simp only; omega, ri.1, by omega⟩
  · rename_i h8
    split at hw
    · rename_i h7
      rw [if_pos h7]
      split at hw
      · cases hw
      · exact ⟨_, _, _, rfl, by simp only; omega, ri.1, by omega⟩
    · rename_i h7
      rw [if_neg h7, if_neg h8]
      exact ⟨none, 0, 0, rfl, by simp, Nat.le_refl _, by omega⟩

/-- A PATH LEADS from the place (g0, o0), where the tree t stands, to (g, o). -/
def LeadAt (w : World) (g o : Nat) : List Int → Nat → Nat → Tr → Prop
  | [], g0, o0, _ => g = g0 ∧ o = o0
  | k :: p, g0, o0, t => ∃ (nb : Nb) (i : Nat) (sd : Bool) (bk ok : Nat) (u : Tr), Spot w g0 o0 nb ∧ t.way k = some (i, sd) ∧ nb.sideA sd = some ⟨bk, ok, none⟩ ∧ (t.side sd)[i]? = some u ∧ LeadAt w g o p bk (ok + i * 9) u
theorem LeadAt.snoc {w : World} {k : Int} {i bk ok : Nat} {sd : Bool} {nb : Nb} {u v : Tr} : ∀ (p : List Int) {g o g0 o0 : Nat} {t : Tr}, LeadAt w g o p g0 o0 t → t.find p = some u → Spot w g o nb → u.way k = some (i, sd) → nb.sideA sd = some ⟨bk, ok, none⟩ → (u.side sd)[i]? = some v → LeadAt w bk (ok + i * 9) (p ++ [k]) g0 o0 t := by
  intro p
  induction p with
  | nil =>
    intro g o g0 o0 t h hf hs hw ha hv
    obtain ⟨rfl, rfl⟩ := h
    rw [Tr.find_nil] at hf
    cases hf
    exact ⟨nb, i, sd, bk, ok, v, hs, hw, ha, hv, rfl, rfl⟩
  | cons k' p ih =>
    intro g o g0 o0 t h hf hs hw ha hv
    obtain ⟨nb', i', sd', bk', ok', u', hs', hw', ha', hu', hl⟩ := h
    rw [Tr.find_some hw' hu'] at hf
    exact ⟨nb', i', sd', bk', ok', u', hs', hw', ha', hu', ih hl hf hs hw ha hv⟩

theorem find_snoc {t u : Tr} : ∀ (p : List Int) (q : List Int) {t u : Tr}, t.find p = some u → t.find (p ++ q) = u.find q := by
  intro p
  induction p with
  | nil => intro q t u h; rw [Tr.find_nil] at h; cases h; rfl
  | cons k p ih =>
    intro q t u h
    cases hw : t.way k with
    | none => rw [Tr.find_none hw] at h; cases h
    | some ib =>
      obtain ⟨i, b⟩ := ib
      have hu : (t.side b)[i]? = some ((t.side b).get ⟨i, Tr.way_lt hw⟩) := List.getElem?_eq_getElem (Tr.way_lt hw)
      rw [Tr.find_some hw hu] at h
      rw [List.cons_append, Tr.find_some hw hu]
      exact ih q h

/-- What tree.find answers. -/
def FindIs (D : Nat) (w : World) (g0 o0 : Nat) (t : Tr) (ps : List Int) (v : Value) : Prop :=
  match t.find ps with
  | none => v = .pointer none
  | some u => ∃ g o nb, v = .pointer (some ⟨g, o, none⟩) ∧ Spot w g o nb ∧ Nd D w nb u ∧ LeadAt w g o ps g0 o0 t
set_option maxHeartbeats 4000000 in
set_option maxRecDepth 100000 in
theorem gfind_any {D : Nat} (g0 o0 : Nat) (nb0 : Nb) (t : Tr) (pa : Option Addr) (np cp : Nat) (ps : List Int) (w : World) (hs : Spot w g0 o0 nb0) (hN : Nd D w nb0 t) (hp : ps.length = np) (hi : Ints w pa ps) (hcp : np ≤ cp) (hr : ∀ k ∈ ps, -9223372036854775808 ≤ k ∧ k ≤ 9223372036854775807) (hnp : np ≤ 4611686018427387904) :
    Calls Try.prog 17 #[.pointer (some ⟨g0, o0, none⟩), .slice pa np cp] w fun e w' => (∃ v, e = .returned v ∧ FindIs D w g0 o0 t ps v) ∧ Below w.heap.size w w' := by
  have hP : Hid (ps.length = np) := hp
  have hI : Hid (Ints w pa ps) := hi
  have hR : Hid (∀ k ∈ ps, -9223372036854775808 ≤ k ∧ k ≤ 9223372036854775807) := hr
  have hS0 : Hid (Spot w g0 o0 nb0 ∧ Nd D w nb0 t) := ⟨hs, hN⟩
  clear hp hi hr hs hN
  go_enter Try.func17, Try.ntmps17
  go_wp2
  go_loopw [0, 6, 7, 8, 11] (fun s0 _ _ _ s11 wr => ∃ (i g o : Nat) (nb : Nb) (t' : Tr), i ≤ np ∧ s0 = .pointer (some ⟨g, o, none⟩) ∧ s11 = .int .i64 i ∧ Hid (Below w.heap.size w wr) ∧ Hid (Spot w g o nb ∧ Nd D w nb t') ∧ Hid (LeadAt w g o (ps.take i) g0 o0 t ∧ t.find (ps.take i) = some t')) (fun _ _ _ _ i _ => np - (intOf i).toNat)
  case atStart => exact ⟨0, g0, o0, nb0, t, Nat.zero_le _, rfl, rfl, Below.refl _ _, hS0, ⟨⟨rfl, rfl⟩, rfl⟩⟩
  case round =>
    obtain ⟨i, g, o, nb, t', him, rfl, rfl, hbl, hS, hL⟩ := hrel
    by_cases hlt : i < np
    · have hz : (i : Int) < (np : Int) := by omega
      have hip : i < ps.length := by rw [hP.out]; exact hlt
      obtain ⟨pb, po, rfl, hpc⟩ : ∃ pb po, pa = some ⟨pb, po, none⟩ ∧ wr.cell? ⟨pb, po + i, none⟩ = some (.int .i64 (ps.getD i 0)) := by
        have h1 := hI.out.kept hbl.out
        rcases hI.out.2 with h2 | ⟨pb, po, h2, _⟩
        · rw [h2] at hip; cases hip
        · rw [h2] at h1
          exact ⟨pb, po, h2, h1.cell hip⟩
      have hgd : ps.getD i 0 = ps[i] := by rw [List.getD_eq_getElem?_getD, List.getElem?_eq_getElem hip]; rfl
      rw [hgd] at hpc
      have hkr := hR.out _ (List.getElem_mem hip)
      have htk : Hid (ps.take (i + 1) = ps.take i ++ [ps[i]]) := List.take_succ_eq_append_getElem hip
      have hsp : Hid (ps = ps.take i ++ (ps[i] :: ps.drop (i + 1))) := by
        show _ = _
        rw [← List.drop_eq_getElem_cons hip, List.take_append_drop]
      have hfs : Hid (t.find ps = t'.find (ps[i] :: ps.drop (i + 1))) := by
        show _ = _
        exact (congrArg t.find hsp.out).trans (find_snoc (t := t) (u := t') (ps.take i) (ps[i] :: ps.drop (i + 1)) hL.out.2)
      generalize ps[i] = k at *
      obtain ⟨f0, f1, f2, f3, f4, f5, f6, f7, f8⟩ := (hS.out.1.kept hbl.out).fields
      have kw := within_any nb k hkr wr
      have wi : IntKind.i64.wrap ((i : Int) + 1) = (i : Int) + 1 := by rw [IntKind.wrap_i64]; omega
      cases D with
      | zero => exact absurd hS.out.2 id
      | succ D =>
      have hNone : t'.way k = none → Hid (FindIs (D + 1) w g0 o0 t ps (.pointer none)) := fun hw => by
        show FindIs _ _ _ _ _ _ _
        unfold FindIs
        rw [hfs.out, Tr.find_none hw]
      by_cases hk0 : k < 0
      · have hw : t'.way k = none := by unfold Tr.way; rw [if_pos hk0]
        have hfin := hNone hw
        obtain ⟨a', n', c', j', hx, hn', hc'⟩ : ∃ a n c j, wthn nb k = (.slice a n c, j) ∧ n ≤ c ∧ c ≤ 9223372036854775807 := by
          have rk := hS.out.2.2.2.2.1.2.1
          have ri := hS.out.2.2.2.2.2.2.1
          unfold Room maxLen at rk ri
          unfold wthn
          split
          · exact ⟨_, _, _, _, rfl, ri.1, by omega⟩
          · split
            · split
              · exact ⟨_, _, _, _, rfl, rk.1, by omega⟩
              · exact ⟨_, _, _, _, rfl, ri.1, by omega⟩
            · exact ⟨_, _, _, _, rfl, Nat.le_refl _, by omega⟩
        rw [hx] at kw
        clear hNone hw hx hgd
        go_wp2_with (go_at_call 30; refine kw.mono ?_; rintro e w1 ⟨rfl, hb1⟩)
        go_ret
        exact ⟨⟨_, rfl, hfin.out⟩, hbl.out.trans (hb1.mono hbl.out.size)⟩
      · cases hw : t'.way k with
        | none =>
          have hfin := hNone hw
          obtain ⟨a', n', c', hx, hj, hn', hc'⟩ := way_no hS.out.2 hw (by omega)
          have hj' : decide ((n' : Int) ≤ (wthn nb k).2) = true := decide_eq_true hj
          rw [hx] at kw
          generalize (wthn nb k).2 = j' at *
          have hk' : decide (k < 0) = false := decide_eq_false hk0
          clear hNone hw hx hgd hj
          go_wp2_with (go_at_call 30; refine kw.mono ?_; rintro e w1 ⟨rfl, hb1⟩)
          go_ret
          exact ⟨⟨_, rfl, hfin.out⟩, hbl.out.trans (hb1.mono hbl.out.size)⟩
        | some ib =>
          obtain ⟨j, sd⟩ := ib
          obtain ⟨h0, hx, hj⟩ := way_yes hS.out.2 hw
          have hrow := hS.out.2.side sd
          have hlen : (t'.side sd).length = nb.sideL sd := hrow.1
          have hcap := hrow.2.1.1
          have hcap' := hrow.2.1.2.1
          unfold maxLen at hcap'
          have hjl : j < (t'.side sd).length := by rw [hlen]; exact hj
          obtain ⟨bk, ok, nk, hak, hck, hNk, hbk⟩ := row_el hrow (Below.refl _ _) hjl
          have hu : (t'.side sd)[j]? = some (t'.side sd)[j] := List.getElem?_eq_getElem hjl
          have hS' : Hid (Spot w bk (ok + j * 9) nk ∧ Nd (D + 1) w nk (t'.side sd)[j]) := ⟨fun q hq => by rw [Nat.add_assoc]; exact hck q hq, nd_succ _ hNk⟩
          have hL' : Hid (LeadAt w bk (ok + j * 9) (ps.take (i + 1)) g0 o0 t ∧ t.find (ps.take (i + 1)) = some (t'.side sd)[j]) := by
            show _ ∧ _
            rw [htk.out]
            refine ⟨LeadAt.snoc _ hL.out.1 hL.out.2 hS.out.1 hw hak hu, ?_⟩
            rw [find_snoc (t := t) (u := t') _ _ hL.out.2, Tr.find_some hw hu, Tr.find_nil]
          rw [hx, hak] at kw
          have hjz : ¬ ((nb.sideL sd : Nat) : Int) ≤ (j : Int) := by omega
          have hjd : decide (((nb.sideL sd : Nat) : Int) ≤ (j : Int)) = false := decide_eq_false hjz
          have hk' : decide (k < 0) = false := decide_eq_false hk0
          have hjn : (j : Int) < ((nb.sideL sd : Nat) : Int) := by omega
          generalize (t'.side sd)[j] = u at *
          generalize nb.sideL sd = L at *
          generalize nb.sideC sd = C at *
          clear hNone hw hx hgd hjz hrow hlen hjl hak hck hNk hbk hu
          go_wp2_with (go_at_call 30; refine kw.mono ?_; rintro e w1 ⟨rfl, hb1⟩)
          go_roundw
          case rel => exact ⟨i + 1, bk, ok + j * 9, nk, u, by omega, rfl, by go_num, hbl.out.trans (hb1.mono hbl.out.size), hS', hL'⟩
          case measure => simp [intOf]; omega
    · have hz : ¬ (i : Int) < (np : Int) := by omega
      have hfin : Hid (FindIs D w g0 o0 t ps (.pointer (some ⟨g, o, none⟩))) := by
        show FindIs _ _ _ _ _ _ _
        have h1 := hL.out
        rw [List.take_of_length_le (by rw [hP.out]; omega)] at h1
        unfold FindIs
        rw [h1.2]
        exact ⟨g, o, nb, rfl, hS.out.1, hS.out.2, h1.1⟩
      go_wp2
      go_ret
      exact ⟨⟨_, rfl, hfin.out⟩, hbl.out⟩
end Go.Proofs.Ytkealjaealeojab
namespace Go.Proofs.Ytkealjaealeojab
open Go.RowKit
set_option linter.unusedVariables false

theorem ok_inj {α : Type} {v v' : α} {w w' : World} (h : (Result.ok v w : Result α) = .ok v' w') : v = v' := by cases h; rfl
section
variable {tn : TypeId}
/-- 'append(v, x...)' of at least one node. -/
theorem wpList_append_new {P : Program} {tk : TypeId} (hk : P.underlying tk = some (.slice tn))
    (hi : (P.info? tn).map (fun i => (i.zero, i.size, i.bytes)) = some (some (.agg #[.int .i64 0, .int .u64 0, .bool false, .string ⟨#[]⟩, .int .i64 0, .string ⟨#[]⟩, .slice none 0 0, .slice none 0 0, .slice none 0 0]), 9, 136))
    {w : World} {ops : Array Oper} {rest : List Oper} {o : Oper} {a : Act} {Q : Exit → Act → World → Prop} (hgd : o.guard = none) (s x : Operand)
    (ho : o.op = .call { callee := .builtin .append, args := #[s, x], argTypes := #[tk, tk] })
    (base : Nat) (v : Value) (ys zs : List Nb) (hs : a.eval s = v) (hown : OwnsN tn w base v ys)
    (ad : Addr) (m c : Nat) (hx : a.eval x = .slice (some ad) m c) (hm : zs.length = m) (hm0 : 0 < m) (hb : Nine w (some ad) zs)
    (hbytes : ys.length + zs.length ≤ 1000000000) (hbase : base ≤ w.heap.size)
    (h : ∀ v' w', OwnsN tn w' base v' (ys ++ zs) → w.grownBy w' v.ownBlock → (∀ g, v'.ownBlock = some g → v.ownBlock = some g ∨ w.heap.size ≤ g) → wpList P ops Q rest (a.put o.dst v') w') : wpList P ops Q (o :: rest) a w := by
  subst hm
  obtain ⟨i, hi, hz, hsz, hby⟩ := info_parts hi
  obtain ⟨v', w', hr, h2, h3, _⟩ := run_append_own_wide (P := P) w base tk o.type tn i _ 9 136 hk hi hz hsz hby rfl (by decide) v ys.length _ hown ad zs.length c (Cs zs) (cs_len zs) hb.news (cs_one zs) (by unfold maxLen; omega) (by omega) hbase
  have hnew : ∀ g, v'.ownBlock = some g → v.ownBlock = some g ∨ w.heap.size ≤ g := by
    have hl : (Cs zs).length = zs.length * i.size := by rw [hsz]; exact cs_len zs
    rcases hown.2 with ⟨rfl, hn⟩ | ⟨g, cap, cur, rfl, hbg, hg, hnc, hcm, hcs, htake⟩
    · have hr2 := run_append_nil (P := P) w tk o.type tn i _ hk hi hz ad zs.length c (Cs zs) hl hb.news hm0 (by omega) (by rw [hby]; omega)
      have e := ok_inj (hr.symm.trans hr2)
      subst e
      intro g hg
      simp [Value.ownBlock] at hg
      exact .inr (by omega)
    · by_cases hroom : ys.length + zs.length ≤ cap
      · have hr2 := run_append_room (P := P) w tk o.type tn i hk hi g ys.length cap cur hg ad zs.length c (Cs zs) hl hb.news (cs_one zs) hroom (by rw [hl, hsz, hcs, ← Nat.add_mul]; exact Nat.mul_le_mul_right _ hroom)
        have e := ok_inj (hr.symm.trans hr2)
        subst e
        intro g' hg'
        exact .inl hg'
      · have hr2 := run_append_grow (P := P) w tk o.type tn i _ hk hi hz ⟨g, 0, none⟩ ys.length cap (Cs ys) (by rw [hsz]; exact cs_len ys) (World.ownsRow.cells hown (g := g) rfl) ad zs.length c (Cs zs) hl hb.news (by omega) (by omega) (by rw [hby]; exact growslice_fits_wide (by omega) (by omega))
        have e := ok_inj (hr.symm.trans hr2)
        subst e
        intro g' hg'
        simp [Value.ownBlock] at hg'
        exact .inr (by omega)
  refine wpList_plain hgd fun K hK => ?_
  unfold Oper.wp
  simp [execOp, ho, resolve, invoke, builtin, hs, hx, hr, Result.andThen]
  refine hK _ _ (h v' w' ?_ h3 hnew)
  unfold OwnsN
  rw [List.length_append, cs_app]
  exact h2
end
theorem infoN : (Try.prog.info? 26).map (fun i => (i.zero, i.size, i.bytes)) = some (some (.agg #[.int .i64 0, .int .u64 0, .bool false, .string ⟨#[]⟩, .int .i64 0, .string ⟨#[]⟩, .slice none 0 0, .slice none 0 0, .slice none 0 0]), 9, 136) := by kernel_rfl
end Go.Proofs.Ytkealjaealeojab
namespace Go.Proofs.Ytkealjaealeojab
open Go.RowKit
set_option linter.unusedVariables false

/-- A ROW OF TREES IN NEW MEMORY, each in blocks of its own: its blocks are f. -/
def FreshR (B D : Nat) (w : World) (a : Option Addr) (n c : Nat) (l : List Tr) (f : List Nat) : Prop :=
  RowN (NdS (· ∈ f) D w) w a n c l ∧ In (· ∈ f) a n ∧ FrR 26 (FrD 26 D w) w a n f ∧ f.Nodup ∧ ∀ k ∈ f, B ≤ k ∧ k < w.heap.size
/-- A TREE IN NEW MEMORY. -/
def Fresh (B D : Nat) (w : World) (b : Nb) (t : Tr) (f : List Nat) : Prop :=
  NdS (· ∈ f) D w b t ∧ FrD 26 D w b f ∧ f.Nodup ∧ ∀ k ∈ f, B ≤ k ∧ k < w.heap.size
theorem Fresh.kept {B D : Nat} {w w' : World} {b : Nb} {t : Tr} {f : List Nat} (h : Fresh B D w b t f) (hb : Below w.heap.size w w') : Fresh B D w' b t f :=
  ⟨h.1.below hb fun k hk => (h.2.2.2 k hk).2, h.2.1.stays fun k hk => hb.block k (h.2.2.2 k hk).2, h.2.2.1, fun k hk => ⟨(h.2.2.2 k hk).1, Nat.lt_of_lt_of_le (h.2.2.2 k hk).2 hb.size⟩⟩
theorem FreshR.kept {B D : Nat} {w w' : World} {a : Option Addr} {n c : Nat} {l : List Tr} {f : List Nat} (h : FreshR B D w a n c l f) (hb : Below w.heap.size w w') : FreshR B D w' a n c l f :=
  ⟨h.1.stays h.2.1 (fun k hk => hb.block k (h.2.2.2.2 k hk).2) fun _ _ _ q => q.below hb fun k hk => (h.2.2.2.2 k hk).2, h.2.1, h.2.2.1.stays (fun k hk => hb.block k (h.2.2.2.2 k hk).2) fun _ e he q => q.stays fun k hk => hb.block k (h.2.2.2.2 k (he k hk)).2, h.2.2.2.1, fun k hk => ⟨(h.2.2.2.2 k hk).1, Nat.lt_of_lt_of_le (h.2.2.2.2 k hk).2 hb.size⟩⟩

def CloneAt (D : Nat) : Prop := ∀ (t : Tr) (b : Nb) (w : World), Nd D w b t → t.size ≤ 1000000 → Calls Try.prog 18 #[.agg b.arr] w fun e w' => (∃ b' f, e = .returned (.agg b'.arr) ∧ Fresh w.heap.size D w' b' t f) ∧ Below w.heap.size w w'
def ClAllAt (D : Nat) : Prop := ∀ (a : Option Addr) (n c : Nat) (l : List Tr) (w : World), RowN (Nd D w) w a n c l → Tr.sizes l ≤ 1000000 → Calls Try.prog 32 #[.slice a n c] w fun e w' => (∃ a' c' f, e = .returned (.slice a' n c') ∧ FreshR w.heap.size D w' a' n c' l f) ∧ Below w.heap.size w w'

/-- What has been cloned so far. -/
def ClSt (B D : Nat) (w : World) (v : Value) (l : List Tr) (bs : List Nb) (fs : List (List Nat)) : Prop :=
  OwnsN 26 w B v bs ∧ bs.length = fs.length ∧ bs.length = l.length ∧ (∀ j (h : j < bs.length) (h2 : j < fs.length) (h3 : j < l.length), NdS (· ∈ fs[j]) D w bs[j] l[j] ∧ FrD 26 D w bs[j] fs[j]) ∧ fs.flatten.Nodup ∧ ∀ k ∈ fs.flatten, B ≤ k ∧ k < w.heap.size ∧ v.ownBlock ≠ some k
theorem clSt_nil (B D : Nat) (w : World) : ClSt B D w (.slice none 0 0) [] [] [] := ⟨ownsN_nil _ _, rfl, rfl, (fun j h => by cases h), by simp, (fun k hk => by simp at hk)⟩
theorem ClSt.next {B D B2 : Nat} {w w2 w3 w4 : World} {v v' : Value} {l : List Tr} {bs : List Nb} {fs : List (List Nat)} {x : Tr} {nb : Nb} {f : List Nat} (h : ClSt B D w v l bs fs) (hw2 : Below w.heap.size w w2) (hF : Fresh B2 D w2 nb x f) (hB : B ≤ w.heap.size) (hB2 : w.heap.size ≤ B2)
    (hw3 : Below w2.heap.size w2 w3) (ho : OwnsN 26 w4 B v' (bs ++ [nb])) (hg : w3.grownBy w4 v.ownBlock) (hn : ∀ g, v'.ownBlock = some g → v.ownBlock = some g ∨ w3.heap.size ≤ g) : ClSt B D w4 v' (l ++ [x]) (bs ++ [nb]) (fs ++ [f]) := by
  obtain ⟨h0, h1, h2, h3, h4, h5⟩ := h
  have hlt := fun g => World.ownsRow.lt h0 g
  have old : ∀ k, k < w.heap.size → v.ownBlock ≠ some k → w4.heap[k]? = w.heap[k]? := fun k hk hne => by
    rw [hg.block k (Nat.lt_of_lt_of_le hk (Nat.le_trans hw2.size hw3.size)) (fun e => hne e.symm), hw3.block k (Nat.lt_of_lt_of_le hk hw2.size), hw2.block k hk]
  have new : ∀ k, k ∈ f → w4.heap[k]? = w2.heap[k]? := fun k hk => by
    have hk' := hF.2.2.2 k hk
    rw [hg.block k (Nat.lt_of_lt_of_le hk'.2 hw3.size) (fun e => by have := (hlt k e.symm).2; omega), hw3.block k hk'.2]
  have hsz : w2.heap.size ≤ w4.heap.size := Nat.le_trans hw3.size hg.size
  refine ⟨ho, by simp [h1], by simp [h2], fun j hj hj2 hj3 => ?_, ?_, fun k hk => ?_⟩
  · by_cases hjl : j < bs.length
    · rw [List.getElem_append_left hjl, List.getElem_append_left (by omega), List.getElem_append_left (by omega)]
      have hq := h3 j hjl (by omega) (by omega)
      have hm : ∀ k, k ∈ fs[j]'(by omega) → k ∈ fs.flatten := fun k hk => List.mem_flatten.2 ⟨_, List.getElem_mem _, hk⟩
      exact ⟨hq.1.stays fun k hk => old k (h5 k (hm k hk)).2.1 (h5 k (hm k hk)).2.2, hq.2.stays fun k hk => old k (h5 k (hm k hk)).2.1 (h5 k (hm k hk)).2.2⟩
    · have e : j = bs.length := by simp at hj; omega
      subst e
      rw [List.getElem_append_right (Nat.le_refl _), List.getElem_append_right (by omega), List.getElem_append_right (by omega)]
      simp only [h1, h2 ▸ h1, Nat.sub_self]
      simp only [List.getElem_cons_zero]
      exact ⟨hF.1.stays new, hF.2.1.stays new⟩
  · rw [List.flatten_append, List.flatten_cons, List.flatten_nil, List.append_nil]
    refine List.nodup_append.2 ⟨h4, hF.2.2.1, fun x hx y hy e => ?_⟩
    subst e
    have := (h5 x hx).2.1
    have := (hF.2.2.2 x hy).1
    omega
  · rw [List.flatten_append, List.flatten_cons, List.flatten_nil, List.append_nil, List.mem_append] at hk
    rcases hk with hk | hk
    · have h6 := h5 k hk
      refine ⟨h6.1, by have := hw2.size; omega, fun e => ?_⟩
      rcases hn k e with e | e
      · exact h6.2.2 e
      · have := hw3.size; have := hw2.size; omega
    · have h6 := hF.2.2.2 k hk
      refine ⟨by omega, by omega, fun e => ?_⟩
      rcases hn k e with e | e
      · have := (hlt k e).2; omega
      · have := hw3.size; omega
/-- All have been cloned. -/
theorem ClSt.fin {B D : Nat} {w : World} {v : Value} {l : List Tr} {bs : List Nb} {fs : List (List Nat)} (h : ClSt B D w v l bs fs) (hn : l.length ≤ 1000000) : ∃ a c f, v = .slice a l.length c ∧ FreshR B D w a l.length c l f := by
  obtain ⟨h0, h1, h2, h3, h4, h5⟩ := h
  obtain ⟨a, c, hv, hc, hnine, hnew⟩ := h0.shape
  obtain ⟨hl, hq⟩ := h0
  rcases hq with ⟨rfl, hn0⟩ | ⟨g, cap, cur, rfl, hb, hg, hnc, hcm, hcs, htk⟩
  · have hb0 : bs = [] := List.eq_nil_of_length_eq_zero hn0
    have hl0 : l = [] := List.eq_nil_of_length_eq_zero (by rw [← h2, hb0]; rfl)
    subst hl0
    refine ⟨none, 0, [], rfl, ⟨rfl, ⟨Nat.le_refl _, Nat.zero_le _, fun _ => rfl, by simp⟩, .inl rfl⟩, (fun h => by cases h), .inl ⟨rfl, rfl⟩, by simp, (fun k hk => by cases hk)⟩
  · refine ⟨some ⟨g, 0, none⟩, cap, g :: fs.flatten, by rw [h2], ?_, fun _ x hx => by cases hx; exact List.mem_cons_self, ?_, ?_, fun k hk => ?_⟩
    · have ha : a = some ⟨g, 0, none⟩ := by simp at hv; exact hv.1.symm
      rw [ha] at hnine
      refine rowN_of hnine h2 rfl ⟨by omega, hcm, fun h => (by cases h), by omega⟩ fun i hi hi2 => ?_
      exact (h3 i hi (by omega) hi2).1.mono fun k hk => List.mem_cons_of_mem _ (List.mem_flatten.2 ⟨_, List.getElem_mem (by omega), hk⟩)
    · refine .inr ⟨g, cur, fs, rfl, rfl, hg, by rw [hcs]; omega, by omega, fun i hi => ⟨bs[i]'(by omega), fun j hj => ?_, (h3 i (by omega) hi (by omega)).2⟩⟩
      rw [← Array.getElem?_toList, ← cs_get bs (by omega) hj, ← htk, List.getElem?_take, if_pos (by omega)]
    · refine List.nodup_cons.2 ⟨fun hm => (h5 g hm).2.2 rfl, h4⟩
    · rcases List.mem_cons.1 hk with rfl | hk
      · exact ⟨hb, (Array.getElem?_eq_some_iff.1 hg).1⟩
      · exact ⟨(h5 k hk).1, (h5 k hk).2.1⟩
theorem nine_one (w : World) (nb : Nb) : Nine (w.alloc (.cells nb.arr 26)) (some ⟨w.heap.size, 0, none⟩) [nb] := by
  refine .inr ⟨w.heap.size, 0, rfl, fun i hi j hj => ?_⟩
  have e : i = 0 := by simp at hi; omega
  subst e
  rw [Nat.zero_add, Nat.zero_mul, Nat.zero_add]
  exact (nbox_new w nb).cell j

set_option maxHeartbeats 800000 in
set_option maxRecDepth 100000 in
theorem clall_step {D : Nat} (ih : CloneAt D) : ClAllAt D := by
  intro a n c l w hl hsz
  have hx : Hid (l.length = n) := hl.1
  have mk := hl.2.1.1
  have mk' := hl.2.1.2.1
  unfold maxLen at mk'
  have hA : Hid (RowN (Nd D w) w a n c l) := hl
  have hS : Hid (Tr.sizes l ≤ 1000000) := hsz
  have hn : Hid (l.length ≤ 1000000) := Nat.le_trans (Tr.length_le l) hsz
  clear hl hsz
  go_enter Try.func32, Try.ntmps32
  go_wp2
  go_loopw [3, 5, 8] (fun s3 _ s8 wr => ∃ (i : Nat) (v : Value) (bs : List Nb) (fs : List (List Nat)), i ≤ n ∧ s3 = v ∧ s8 = .int .i64 i ∧ Hid (Below w.heap.size w wr) ∧ Hid (ClSt w.heap.size D wr v (l.take i) bs fs)) (fun _ _ i _ => n - (intOf i).toNat)
  case atStart => exact ⟨0, _, [], [], Nat.zero_le _, rfl, rfl, Below.refl _ _, clSt_nil _ _ _⟩
  case round =>
    obtain ⟨i, v, bs, fs, him, rfl, rfl, hbl, hC⟩ := hrel
    by_cases hlt : i < n
    · have hz : (i : Int) < (n : Int) := by omega
      have hix : i < l.length := by rw [hx.out]; exact hlt
      obtain ⟨bk, ok, nk, rfl, hck, hNk, hbk⟩ := row_el hA.out hbl.out hix
      obtain ⟨f0, f1, f2, f3, f4, f5, f6, f7, f8⟩ := elem_fields hck
      have hal := alloc_below wr (.cells nk.arr 26)
      have hB : Hid (Below wr.heap.size wr (wr.alloc (.cells nk.arr 26))) := hal
      have kk := ih l[i] nk (wr.alloc (.cells nk.arr 26)) (hNk.kept hal) (Nat.le_trans (Tr.size_le (List.getElem_mem hix)) hS.out)
      have wi : IntKind.i64.wrap ((i : Int) + 1) = (i : Int) + 1 := by rw [IntKind.wrap_i64]; omega
      have htk : Hid (l.take (i + 1) = l.take i ++ [l[i]]) := List.take_succ_eq_append_getElem hix
      have hbl' : Hid (bs.length ≤ 1000000) := by show _ ≤ _; rw [hC.out.2.2.1, List.length_take]; have := hn.out; omega
      generalize l[i] = x at *
      clear hck hNk hbk hal
      go_wp2_with (first
        | (go_at_call 18; refine kk.mono ?_; rintro e w2 ⟨⟨b', f, he, hF⟩, hb2⟩; rw [Nb.arr] at he; subst he)
        | (at_builtin; refine wpList_append_new Try.underlying24 infoN rfl _ (.tmp 15) rfl w.heap.size u3 bs [b'] rfl (hC.out.1.below ((hB.out.trans (hb2.mono hB.out.size)).trans ((alloc_below w2 (.cells b'.arr 26)).mono (Nat.le_trans hB.out.size hb2.size)))) ⟨w2.heap.size, 0, none⟩ 1 1 rfl rfl (by decide) (nine_one w2 b') (by have := hbl'.out; simp; omega) (Nat.le_trans hbl.out.size (Nat.le_trans hB.out.size (Nat.le_trans hb2.size (alloc_below w2 (.cells b'.arr 26)).size))) ?_; intro v4 w4 ho4 hg4 hn4; have hst : Hid _ := hC.out.next (hB.out.trans (hb2.mono hB.out.size)) hF hbl.out.size hB.out.size (alloc_below w2 (.cells b'.arr 26)) ho4 hg4 hn4; have hbw : Hid (Below w.heap.size w w4) := grownN_below ((hbl.out.trans ((hB.out.trans (hb2.mono hB.out.size)).mono hbl.out.size)).trans ((alloc_below w2 (.cells b'.arr 26)).mono (Nat.le_trans hbl.out.size (Nat.le_trans hB.out.size hb2.size)))) (hC.out.1.below ((hB.out.trans (hb2.mono hB.out.size)).trans ((alloc_below w2 (.cells b'.arr 26)).mono (Nat.le_trans hB.out.size hb2.size)))) hg4 (Nat.le_trans hbl.out.size (Nat.le_trans hB.out.size (Nat.le_trans hb2.size (alloc_below w2 (.cells b'.arr 26)).size))); clear ho4 hg4 hn4))
      go_roundw
      case rel => exact ⟨i + 1, v4, bs ++ [b'], fs ++ [f], by omega, rfl, by go_num, hbw, by rw [htk.out]; exact hst⟩
      case measure => simp [intOf]; omega

    · have hz : ¬ (i : Int) < (n : Int) := by omega
      obtain ⟨a', c', f, hv, hF⟩ := hC.out.fin (by rw [List.length_take]; have := hn.out; omega)
      have hln : (l.take i).length = n := by rw [List.length_take, hx.out]; omega
      rw [hln] at hv hF
      rw [List.take_of_length_le (by rw [hx.out]; omega)] at hF
      have hF' : Hid (FreshR w.heap.size D wr a' n c' l f) := hF
      subst hv
      clear hF hln hC
      go_wp2
      go_ret
      exact ⟨⟨a', c', rfl, f, hF'.out⟩, hbl.out⟩
end Go.Proofs.Ytkealjaealeojab
namespace Go.Proofs.Ytkealjaealeojab
open Go.RowKit
set_option linter.unusedVariables false

/-- A node of which all is zero. -/
def zN : Nb := ⟨0, 0, false, ⟨#[]⟩, 0, ⟨#[]⟩, none, 0, 0, none, 0, 0, none, 0, 0⟩
/-- Two boxes, and a world in which only they have turned. -/
structure Bx (W w : World) (g1 g2 : Nat) (b c : Nb) : Prop where
  one : NBox w g1 b
  two : NBox w g2 c
  kp : Kp (fun k => k = g1 ∨ k = g2) W w
theorem Bx.call {W w w' : World} {g1 g2 : Nat} {b c : Nb} (h : Bx W w g1 g2 b c) (hb : Below w.heap.size w w') : Bx W w' g1 g2 b c :=
  ⟨h.one.kept hb h.one.lt, h.two.kept hb h.two.lt, h.kp.trans (Kp.of hb)⟩
theorem Bx.grown {W w w' : World} {g1 g2 : Nat} {b c : Nb} (h : Bx W w g1 g2 b c) (hb : w.grownBy w' none) : Bx W w' g1 g2 b c :=
  h.call ⟨hb.os, hb.tape, hb.output, hb.size, fun k hk => hb.block k hk (fun e => by cases e)⟩
theorem nbox_set {w : World} {g : Nat} {b b' : Nb} (h : NBox w g b) (j : Nat) (v : Value) (hv : b'.arr = b.arr.setIfInBounds j v) : NBox (w.setCell ⟨g, j, none⟩ v) g b' := by
  unfold NBox
  rw [heap_setCell_same w g j b.arr 26 v h, hv]
theorem setk {w : World} {g j k : Nat} (h : k ≠ g) (v : Value) : (w.setCell ⟨g, j, none⟩ v).heap[k]? = w.heap[k]? := Below.heap_setCell w ⟨g, j, none⟩ v k h
theorem Bx.set {W w : World} {g1 g2 : Nat} {b c : Nb} (h : Bx W w g1 g2 b c) (hne : g1 ≠ g2) (b' : Nb) (j : Nat) (v : Value) (hv : b'.arr = b.arr.setIfInBounds j v) : Bx W (w.setCell ⟨g1, j, none⟩ v) g1 g2 b' c :=
  ⟨nbox_set h.one j v hv, h.two.same (setk (Ne.symm hne) v), h.kp.trans ⟨rfl, rfl, rfl, by simp [World.setCell], fun k _ hc => setk (fun e => hc (.inl e)) v⟩⟩
theorem Bx.set2 {W w : World} {g1 g2 : Nat} {b c : Nb} (h : Bx W w g1 g2 b c) (hne : g1 ≠ g2) (c' : Nb) (j : Nat) (v : Value) (hv : c'.arr = c.arr.setIfInBounds j v) : Bx W (w.setCell ⟨g2, j, none⟩ v) g1 g2 b c' :=
  ⟨h.one.same (setk hne v), nbox_set h.two j v hv, h.kp.trans ⟨rfl, rfl, rfl, by simp [World.setCell], fun k _ hc => setk (fun e => hc (.inr e)) v⟩⟩
/-- A node written whole into a box. -/
theorem Bx.put {W w : World} {g1 g2 : Nat} {b c : Nb} (h : Bx W w g1 g2 b c) (hne : g1 ≠ g2) (x : Nb) :
    Bx W (((((((((w.setCell ⟨g2, 0, none⟩ (.int .i64 x.kind)).setCell ⟨g2, 1, none⟩ (.int .u64 x.num)).setCell ⟨g2, 2, none⟩ (.bool x.neg)).setCell ⟨g2, 3, none⟩ (.string x.dig)).setCell ⟨g2, 4, none⟩ (.int .i64 x.exp)).setCell ⟨g2, 5, none⟩ (.string x.txt)).setCell ⟨g2, 6, none⟩ (.slice x.ab x.lb x.cb)).setCell ⟨g2, 7, none⟩ (.slice x.ak x.lk x.ck)).setCell ⟨g2, 8, none⟩ (.slice x.ai x.li x.ci)) g1 g2 b x := by
  obtain ⟨x0, x1, x2, x3, x4, x5, xa, xb, xc, xd, xe, xf, xg, xh, xi⟩ := x
  obtain ⟨c0, c1, c2, c3, c4, c5, ca, cb, cc, cd, ce, cf, cg, ch, ci⟩ := c
  exact ((((((((h.set2 hne ⟨x0, c1, c2, c3, c4, c5, ca, cb, cc, cd, ce, cf, cg, ch, ci⟩ 0 _ rfl).set2 hne ⟨x0, x1, c2, c3, c4, c5, ca, cb, cc, cd, ce, cf, cg, ch, ci⟩ 1 _ rfl).set2 hne ⟨x0, x1, x2, c3, c4, c5, ca, cb, cc, cd, ce, cf, cg, ch, ci⟩ 2 _ rfl).set2 hne ⟨x0, x1, x2, x3, c4, c5, ca, cb, cc, cd, ce, cf, cg, ch, ci⟩ 3 _ rfl).set2 hne ⟨x0, x1, x2, x3, x4, c5, ca, cb, cc, cd, ce, cf, cg, ch, ci⟩ 4 _ rfl).set2 hne ⟨x0, x1, x2, x3, x4, x5, ca, cb, cc, cd, ce, cf, cg, ch, ci⟩ 5 _ rfl).set2 hne ⟨x0, x1, x2, x3, x4, x5, xa, xb, xc, cd, ce, cf, cg, ch, ci⟩ 6 _ rfl).set2 hne ⟨x0, x1, x2, x3, x4, x5, xa, xb, xc, xd, xe, xf, cg, ch, ci⟩ 7 _ rfl).set2 hne ⟨x0, x1, x2, x3, x4, x5, xa, xb, xc, xd, xe, xf, xg, xh, xi⟩ 8 _ rfl
theorem kset (w : World) (g1 g2 j : Nat) (v : Value) : Kp (fun k => k = g1 ∨ k = g2) w (w.setCell ⟨g1, j, none⟩ v) := ⟨rfl, rfl, rfl, by simp [World.setCell], fun k _ hc => setk (fun e => hc (.inl e)) v⟩
theorem set_size (w : World) (g j : Nat) (v : Value) : (w.setCell ⟨g, j, none⟩ v).heap.size = w.heap.size := by simp [World.setCell]
theorem FreshR.kp {C : Nat → Prop} {B D : Nat} {w w' : World} {a : Option Addr} {n c : Nat} {l : List Tr} {f : List Nat} (h : FreshR B D w a n c l f) (hk : Kp C w w') (hC : ∀ k, C k → k < B) : FreshR B D w' a n c l f := by
  have hs : ∀ k, k ∈ f → w'.heap[k]? = w.heap[k]? := fun k hk' => hk.block k (h.2.2.2.2 k hk').2 (fun hc => by have := hC k hc; have := (h.2.2.2.2 k hk').1; omega)
  exact ⟨h.1.stays h.2.1 hs fun _ _ _ q => q.stays hs, h.2.1, h.2.2.1.stays hs fun _ e he q => q.stays fun k hk' => hs k (he k hk'), h.2.2.2.1, fun k hk' => ⟨(h.2.2.2.2 k hk').1, Nat.lt_of_lt_of_le (h.2.2.2.2 k hk').2 hk.size⟩⟩
/-- Bytes of one's own, in a block of their own. -/
theorem OwnsB.fr {w : World} {base : Nat} {a : Option Addr} {n c : Nat} {zs : List Int} (h : OwnsB w base (.slice a n c) zs) : ∃ f0, FrB w a n f0 ∧ In (· ∈ f0) a n ∧ f0.Nodup ∧ ∀ k ∈ f0, base ≤ k ∧ k < w.heap.size := by
  obtain ⟨⟨hl, hv⟩, hz⟩ := h
  rcases hv with ⟨e, hn⟩ | ⟨g, cap, cur, e, hb, hg, hnc, hcm, hcs, htk⟩
  · cases e
    exact ⟨[], .inl ⟨rfl, rfl⟩, (fun h => by cases h), by simp, fun k hk => by cases hk⟩
  · cases e
    by_cases h0 : zs.length = 0
    · exact ⟨[], .inl ⟨h0, rfl⟩, fun h => by omega, by simp, fun k hk => by cases hk⟩
    · refine ⟨[g], .inr ⟨g, cur, rfl, rfl, hg, by rw [hcs]; omega, fun i hi => ?_⟩, fun _ x hx => by cases hx; exact List.mem_singleton.2 rfl, by simp, fun k hk => ?_⟩
      · have h1 : (cur.toList.take (zs.length * 1))[i]? = (zs.map (Value.int .u8))[i]? := by rw [htk]
        rw [List.getElem?_take, if_pos (by omega), List.getElem?_map, List.getElem?_eq_getElem hi] at h1
        exact ⟨zs[i], by rw [← Array.getElem?_toList]; exact h1, hz _ (List.getElem_mem hi)⟩
      · rw [List.mem_singleton] at hk
        subst hk
        exact ⟨hb, (Array.getElem?_eq_some_iff.1 hg).1⟩
/-- A node of clones. -/
theorem fresh_node {D : Nat} {w0 w : World} {b : Nb} {t : Tr} {B Ba Bb Bc : Nat} {a6 : Option Addr} {c6 : Nat} {a7 : Option Addr} {c7 : Nat} {a8 : Option Addr} {c8 : Nat} {f0 f1 f2 : List Nat} (hN : Nd (D + 1) w0 b t)
    (hb : Bytes w a6 t.bytes) (hr : b.lb ≤ c6 ∧ c6 ≤ maxLen ∧ (a6 = none → c6 = 0)) (h0 : FrB w a6 b.lb f0) (h0i : In (· ∈ f0) a6 b.lb) (h0n : f0.Nodup) (h0s : ∀ k ∈ f0, Ba ≤ k ∧ k < Bb) (h1 : FreshR Bb D w a7 b.lk c7 t.keys f1) (h1s : ∀ k ∈ f1, k < Bc) (h2 : FreshR Bc D w a8 b.li c8 t.kids f2) (hB : B ≤ Ba) (hBa : Ba ≤ Bb) (hBb : Bb ≤ Bc) (hBc : Bc ≤ w.heap.size) :
    Fresh B (D + 1) w { b with ab := a6, cb := c6, ak := a7, ck := c7, ai := a8, ci := c8 } t (f0 ++ (f1 ++ f2)) := by
  obtain ⟨n0, n1, ⟨n2, n3, n4⟩, n5, n6⟩ := hN
  have m0 : ∀ k, k ∈ f0 → k ∈ f0 ++ (f1 ++ f2) := fun k hk => List.mem_append_left _ hk
  have m1 : ∀ k, k ∈ f1 → k ∈ f0 ++ (f1 ++ f2) := fun k hk => List.mem_append_right _ (List.mem_append_left _ hk)
  have m2 : ∀ k, k ∈ f2 → k ∈ f0 ++ (f1 ++ f2) := fun k hk => List.mem_append_right _ (List.mem_append_right _ hk)
  refine ⟨⟨n0, n1, ⟨n2, ⟨hr.1, hr.2.1, hr.2.2, n3.2.2.2⟩, hb⟩, ⟨h0i.mono m0, h1.2.1.mono m1, h2.2.1.mono m2⟩, h1.1.mono fun _ _ _ q => q.mono m1, h2.1.mono fun _ _ _ q => q.mono m2⟩, ⟨f0, f1, f2, rfl, ⟨hr.1, h1.1.2.1.1, h2.1.2.1.1, hr.2.1, h1.1.2.1.2.1, h2.1.2.1.2.1⟩, h0, h1.2.2.1, h2.2.2.1⟩, ?_, fun k hk => ?_⟩
  · refine List.nodup_append.2 ⟨h0n, List.nodup_append.2 ⟨h1.2.2.2.1, h2.2.2.2.1, fun x hx y hy e => ?_⟩, fun x hx y hy e => ?_⟩
    · subst e
      have := h1s x hx; have := (h2.2.2.2.2 x hy).1; omega
    · subst e
      have := (h0s x hx).2
      rcases List.mem_append.1 hy with hy | hy
      · have := (h1.2.2.2.2 x hy).1; omega
      · have := (h2.2.2.2.2 x hy).1; omega
  · rcases List.mem_append.1 hk with hk | hk
    · have := h0s k hk; omega
    · rcases List.mem_append.1 hk with hk | hk
      · have := h1.2.2.2.2 k hk; omega
      · have := h2.2.2.2.2 k hk; omega
theorem FrB.kp {C : Nat → Prop} {w w' : World} {a : Option Addr} {n : Nat} {f : List Nat} (h : FrB w a n f) (hk : Kp C w w') (hf : ∀ k ∈ f, k < w.heap.size ∧ ¬ C k) : FrB w' a n f := h.stays fun k hk' => hk.block k (hf k hk').1 (hf k hk').2
theorem Bytes.kp {C : Nat → Prop} {w w' : World} {a : Option Addr} {zs : List Int} {f : List Nat} (h : Bytes w a zs) (hi : In (· ∈ f) a zs.length) (hk : Kp C w w') (hf : ∀ k ∈ f, k < w.heap.size ∧ ¬ C k) : Bytes w' a zs := h.stays hi fun k hk' => hk.block k (hf k hk').1 (hf k hk').2

set_option maxHeartbeats 2000000 in
set_option maxRecDepth 100000 in
theorem clone_step {D : Nat} (ih : ClAllAt D) : CloneAt (D + 1) := by
  intro t b w hN hsz
  have hal := alloc_below w (.cells b.arr 26)
  have hal2 := alloc_below (w.alloc (.cells b.arr 26)) (.cells #[.int .i64 0, .int .u64 0, .bool false, .string ⟨#[]⟩, .int .i64 0, .string ⟨#[]⟩, .slice none 0 0, .slice none 0 0, .slice none 0 0] 26)
  have s1 : (w.alloc (.cells b.arr 26)).heap.size = w.heap.size + 1 := by simp
  have s2 : ((w.alloc (.cells b.arr 26)).alloc (.cells #[.int .i64 0, .int .u64 0, .bool false, .string ⟨#[]⟩, .int .i64 0, .string ⟨#[]⟩, .slice none 0 0, .slice none 0 0, .slice none 0 0] 26)).heap.size = w.heap.size + 1 + 1 := by simp
  have x0 : Bx ((w.alloc (.cells b.arr 26)).alloc (.cells #[.int .i64 0, .int .u64 0, .bool false, .string ⟨#[]⟩, .int .i64 0, .string ⟨#[]⟩, .slice none 0 0, .slice none 0 0, .slice none 0 0] 26)) ((w.alloc (.cells b.arr 26)).alloc (.cells #[.int .i64 0, .int .u64 0, .bool false, .string ⟨#[]⟩, .int .i64 0, .string ⟨#[]⟩, .slice none 0 0, .slice none 0 0, .slice none 0 0] 26)) w.heap.size (w.heap.size + 1) b zN :=
    ⟨(nbox_new w b).kept hal2 (by omega), by have := nbox_new (w.alloc (.cells b.arr 26)) zN; rwa [s1] at this, Kp.refl _ _⟩
  have hne : Hid (w.heap.size ≠ w.heap.size + 1) := by show _ ≠ _; omega
  have hB2 : Hid (Below w.heap.size w ((w.alloc (.cells b.arr 26)).alloc (.cells #[.int .i64 0, .int .u64 0, .bool false, .string ⟨#[]⟩, .int .i64 0, .string ⟨#[]⟩, .slice none 0 0, .slice none 0 0, .slice none 0 0] 26))) := hal.trans (hal2.mono (by omega))
  have hS2 : Hid (((w.alloc (.cells b.arr 26)).alloc (.cells #[.int .i64 0, .int .u64 0, .bool false, .string ⟨#[]⟩, .int .i64 0, .string ⟨#[]⟩, .slice none 0 0, .slice none 0 0, .slice none 0 0] 26)).heap.size = w.heap.size + 1 + 1) := s2
  have hNn : Hid (Nd (D + 1) w b t) := hN
  have kD : Hid (∀ w', Calls Try.prog 31 #[.string b.dig] w' _) := fun w' => clone_any b.dig w' (by have := hN.2.1.2.2.2.1; rw [hN.1.2.2.2.1]; omega)
  have kT : Hid (∀ w', Calls Try.prog 31 #[.string b.txt] w' _) := fun w' => clone_any b.txt w' (by have := hN.2.1.2.2.2.2; rw [hN.1.2.2.2.2.2]; omega)
  have hW : Hid (∀ w', Kp (fun k => k = w.heap.size ∨ k = w.heap.size + 1) ((w.alloc (.cells b.arr 26)).alloc (.cells #[.int .i64 0, .int .u64 0, .bool false, .string ⟨#[]⟩, .int .i64 0, .string ⟨#[]⟩, .slice none 0 0, .slice none 0 0, .slice none 0 0] 26)) w' → Below w.heap.size w w') := fun w' h => hB2.out.trans (h.below (by omega) fun k hk => by omega)
  have hsz' : Hid (Tr.sizes t.keys ≤ 1000000 ∧ Tr.sizes t.kids ≤ 1000000) := by have := Tr.size_eq t; exact ⟨by omega, by omega⟩
  have kK : Hid (∀ w', Below w.heap.size w w' → Calls Try.prog 32 #[.slice b.ak b.lk b.ck] w' _) := fun w' hb => ih b.ak b.lk b.ck t.keys w' (hN.2.2.2.1.kept hb fun _ _ _ q => q.kept hb) hsz'.out.1
  have kI : Hid (∀ w', Below w.heap.size w w' → Calls Try.prog 32 #[.slice b.ai b.li b.ci] w' _) := fun w' hb => ih b.ai b.li b.ci t.kids w' (hN.2.2.2.2.kept hb fun _ _ _ q => q.kept hb) hsz'.out.2
  have hBy : Hid (t.bytes.length = b.lb ∧ b.lb ≤ b.cb ∧ (b.ab = none → b.cb = 0) ∧ b.lb ≤ 140737488351232 ∧ Bytes w b.ab t.bytes) := ⟨hN.2.2.1.1, hN.2.2.1.2.1.1, hN.2.2.1.2.1.2.2.1, by have := hN.2.2.1.2.1.2.2.2; omega, hN.2.2.1.2.2⟩
  clear hal hal2 s1 s2 hN hsz ih
  have k1 := kD.out ((w.alloc (.cells b.arr 26)).alloc (.cells #[.int .i64 0, .int .u64 0, .bool false, .string ⟨#[]⟩, .int .i64 0, .string ⟨#[]⟩, .slice none 0 0, .slice none 0 0, .slice none 0 0] 26))
  obtain ⟨a0, a1, a2, a3, a4, a5, a6, a7, a8⟩ := x0.one.fields
  go_enter Try.func18, Try.ntmps18
  go_wp2_with (first
    | (go_at_call 31; refine k1.mono ?_; rintro e w3 ⟨rfl, hb3⟩; clear k1 a0 a1 a2 a3 a4 a5 a6 a7 a8; have y1 := x0.call hb3; have z1 := y1.one.fz 3; obtain ⟨d0, d1, d2, d3, d4, d5, d6, d7, d8⟩ := y1.one.fields; have x1 := y1.set hne.out b 3 (.string b.dig) rfl; clear y1 hb3 d0 d1 d2 d4 d5 d6 d7 d8; obtain ⟨a0, a1, a2, a3, a4, a5, a6, a7, a8⟩ := x1.one.fields; have k2 := kT.out (w3.setCell ⟨w.heap.size, 3, none⟩ (.string b.dig)))
    | (go_at_call 31; refine k2.mono ?_; rintro e w4 ⟨rfl, hb4⟩; clear k2 a0 a1 a2 a3 a4 a5 a6 a7 a8; have y2 := x1.call hb4; have z2 := y2.one.fz 5; obtain ⟨e0, e1, e2, e3, e4, e5, e6, e7, e8⟩ := y2.one.fields; have x2 := y2.set hne.out b 5 (.string b.txt) rfl; clear y2 hb4 e0 e1 e2 e3 e4 e6 e7 e8; obtain ⟨a0, a1, a2, a3, a4, a5, a6, a7, a8⟩ := x2.one.fields)
    | (at_builtin; refine wpList_append_bytes rfl _ (.tmp 12) rfl (w4.setCell ⟨w.heap.size, 5, none⟩ (.string b.txt)).heap.size (.slice none 0 0) [] t.bytes rfl (ownsB_nil _ _) b.ab b.lb b.cb rfl hBy.out.1 hBy.out.2.2.1 (hBy.out.2.2.2.2.kept (hW.out _ x2.kp)) (by have := hBy.out.2.2.2.1; have := hBy.out.1; simp; omega) (Nat.le_refl _) ?_; intro v5 w5 ho5 hg5; rw [List.nil_append] at ho5; obtain ⟨p5, q5, rfl, hn5, hc5, hB5, _⟩ := ho5.shape; rw [hBy.out.1] at ho5 hc5 ⊢; have hs45 : Hid ((w4.setCell ⟨w.heap.size, 5, none⟩ (.string b.txt)).heap.size ≤ (w5.setCell ⟨w.heap.size, 6, none⟩ (.slice p5 b.lb q5)).heap.size) := Nat.le_trans hg5.size (Nat.le_of_eq (set_size _ _ _ _).symm); have y3 := x2.grown hg5; have z3 := y3.one.fz 6; obtain ⟨h0, h1, h2, h3, h4, h5, h6, h7, h8⟩ := y3.one.fields; have x3 := y3.set hne.out { b with ab := p5, cb := q5 } 6 (.slice p5 b.lb q5) rfl; clear hg5 h0 h1 h2 h3 h4 h5 h7 h8 a0 a1 a2 a3 a4 a5 a6 a7 a8; obtain ⟨a0, a1, a2, a3, a4, a5, a6, a7, a8⟩ := x3.one.fields; have k3 := kK.out (w5.setCell ⟨w.heap.size, 6, none⟩ (.slice p5 b.lb q5)) (hW.out _ x3.kp))
    | (go_at_call 32; refine k3.mono ?_; rintro e w6 ⟨⟨p6, q6, f1, rfl, hF1⟩, hb6⟩; clear k3 a0 a1 a2 a3 a4 a5 a6 a7 a8; have y4 := x3.call hb6; have z4 := y4.one.fz 7; obtain ⟨i0, i1, i2, i3, i4, i5, i6, i7, i8⟩ := y4.one.fields; have x4 := y4.set hne.out { b with ab := p5, cb := q5, ak := p6, ck := q6 } 7 (.slice p6 b.lk q6) rfl; clear i0 i1 i2 i3 i4 i5 i6 i8; obtain ⟨a0, a1, a2, a3, a4, a5, a6, a7, a8⟩ := x4.one.fields; have k4 := kI.out (w6.setCell ⟨w.heap.size, 7, none⟩ (.slice p6 b.lk q6)) (hW.out _ x4.kp))
    | (go_at_call 32; refine k4.mono ?_; rintro e w7 ⟨⟨p7, q7, f2, rfl, hF2⟩, hb7⟩; clear k4 a0 a1 a2 a3 a4 a5 a6 a7 a8; have y5 := x4.call hb7; have z5 := y5.one.fz 8; obtain ⟨j0, j1, j2, j3, j4, j5, j6, j7, j8⟩ := y5.one.fields; have x5 := y5.set hne.out { b with ab := p5, cb := q5, ak := p6, ck := q6, ai := p7, ci := q7 } 8 (.slice p7 b.li q7) rfl; clear j0 j1 j2 j3 j4 j5 j6 j7; obtain ⟨a0, a1, a2, a3, a4, a5, a6, a7, a8⟩ := x5.one.fields; obtain ⟨m0, m1, m2, m3, m4, m5, m6, m7, m8⟩ := x5.two.fields; have z50 := x5.two.fz 0; have z51 := x5.two.fz 1; have z52 := x5.two.fz 2; have z53 := x5.two.fz 3; have z54 := x5.two.fz 4; have z55 := x5.two.fz 5; have z56 := x5.two.fz 6; have z57 := x5.two.fz 7; have z58 := x5.two.fz 8))
  have x6 := x5.put hne.out { b with ab := p5, cb := q5, ak := p6, ck := q6, ai := p7, ci := q7 }
  obtain ⟨u0, u1, u2, u3, u4, u5, u6, u7, u8⟩ := x6.two.fields
  have K8 := (Bx.put ⟨x5.one, x5.two, Kp.refl _ _⟩ hne.out { b with ab := p5, cb := q5, ak := p6, ck := q6, ai := p7, ci := q7 }).kp
  have K5 := kset w5 w.heap.size (w.heap.size + 1) 6 (.slice p5 b.lb q5)
  have K6 := kset w6 w.heap.size (w.heap.size + 1) 7 (.slice p6 b.lk q6)
  have K7 := kset w7 w.heap.size (w.heap.size + 1) 8 (.slice p7 b.li q7)
  have R7 := K7.trans K8
  have R6 := (K6.trans (Kp.of hb7)).trans R7
  have R5 := (K5.trans (Kp.of hb6)).trans R6
  obtain ⟨f0, hfr, hfi, hfn, hfs⟩ := ho5.fr
  have e4 := set_size w4 w.heap.size 5 (.string b.txt)
  have e5 := set_size w5 w.heap.size 6 (.slice p5 b.lb q5)
  have e6 := set_size w6 w.heap.size 7 (.slice p6 b.lk q6)
  have g2 := x2.kp.size
  have g3 := x3.kp.size
  have g4 := x4.kp.size
  have hs2 := hS2.out
  have hf5 : ∀ k ∈ f0, k < w5.heap.size ∧ ¬ (k = w.heap.size ∨ k = w.heap.size + 1) := fun k hk => ⟨(hfs k hk).2, by have := (hfs k hk).1; omega⟩
  have hFr := fresh_node (B := w.heap.size) (Ba := (w4.setCell ⟨w.heap.size, 5, none⟩ (.string b.txt)).heap.size) hNn.out (hB5.kp (by rw [hBy.out.1]; exact hfi) R5 hf5) ⟨hc5.1, hc5.2, hn5⟩ (hfr.kp R5 hf5) hfi hfn (fun k hk => ⟨(hfs k hk).1, by have := (hfs k hk).2; omega⟩) (hF1.kp R6 (fun k hk => by omega)) (fun k hk => by have := (hF1.2.2.2.2 k hk).2; omega) (hF2.kp R7 (fun k hk => by omega)) (by omega) hs45.out (by have := hb6.size; omega) (by have := hb7.size; have := R7.size; omega)
  refine bodyPost_ret (v := .agg #[.int .i64 b.kind, .int .u64 b.num, .bool b.neg, .string b.dig, .int .i64 b.exp, .string b.txt, .slice p5 b.lb q5, .slice p6 b.lk q6, .slice p7 b.li q7]) (by simp [results, Try.results18, go_sem, u0, u1, u2, u3, u4, u5, u6, u7, u8]) rfl ⟨⟨_, _, rfl, hFr⟩, hW.out _ x6.kp⟩
theorem clone_all : ∀ D, CloneAt D := by
  intro D
  induction D with
  | zero => intro t b w h; exact absurd h id
  | succ D ih => exact clone_step (clall_step ih)
/-- tree.clone. -/
theorem gclone_any {D : Nat} {t : Tr} {b : Nb} {w : World} (hN : Nd D w b t) (hs : t.size ≤ 1000000) : Calls Try.prog 18 #[.agg b.arr] w fun e w' => (∃ b' f, e = .returned (.agg b'.arr) ∧ Fresh w.heap.size D w' b' t f) ∧ Below w.heap.size w w' := clone_all D t b w hN hs
end Go.Proofs.Ytkealjaealeojab
namespace Go.Proofs.Ytkealjaealeojab
open Go.RowKit
set_option linter.unusedVariables false

/-- A path that came in. -/
def PathOk (w : World) (pa : Option Addr) (np cp : Nat) (ps : List Int) : Prop := ps.length = np ∧ Ints w pa ps ∧ np ≤ cp ∧ (∀ k ∈ ps, -9223372036854775808 ≤ k ∧ k ≤ 9223372036854775807) ∧ np ≤ 4611686018427387904
theorem PathOk.kept {w w' : World} {pa : Option Addr} {np cp : Nat} {ps : List Int} (h : PathOk w pa np cp ps) (hb : Below w.heap.size w w') : PathOk w' pa np cp ps := ⟨h.1, h.2.1.kept hb, h.2.2.1, h.2.2.2.1, h.2.2.2.2⟩
theorem find_path {D : Nat} {g0 o0 : Nat} {nb0 : Nb} {t : Tr} {pa : Option Addr} {np cp : Nat} {ps : List Int} {w : World} (hs : Spot w g0 o0 nb0) (hN : Nd D w nb0 t) (hp : PathOk w pa np cp ps) :
    Calls Try.prog 17 #[.pointer (some ⟨g0, o0, none⟩), .slice pa np cp] w fun e w' => (∃ v, e = .returned v ∧ FindIs D w g0 o0 t ps v) ∧ Below w.heap.size w w' :=
  gfind_any g0 o0 nb0 t pa np cp ps w hs hN hp.1 hp.2.1 hp.2.2.1 hp.2.2.2.1 hp.2.2.2.2

theorem Fresh.kp {C : Nat → Prop} {B D : Nat} {w w' : World} {b : Nb} {t : Tr} {f : List Nat} (h : Fresh B D w b t f) (hk : Kp C w w') (hC : ∀ k, C k → k < B) : Fresh B D w' b t f := by
  have hs : ∀ k, k ∈ f → w'.heap[k]? = w.heap[k]? := fun k hk' => hk.block k (h.2.2.2 k hk').2 (fun hc => by have := hC k hc; have := (h.2.2.2 k hk').1; omega)
  exact ⟨h.1.stays hs, h.2.1.stays hs, h.2.2.1, fun k hk' => ⟨(h.2.2.2 k hk').1, Nat.lt_of_lt_of_le (h.2.2.2 k hk').2 hk.size⟩⟩
theorem Fresh.base {B B' D : Nat} {w : World} {b : Nb} {t : Tr} {f : List Nat} (h : Fresh B D w b t f) (hB : B' ≤ B) : Fresh B' D w b t f := ⟨h.1, h.2.1, h.2.2.1, fun k hk => ⟨Nat.le_trans hB (h.2.2.2 k hk).1, (h.2.2.2 k hk).2⟩⟩
/-- What tree.At answers. -/
def AtIs (B D : Nat) (w' : World) (t : Tr) (ps : List Int) (b' : Nb) (er : Int) : Prop :=
  (1024 < t.size ∧ b' = zN ∧ er = 8) ∨ (t.size ≤ 1024 ∧ t.find ps = none ∧ b' = zN ∧ er = 19) ∨ (t.size ≤ 1024 ∧ er = 0 ∧ ∃ u f, t.find ps = some u ∧ Fresh B D w' b' u f)

set_option maxHeartbeats 2000000 in
set_option maxRecDepth 100000 in
theorem gat_any {D : Nat} {t : Tr} {b : Nb} {w : World} {pa : Option Addr} {np cp : Nat} {ps : List Int} (hN : Nd D w b t) (hp : PathOk w pa np cp ps) :
    Calls Try.prog 5 #[.agg b.arr, .slice pa np cp] w fun e w' => (∃ b' er, e = .returned (.tuple #[.agg b'.arr, .int .i64 er]) ∧ AtIs w.heap.size D w' t ps b' er) ∧ Below w.heap.size w w' := by
  have hal := alloc_below w (.cells b.arr 26)
  have hal2 := alloc_below (w.alloc (.cells b.arr 26)) (.cells #[.int .i64 0, .int .u64 0, .bool false, .string ⟨#[]⟩, .int .i64 0, .string ⟨#[]⟩, .slice none 0 0, .slice none 0 0, .slice none 0 0] 26)
  have s1 : (w.alloc (.cells b.arr 26)).heap.size = w.heap.size + 1 := by simp
  have s2 : ((w.alloc (.cells b.arr 26)).alloc (.cells #[.int .i64 0, .int .u64 0, .bool false, .string ⟨#[]⟩, .int .i64 0, .string ⟨#[]⟩, .slice none 0 0, .slice none 0 0, .slice none 0 0] 26)).heap.size = w.heap.size + 1 + 1 := by simp
  have x0 : Bx ((w.alloc (.cells b.arr 26)).alloc (.cells #[.int .i64 0, .int .u64 0, .bool false, .string ⟨#[]⟩, .int .i64 0, .string ⟨#[]⟩, .slice none 0 0, .slice none 0 0, .slice none 0 0] 26)) ((w.alloc (.cells b.arr 26)).alloc (.cells #[.int .i64 0, .int .u64 0, .bool false, .string ⟨#[]⟩, .int .i64 0, .string ⟨#[]⟩, .slice none 0 0, .slice none 0 0, .slice none 0 0] 26)) w.heap.size (w.heap.size + 1) b zN :=
    ⟨(nbox_new w b).kept hal2 (by omega), by have := nbox_new (w.alloc (.cells b.arr 26)) zN; rwa [s1] at this, Kp.refl _ _⟩
  have hne : Hid (w.heap.size ≠ w.heap.size + 1) := by show _ ≠ _; omega
  have hB2 : Hid (Below w.heap.size w ((w.alloc (.cells b.arr 26)).alloc (.cells #[.int .i64 0, .int .u64 0, .bool false, .string ⟨#[]⟩, .int .i64 0, .string ⟨#[]⟩, .slice none 0 0, .slice none 0 0, .slice none 0 0] 26))) := hal.trans (hal2.mono (by omega))
  have hS2 : Hid (((w.alloc (.cells b.arr 26)).alloc (.cells #[.int .i64 0, .int .u64 0, .bool false, .string ⟨#[]⟩, .int .i64 0, .string ⟨#[]⟩, .slice none 0 0, .slice none 0 0, .slice none 0 0] 26)).heap.size = w.heap.size + 1 + 1) := s2
  have hNn : Hid (Nd D w b t) := hN
  have hW : Hid (∀ w', Kp (fun k => k = w.heap.size ∨ k = w.heap.size + 1) ((w.alloc (.cells b.arr 26)).alloc (.cells #[.int .i64 0, .int .u64 0, .bool false, .string ⟨#[]⟩, .int .i64 0, .string ⟨#[]⟩, .slice none 0 0, .slice none 0 0, .slice none 0 0] 26)) w' → Below w.heap.size w w') := fun w' h => hB2.out.trans (h.below (by omega) fun k hk => by omega)
  have k1 := few_any (hN.kept hB2.out)
  have hP : Hid (PathOk w pa np cp ps) := hp
  clear hal hal2 s1 s2 hN hp
  obtain ⟨a0, a1, a2, a3, a4, a5, a6, a7, a8⟩ := x0.one.fields
  by_cases hf : t.size ≤ 1024
  · rw [decide_eq_true hf] at k1
    have hf' : Hid (t.size ≤ 1024) := hf
    have kF : Hid (∀ w', Below w.heap.size w w' → NBox w' w.heap.size b → Calls Try.prog 17 #[.pointer (some ⟨w.heap.size, 0, none⟩), .slice pa np cp] w' _) := fun w' hb hx => find_path hx.spot (hNn.out.kept hb) (hP.out.kept hb)
    clear hf
    cases hfd : t.find ps with
    | none =>
      have kF' : Hid (∀ w', Below w.heap.size w w' → NBox w' w.heap.size b → Calls Try.prog 17 #[.pointer (some ⟨w.heap.size, 0, none⟩), .slice pa np cp] w' fun e w'' => e = .returned (.pointer none) ∧ Below w'.heap.size w' w'') := fun w' hb hx => (kF.out w' hb hx).mono fun e w'' ⟨⟨v, he, hv⟩, hb'⟩ => ⟨by unfold FindIs at hv; rw [hfd] at hv; rw [he, hv], hb'⟩
      have hfd' : Hid (t.find ps = none) := hfd
      clear kF hfd
      go_enter Try.func5, Try.ntmps5
      go_wp2_with (first
        | (go_at_call 16; refine k1.mono ?_; rintro e w3 ⟨rfl, hb3⟩; clear k1 a0 a1 a2 a3 a4 a5 a6 a7 a8; have x1 := x0.call hb3; have k2 := kF'.out w3 (hW.out _ x1.kp) x1.one)
        | (go_at_call 17; refine k2.mono ?_; rintro e w4 ⟨rfl, hb4⟩; clear k2; have x2 := x1.call hb4; obtain ⟨m0, m1, m2, m3, m4, m5, m6, m7, m8⟩ := x2.two.fields; have z0 := x2.two.fz 0; have z1 := x2.two.fz 1; have z2 := x2.two.fz 2; have z3 := x2.two.fz 3; have z4 := x2.two.fz 4; have z5 := x2.two.fz 5; have z6 := x2.two.fz 6; have z7 := x2.two.fz 7; have z8 := x2.two.fz 8))
      have x3 := x2.put hne.out zN
      obtain ⟨u0, u1, u2, u3, u4, u5, u6, u7, u8⟩ := x3.two.fields
      simp only [zN] at u0 u1 u2 u3 u4 u5 u6 u7 u8
      refine bodyPost_ret (v := .tuple #[.agg #[.int .i64 0, .int .u64 0, .bool false, .string ⟨#[]⟩, .int .i64 0, .string ⟨#[]⟩, .slice none 0 0, .slice none 0 0, .slice none 0 0], .int .i64 19]) (by simp [results, Try.results5, go_sem, u0, u1, u2, u3, u4, u5, u6, u7, u8]) rfl ⟨⟨zN, 19, rfl, .inr (.inl ⟨hf'.out, hfd'.out, rfl, rfl⟩)⟩, hW.out _ x3.kp⟩
    | some u =>
      have kF' : Hid (∀ w', Below w.heap.size w w' → NBox w' w.heap.size b → Calls Try.prog 17 #[.pointer (some ⟨w.heap.size, 0, none⟩), .slice pa np cp] w' fun e w'' => (∃ g o nb, e = .returned (.pointer (some ⟨g, o, none⟩)) ∧ Spot w' g o nb ∧ Nd D w' nb u) ∧ Below w'.heap.size w' w'') := fun w' hb hx => (kF.out w' hb hx).mono fun e w'' ⟨⟨v, he, hv⟩, hb'⟩ => ⟨by
        unfold FindIs at hv
        rw [hfd] at hv
        obtain ⟨g, o, nb, hv, hs, hn, _⟩ := hv
        exact ⟨g, o, nb, by rw [he, hv], hs, hn⟩, hb'⟩
      have hfd' : Hid (t.find ps = some u) := hfd
      have hus : Hid (u.size ≤ 1000000) := Nat.le_trans (Tr.find_size hfd) (Nat.le_trans hf'.out (by omega))
      clear kF hfd
      go_enter Try.func5, Try.ntmps5
      go_wp2_with (first
        | (go_at_call 16; refine k1.mono ?_; rintro e w3 ⟨rfl, hb3⟩; clear k1 a0 a1 a2 a3 a4 a5 a6 a7 a8; have x1 := x0.call hb3; have k2 := kF'.out w3 (hW.out _ x1.kp) x1.one)
        | (go_at_call 17; refine k2.mono ?_; rintro e w4 ⟨⟨g, o, nb, rfl, hs, hn⟩, hb4⟩; clear k2; have x2 := x1.call hb4; obtain ⟨m0, m1, m2, m3, m4, m5, m6, m7, m8⟩ := (hs.kept hb4).fields; have k3 := gclone_any (hn.kept hb4) hus.out; clear hs hn)
        | (go_at_call 18; refine k3.mono ?_; rintro e w5 ⟨⟨b', f, he, hF⟩, hb5⟩; rw [Nb.arr] at he; subst he; clear k3 m0 m1 m2 m3 m4 m5 m6 m7 m8; have x3 := x2.call hb5; obtain ⟨m0, m1, m2, m3, m4, m5, m6, m7, m8⟩ := x3.two.fields; have z0 := x3.two.fz 0; have z1 := x3.two.fz 1; have z2 := x3.two.fz 2; have z3 := x3.two.fz 3; have z4 := x3.two.fz 4; have z5 := x3.two.fz 5; have z6 := x3.two.fz 6; have z7 := x3.two.fz 7; have z8 := x3.two.fz 8))
      have x4 := x3.put hne.out b'
      have K4 := (Bx.put ⟨x3.one, x3.two, Kp.refl _ _⟩ hne.out b').kp
      obtain ⟨u0, u1, u2, u3, u4, u5, u6, u7, u8⟩ := x4.two.fields
      have hs2 := hS2.out
      have hg2 := x2.kp.size
      have hF' := hF.kp K4 (fun k hk => by omega)
      refine bodyPost_ret (v := .tuple #[.agg b'.arr, .int .i64 0]) (by simp [results, Try.results5, go_sem, u0, u1, u2, u3, u4, u5, u6, u7, u8, Nb.arr]) rfl ⟨⟨b', 0, rfl, .inr (.inr ⟨hf'.out, rfl, u, f, hfd'.out, hF'.base (by omega)⟩)⟩, hW.out _ x4.kp⟩
  · rw [decide_eq_false hf] at k1
    have hf' : Hid (1024 < t.size) := by show _ < _; omega
    clear hf
    go_enter Try.func5, Try.ntmps5
    go_wp2_with (first
      | (go_at_call 16; refine k1.mono ?_; rintro e w3 ⟨rfl, hb3⟩; clear k1 a0 a1 a2 a3 a4 a5 a6 a7 a8; have x2 := x0.call hb3; obtain ⟨m0, m1, m2, m3, m4, m5, m6, m7, m8⟩ := x2.two.fields; have z0 := x2.two.fz 0; have z1 := x2.two.fz 1; have z2 := x2.two.fz 2; have z3 := x2.two.fz 3; have z4 := x2.two.fz 4; have z5 := x2.two.fz 5; have z6 := x2.two.fz 6; have z7 := x2.two.fz 7; have z8 := x2.two.fz 8))
    have x3 := x2.put hne.out zN
    obtain ⟨u0, u1, u2, u3, u4, u5, u6, u7, u8⟩ := x3.two.fields
    simp only [zN] at u0 u1 u2 u3 u4 u5 u6 u7 u8
    refine bodyPost_ret (v := .tuple #[.agg #[.int .i64 0, .int .u64 0, .bool false, .string ⟨#[]⟩, .int .i64 0, .string ⟨#[]⟩, .slice none 0 0, .slice none 0 0, .slice none 0 0], .int .i64 8]) (by simp [results, Try.results5, go_sem, u0, u1, u2, u3, u4, u5, u6, u7, u8]) rfl ⟨⟨zN, 8, rfl, .inl ⟨hf'.out, rfl, rfl⟩⟩, hW.out _ x3.kp⟩
end Go.Proofs.Ytkealjaealeojab
