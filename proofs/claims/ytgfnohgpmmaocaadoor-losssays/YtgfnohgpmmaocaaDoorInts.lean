/-
  Rows of integers: read, made, appended to, written.
-/
import Derived.Test.YtgfnohgpmmaocaaDoorSame
import Derived.Deep.RegionHeld3
import Derived.Deep.RegionWith
import Derived.Deep.CutRange
import Derived.Deep.DeepAppendWide
import Derived.Deep.QuietTactic
import Derived.BigQuiet
namespace Go.Proofs.YtgfnohgpmmaocaaDoor
open Go.RowKit

/-- The integers l lie at a. -/
def Ints (w : World) (a : Option Addr) (l : List Int) : Prop :=
  l.length ≤ maxLen ∧ (l = [] ∨ ∃ b off, a = some ⟨b, off, none⟩ ∧ ∀ i, i < l.length → w.cell? ⟨b, off + i, none⟩ = some (.int .i64 (l.getD i 0)))
/-- Integers in new memory. -/
def OwnsI (w : World) (base : Nat) (v : Value) (l : List Int) : Prop := w.ownsRow base 3 1 v l.length (l.map (Value.int .i64))
theorem info3 : (Tryd.prog.info? 3).map (fun i => (i.zero, i.size, i.bytes)) = some (some (.int .i64 0), 1, 8) := by kernel_rfl

theorem ownsI_nil (w : World) (base : Nat) : OwnsI w base (.slice none 0 0) [] := World.ownsRow_nil w base 3 1
theorem OwnsI.shape {w : World} {base : Nat} {v : Value} {l : List Int} (h : OwnsI w base v l) :
    ∃ a cap, v = .slice a l.length cap ∧ (a = none → cap = 0) ∧ (l.length ≤ cap ∧ cap ≤ maxLen) ∧ Ints w a l ∧ (∀ x, a = some x → base ≤ x.block ∧ x.block < w.heap.size ∧ x.off = 0 ∧ x.spot = none) := by
  obtain ⟨hl, hv⟩ := h
  rcases hv with ⟨rfl, hn⟩ | ⟨g, cap, cur, rfl, hb, hg, hnc, hcm, hcs, htk⟩
  · have h0 : l = [] := List.eq_nil_of_length_eq_zero hn
    subst h0
    exact ⟨none, 0, rfl, fun _ => rfl, by simp, ⟨by simp, .inl rfl⟩, fun x hx => by cases hx⟩
  · refine ⟨some ⟨g, 0, none⟩, cap, rfl, (fun hx => by cases hx), ⟨hnc, hcm⟩, ⟨by omega, .inr ⟨g, 0, rfl, fun i hi => ?_⟩⟩, ?_⟩
    · rw [Nat.zero_add, cell_row hg, ← Array.getElem?_toList]
      have h1 : (cur.toList.take (l.length * 1))[i]? = (l.map (Value.int .i64))[i]? := by rw [htk]
      rw [List.getElem?_take, if_pos (by omega), List.getElem?_map] at h1
      rw [h1, List.getD_eq_getElem?_getD, List.getElem?_eq_getElem hi]; rfl
    · intro x hx
      cases hx
      exact ⟨hb, (Array.getElem?_eq_some_iff.1 hg).1, rfl, rfl⟩
theorem OwnsI.form {w : World} {base : Nat} {v : Value} {l : List Int} (h : OwnsI w base v l) :
    ∃ a n cap, v = .slice a n cap ∧ Hid (l.length = n) ∧ Hid (a = none → cap = 0) ∧ n ≤ cap ∧ cap ≤ 9223372036854775807 ∧ Hid (Ints w a l) := by
  obtain ⟨a, cap, hv, hn, ⟨hl, hm⟩, hb, _⟩ := h.shape
  exact ⟨a, l.length, cap, hv, rfl, hn, hl, by simpa [maxLen] using hm, hb⟩
theorem OwnsI.below {w w' : World} {base : Nat} {v : Value} {l : List Int} (h : OwnsI w base v l) (hb : Below w.heap.size w w') : OwnsI w' base v l :=
  World.ownsRow.kept (row := none) h ⟨hb.os, hb.tape, hb.output, hb.size, fun k hk _ => hb.block k hk⟩ (by cases hv : v.ownBlock <;> simp)
theorem OwnsI.alloc {w : World} {base : Nat} {v : Value} {l : List Int} (h : OwnsI w base v l) (o : Obj) : OwnsI (w.alloc o) base v l := h.below ((Below.refl _ _).alloc (Nat.le_refl _) o)
/-- Where blocks below stay it stays. -/
theorem OwnsI.low {w : World} {base : Nat} {v : Value} {l : List Int} (h : OwnsI w base v l) {a : Addr} (ha : a.block < base) (u : Value) : OwnsI (w.setCell a u) base v l := ownsRow_setCell_below h ha u
theorem OwnsI.base {w : World} {base base' : Nat} {v : Value} {l : List Int} (h : OwnsI w base v l) (hB : base' ≤ base) : OwnsI w base' v l := by
  obtain ⟨hl, hv⟩ := h
  refine ⟨hl, ?_⟩
  rcases hv with ⟨rfl, hn⟩ | ⟨g, cap, cur, rfl, hb, hr⟩
  · exact .inl ⟨rfl, hn⟩
  · exact .inr ⟨g, cap, cur, rfl, by omega, hr⟩
theorem grownI_below {w w1 w2 : World} {base : Nat} {v : Value} {l : List Int} (hb : Below base w w1) (h : OwnsI w1 base v l) (hg : w1.grownBy w2 v.ownBlock) (hB : base ≤ w1.heap.size) : Below base w w2 :=
  hb.grown hg hB fun k hk => (World.ownsRow.lt h k hk).1

theorem Ints.lt {w : World} {x : Addr} {l : List Int} (hb : Ints w (some x) l) (h0 : l ≠ []) : x.block < w.heap.size := by
  rcases hb.2 with h1 | ⟨b, off, h1, hc⟩
  · exact absurd h1 h0
  · cases h1
    have hp : 0 < l.length := List.length_pos_iff.2 h0
    have := hc 0 hp
    simp only [World.cell?] at this
    show b < w.heap.size
    rcases Nat.lt_or_ge b w.heap.size with h2 | h2
    · exact h2
    · simp [Array.getElem?_eq_none h2] at this
theorem Ints.kept {w w' : World} {a : Option Addr} {l : List Int} (hb : Ints w a l) (h : Below w.heap.size w w') : Ints w' a l := by
  refine ⟨hb.1, ?_⟩
  rcases hb.2 with h0 | ⟨b, off, rfl, hc⟩
  · exact .inl h0
  · by_cases h0 : l = []
    · exact .inl h0
    · refine .inr ⟨b, off, rfl, fun i hi => ?_⟩
      rw [h.cell (p := ⟨b, off + i, none⟩) (hb.lt h0)]
      exact hc i hi
theorem ints_some {w : World} {a : Option Addr} {l : List Int} (hb : Ints w a l) (h : 0 < l.length) : ∃ b off, a = some ⟨b, off, none⟩ := by
  rcases hb.2 with rfl | ⟨b, off, h1, _⟩
  · simp at h
  · exact ⟨b, off, h1⟩
theorem Ints.cell {w : World} {b off : Nat} {l : List Int} (hb : Ints w (some ⟨b, off, none⟩) l) {i : Nat} (hi : i < l.length) : w.cell? ⟨b, off + i, none⟩ = some (.int .i64 (l.getD i 0)) := by
  rcases hb.2 with h | ⟨b', off', h, hc⟩
  · subst h; simp at hi
  · cases h
    exact hc i hi
theorem ints_news {w : World} {x : Addr} {l : List Int} (hb : Ints w (some x) l) : ∀ j u, (l.map (Value.int .i64))[j]? = some u → w.cell? (x.add j) = some u := by
  intro j u hu
  rcases hb.2 with rfl | ⟨b, off, hx, hc⟩
  · simp at hu
  · cases hx
    have hj : j < l.length := by
      have := (List.getElem?_eq_some_iff.1 hu).1
      simpa using this
    have h1 := hc j hj
    rw [List.getElem?_map, List.getElem?_eq_getElem hj] at hu
    simp only [Option.map_some, Option.some.injEq] at hu
    subst hu
    have e : (⟨b, off, none⟩ : Addr).add j = ⟨b, off + j, none⟩ := by
      by_cases h0 : j = 0
      · subst h0; simp [Addr.add]
      · simp [Addr.add, h0]
    rw [e, h1, List.getD_eq_getElem?_getD, List.getElem?_eq_getElem hj]; rfl
theorem ints_one (l : List Int) : ∀ u ∈ l.map (Value.int .i64), u.oneCell' = true := by
  intro u hu
  obtain ⟨c, _, rfl⟩ := List.mem_map.1 hu
  rfl
theorem one_int (w : World) (n : Int) : Ints (w.alloc (.cells #[.int .i64 n] 3)) (some ⟨w.heap.size, 0, none⟩) [n] := by
  refine ⟨by simp [maxLen], .inr ⟨_, _, rfl, ?_⟩⟩
  intro i hi
  rw [World.cell?_alloc_mark]
  match i, hi with
  | 0, _ => rfl

/-- 'append(v, x...)', v the call's own integers, x any integers. -/
theorem wpList_append_ints {w : World} {ops : Array Oper} {rest : List Oper} {o : Oper} {a : Act} {Q : Exit → Act → World → Prop} (hgd : o.guard = none) (s x : Operand)
    (ho : o.op = .call { callee := .builtin .append, args := #[s, x], argTypes := #[38, 38] })
    (base : Nat) (v : Value) (ys zs : List Int) (hs : a.eval s = v) (hown : OwnsI w base v ys)
    (ad : Option Addr) (m c : Nat) (hx : a.eval x = .slice ad m c) (hm : zs.length = m) (hn : ad = none → c = 0) (hb : Ints w ad zs)
    (hbytes : ys.length + zs.length ≤ 17592186044416) (hbase : base ≤ w.heap.size)
    (h : ∀ v' w', OwnsI w' base v' (ys ++ zs) → w.grownBy w' v.ownBlock → wpList Tryd.prog ops Q rest (a.put o.dst v') w') : wpList Tryd.prog ops Q (o :: rest) a w := by
  subst hm
  obtain ⟨i, hi, hz, hsz, hby⟩ := info_parts info3
  cases ad with
  | none =>
    have h0 : zs = [] := by
      rcases hb.2 with h0 | ⟨_, _, h0, _⟩
      · exact h0
      · cases h0
    subst h0
    rw [hn rfl] at hx
    refine wpList_append_own_none hgd s x 38 ho base 3 i 1 Tryd.underlying38 hi v ys.length _ hs hown hx ?_
    have := h v w (by simpa using hown) (World.grownBy.refl _ _)
    exact this
  | some ad =>
    refine wpList_append_own_wide w hgd s x 38 ho base 3 i (.int .i64 0) 1 8 Tryd.underlying38 hi hz hsz hby rfl (by decide) v ys.length _ hs hown ad zs.length c (zs.map (Value.int .i64)) hx (by simp) (ints_news hb) (ints_one zs) ?_ (by omega) hbase ?_
    · unfold maxLen; omega
    · intro v' w' ho' hg _
      refine h v' w' ?_ hg
      unfold OwnsI
      rw [List.length_append, List.map_append]
      exact ho'


/-- A row that has an element is written out. -/
theorem OwnsI.row {w : World} {base : Nat} {v : Value} {l : List Int} (h : OwnsI w base v l) (h0 : 0 < l.length) :
    ∃ g n cap, v = .slice (some ⟨g, 0, none⟩) n cap ∧ Hid (l.length = n) ∧ n ≤ cap ∧ cap ≤ 9223372036854775807 ∧ base ≤ g := by
  obtain ⟨hl, hv⟩ := h
  rcases hv with ⟨rfl, hn⟩ | ⟨g, cap, cur, rfl, hb, hg, hnc, hcm, hcs, htk⟩
  · omega
  · exact ⟨g, l.length, cap, rfl, rfl, hnc, by simpa [maxLen] using hcm, hb⟩
theorem OwnsI.len {w : World} {base n cap : Nat} {a : Option Addr} {l : List Int} (h : OwnsI w base (.slice a n cap) l) : l.length = n := by
  obtain ⟨hl, hv⟩ := h
  rcases hv with ⟨h1, h2⟩ | ⟨g', cap', cur, h1, _⟩
  · cases h1; exact h2
  · cases h1; rfl
theorem OwnsI.cell {w : World} {base g n cap : Nat} {l : List Int} (h : OwnsI w base (.slice (some ⟨g, 0, none⟩) n cap) l) {j : Nat} (hj : j < l.length) : w.cell? ⟨g, j, none⟩ = some (.int .i64 (l.getD j 0)) := by
  obtain rfl := h.len
  have h1 := World.ownsRow.cellAt h j (by omega)
  rw [h1, List.getElem?_map, List.getD_eq_getElem?_getD, List.getElem?_eq_getElem hj]; rfl
theorem OwnsI.frozen {w : World} {base g n cap : Nat} {l : List Int} (h : OwnsI w base (.slice (some ⟨g, 0, none⟩) n cap) l) (j : Nat) : w.frozen? ⟨g, j, none⟩ = false := by
  obtain rfl := h.len
  exact World.ownsRow.frozenAt h j
theorem OwnsI.store {w : World} {base g n cap : Nat} {l : List Int} (h : OwnsI w base (.slice (some ⟨g, 0, none⟩) n cap) l) (j : Nat) (c : Int) : OwnsI (w.setCell ⟨g, j, none⟩ (.int .i64 c)) base (.slice (some ⟨g, 0, none⟩) n cap) (l.set j c) := by
  obtain rfl := h.len
  have := (World.ownsRow.stored h j (.int .i64 c)).1
  rw [← List.map_set] at this
  unfold OwnsI
  rw [List.length_set]
  exact this
theorem OwnsI.ge {w : World} {base g n cap : Nat} {l : List Int} (h : OwnsI w base (.slice (some ⟨g, 0, none⟩) n cap) l) : base ≤ g ∧ g < w.heap.size := by
  obtain ⟨hl, hv⟩ := h
  rcases hv with ⟨h1, _⟩ | ⟨g', cap', cur, h1, hb, hg, _⟩
  · cases h1
  · cases h1
    exact ⟨hb, (Array.getElem?_eq_some_iff.1 hg).1⟩
/-- Its first elements. -/
theorem OwnsI.firsts {w : World} {base g n cap : Nat} {l : List Int} (h : OwnsI w base (.slice (some ⟨g, 0, none⟩) n cap) l) (k : Nat) (hk : k ≤ l.length) : OwnsI w base (.slice (some ⟨g, 0, none⟩) k cap) (l.take k) := by
  obtain ⟨hl, hv⟩ := h
  have e : (l.take k).length = k := by rw [List.length_take]; omega
  unfold OwnsI
  rw [e]
  refine ⟨by rw [List.length_map, e]; omega, ?_⟩
  rcases hv with ⟨h1, _⟩ | ⟨g', cap', cur, h1, hb, hg, hnc, hcm, hcs, htk⟩
  · cases h1
  · cases h1
    refine .inr ⟨g, cap, cur, rfl, hb, hg, by omega, hcm, hcs, ?_⟩
    rw [List.map_take, ← htk, List.take_take]
    congr 1
    omega
end Go.Proofs.YtgfnohgpmmaocaaDoor
