/-
  Rows of runes: read, made, appended to, compared; what Go's '[]rune(s)' lays.
-/
import Derived.Test.YtfkoghmbkgbgbaaDoorBegun
import Derived.Deep.DeepAppendWide
import Derived.Deep.QuietTactic
import Derived.BigQuiet
namespace Go.Proofs.YtfkoghmbkgbgbaaDoor
open Go.RowKit

/-- The runes l lie at a. -/
def Jnts (w : World) (a : Option Addr) (l : List Int) : Prop :=
  l.length ≤ maxLen ∧ (l = [] ∨ ∃ b off, a = some ⟨b, off, none⟩ ∧ ∀ i, i < l.length → w.cell? ⟨b, off + i, none⟩ = some (.int .i32 (l.getD i 0)))
/-- Runes in new memory. -/
def OwnsJ (w : World) (base : Nat) (v : Value) (l : List Int) : Prop := w.ownsRow base 21 1 v l.length (l.map (Value.int .i32))
def ints (l : List Nat) : List Int := l.map fun r => ((r : Nat) : Int)
theorem cells_ints (l : List Nat) : (ints l).map (Value.int .i32) = cellsR l := by simp [ints, cellsR]
theorem jnts_len (l : List Nat) : (ints l).length = l.length := by simp [ints]
theorem jnts_inj {l m : List Nat} (h : ints l = ints m) : l = m := by
  induction l generalizing m with
  | nil => cases m with
    | nil => rfl
    | cons y m => simp [ints] at h
  | cons x l ih => cases m with
    | nil => simp [ints] at h
    | cons y m =>
      simp only [ints, List.map_cons, List.cons.injEq] at h
      obtain ⟨h1, h2⟩ := h
      rw [ih h2, show x = y from by omega]

theorem info21 : (Tryd.prog.info? 21).map (fun i => (i.zero, i.size, i.bytes)) = some (some (.int .i32 0), 1, 4) := by kernel_rfl

theorem ownsJ_nil (w : World) (base : Nat) : OwnsJ w base (.slice none 0 0) [] := World.ownsRow_nil w base 21 1
theorem OwnsJ.shape {w : World} {base : Nat} {v : Value} {l : List Int} (h : OwnsJ w base v l) :
    ∃ a cap, v = .slice a l.length cap ∧ (a = none → cap = 0) ∧ (l.length ≤ cap ∧ cap ≤ maxLen) ∧ Jnts w a l ∧ (∀ x, a = some x → base ≤ x.block ∧ x.block < w.heap.size ∧ x.off = 0 ∧ x.spot = none) := by
  obtain ⟨hl, hv⟩ := h
  rcases hv with ⟨rfl, hn⟩ | ⟨g, cap, cur, rfl, hb, hg, hnc, hcm, hcs, htk⟩
  · have h0 : l = [] := List.eq_nil_of_length_eq_zero hn
    subst h0
    exact ⟨none, 0, rfl, fun _ => rfl, by simp, ⟨by simp, .inl rfl⟩, fun x hx => by cases hx⟩
  · refine ⟨some ⟨g, 0, none⟩, cap, rfl, (fun hx => by cases hx), ⟨hnc, hcm⟩, ⟨by omega, .inr ⟨g, 0, rfl, fun i hi => ?_⟩⟩, ?_⟩
    · rw [Nat.zero_add, cell_row hg, ← Array.getElem?_toList]
      have h1 : (cur.toList.take (l.length * 1))[i]? = (l.map (Value.int .i32))[i]? := by rw [htk]
      rw [List.getElem?_take, if_pos (by omega), List.getElem?_map] at h1
      rw [h1, List.getD_eq_getElem?_getD, List.getElem?_eq_getElem hi]; rfl
    · intro x hx
      cases hx
      exact ⟨hb, (Array.getElem?_eq_some_iff.1 hg).1, rfl, rfl⟩
theorem OwnsJ.form {w : World} {base : Nat} {v : Value} {l : List Int} (h : OwnsJ w base v l) :
    ∃ a n cap, v = .slice a n cap ∧ Hid (l.length = n) ∧ Hid (a = none → cap = 0) ∧ n ≤ cap ∧ cap ≤ 9223372036854775807 ∧ Hid (Jnts w a l) := by
  obtain ⟨a, cap, hv, hn, ⟨hl, hm⟩, hb, _⟩ := h.shape
  exact ⟨a, l.length, cap, hv, rfl, hn, hl, by simpa [maxLen] using hm, hb⟩
theorem OwnsJ.below {w w' : World} {base : Nat} {v : Value} {l : List Int} (h : OwnsJ w base v l) (hb : Below w.heap.size w w') : OwnsJ w' base v l :=
  World.ownsRow.kept (row := none) h ⟨hb.os, hb.tape, hb.output, hb.size, fun k hk _ => hb.block k hk⟩ (by cases hv : v.ownBlock <;> simp)
theorem OwnsJ.alloc {w : World} {base : Nat} {v : Value} {l : List Int} (h : OwnsJ w base v l) (o : Obj) : OwnsJ (w.alloc o) base v l := h.below ((Below.refl _ _).alloc (Nat.le_refl _) o)
/-- Where blocks below stay it stays. -/
theorem OwnsJ.low {w : World} {base : Nat} {v : Value} {l : List Int} (h : OwnsJ w base v l) {a : Addr} (ha : a.block < base) (u : Value) : OwnsJ (w.setCell a u) base v l := ownsRow_setCell_below h ha u
theorem OwnsJ.base {w : World} {base base' : Nat} {v : Value} {l : List Int} (h : OwnsJ w base v l) (hB : base' ≤ base) : OwnsJ w base' v l := by
  obtain ⟨hl, hv⟩ := h
  refine ⟨hl, ?_⟩
  rcases hv with ⟨rfl, hn⟩ | ⟨g, cap, cur, rfl, hb, hr⟩
  · exact .inl ⟨rfl, hn⟩
  · exact .inr ⟨g, cap, cur, rfl, by omega, hr⟩
theorem grownJ_below {w w1 w2 : World} {base : Nat} {v : Value} {l : List Int} (hb : Below base w w1) (h : OwnsJ w1 base v l) (hg : w1.grownBy w2 v.ownBlock) (hB : base ≤ w1.heap.size) : Below base w w2 :=
  hb.grown hg hB fun k hk => (World.ownsRow.lt h k hk).1

theorem Jnts.lt {w : World} {x : Addr} {l : List Int} (hb : Jnts w (some x) l) (h0 : l ≠ []) : x.block < w.heap.size := by
  rcases hb.2 with h1 | ⟨b, off, h1, hc⟩
  · exact absurd h1 h0
  · cases h1
    have hp : 0 < l.length := List.length_pos_iff.2 h0
    have := hc 0 hp
    simp only [World.cell?] at this
    show b < w.heap.size
    rcases Nat.lt_or_ge b w.heap.size with h2 | h2
    · exact h2
    · simp [Array.getElem?_eq_none h2] at this
theorem Jnts.kept {w w' : World} {a : Option Addr} {l : List Int} (hb : Jnts w a l) (h : Below w.heap.size w w') : Jnts w' a l := by
  refine ⟨hb.1, ?_⟩
  rcases hb.2 with h0 | ⟨b, off, rfl, hc⟩
  · exact .inl h0
  · by_cases h0 : l = []
    · exact .inl h0
    · refine .inr ⟨b, off, rfl, fun i hi => ?_⟩
      rw [h.cell (p := ⟨b, off + i, none⟩) (hb.lt h0)]
      exact hc i hi
theorem jnts_some {w : World} {a : Option Addr} {l : List Int} (hb : Jnts w a l) (h : 0 < l.length) : ∃ b off, a = some ⟨b, off, none⟩ := by
  rcases hb.2 with rfl | ⟨b, off, h1, _⟩
  · simp at h
  · exact ⟨b, off, h1⟩
theorem Jnts.cell {w : World} {b off : Nat} {l : List Int} (hb : Jnts w (some ⟨b, off, none⟩) l) {i : Nat} (hi : i < l.length) : w.cell? ⟨b, off + i, none⟩ = some (.int .i32 (l.getD i 0)) := by
  rcases hb.2 with h | ⟨b', off', h, hc⟩
  · subst h; simp at hi
  · cases h
    exact hc i hi
theorem jnts_news {w : World} {x : Addr} {l : List Int} (hb : Jnts w (some x) l) : ∀ j u, (l.map (Value.int .i32))[j]? = some u → w.cell? (x.add j) = some u := by
  intro j u hu
  rcases hb.2 with rfl | ⟨b, off, hx, hc⟩
  · simp at hu
  · cases hx
    have hj : j < l.length := by
      have := (List.getElem?_eq_some_iff.1 hu).1
      simpa using this
    have h1 := hc j hj
    rw [List.getElem?_map, List.getElem?_eq_getElem hj] at hu
    simp only [Option.map_some, Option.some.injEq] at hu
    subst hu
    have e : (⟨b, off, none⟩ : Addr).add j = ⟨b, off + j, none⟩ := by
      by_cases h0 : j = 0
      · subst h0; simp [Addr.add]
      · simp [Addr.add, h0]
    rw [e, h1, List.getD_eq_getElem?_getD, List.getElem?_eq_getElem hj]; rfl
theorem jnts_one (l : List Int) : ∀ u ∈ l.map (Value.int .i32), u.oneCell' = true := by
  intro u hu
  obtain ⟨c, _, rfl⟩ := List.mem_map.1 hu
  rfl
theorem one_rune (w : World) (n : Int) : Jnts (w.alloc (.cells #[.int .i32 n] 21)) (some ⟨w.heap.size, 0, none⟩) [n] := by
  refine ⟨by simp [maxLen], .inr ⟨_, _, rfl, ?_⟩⟩
  intro i hi
  rw [World.cell?_alloc_mark]
  match i, hi with
  | 0, _ => rfl

/-- 'append(v, x...)', v the call's own runes, x any runes. -/
theorem wpList_append_jnts {w : World} {ops : Array Oper} {rest : List Oper} {o : Oper} {a : Act} {Q : Exit → Act → World → Prop} (hgd : o.guard = none) (s x : Operand)
    (ho : o.op = .call { callee := .builtin .append, args := #[s, x], argTypes := #[37, 37] })
    (base : Nat) (v : Value) (ys zs : List Int) (hs : a.eval s = v) (hown : OwnsJ w base v ys)
    (ad : Option Addr) (m c : Nat) (hx : a.eval x = .slice ad m c) (hm : zs.length = m) (hn : ad = none → c = 0) (hb : Jnts w ad zs)
    (hbytes : ys.length + zs.length ≤ 52776558133248) (hbase : base ≤ w.heap.size)
    (h : ∀ v' w', OwnsJ w' base v' (ys ++ zs) → w.grownBy w' v.ownBlock → wpList Tryd.prog ops Q rest (a.put o.dst v') w') : wpList Tryd.prog ops Q (o :: rest) a w := by
  subst hm
  obtain ⟨i, hi, hz, hsz, hby⟩ := info_parts info21
  cases ad with
  | none =>
    have h0 : zs = [] := by
      rcases hb.2 with h0 | ⟨_, _, h0, _⟩
      · exact h0
      · cases h0
    subst h0
    rw [hn rfl] at hx
    refine wpList_append_own_none hgd s x 37 ho base 21 i 1 Tryd.underlying37 hi v ys.length _ hs hown hx ?_
    have := h v w (by simpa using hown) (World.grownBy.refl _ _)
    exact this
  | some ad =>
    refine wpList_append_own_wide w hgd s x 37 ho base 21 i (.int .i32 0) 1 4 Tryd.underlying37 hi hz hsz hby rfl (by decide) v ys.length _ hs hown ad zs.length c (zs.map (Value.int .i32)) hx (by simp) (jnts_news hb) (jnts_one zs) ?_ (by omega) hbase ?_
    · unfold maxLen; omega
    · intro v' w' ho' hg _
      refine h v' w' ?_ hg
      unfold OwnsJ
      rw [List.length_append, List.map_append]
      exact ho'

/-- '[]rune(s)' of a text, in whatever world. -/
theorem conv_runes {zs : List Int} (hz : ∀ c ∈ zs, 0 ≤ c ∧ c < 256) (hn : (runesL zs).2 = none) (hm : zs.length ≤ maxLen) :
    ∃ (cp : World → Nat) (X : World → Array Value), (∀ w, (convert 9 37 (.string (strOfNums zs))).run Tryd.prog w = .ok (.slice (some ⟨w.heap.size, 0, none⟩) (runesL zs).1.length (cp w)) (w.drew.alloc (.cells (X w) 21))) ∧
      Hid (∀ (w W : World) (base : Nat), base ≤ W.heap.size → OwnsJ (W.alloc (.cells (X w) 21)) base (.slice (some ⟨W.heap.size, 0, none⟩) (runesL zs).1.length (cp w)) (ints (runesL zs).1)) ∧ (∀ w, (runesL zs).1.length ≤ cp w) := by
  have e := runes_of hz hn
  have hlen : (cellsR (runesL zs).1).toArray.size = (runesL zs).1.length := by simp [cellsR]
  refine ⟨fun w => grownCap w (runesL zs).1.length 0 21, fun w => (cellsR (runesL zs).1).toArray ++ Array.replicate (grownCap w (runesL zs).1.length 0 21 - (runesL zs).1.length) (.int .i32 0), fun w => ?_, fun w W base hB => ?_, fun w => grownCap_ge _ _ _ _⟩
  · rw [run_runes_all w 9 37 21 _ Tryd.underlying9 Tryd.underlying37 Tryd.underlying21, e, hlen]
  · have hge := grownCap_ge w (runesL zs).1.length 0 21
    have hmany := runes_many zs
    have hle := grownCap_le_maxLen w (runesL zs).1.length 0 21 (by omega)
    refine ⟨by rw [List.length_map, Nat.mul_one], .inr ⟨W.heap.size, grownCap w (runesL zs).1.length 0 21, _, by rw [jnts_len], hB, heap_alloc_new W _, by rw [jnts_len]; exact hge, hle, ?_, ?_⟩⟩
    · rw [Array.size_append, hlen, Array.size_replicate]
      omega
    · rw [cells_ints, jnts_len, Array.toList_append]
      rw [List.take_append_of_le_length (by simp [cellsR])]
      exact List.take_of_length_le (by simp [cellsR])
end Go.Proofs.YtfkoghmbkgbgbaaDoor
