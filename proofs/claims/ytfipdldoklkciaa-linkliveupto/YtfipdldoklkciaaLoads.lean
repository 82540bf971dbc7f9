/-
  Loads in memory: lists of lists of bytes, read, and made by the call itself; an append to such a list.
-/
import Derived.Test.YtfipdldoklkciaaLook
namespace Go.Proofs.Ytfipdldoklkciaa
open Go.RowKit

theorem info22 : (Try.prog.info? 23).map (fun i => (i.zero, i.size, i.bytes)) = some (some (.slice none 0 0), 1, 24) := by kernel_rfl

/-- A block below, or one of its type. -/
def Safe (w : World) (base : Nat) (e : TypeId) (b : Nat) : Prop := b < base ∨ ∃ cur m, w.heap[b]? = some (.cells cur e m)

/-- A LOAD IN MEMORY. -/
def Load (w : World) (base : Nat) (u : Value) (l : List Int) : Prop :=
  ∃ a cap, u = .slice a l.length cap ∧ Bytes w a l ∧ (a = none → cap = 0) ∧ l.length ≤ cap ∧ cap ≤ maxLen ∧ ∀ x, a = some x → l ≠ [] → Safe w base 5 x.block

/-- All blocks below, and all of bytes, stay. -/
def Keep5 (w w' : World) (base : Nat) : Prop := w.heap.size ≤ w'.heap.size ∧ ∀ b, Safe w base 5 b → b < w.heap.size → w'.heap[b]? = w.heap[b]?

theorem keep5_below {w w' : World} (h : Below w.heap.size w w') (base : Nat) : Keep5 w w' base := ⟨h.size, fun b _ hb => h.block b hb⟩
theorem keep5_but {w w' : World} {g base : Nat} {T : TypeId} {cur : Array Value} {m : Nat × Nat} (h : w.grownBy w' (some g)) (hb : base ≤ g) (hg : w.heap[g]? = some (.cells cur T m)) (hT : T ≠ 5) : Keep5 w w' base := by
  refine ⟨h.size, fun b hs hlt => h.block b hlt fun e => ?_⟩
  cases e
  rcases hs with h1 | ⟨c, m', h1⟩
  · omega
  · rw [hg] at h1
    cases h1
    exact hT rfl
theorem keep5_row {w w' : World} {rb base n : Nat} {v : Value} {vs : List Value} (h : w.grownBy w' v.ownBlock) (ho : w.ownsRow rb 23 1 v n vs) (hrb : base ≤ rb) : Keep5 w w' base := by
  refine ⟨h.size, fun b hs hlt => h.block b hlt fun e => ?_⟩
  rcases ho.2 with ⟨rfl, _⟩ | ⟨g, cap, cur, rfl, hb, hg, _⟩
  · cases e
  · cases e
    rcases hs with h1 | ⟨c, m', h1⟩
    · have h2 : g < base := h1
      omega
    · rw [hg] at h1
      cases h1

theorem Load.mono {w : World} {base base' : Nat} {u : Value} {l : List Int} (h : Load w base u l) (hb : base ≤ base') : Load w base' u l := by
  obtain ⟨a, cap, h1, h2, h3, h4, h5, h6⟩ := h
  refine ⟨a, cap, h1, h2, h3, h4, h5, fun x hx hne => ?_⟩
  rcases h6 x hx hne with h7 | h7
  · exact .inl (by omega)
  · exact .inr h7

theorem Load.keep {w w' : World} {base : Nat} {u : Value} {l : List Int} (h : Load w base u l) (hk : Keep5 w w' base) : Load w' base u l := by
  obtain ⟨a, cap, rfl, hb, h1, h2, h3, h4⟩ := h
  refine ⟨a, cap, rfl, ⟨hb.1, hb.2.1, ?_⟩, h1, h2, h3, ?_⟩
  · rcases hb.2.2 with h0 | ⟨b, off, rfl, hc⟩
    · exact .inl h0
    · by_cases h0 : l = []
      · exact .inl h0
      · refine .inr ⟨b, off, rfl, fun i hi => ?_⟩
        have hlt : b < w.heap.size := Bytes.lt hb h0
        rw [World.cell?_of_block (w := w) (w' := w') (a := ⟨b, off + i, none⟩) (hk.2 b (h4 _ rfl h0) hlt)]
        exact hc i hi
  · intro x hx hne
    rcases h4 x hx hne with h5 | ⟨c, m, h5⟩
    · exact .inl h5
    · exact .inr ⟨c, m, by rw [hk.2 x.block (h4 x hx hne) (Array.getElem?_eq_some_iff.1 h5).1]; exact h5⟩

/-- WHAT A WALK IS TOLD OF A SLICE OF SLICES OF BYTES: its elements are the lists Ls, and lie at a. -/
def Lists (w : World) (base : Nat) (a : Option Addr) (Ls : List (List Int)) : Prop :=
  Ls.length ≤ maxLen ∧ (Ls = [] ∨ ∃ (b off : Nat) (vs : List Value), a = some ⟨b, off, none⟩ ∧ Safe w base 23 b ∧ vs.length = Ls.length ∧ ∀ i u, vs[i]? = some u → w.cell? ⟨b, off + i, none⟩ = some u ∧ Load w base u (Ls.getD i []))

/-- THE SLICE v OF LOADS LIES IN NEW MEMORY (blocks from 'rb' on), AND ITS ELEMENTS ARE THE LOADS Ls (below 'base', or in rows of bytes). -/
def OwnsL (w : World) (rb base : Nat) (v : Value) (Ls : List (List Int)) : Prop :=
  ∃ vs, w.ownsRow rb 23 1 v Ls.length vs ∧ ∀ i u, vs[i]? = some u → Load w base u (Ls.getD i [])

theorem ownsL_nil (w : World) (rb base : Nat) : OwnsL w rb base (.slice none 0 0) [] := ⟨[], World.ownsRow_nil w rb 23 1, by simp⟩

theorem OwnsL.lists {w : World} {rb base : Nat} {v : Value} {Ls : List (List Int)} (h : OwnsL w rb base v Ls) :
    ∃ a n cap, v = .slice a n cap ∧ Hid (Ls.length = n) ∧ Hid (a = none → cap = 0) ∧ n ≤ cap ∧ cap ≤ 9223372036854775807 ∧ Hid (Lists w base a Ls) := by
  obtain ⟨vs, ho, hl⟩ := h
  obtain ⟨h0, hv⟩ := id ho
  rcases hv with ⟨rfl, hn⟩ | ⟨g, cap, cur, rfl, hb, hg, hnc, hcm, hcs, htk⟩
  · have e : Ls = [] := List.eq_nil_of_length_eq_zero hn
    subst e
    exact ⟨none, 0, 0, rfl, rfl, fun _ => rfl, Nat.le_refl _, Nat.zero_le _, ⟨by simp, .inl rfl⟩⟩
  · refine ⟨some ⟨g, 0, none⟩, Ls.length, cap, rfl, rfl, (fun hx => by cases hx), hnc, by simpa [maxLen] using hcm, ⟨by omega, .inr ⟨g, 0, vs, rfl, .inr ⟨cur, _, hg⟩, by omega, fun i u hu => ⟨?_, hl i u hu⟩⟩⟩⟩
    have h1 := ho.cells (g := g) rfl i u hu
    by_cases h2 : i = 0
    · subst h2; simpa [Addr.add] using h1
    · simpa [Addr.add, h2] using h1

theorem Lists.keep {w w' : World} {base : Nat} {a : Option Addr} {Ls : List (List Int)} (h : Lists w base a Ls) (hk : Keep5 w w' base)
    (hr : ∀ b, Safe w base 23 b → b < w.heap.size → w'.heap[b]? = w.heap[b]?) : Lists w' base a Ls := by
  refine ⟨h.1, ?_⟩
  rcases h.2 with h0 | ⟨b, off, vs, rfl, hs, hl, hc⟩
  · exact .inl h0
  · by_cases h0 : Ls = []
    · exact .inl h0
    · have hp := List.length_pos_iff.2 h0
      have hlt : b < w.heap.size := World.block_lt_of_cell? w ⟨b, off + 0, none⟩ (hc 0 vs[0] (by simp)).1
      refine .inr ⟨b, off, vs, rfl, ?_, hl, fun i u hu => ⟨?_, (hc i u hu).2.keep hk⟩⟩
      · rcases id hs with h5 | ⟨c, m, h5⟩
        · exact .inl h5
        · exact .inr ⟨c, m, by rw [hr b hs hlt]; exact h5⟩
      · rw [World.cell?_of_block (w := w) (w' := w') (a := ⟨b, off + i, none⟩) (hr b hs hlt)]
        exact (hc i u hu).1
theorem Lists.kept {w w' : World} {base : Nat} {a : Option Addr} {Ls : List (List Int)} (h : Lists w base a Ls) (hb : Below w.heap.size w w') : Lists w' base a Ls :=
  h.keep (keep5_below hb base) fun b _ hlt => hb.block b hlt
theorem Lists.but {w w' : World} {base g : Nat} {a : Option Addr} {Ls : List (List Int)} {T : TypeId} {cur : Array Value} {m : Nat × Nat} (h : Lists w base a Ls) (hg : w.grownBy w' (some g)) (hb : base ≤ g) (hc : w.heap[g]? = some (.cells cur T m)) (h5 : T ≠ 5) (h22 : T ≠ 23) : Lists w' base a Ls :=
  h.keep (keep5_but hg hb hc h5) fun b hs hlt => hg.block b hlt fun e => by
    cases e
    rcases hs with h1 | ⟨c, m', h1⟩
    · omega
    · rw [hc] at h1
      cases h1
      exact h22 rfl
/-- Seen from a world, all that is there is old. -/
theorem Lists.old {w : World} {base : Nat} {a : Option Addr} {Ls : List (List Int)} (h : Lists w base a Ls) (hB : base ≤ w.heap.size) : Lists w w.heap.size a Ls := by
  refine ⟨h.1, ?_⟩
  rcases h.2 with h0 | ⟨b, off, vs, rfl, hs, hl, hc⟩
  · exact .inl h0
  · refine .inr ⟨b, off, vs, rfl, ?_, hl, fun i u hu => ⟨(hc i u hu).1, ?_⟩⟩
    · rcases hs with h1 | ⟨c, m, h1⟩
      · exact .inl (by omega)
      · exact .inl (Array.getElem?_eq_some_iff.1 h1).1
    · obtain ⟨a', cap, h1, h2, h3, h4, h5, h6⟩ := (hc i u hu).2
      refine ⟨a', cap, h1, h2, h3, h4, h5, fun x hx hne => ?_⟩
      rcases h6 x hx hne with h7 | ⟨c, m, h7⟩
      · exact .inl (by omega)
      · exact .inl (Array.getElem?_eq_some_iff.1 h7).1

theorem OwnsL.below {w w' : World} {rb base : Nat} {v : Value} {Ls : List (List Int)} (h : OwnsL w rb base v Ls) (hb : Below w.heap.size w w') : OwnsL w' rb base v Ls := by
  obtain ⟨vs, ho, hl⟩ := h
  exact ⟨vs, ho.kept (row := none) ⟨hb.os, hb.tape, hb.output, hb.size, fun k hk _ => hb.block k hk⟩ (by cases hv : v.ownBlock <;> simp), fun i u hu => (hl i u hu).keep (keep5_below hb base)⟩
theorem OwnsL.alloc {w : World} {rb base : Nat} {v : Value} {Ls : List (List Int)} (h : OwnsL w rb base v Ls) (o : Obj) : OwnsL (w.alloc o) rb base v Ls :=
  h.below ((Below.refl _ _).alloc (Nat.le_refl _) o)
theorem OwnsL.but {w w' : World} {rb base g : Nat} {v : Value} {Ls : List (List Int)} {T : TypeId} {cur : Array Value} {m : Nat × Nat} (h : OwnsL w rb base v Ls) (hg : w.grownBy w' (some g)) (hb : base ≤ g) (hc : w.heap[g]? = some (.cells cur T m)) (h5 : T ≠ 5) (h22 : T ≠ 23) : OwnsL w' rb base v Ls := by
  obtain ⟨vs, ho, hl⟩ := h
  refine ⟨vs, ho.kept hg ?_, fun i u hu => (hl i u hu).keep (keep5_but hg hb hc h5)⟩
  rcases ho.2 with ⟨rfl, _⟩ | ⟨g', cap, cur', rfl, _, hg', _⟩
  · exact .inl rfl
  · right
    intro e
    cases e
    rw [hc] at hg'
    cases hg'
    exact h22 rfl
theorem Lists.mono {w : World} {base base' : Nat} {a : Option Addr} {Ls : List (List Int)} (h : Lists w base a Ls) (hb : base ≤ base') : Lists w base' a Ls := by
  refine ⟨h.1, ?_⟩
  rcases h.2 with h0 | ⟨b, off, vs, rfl, hs, hl, hc⟩
  · exact .inl h0
  · refine .inr ⟨b, off, vs, rfl, ?_, hl, fun i u hu => ⟨(hc i u hu).1, (hc i u hu).2.mono hb⟩⟩
    rcases hs with h1 | h1
    · exact .inl (by omega)
    · exact .inr h1

theorem one_load {w : World} {base : Nat} {u : Value} {l : List Int} (h : Load w base u l) (m : Nat × Nat) : Lists (w.alloc (.cells #[u] 23 m)) base (some ⟨w.heap.size, 0, none⟩) [l] := by
  have hbel : Below w.heap.size w (w.alloc (.cells #[u] 23 m)) := (Below.refl _ _).alloc (Nat.le_refl _) _
  refine ⟨by simp [maxLen], .inr ⟨w.heap.size, 0, [u], rfl, .inr ⟨_, _, heap_alloc_new w _⟩, rfl, fun i u' hu => ?_⟩⟩
  have hi : i = 0 := by
    have := (List.getElem?_eq_some_iff.1 hu).1
    simp at this
    omega
  subst hi
  simp only [List.getElem?_cons_zero, Option.some.injEq] at hu
  subst hu
  exact ⟨by rw [World.cell?_alloc_mark]; rfl, h.keep (keep5_below hbel base)⟩

theorem load_one {w : World} {base : Nat} {u : Value} {l : List Int} (h : Load w base u l) : u.oneCell' = true := by
  obtain ⟨a, cap, rfl, _⟩ := h
  rfl

/-- 'append(v, x...)', v the call's own list of loads, x any list of loads. -/
theorem wpList_append_loads {w : World} {ops : Array Oper} {rest : List Oper} {o : Oper} {a : Act} {Q : Exit → Act → World → Prop} (hgd : o.guard = none) (s x : Operand)
    (ho : o.op = .call { callee := .builtin .append, args := #[s, x], argTypes := #[44, 44] })
    (rb base : Nat) (hrb : base ≤ rb) (v : Value) (Ls Ms : List (List Int)) (hs : a.eval s = v) (hown : OwnsL w rb base v Ls)
    (ad : Option Addr) (m c : Nat) (hx : a.eval x = .slice ad m c) (hm : Ms.length = m) (hn : ad = none → c = 0) (hb : Lists w base ad Ms)
    (hbytes : (Ls.length + Ms.length) * 24 ≤ 140737488355328) (hbase : rb ≤ w.heap.size)
    (h : ∀ v' w', OwnsL w' rb base v' (Ls ++ Ms) → w.grownBy w' v.ownBlock → wpList Try.prog ops Q rest (a.put o.dst v') w') : wpList Try.prog ops Q (o :: rest) a w := by
  subst hm
  obtain ⟨i, hi, hz, hsz, hby⟩ := info_parts info22
  obtain ⟨vs, hvs, hl⟩ := hown
  cases ad with
  | none =>
    have h0 : Ms = [] := by
      rcases hb.2 with h0 | ⟨_, _, _, h0, _⟩
      · exact h0
      · cases h0
    subst h0
    rw [hn rfl] at hx
    refine wpList_append_own_none hgd s x 44 ho rb 23 i 1 Try.underlying44 hi v Ls.length _ hs hvs hx ?_
    exact h v w ⟨vs, by simpa using hvs, by simpa using hl⟩ (World.grownBy.refl _ _)
  | some ad =>
    obtain ⟨us, hul, huc⟩ : ∃ us : List Value, us.length = Ms.length ∧ ∀ j u, us[j]? = some u → w.cell? (ad.add j) = some u ∧ Load w base u (Ms.getD j []) := by
      rcases hb.2 with rfl | ⟨b, off, us, hx', _, hul, huc⟩
      · exact ⟨[], rfl, by simp⟩
      · cases hx'
        refine ⟨us, hul, fun j u hu => ?_⟩
        have e : (⟨b, off, none⟩ : Addr).add j = ⟨b, off + j, none⟩ := by
          by_cases h0 : j = 0
          · subst h0; simp [Addr.add]
          · simp [Addr.add, h0]
        rw [e]
        exact huc j u hu
    refine wpList_append_own w hgd s x 44 ho rb 23 i (.slice none 0 0) 1 24 Try.underlying44 hi hz hsz hby rfl (by decide) v Ls.length _ hs hvs ad Ms.length c us hx (by omega) (fun j u hu => (huc j u hu).1) (fun u hu => ?_) ?_ hbytes hbase ?_
    · obtain ⟨j, hj, rfl⟩ := List.mem_iff_getElem.1 hu
      exact load_one (huc j _ (List.getElem?_eq_getElem hj)).2
    · unfold maxLen; omega
    · intro v' w' ho' hg _
      have hk := keep5_row hg hvs hrb
      refine h v' w' ⟨vs ++ us, by rw [List.length_append]; exact ho', fun j u hu => ?_⟩ hg
      have hvl : vs.length = Ls.length := by have := hvs.1; omega
      by_cases hj : j < vs.length
      · rw [List.getElem?_append_left hj] at hu
        have := (hl j u hu).keep hk
        rwa [List.getD_eq_getElem?_getD, List.getElem?_append_left (by omega), ← List.getD_eq_getElem?_getD]
      · rw [List.getElem?_append_right (by omega)] at hu
        have := (huc _ u hu).2.keep hk
        rwa [List.getD_eq_getElem?_getD, List.getElem?_append_right (by omega), ← hvl, ← List.getD_eq_getElem?_getD]

theorem grownL_below {w w1 w2 : World} {base eb : Nat} {v : Value} {Ls : List (List Int)} (hb : Below base w w1) (h : OwnsL w1 base eb v Ls) (hg : w1.grownBy w2 v.ownBlock) (hB : base ≤ w1.heap.size) : Below base w w2 := by
  obtain ⟨vs, ho, _⟩ := h
  exact hb.grown hg hB fun k hk => (ho.lt k hk).1

/-- THE NEXT LOAD: its cell, and what has been gone over then. -/
theorem next_load {w : World} {base b off : Nat} {vs : List Value} {Ls : List (List Int)} (hl : vs.length = Ls.length)
    (hc : ∀ i u, vs[i]? = some u → w.cell? ⟨b, off + i, none⟩ = some u ∧ Load w base u (Ls.getD i [])) {k : Nat} (hk : k < Ls.length) :
    ∃ (l : List Int) (a : Option Addr) (n cap : Nat), w.cell? ⟨b, off + k, none⟩ = some (.slice a n cap) ∧ Hid (l.length = n) ∧ Hid (Bytes w a l) ∧ Hid (a = none → cap = 0) ∧ n ≤ cap ∧ cap ≤ 9223372036854775807 ∧ Hid (∀ x, a = some x → l ≠ [] → Safe w base 5 x.block) ∧ Hid (Ls.take (k + 1) = Ls.take k ++ [l]) ∧ Hid (Ls[k]? = some l) := by
  obtain ⟨h1, a, cap, h2, h3, h4, h5, h6, h7⟩ := hc k vs[k] (by simp)
  refine ⟨Ls.getD k [], a, (Ls.getD k []).length, cap, by rw [h1, h2], rfl, h3, h4, h5, by simpa [maxLen] using h6, h7, ?_, ?_⟩
  · show _ = _
    rw [List.take_succ_eq_append_getElem hk, List.getD_eq_getElem?_getD, List.getElem?_eq_getElem hk]; rfl
  · show _ = _
    rw [List.getD_eq_getElem?_getD, List.getElem?_eq_getElem hk]; rfl
/-- A slice of bytes that the call made is a load. -/
theorem load_of_owns {w : World} {base base' : Nat} {v : Value} {zs : List Int} (h : OwnsB w base v zs) : Load w base' v zs := by
  obtain ⟨⟨hl, hv⟩, hz⟩ := id h
  obtain ⟨a, cap, e1, e2, ⟨e3, e4⟩, e5, e6⟩ := h.shape
  refine ⟨a, cap, e1, e5, e2, e3, e4, fun x hx _ => .inr ?_⟩
  rcases hv with ⟨rfl, _⟩ | ⟨g, cap', cur, rfl, _, hg, _⟩
  · simp only [Value.slice.injEq] at e1
    rw [← e1.1] at hx
    cases hx
  · simp only [Value.slice.injEq] at e1
    rw [← e1.1] at hx
    cases hx
    exact ⟨cur, _, hg⟩
end Go.Proofs.Ytfipdldoklkciaa
