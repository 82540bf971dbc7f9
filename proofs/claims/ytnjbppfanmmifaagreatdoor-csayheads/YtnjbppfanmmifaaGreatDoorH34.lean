/-
  CBOR as trees: items one behind the other are an Array of them: the walk.
  Loads in memory: lists of lists of bytes, read, and made by the call itself; an append to such a list.
  CBOR out of trees: an item's beginning, as plain data and as the program makes it.
  CBOR out of trees: an item's beginning, as the program makes it.
  CBOR out of trees: parts one behind the other.
  Differences: nat.Sub.
  Bytes turned round in place: slices.Reverse.
-/
import Derived.Test.YtnjbppfanmmifaaGreatDoorH29
import Derived.Test.YtnjbppfanmmifaaGreatDoorH33
import Derived.Test.YtnjbppfanmmifaaGreatDoorH19
import Derived.Test.YtnjbppfanmmifaaGreatDoorH1
import Derived.Deep.LoopGhost
namespace Go.Proofs.YtnjbppfanmmifaaGreatDoor
open Go.RowKit
set_option linter.unusedVariables false
theorem ownsB_one (w : World) {c : Int} (h : 0 ≤ c ∧ c < 256) : OwnsB (w.alloc (.cells #[.int .u8 c] 5)) w.heap.size (.slice (some ⟨w.heap.size, 0, none⟩) 1 1) [c] :=
  ⟨⟨rfl, Or.inr ⟨w.heap.size, 1, #[.int .u8 c], rfl, Nat.le_refl _, heap_alloc_new w _, Nat.le_refl _, by decide, rfl, rfl⟩⟩, fun x hx => by rw [List.mem_singleton.1 hx]; exact h⟩
end Go.Proofs.YtnjbppfanmmifaaGreatDoor
namespace Go.Proofs.YtnjbppfanmmifaaGreatDoor
open Go.RowKit

theorem info22 : (Tryz.prog.info? 22).map (fun i => (i.zero, i.size, i.bytes)) = some (some (.slice none 0 0), 1, 24) := by kernel_rfl

/-- A block below, or one of its type. -/
def Safe (w : World) (base : Nat) (e : TypeId) (b : Nat) : Prop := b < base ∨ ∃ cur m, w.heap[b]? = some (.cells cur e m)

/-- A LOAD IN MEMORY. -/
def Load (w : World) (base : Nat) (u : Value) (l : List Int) : Prop :=
  ∃ a cap, u = .slice a l.length cap ∧ Bytes w a l ∧ (a = none → cap = 0) ∧ l.length ≤ cap ∧ cap ≤ maxLen ∧ ∀ x, a = some x → l ≠ [] → Safe w base 5 x.block

/-- All blocks below, and all of bytes, stay. -/
def Keep5 (w w' : World) (base : Nat) : Prop := w.heap.size ≤ w'.heap.size ∧ ∀ b, Safe w base 5 b → b < w.heap.size → w'.heap[b]? = w.heap[b]?

theorem keep5_below {w w' : World} (h : Below w.heap.size w w') (base : Nat) : Keep5 w w' base := ⟨h.size, fun b _ hb => h.block b hb⟩
theorem keep5_but {w w' : World} {g base : Nat} {T : TypeId} {cur : Array Value} {m : Nat × Nat} (h : w.grownBy w' (some g)) (hb : base ≤ g) (hg : w.heap[g]? = some (.cells cur T m)) (hT : T ≠ 5) : Keep5 w w' base := by
  refine ⟨h.size, fun b hs hlt => h.block b hlt fun e => ?_⟩
  cases e
  rcases hs with h1 | ⟨c, m', h1⟩
  · omega
  · rw [hg] at h1
    cases h1
    exact hT rfl
theorem keep5_row {w w' : World} {rb base n : Nat} {v : Value} {vs : List Value} (h : w.grownBy w' v.ownBlock) (ho : w.ownsRow rb 22 1 v n vs) (hrb : base ≤ rb) : Keep5 w w' base := by
  refine ⟨h.size, fun b hs hlt => h.block b hlt fun e => ?_⟩
  rcases ho.2 with ⟨rfl, _⟩ | ⟨g, cap, cur, rfl, hb, hg, _⟩
  · cases e
  · cases e
    rcases hs with h1 | ⟨c, m', h1⟩
    · have h2 : g < base := h1
      omega
    · rw [hg] at h1
      cases h1

theorem Load.mono {w : World} {base base' : Nat} {u : Value} {l : List Int} (h : Load w base u l) (hb : base ≤ base') : Load w base' u l := by
  obtain ⟨a, cap, h1, h2, h3, h4, h5, h6⟩ := h
  refine ⟨a, cap, h1, h2, h3, h4, h5, fun x hx hne => ?_⟩
  rcases h6 x hx hne with h7 | h7
  · exact .inl (by omega)
  · exact .inr h7

theorem Load.keep {w w' : World} {base : Nat} {u : Value} {l : List Int} (h : Load w base u l) (hk : Keep5 w w' base) : Load w' base u l := by
  obtain ⟨a, cap, rfl, hb, h1, h2, h3, h4⟩ := h
  refine ⟨a, cap, rfl, ⟨hb.1, hb.2.1, ?_⟩, h1, h2, h3, ?_⟩
  · rcases hb.2.2 with h0 | ⟨b, off, rfl, hc⟩
    · exact .inl h0
    · by_cases h0 : l = []
      · exact .inl h0
      · refine .inr ⟨b, off, rfl, fun i hi => ?_⟩
        have hlt : b < w.heap.size := Bytes.lt hb h0
        rw [World.cell?_of_block (w := w) (w' := w') (a := ⟨b, off + i, none⟩) (hk.2 b (h4 _ rfl h0) hlt)]
        exact hc i hi
  · intro x hx hne
    rcases h4 x hx hne with h5 | ⟨c, m, h5⟩
    · exact .inl h5
    · exact .inr ⟨c, m, by rw [hk.2 x.block (h4 x hx hne) (Array.getElem?_eq_some_iff.1 h5).1]; exact h5⟩

/-- WHAT A WALK IS TOLD OF A SLICE OF SLICES OF BYTES: its elements are the lists Ls, and lie at a. -/
def Lists (w : World) (base : Nat) (a : Option Addr) (Ls : List (List Int)) : Prop :=
  Ls.length ≤ maxLen ∧ (Ls = [] ∨ ∃ (b off : Nat) (vs : List Value), a = some ⟨b, off, none⟩ ∧ Safe w base 22 b ∧ vs.length = Ls.length ∧ ∀ i u, vs[i]? = some u → w.cell? ⟨b, off + i, none⟩ = some u ∧ Load w base u (Ls.getD i []))

/-- THE SLICE v OF LOADS LIES IN NEW MEMORY (blocks from 'rb' on), AND ITS ELEMENTS ARE THE LOADS Ls (below 'base', or in rows of bytes). -/
def OwnsL (w : World) (rb base : Nat) (v : Value) (Ls : List (List Int)) : Prop :=
  ∃ vs, w.ownsRow rb 22 1 v Ls.length vs ∧ ∀ i u, vs[i]? = some u → Load w base u (Ls.getD i [])

theorem ownsL_nil (w : World) (rb base : Nat) : OwnsL w rb base (.slice none 0 0) [] := ⟨[], World.ownsRow_nil w rb 22 1, by simp⟩

theorem OwnsL.lists {w : World} {rb base : Nat} {v : Value} {Ls : List (List Int)} (h : OwnsL w rb base v Ls) :
    ∃ a n cap, v = .slice a n cap ∧ Hid (Ls.length = n) ∧ Hid (a = none → cap = 0) ∧ n ≤ cap ∧ cap ≤ 9223372036854775807 ∧ Hid (Lists w base a Ls) := by
  obtain ⟨vs, ho, hl⟩ := h
  obtain ⟨h0, hv⟩ := id ho
  rcases hv with ⟨rfl, hn⟩ | ⟨g, cap, cur, rfl, hb, hg, hnc, hcm, hcs, htk⟩
  · have e : Ls = [] := List.eq_nil_of_length_eq_zero hn
    subst e
    exact ⟨none, 0, 0, rfl, rfl, fun _ => rfl, Nat.le_refl _, Nat.zero_le _, ⟨by simp, .inl rfl⟩⟩
  · refine ⟨some ⟨g, 0, none⟩, Ls.length, cap, rfl, rfl, (fun hx => by cases hx), hnc, by simpa [maxLen] using hcm, ⟨by omega, .inr ⟨g, 0, vs, rfl, .inr ⟨cur, _, hg⟩, by omega, fun i u hu => ⟨?_, hl i u hu⟩⟩⟩⟩
    have h1 := ho.cells (g := g) rfl i u hu
    by_cases h2 : i = 0
    · subst h2; simpa [Addr.add] using h1
    · simpa [Addr.add, h2] using h1

theorem Lists.keep {w w' : World} {base : Nat} {a : Option Addr} {Ls : List (List Int)} (h : Lists w base a Ls) (hk : Keep5 w w' base)
    (hr : ∀ b, Safe w base 22 b → b < w.heap.size → w'.heap[b]? = w.heap[b]?) : Lists w' base a Ls := by
  refine ⟨h.1, ?_⟩
  rcases h.2 with h0 | ⟨b, off, vs, rfl, hs, hl, hc⟩
  · exact .inl h0
  · by_cases h0 : Ls = []
    · exact .inl h0
    · have hp := List.length_pos_iff.2 h0
      have hlt : b < w.heap.size := World.block_lt_of_cell? w ⟨b, off + 0, none⟩ (hc 0 vs[0] (by simp)).1
      refine .inr ⟨b, off, vs, rfl, ?_, hl, fun i u hu => ⟨?_, (hc i u hu).2.keep hk⟩⟩
      · rcases id hs with h5 | ⟨c, m, h5⟩
        · exact .inl h5
        · exact .inr ⟨c, m, by rw [hr b hs hlt]; exact h5⟩
      · rw [World.cell?_of_block (w := w) (w' := w') (a := ⟨b, off + i, none⟩) (hr b hs hlt)]
        exact (hc i u hu).1
theorem Lists.kept {w w' : World} {base : Nat} {a : Option Addr} {Ls : List (List Int)} (h : Lists w base a Ls) (hb : Below w.heap.size w w') : Lists w' base a Ls :=
  h.keep (keep5_below hb base) fun b _ hlt => hb.block b hlt
theorem Lists.but {w w' : World} {base g : Nat} {a : Option Addr} {Ls : List (List Int)} {T : TypeId} {cur : Array Value} {m : Nat × Nat} (h : Lists w base a Ls) (hg : w.grownBy w' (some g)) (hb : base ≤ g) (hc : w.heap[g]? = some (.cells cur T m)) (h5 : T ≠ 5) (h22 : T ≠ 22) : Lists w' base a Ls :=
  h.keep (keep5_but hg hb hc h5) fun b hs hlt => hg.block b hlt fun e => by
    cases e
    rcases hs with h1 | ⟨c, m', h1⟩
    · omega
    · rw [hc] at h1
      cases h1
      exact h22 rfl
/-- Seen from a world, all that is there is old. -/
theorem Lists.old {w : World} {base : Nat} {a : Option Addr} {Ls : List (List Int)} (h : Lists w base a Ls) (hB : base ≤ w.heap.size) : Lists w w.heap.size a Ls := by
  refine ⟨h.1, ?_⟩
  rcases h.2 with h0 | ⟨b, off, vs, rfl, hs, hl, hc⟩
  · exact .inl h0
  · refine .inr ⟨b, off, vs, rfl, ?_, hl, fun i u hu => ⟨(hc i u hu).1, ?_⟩⟩
    · rcases hs with h1 | ⟨c, m, h1⟩
      · exact .inl (by omega)
      · exact .inl (Array.getElem?_eq_some_iff.1 h1).1
    · obtain ⟨a', cap, h1, h2, h3, h4, h5, h6⟩ := (hc i u hu).2
      refine ⟨a', cap, h1, h2, h3, h4, h5, fun x hx hne => ?_⟩
      rcases h6 x hx hne with h7 | ⟨c, m, h7⟩
      · exact .inl (by omega)
      · exact .inl (Array.getElem?_eq_some_iff.1 h7).1

theorem OwnsL.below {w w' : World} {rb base : Nat} {v : Value} {Ls : List (List Int)} (h : OwnsL w rb base v Ls) (hb : Below w.heap.size w w') : OwnsL w' rb base v Ls := by
  obtain ⟨vs, ho, hl⟩ := h
  exact ⟨vs, ho.kept (row := none) ⟨hb.os, hb.tape, hb.output, hb.size, fun k hk _ => hb.block k hk⟩ (by cases hv : v.ownBlock <;> simp), fun i u hu => (hl i u hu).keep (keep5_below hb base)⟩
theorem OwnsL.alloc {w : World} {rb base : Nat} {v : Value} {Ls : List (List Int)} (h : OwnsL w rb base v Ls) (o : Obj) : OwnsL (w.alloc o) rb base v Ls :=
  h.below ((Below.refl _ _).alloc (Nat.le_refl _) o)
theorem OwnsL.but {w w' : World} {rb base g : Nat} {v : Value} {Ls : List (List Int)} {T : TypeId} {cur : Array Value} {m : Nat × Nat} (h : OwnsL w rb base v Ls) (hg : w.grownBy w' (some g)) (hb : base ≤ g) (hc : w.heap[g]? = some (.cells cur T m)) (h5 : T ≠ 5) (h22 : T ≠ 22) : OwnsL w' rb base v Ls := by
  obtain ⟨vs, ho, hl⟩ := h
  refine ⟨vs, ho.kept hg ?_, fun i u hu => (hl i u hu).keep (keep5_but hg hb hc h5)⟩
  rcases ho.2 with ⟨rfl, _⟩ | ⟨g', cap, cur', rfl, _, hg', _⟩
  · exact .inl rfl
  · right
    intro e
    cases e
    rw [hc] at hg'
    cases hg'
    exact h22 rfl
theorem Lists.mono {w : World} {base base' : Nat} {a : Option Addr} {Ls : List (List Int)} (h : Lists w base a Ls) (hb : base ≤ base') : Lists w base' a Ls := by
  refine ⟨h.1, ?_⟩
  rcases h.2 with h0 | ⟨b, off, vs, rfl, hs, hl, hc⟩
  · exact .inl h0
  · refine .inr ⟨b, off, vs, rfl, ?_, hl, fun i u hu => ⟨(hc i u hu).1, (hc i u hu).2.mono hb⟩⟩
    rcases hs with h1 | h1
    · exact .inl (by omega)
    · exact .inr h1

theorem one_load {w : World} {base : Nat} {u : Value} {l : List Int} (h : Load w base u l) (m : Nat × Nat) : Lists (w.alloc (.cells #[u] 22 m)) base (some ⟨w.heap.size, 0, none⟩) [l] := by
  have hbel : Below w.heap.size w (w.alloc (.cells #[u] 22 m)) := (Below.refl _ _).alloc (Nat.le_refl _) _
  refine ⟨by simp [maxLen], .inr ⟨w.heap.size, 0, [u], rfl, .inr ⟨_, _, heap_alloc_new w _⟩, rfl, fun i u' hu => ?_⟩⟩
  have hi : i = 0 := by
    have := (List.getElem?_eq_some_iff.1 hu).1
    simp at this
    omega
  subst hi
  simp only [List.getElem?_cons_zero, Option.some.injEq] at hu
  subst hu
  exact ⟨by rw [World.cell?_alloc_mark]; rfl, h.keep (keep5_below hbel base)⟩

theorem load_one {w : World} {base : Nat} {u : Value} {l : List Int} (h : Load w base u l) : u.oneCell' = true := by
  obtain ⟨a, cap, rfl, _⟩ := h
  rfl

/-- 'append(v, x...)', v the call's own list of loads, x any list of loads. -/
theorem wpList_append_loads {w : World} {ops : Array Oper} {rest : List Oper} {o : Oper} {a : Act} {Q : Exit → Act → World → Prop} (hgd : o.guard = none) (s x : Operand)
    (ho : o.op = .call { callee := .builtin .append, args := #[s, x], argTypes := #[123, 123] })
    (rb base : Nat) (hrb : base ≤ rb) (v : Value) (Ls Ms : List (List Int)) (hs : a.eval s = v) (hown : OwnsL w rb base v Ls)
    (ad : Option Addr) (m c : Nat) (hx : a.eval x = .slice ad m c) (hm : Ms.length = m) (hn : ad = none → c = 0) (hb : Lists w base ad Ms)
    (hbytes : (Ls.length + Ms.length) * 24 ≤ 140737488355328) (hbase : rb ≤ w.heap.size)
    (h : ∀ v' w', OwnsL w' rb base v' (Ls ++ Ms) → w.grownBy w' v.ownBlock → wpList Tryz.prog ops Q rest (a.put o.dst v') w') : wpList Tryz.prog ops Q (o :: rest) a w := by
  subst hm
  obtain ⟨i, hi, hz, hsz, hby⟩ := info_parts info22
  obtain ⟨vs, hvs, hl⟩ := hown
  cases ad with
  | none =>
    have h0 : Ms = [] := by
      rcases hb.2 with h0 | ⟨_, _, _, h0, _⟩
      · exact h0
      · cases h0
    subst h0
    rw [hn rfl] at hx
    refine wpList_append_own_none hgd s x 123 ho rb 22 i 1 Tryz.underlying123 hi v Ls.length _ hs hvs hx ?_
    exact h v w ⟨vs, by simpa using hvs, by simpa using hl⟩ (World.grownBy.refl _ _)
  | some ad =>
    obtain ⟨us, hul, huc⟩ : ∃ us : List Value, us.length = Ms.length ∧ ∀ j u, us[j]? = some u → w.cell? (ad.add j) = some u ∧ Load w base u (Ms.getD j []) := by
      rcases hb.2 with rfl | ⟨b, off, us, hx', _, hul, huc⟩
      · exact ⟨[], rfl, by simp⟩
      · cases hx'
        refine ⟨us, hul, fun j u hu => ?_⟩
        have e : (⟨b, off, none⟩ : Addr).add j = ⟨b, off + j, none⟩ := by
          by_cases h0 : j = 0
          · subst h0; simp [Addr.add]
          · simp [Addr.add, h0]
        rw [e]
        exact huc j u hu
    refine wpList_append_own w hgd s x 123 ho rb 22 i (.slice none 0 0) 1 24 Tryz.underlying123 hi hz hsz hby rfl (by decide) v Ls.length _ hs hvs ad Ms.length c us hx (by omega) (fun j u hu => (huc j u hu).1) (fun u hu => ?_) ?_ hbytes hbase ?_
    · obtain ⟨j, hj, rfl⟩ := List.mem_iff_getElem.1 hu
      exact load_one (huc j _ (List.getElem?_eq_getElem hj)).2
    · unfold maxLen; omega
    · intro v' w' ho' hg _
      have hk := keep5_row hg hvs hrb
      refine h v' w' ⟨vs ++ us, by rw [List.length_append]; exact ho', fun j u hu => ?_⟩ hg
      have hvl : vs.length = Ls.length := by have := hvs.1; omega
      by_cases hj : j < vs.length
      · rw [List.getElem?_append_left hj] at hu
        have := (hl j u hu).keep hk
        rwa [List.getD_eq_getElem?_getD, List.getElem?_append_left (by omega), ← List.getD_eq_getElem?_getD]
      · rw [List.getElem?_append_right (by omega)] at hu
        have := (huc _ u hu).2.keep hk
        rwa [List.getD_eq_getElem?_getD, List.getElem?_append_right (by omega), ← hvl, ← List.getD_eq_getElem?_getD]

theorem grownL_below {w w1 w2 : World} {base eb : Nat} {v : Value} {Ls : List (List Int)} (hb : Below base w w1) (h : OwnsL w1 base eb v Ls) (hg : w1.grownBy w2 v.ownBlock) (hB : base ≤ w1.heap.size) : Below base w w2 := by
  obtain ⟨vs, ho, _⟩ := h
  exact hb.grown hg hB fun k hk => (ho.lt k hk).1

/-- A slice of bytes that the call made is a load. -/
theorem load_of_owns {w : World} {base base' : Nat} {v : Value} {zs : List Int} (h : OwnsB w base v zs) : Load w base' v zs := by
  obtain ⟨⟨hl, hv⟩, hz⟩ := id h
  obtain ⟨a, cap, e1, e2, ⟨e3, e4⟩, e5, e6⟩ := h.shape
  refine ⟨a, cap, e1, e5, e2, e3, e4, fun x hx _ => .inr ?_⟩
  rcases hv with ⟨rfl, _⟩ | ⟨g, cap', cur, rfl, _, hg, _⟩
  · simp only [Value.slice.injEq] at e1
    rw [← e1.1] at hx
    cases hx
  · simp only [Value.slice.injEq] at e1
    rw [← e1.1] at hx
    cases hx
    exact ⟨cur, _, hg⟩
end Go.Proofs.YtnjbppfanmmifaaGreatDoor
namespace Go.Proofs.YtnjbppfanmmifaaGreatDoor
open Go.RowKit
set_option linter.unusedVariables false
/-- The k lowest bytes of a number, the highest first. -/
def beB (n : Nat) : Nat → List Int
  | 0 => []
  | k + 1 => ((n / 256 ^ k % 256 : Nat) : Int) :: beB n k
theorem beB_len (n : Nat) : ∀ k, (beB n k).length = k
  | 0 => rfl
  | k + 1 => by simp [beB, beB_len n k]
/-- An item's first byte. -/
def fsB (mj low : Nat) : Int := ((mj * 32 + low : Nat) : Int)
/-- AN ITEM'S BEGINNING. -/
def hdB (mj n : Nat) : List Int := if n < 24 then [fsB mj n] else if n ≤ 255 then fsB mj 24 :: beB n 1 else if n ≤ 65535 then fsB mj 25 :: beB n 2 else if n ≤ 4294967295 then fsB mj 26 :: beB n 4 else fsB mj 27 :: beB n 8
theorem hdB_len (mj n : Nat) : (hdB mj n).length ≤ 9 := by
  unfold hdB
  split
  · simp
  split
  · simp [beB_len]
  split
  · simp [beB_len]
  split
  · simp [beB_len]
  · simp [beB_len]
/-- The library's table that the beginnings read: below B. -/
def Dt (B : Nat) (w : World) : Prop := 1 < B ∧ w.cell? ⟨1, 0, none⟩ = some (.int .u8 0) ∧ w.cell? ⟨1, 1, none⟩ = some (.int .u8 1) ∧ w.cell? ⟨1, 3, none⟩ = some (.int .u8 2) ∧ w.cell? ⟨1, 7, none⟩ = some (.int .u8 3)
theorem Dt.on {B : Nat} {w w' : World} (h : Dt B w) (hb : Below B w w') : Dt B w' := by
  obtain ⟨h0, h1, h2, h3, h4⟩ := h
  exact ⟨h0, by rw [hb.cell h0]; exact h1, by rw [hb.cell h0]; exact h2, by rw [hb.cell h0]; exact h3, by rw [hb.cell h0]; exact h4⟩
theorem Dt.up {B B' : Nat} {w : World} (h : Dt B w) (hB : B ≤ B') : Dt B' w := ⟨by have := h.1; omega, h.2⟩
set_option maxRecDepth 100000 in
theorem or32 : ∀ mj : Nat, mj < 8 → ∀ low : Nat, low < 32 → bits BinOp.or IntKind.i64 ((mj * 32 : Nat) : Int) (low : Int) = ((mj * 32 + low : Nat) : Int) := by decide
set_option maxHeartbeats 1000000 in
set_option maxRecDepth 100000 in
theorem sfirst_any (mj low : Nat) (hm : mj < 8) (hl : low < 32) (w : World) : Calls Tryz.prog 80 #[.int .i64 (mj : Nat), .int .i64 (low : Nat)] w fun e w' => e = .returned (.int .u8 (fsB mj low)) ∧ w' = w := by
  have h1 : Op.shift .shl .i64 (mj : Int) .u64 5 = pure (.int .i64 ((mj * 32 : Nat) : Int)) := by
    have : mj = 0 ∨ mj = 1 ∨ mj = 2 ∨ mj = 3 ∨ mj = 4 ∨ mj = 5 ∨ mj = 6 ∨ mj = 7 := by omega
    rcases this with rfl | rfl | rfl | rfl | rfl | rfl | rfl | rfl <;> rfl
  have h2 := or32 mj hm low hl
  have h3 : IntKind.u8.wrap ((mj * 32 + low : Nat) : Int) = ((mj * 32 + low : Nat) : Int) := by rw [IntKind.wrap_u8]; omega
  unfold fsB
  generalize hA : ((mj * 32 + low : Nat) : Int) = A at *
  generalize hB : ((mj * 32 : Nat) : Int) = B at *
  clear hA hB
  go_enter Tryz.func80, Tryz.ntmps80
  go_wp2
  go_ret
  exact ⟨rfl, rfl⟩
/-- The widths of a beginning, and what tells them. -/
def Wd (W i : Nat) : Prop := (W = 1 ∧ i = 0) ∨ (W = 2 ∧ i = 1) ∨ (W = 4 ∧ i = 2) ∨ (W = 8 ∧ i = 3)
set_option maxHeartbeats 2000000 in
set_option maxRecDepth 100000 in
theorem tz_one (x N M : Int) (j : Nat) (r : Int) (w : World) (h0 : (x == 0) = false) (h1 : IntKind.u64.wrap (-x) = N) (h2 : bits BinOp.and IntKind.u64 x N = x) (h3 : IntKind.u64.wrap (x * 285870213051353865) = M) (h4 : M / 288230376151711744 = (j : Int)) (hj : (j : Int) < 64) (hc : w.cell? ⟨1, j, none⟩ = some (.int .u8 r)) (hr : IntKind.i64.wrap r = r) : Calls Tryz.prog 121 #[.int .u64 x] w fun e w' => e = .returned (.int .i64 r) ∧ w' = w := by
  go_enter Tryz.func121, Tryz.ntmps121
  go_wp2
  go_ret
  exact ⟨rfl, rfl⟩
theorem tz_any {W i : Nat} (h : Wd W i) {L : Nat} {w : World} (hD : Dt L w) : Calls Tryz.prog 121 #[.int .u64 (W : Nat)] w fun e w' => e = .returned (.int .i64 (i : Nat)) ∧ w' = w := by
  obtain ⟨_, t0, t1, t3, t7⟩ := hD
  rcases h with ⟨rfl, rfl⟩ | ⟨rfl, rfl⟩ | ⟨rfl, rfl⟩ | ⟨rfl, rfl⟩
  · exact tz_one 1 _ _ 0 0 w (by decide) rfl (by decide) rfl (by decide) (by decide) t0 (by decide)
  · exact tz_one 2 _ _ 1 1 w (by decide) rfl (by decide) rfl (by decide) (by decide) t1 (by decide)
  · exact tz_one 4 _ _ 3 2 w (by decide) rfl (by decide) rfl (by decide) (by decide) t3 (by decide)
  · exact tz_one 8 _ _ 7 3 w (by decide) rfl (by decide) rfl (by decide) (by decide) t7 (by decide)
end Go.Proofs.YtnjbppfanmmifaaGreatDoor
namespace Go.Proofs.YtnjbppfanmmifaaGreatDoor
open Go.RowKit
set_option linter.unusedVariables false
theorem fsB_byte {mj low : Nat} (hm : mj < 8) (hl : low < 32) : 0 ≤ fsB mj low ∧ fsB mj low < 256 := by unfold fsB; omega
/-- What is left of a wide beginning to be put. -/
def WB (w wr : World) (f : Int) (n W k : Nat) (v : Value) : Prop := ∃ pre : List Int, OwnsB wr w.heap.size v (f :: pre) ∧ Below w.heap.size w wr ∧ pre ++ beB n k = beB n W ∧ k ≤ W
theorem shr8 (n b : Nat) (hb : b < 8) : Op.shift .shr .u64 (n : Int) .i64 ((8 * b : Nat) : Int) = pure (.int .u64 ((n / 256 ^ b : Nat) : Int)) := by
  rw [shift_shr .u64 .i64 (n : Int) ((8 * b : Nat) : Int) (by omega) (by show ((8 * b : Nat) : Int) ≤ 64; omega)]
  have e : (2 : Int) ^ ((8 * b : Nat) : Int).toNat = ((256 ^ b : Nat) : Int) := by
    rw [Int.toNat_natCast, Nat.pow_mul (a := 2) (m := 8) (n := b) |> fun h => (show ((2 : Int) ^ (8 * b)) = ((2 ^ (8 * b) : Nat) : Int) by simp) |>.trans (by rw [h])]
  rw [e, Int.natCast_ediv]
set_option maxHeartbeats 4000000 in
set_option maxRecDepth 100000 in
theorem swide_any {W i : Nat} (hW : Wd W i) (mj n : Nat) (hm : mj < 8) {L : Nat} {w : World} (hD : Dt L w) (hL : L ≤ w.heap.size) : Calls Tryz.prog 81 #[.int .i64 (mj : Nat), .int .i64 (W : Nat), .int .u64 (n : Nat)] w fun e w' => (∃ v, e = .returned v ∧ OwnsB w' w.heap.size v (fsB mj (24 + i) :: beB n W)) ∧ Below w.heap.size w w' := by
  have hW8 : W ≤ 8 ∧ i < 4 ∧ 1 ≤ W := by rcases hW with ⟨rfl, rfl⟩ | ⟨rfl, rfl⟩ | ⟨rfl, rfl⟩ | ⟨rfl, rfl⟩ <;> decide
  have kT := tz_any hW hD
  have kF := sfirst_any mj (24 + i) hm (by omega) w
  have wi : IntKind.i64.wrap (24 + (i : Int)) = ((24 + i : Nat) : Int) := by rw [IntKind.wrap_i64]; omega
  have wu : IntKind.u64.wrap (W : Int) = (W : Int) := by rw [IntKind.wrap_u64]; omega
  have w1 : IntKind.i64.wrap ((W : Int) - 1) = (W : Int) - 1 := by rw [IntKind.wrap_i64]; omega
  have hfb := fsB_byte (mj := mj) (low := 24 + i) hm (by omega)
  generalize ((24 + i : Nat) : Int) = J at *
  generalize fsB mj (24 + i) = f at *
  have hA0 : Hid (WB w (w.alloc (.cells #[.int .u8 f] 5)) f n W W (.slice (some ⟨w.heap.size, 0, none⟩) 1 1)) := ⟨[], ownsB_one w hfb, alloc_below w _, rfl, Nat.le_refl _⟩
  have h8 : Hid (W ≤ 8) := hW8.1
  clear hD hL hW hW8 hfb
  go_enter Tryz.func81, Tryz.ntmps81
  go_wp2_with (first
    | (go_at_call 121; refine kT.mono ?_; rintro e x1 ⟨rfl, hx1⟩; obtain rfl := hx1.symm)
    | (go_at_call 80; refine kF.mono ?_; rintro e x2 ⟨rfl, hx2⟩; obtain rfl := hx2.symm))
  go_loopw [7, 8] (fun s7 s8 wr => ∃ (k : Nat) (v : Value) (z : Int), s7 = v ∧ s8 = .int .i64 z ∧ Hid (z = (k : Int) - 1) ∧ Hid (WB w wr f n W k v)) (fun _ z _ => (intOf z + 1).toNat)
  case atStart => exact ⟨W, _, _, rfl, rfl, rfl, hA0⟩
  case round =>
    obtain ⟨k, v, z, hv, rfl, hz, hP⟩ := hrel
    have hv' := hv.symm
    subst hv'
    obtain ⟨pre, hO, hB, hp, hk⟩ := hP.out
    cases k with
    | zero =>
      have z0 : z = -1 := by have := hz.out; omega
      subst z0
      have hO' : Hid (OwnsB wr w.heap.size v (f :: beB n W)) := by have : pre = beB n W := (by simpa [beB] using hp); rw [← this]; exact hO
      have hB' : Hid (Below w.heap.size w wr) := hB
      clear hO hB hp hk hP hz
      go_wp2
      go_ret
      exact ⟨⟨_, rfl, hO'.out⟩, hB'.out⟩
    | succ b =>
      have zb : z = (b : Int) := by have := hz.out; omega
      subst zb
      have hb8 : b < 8 := by have := h8.out; omega
      have wx : IntKind.i64.wrap (8 * (b : Int)) = ((8 * b : Nat) : Int) := by rw [IntKind.wrap_i64]; omega
      have hs := shr8 n b hb8
      have wc : IntKind.u8.wrap ((n / 256 ^ b : Nat) : Int) = ((n / 256 ^ b % 256 : Nat) : Int) := by rw [IntKind.wrap_u8]; omega
      have wz : IntKind.i64.wrap ((b : Int) - 1) = (b : Int) - 1 := by rw [IntKind.wrap_i64]; omega
      have hcb : 0 ≤ ((n / 256 ^ b % 256 : Nat) : Int) ∧ ((n / 256 ^ b % 256 : Nat) : Int) < 256 := by omega
      have g0 : (0 : Int) ≤ (b : Int) := by omega
      have hp2 : Hid ((pre ++ [((n / 256 ^ b % 256 : Nat) : Int)]) ++ beB n b = beB n W) := by show _ = _; rw [← hp]; simp [beB]
      have hO' : Hid (OwnsB wr w.heap.size v (f :: pre)) := hO
      have hB' : Hid (Below w.heap.size w wr) := hB
      have hlen : Hid (pre.length ≤ 8 ∧ b + 1 ≤ W) := ⟨(by have := congrArg List.length hp; simp [beB_len] at this; have := h8.out; omega), hk⟩
      generalize ((8 * b : Nat) : Int) = X at *
      generalize ((n / 256 ^ b : Nat) : Int) = Y at *
      generalize ((n / 256 ^ b % 256 : Nat) : Int) = C at *
      have hC : Hid (0 ≤ C ∧ C < 256) := hcb
      clear hO hB hp hk hP hz hA0 hcb
      go_wp2_with (at_builtin; refine wpList_append_bytes rfl _ _ rfl w.heap.size v (f :: pre) [C] rfl (hO'.out.alloc _) (some ⟨wr.heap.size, 0, none⟩) 1 1 rfl rfl (by simp) (bytes_lit wr [C] (by simpa using hC.out) (by simp [maxLen])) (by have := hlen.out; simp; omega) (Nat.le_trans hB'.out.size (alloc_below wr _).size) ?_; intro v2 x2 hO2 hg2; have b2 : Hid (Below w.heap.size w x2) := grown_below (hB'.out.trans ((alloc_below wr _).mono hB'.out.size)) (hO'.out.alloc _) hg2 (Nat.le_trans hB'.out.size (alloc_below wr _).size); have O2 : Hid (OwnsB x2 w.heap.size v2 (f :: (pre ++ [C]))) := hO2; clear hO2 hg2)
      go_roundw
      case rel => exact ⟨b, v2, (b : Int) - 1, rfl, rfl, rfl, pre ++ [C], O2.out, b2.out, hp2.out, by have := hlen.out; omega⟩
      case measure => simp [intOf]
/-- AN ITEM'S BEGINNING. -/
def BytIs (w w' : World) (x : Ending) (l : List Int) : Prop := (∃ v, x = .returned v ∧ OwnsB w' w.heap.size v l) ∧ Below w.heap.size w w'
set_option maxHeartbeats 4000000 in
set_option maxRecDepth 100000 in
theorem shead_any (mj n : Nat) (hm : mj < 8) (hn : n < 18446744073709551616) {L : Nat} {w : World} (hD : Dt L w) (hL : L ≤ w.heap.size) : Calls Tryz.prog 44 #[.int .i64 (mj : Nat), .int .u64 (n : Nat)] w fun e w' => BytIs w w' e (hdB mj n) := by
  have k1 := swide_any (W := 1) (i := 0) (.inl ⟨rfl, rfl⟩) mj n hm hD hL
  have k2 := swide_any (W := 2) (i := 1) (.inr (.inl ⟨rfl, rfl⟩)) mj n hm hD hL
  have k4 := swide_any (W := 4) (i := 2) (.inr (.inr (.inl ⟨rfl, rfl⟩))) mj n hm hD hL
  have k8 := swide_any (W := 8) (i := 3) (.inr (.inr (.inr ⟨rfl, rfl⟩))) mj n hm hD hL
  unfold hdB BytIs
  clear hD hL
  by_cases h1 : n < 24
  · rw [if_pos h1]
    have kF := sfirst_any mj n hm (by omega) w
    have g1 : decide ((n : Int) < 24) = true := by simp; omega
    have g1' : decide (n < 24) = true := by simpa using h1
    have wn : IntKind.i64.wrap (n : Int) = (n : Int) := by rw [IntKind.wrap_i64]; omega
    have hfb := fsB_byte (mj := mj) (low := n) hm (by omega)
    generalize fsB mj n = f at *
    have hO : Hid (OwnsB (w.alloc (.cells #[.int .u8 f] 5)) w.heap.size (.slice (some ⟨w.heap.size, 0, none⟩) 1 1) [f] ∧ Below w.heap.size w (w.alloc (.cells #[.int .u8 f] 5))) := ⟨ownsB_one w hfb, alloc_below w _⟩
    clear k1 k2 k4 k8 h1 hfb hm hn
    go_enter Tryz.func44, Tryz.ntmps44
    go_wp2_with (go_at_call 80; refine kF.mono ?_; rintro e x2 ⟨rfl, hx2⟩; obtain rfl := hx2.symm)
    go_ret
    exact ⟨⟨_, rfl, hO.out.1⟩, hO.out.2⟩
  rw [if_neg h1]
  have g1 : decide ((n : Int) < 24) = false := by simp; omega
  have g1' : decide (n < 24) = false := by simpa using h1
  by_cases h2 : n ≤ 255
  · rw [if_pos h2]
    have g2 : decide ((n : Int) ≤ 255) = true := by simp; omega
    have g2' : decide (n ≤ 255) = true := by simpa using h2
    clear k2 k4 k8 h1 h2 hm hn
    go_enter Tryz.func44, Tryz.ntmps44
    go_wp2_with (go_at_call 81; refine k1.mono ?_; rintro e x2 ⟨⟨v, rfl, hO⟩, hB⟩)
    go_ret
    exact ⟨⟨_, rfl, hO⟩, hB⟩
  rw [if_neg h2]
  have g2 : decide ((n : Int) ≤ 255) = false := by simp; omega
  have g2' : decide (n ≤ 255) = false := by simpa using h2
  by_cases h3 : n ≤ 65535
  · rw [if_pos h3]
    have g3 : decide ((n : Int) ≤ 65535) = true := by simp; omega
    have g3' : decide (n ≤ 65535) = true := by simpa using h3
    clear k1 k4 k8 h1 h2 h3 hm hn
    go_enter Tryz.func44, Tryz.ntmps44
    go_wp2_with (go_at_call 81; refine k2.mono ?_; rintro e x2 ⟨⟨v, rfl, hO⟩, hB⟩)
    go_ret
    exact ⟨⟨_, rfl, hO⟩, hB⟩
  rw [if_neg h3]
  have g3 : decide ((n : Int) ≤ 65535) = false := by simp; omega
  have g3' : decide (n ≤ 65535) = false := by simpa using h3
  by_cases h4 : n ≤ 4294967295
  · rw [if_pos h4]
    have g4 : decide ((n : Int) ≤ 4294967295) = true := by simp; omega
    have g4' : decide (n ≤ 4294967295) = true := by simpa using h4
    clear k1 k2 k8 h1 h2 h3 h4 hm hn
    go_enter Tryz.func44, Tryz.ntmps44
    go_wp2_with (go_at_call 81; refine k4.mono ?_; rintro e x2 ⟨⟨v, rfl, hO⟩, hB⟩)
    go_ret
    exact ⟨⟨_, rfl, hO⟩, hB⟩
  rw [if_neg h4]
  have g4 : decide ((n : Int) ≤ 4294967295) = false := by simp; omega
  have g4' : decide (n ≤ 4294967295) = false := by simpa using h4
  clear k1 k2 k4 h1 h2 h3 h4 hm hn
  go_enter Tryz.func44, Tryz.ntmps44
  go_wp2_with (go_at_call 81; refine k8.mono ?_; rintro e x2 ⟨⟨v, rfl, hO⟩, hB⟩)
  go_ret
  exact ⟨⟨_, rfl, hO⟩, hB⟩
end Go.Proofs.YtnjbppfanmmifaaGreatDoor
namespace Go.Proofs.YtnjbppfanmmifaaGreatDoor
open Go.RowKit
set_option linter.unusedVariables false
/-- PARTS ONE BEHIND THE OTHER, up to the one that makes them too long. -/
def jnB : List (List Int) → List Int → List Int
  | [], all => all
  | p :: ps, all => if 4096 < all.length then all else jnB ps (all ++ p)
theorem jnB_len (M : Nat) : ∀ (Ls : List (List Int)) (all : List Int), (∀ l ∈ Ls, l.length ≤ M) → all.length ≤ 4096 + M → (jnB Ls all).length ≤ 4096 + M
  | [], all, _, h => h
  | p :: ps, all, hl, h => by
    unfold jnB
    split
    · exact h
    · refine jnB_len M ps _ (fun l hm => hl l (List.mem_cons_of_mem _ hm)) ?_
      have := hl p List.mem_cons_self
      rw [List.length_append]
      omega
theorem lists_at {w wr : World} {a : Option Addr} {Ls : List (List Int)} (h : Lists w w.heap.size a Ls) (hb : Below w.heap.size w wr) {k : Nat} (hk : k < Ls.length) : ∃ (bk off : Nat) (ad : Option Addr) (n cap : Nat), a = some ⟨bk, off, none⟩ ∧ wr.cell? ⟨bk, off + k, none⟩ = some (.slice ad n cap) ∧ Ls[k].length = n ∧ Bytes wr ad Ls[k] ∧ (ad = none → cap = 0) ∧ n ≤ cap ∧ cap ≤ maxLen := by
  rcases h.2 with h0 | ⟨bk, off, vs, ha, _, hl, hc⟩
  · subst h0; cases hk
  · obtain ⟨h1, ad, cap, h2, h3, h4, h5, h6, _⟩ := hc k vs[k] (by simp)
    have e : Ls.getD k [] = Ls[k] := by rw [List.getD_eq_getElem?_getD, List.getElem?_eq_getElem hk]; rfl
    rw [e] at h2 h3 h5
    rw [h2] at h1
    refine ⟨bk, off, ad, _, cap, ha, ?_, rfl, h3.kept hb, h4, h5, h6⟩
    rw [hb.cell (p := ⟨bk, off + k, none⟩) (some_block h1)]
    exact h1
/-- Where a join stands. -/
def JB (w wr : World) (Ls : List (List Int)) (M i : Nat) (v : Value) : Prop := ∃ all : List Int, OwnsB wr w.heap.size v all ∧ Below w.heap.size w wr ∧ jnB (Ls.drop i) all = jnB Ls [] ∧ all.length ≤ 4096 + M ∧ i ≤ Ls.length
set_option maxHeartbeats 4000000 in
set_option maxRecDepth 100000 in
theorem sjoin_any (a : Option Addr) (m c : Nat) (Ls : List (List Int)) (M : Nat) (w : World) (hm : Ls.length = m) (hLs : Lists w w.heap.size a Ls) (hc : m ≤ c) (hcm : c ≤ 9223372036854775807) (hM : M ≤ 1000000) (hl : ∀ l ∈ Ls, l.length ≤ M) : Calls Tryz.prog 68 #[.slice a m c] w fun e w' => BytIs w w' e (jnB Ls []) := by
  have hA0 : Hid (JB w w Ls M 0 (.slice none 0 0)) := ⟨[], ownsB_nil _ _, Below.refl _ _, rfl, by simp, Nat.zero_le _⟩
  have hX : Hid (Ls.length = m ∧ Lists w w.heap.size a Ls ∧ M ≤ 1000000 ∧ ∀ l ∈ Ls, l.length ≤ M) := ⟨hm, hLs, hM, hl⟩
  unfold BytIs
  have hmm : m ≤ 9223372036854775807 := by omega
  clear hm hLs hM hl
  go_enter Tryz.func68, Tryz.ntmps68
  go_wp2
  go_loopw [3, 5, 8] (fun s3 _ s8 wr => ∃ (i : Nat), i ≤ m ∧ s8 = .int .i64 i ∧ Hid (JB w wr Ls M i s3)) (fun _ _ i _ => m - (intOf i).toNat)
  case atStart => exact ⟨0, Nat.zero_le _, rfl, hA0⟩
  case round =>
    obtain ⟨i, him, rfl, hP⟩ := hrel
    obtain ⟨all, hO, hB, hj, hal, _⟩ := hP.out
    obtain ⟨av, nv, cv, rfl, hlv, hnv, hcv, hmv, hbv⟩ := hO.form
    have hO' : Hid (OwnsB wr w.heap.size (.slice av nv cv) all) := hO
    have hB' : Hid (Below w.heap.size w wr) := hB
    have hj' : Hid (jnB (Ls.drop i) all = jnB Ls []) := hj
    have hal' : Hid (all.length ≤ 4096 + M ∧ all.length = nv) := ⟨hal, hlv.out⟩
    clear hO hB hj hal hP hA0 hbv hnv hlv
    by_cases hlt : i < m
    · have hz : (i : Int) < (m : Int) := by omega
      have hix : i < Ls.length := by rw [hX.out.1]; exact hlt
      have hdr : Ls.drop i = Ls[i] :: Ls.drop (i + 1) := List.drop_eq_getElem_cons hix
      obtain ⟨bk, off, ad, n, cap, rfl, hcell, hln, hby, had, hnc, hcap⟩ := lists_at hX.out.2.1 hB'.out hix
      have hcap' : cap ≤ 9223372036854775807 := by simpa [maxLen] using hcap
      have wi : IntKind.i64.wrap ((i : Int) + 1) = (i : Int) + 1 := by rw [IntKind.wrap_i64]; omega
      have hY : Hid (Ls[i].length = n ∧ Bytes wr ad Ls[i] ∧ (ad = none → cap = 0) ∧ Ls[i].length ≤ M) := ⟨hln, hby, had, hX.out.2.2.2 _ (List.getElem_mem hix)⟩
      by_cases hbig : 4096 < nv
      · have g1 : decide ((4096 : Int) < (nv : Int)) = true := by simp; omega
        have g1' : decide (4096 < nv) = true := by simpa using hbig
        have hF : Hid (jnB Ls [] = all) := by
          show _ = _
          rw [← hj'.out, hdr]
          show (if 4096 < all.length then all else _) = all
          rw [if_pos (by have := hal'.out.2; omega)]
        clear hln hby had hdr
        go_wp2
        go_ret
        rw [hF.out]
        exact ⟨⟨_, rfl, hO'.out⟩, hB'.out⟩
      · have g1 : decide ((4096 : Int) < (nv : Int)) = false := by simp; omega
        have g1' : decide (4096 < nv) = false := by simpa using hbig
        have hF : Hid (jnB (Ls.drop (i + 1)) (all ++ Ls[i]) = jnB Ls []) := by
          show _ = _
          rw [← hj'.out, hdr]
          show _ = (if 4096 < all.length then all else _)
          rw [if_neg (by have := hal'.out.2; omega)]
        have hle : Hid (¬ 4096 < nv) := hbig
        generalize hp : Ls[i] = p at *
        clear hln hby had hdr hp
        go_wp2_with (at_builtin; refine wpList_append_bytes rfl _ _ rfl w.heap.size (.slice av nv cv) all p rfl hO'.out ad n cap rfl hY.out.1 hY.out.2.2.1 hY.out.2.1 (by have := hY.out.2.2.2; have := hal'.out; have := hX.out.2.2.1; omega) hB'.out.size ?_; intro v2 x2 hO2 hg2; have b2 : Hid (Below w.heap.size w x2) := grown_below hB'.out hO'.out hg2 hB'.out.size; have O2 : Hid (OwnsB x2 w.heap.size v2 (all ++ p)) := hO2; clear hO2 hg2)
        go_roundw
        case rel => exact ⟨i + 1, by omega, by go_num, all ++ p, O2.out, b2.out, hF.out, by have := hY.out.2.2.2; have := hal'.out; have := hle.out; rw [List.length_append]; omega, by omega⟩
        case measure => simp [intOf]; omega
    · have hz : ¬ (i : Int) < (m : Int) := by omega
      have hF : Hid (jnB Ls [] = all) := by
        show _ = _
        rw [← hj'.out, List.drop_eq_nil_of_le (by rw [hX.out.1]; omega)]
        rfl
      go_wp2
      go_ret
      rw [hF.out]
      exact ⟨⟨_, rfl, hO'.out⟩, hB'.out⟩
end Go.Proofs.YtnjbppfanmmifaaGreatDoor
namespace Go.Proofs.YtnjbppfanmmifaaGreatDoor
open Go.RowKit

theorem sub_room {a : ByteArray} (ha : rt a = true) {n k : Nat} (hk : a.size ≤ 6 * k) : (val a : Int) - (n : Nat) < 1000000 ^ k := by
  have e1 := val_pow ha
  have e5 := pow_mono hk
  rw [pow_group]
  omega
theorem cmp_neg {m n : Nat} : cmpN m n < 0 ↔ m < n := by
  unfold cmpN
  by_cases h4 : m < n
  · simp [h4]
  · rw [if_neg h4]
    by_cases h5 : n < m
    · simp [h4, h5]
    · simp [h4, h5]
set_option maxHeartbeats 1000000 in
theorem sub_any (a b : ByteArray) (w : World) :
    Calls Tryz.prog 110 #[.string a, .string b] w fun e w' => e = .returned (.tuple #[.string (subA a b).1, .int .i64 (subA a b).2]) ∧ Below w.heap.size w w' := by
  have kO := order_any a b w
  by_cases hok : rt a = true ∧ rt b = true
  · have hO : ordA a b = (cmpN (val a) (val b), 0) := by unfold ordA; rw [if_pos hok]
    rw [hO] at kO
    clear hO
    obtain ⟨C, hC⟩ : ∃ C, cmpN (val a) (val b) = C := ⟨_, rfl⟩
    have hCn := cmp_neg (m := val a) (n := val b)
    rw [hC] at hCn kO
    clear hC
    dsimp only at kO
    by_cases hlt : val a < val b
    · have e : subA a b = (noS, 1) := by unfold subA; rw [if_neg (by omega)]
      rw [e]
      have hC0 : C < 0 := hCn.2 hlt
      clear hCn hlt hok e
      go_enter Tryz.func110, Tryz.ntmps110
      go_wp2_with (go_at_call 146; refine kO.mono ?_; rintro e w1 ⟨rfl, hw⟩; obtain rfl : w = w1 := hw.symm)
      go_ret2
      exact ⟨rfl, Below.refl _ _⟩
    · have e : subA a b = (txt (val a - val b), 0) := by unfold subA; rw [if_pos (by exact ⟨hok.1, hok.2, by omega⟩)]
      rw [e]
      have hC0 : ¬ C < 0 := fun h => hlt (hCn.1 h)
      obtain ⟨ha, hb⟩ := hok
      have ra := (rt_iff a).1 ha
      have rb := (rt_iff b).1 hb
      have sa := rt_size ha
      have sb := rt_size hb
      have hsz : b.size ≤ a.size := by
        by_cases h : a.size < b.size
        · have := cmp_short ha hb h
          omega
        · omega
      have kR := room_any a.size (by omega) w
      have hR : shortA (val a - val b) = (txt (val a - val b), 0) := by
        unfold shortA
        have := right_lt ha
        rw [if_pos (by omega)]
      obtain ⟨R, hRe⟩ : ∃ R, txt (val a - val b) = R := ⟨_, rfl⟩
      rw [hRe] at hR ⊢
      have hP : Hid (∀ v w1, OwnsI w1 w.heap.size v (List.replicate ((a.size + 5) / 6) 0) → w.heap.size ≤ w1.heap.size → Calls Tryz.prog 148 #[v, .string a, .int .i64 1] w1 fun e w' => e = .returned (.tuple #[]) ∧ (∃ l', OwnsI w' w.heap.size v l' ∧ l'.length = (a.size + 5) / 6 ∧ lv 1000000 l' = (val a : Nat) ∧ (∀ g ∈ l', -1000000000 ≤ g ∧ g ≤ 1000000000)) ∧ Below w.heap.size w1 w') := by
        intro v w1 ho hbw
        refine (put_any v w.heap.size _ a 1 (.inl rfl) 0 (by decide) (zeros_bound _) w1 ho sa.1 (by omega) ra.1.2.1 (by rw [List.length_replicate]; omega) hbw).mono ?_
        rintro e w' ⟨rfl, ⟨l', hO, hl, hv, hbd⟩, hB⟩
        rw [List.length_replicate] at hl
        rw [lv_zeros, Int.zero_add, Int.one_mul] at hv
        exact ⟨rfl, ⟨l', hO, hl, hv, fun g hg => by have := hbd g hg; omega⟩, hB⟩
      have hQ : Hid (∀ v l w1, OwnsI w1 w.heap.size v l → l.length = (a.size + 5) / 6 → lv 1000000 l = (val a : Nat) → (∀ g ∈ l, -1000000000 ≤ g ∧ g ≤ 1000000000) → w.heap.size ≤ w1.heap.size → Calls Tryz.prog 148 #[v, .string b, .int .i64 (-1)] w1 fun e w' => e = .returned (.tuple #[]) ∧ (∃ l', OwnsI w' w.heap.size v l' ∧ l'.length = (a.size + 5) / 6 ∧ lv 1000000 l' = (val a : Nat) - (val b : Nat) ∧ (∀ g ∈ l', -2000000000 ≤ g ∧ g ≤ 2000000000)) ∧ Below w.heap.size w1 w') := by
        intro v l w1 ho hl hv hbd hbw
        refine (put_any v w.heap.size _ b (-1) (.inr rfl) 1000000000 (by decide) hbd w1 ho sb.1 (by omega) rb.1.2.1 (by omega) hbw).mono ?_
        rintro e w' ⟨rfl, ⟨l', hO, hl', hv', hbd'⟩, hB⟩
        rw [hv] at hv'
        exact ⟨rfl, ⟨l', hO, by omega, by omega, fun g hg => by have := hbd' g hg; omega⟩, hB⟩
      have hT : Hid (∀ v l w1, OwnsI w1 w.heap.size v l → l.length = (a.size + 5) / 6 → lv 1000000 l = (val a : Nat) - (val b : Nat) → (∀ g ∈ l, -2000000000 ≤ g ∧ g ≤ 2000000000) → w.heap.size ≤ w1.heap.size → Calls Tryz.prog 149 #[v] w1 fun e w' => e = .returned (.tuple #[.string R, .int .i64 0]) ∧ Below w.heap.size w1 w') := by
        intro v l w1 ho hl hv hbd hbw
        have hk := tell_any v l w.heap.size w1 ho (fun g hg => by have := hbd g hg; omega) (by rw [hv]; omega) (by rw [hv, hl]; exact sub_room ha (by omega)) (by omega) hbw
        have hn : (lv 1000000 l).toNat = val a - val b := by rw [hv]; omega
        rw [hn, hR] at hk
        exact hk
      clear hR hRe ra rb sa sb hsz e hCn hlt
      go_enter Tryz.func110, Tryz.ntmps110
      go_wp2_with (first
        | (go_at_call 146; refine kO.mono ?_; rintro e w1 ⟨rfl, hw⟩; obtain rfl : w = w1 := hw.symm)
        | (go_at_call 147; refine kR.mono ?_; rintro e w1 ⟨v, rfl, ho1, hb1⟩; have k2 := hP.out v w1 ho1 hb1.size))
      refine k2.mono ?_
      rintro e w2 ⟨rfl, ⟨l2, ho2, hl2, hv2, hd2⟩, hb2⟩
      have k3 := hQ.out v l2 w2 ho2 hl2 hv2 hd2 (by have := hb1.size; have := hb2.size; omega)
      go_wp2_with fail
      refine k3.mono ?_
      rintro e w3 ⟨rfl, ⟨l3, ho3, hl3, hv3, hd3⟩, hb3⟩
      have k4 := hT.out v l3 w3 ho3 hl3 hv3 hd3 (by have := hb1.size; have := hb2.size; have := hb3.size; omega)
      go_wp2_with (go_at_call 149; refine k4.mono ?_; rintro e w4 ⟨rfl, hb4⟩)
      go_ret2
      exact ⟨rfl, ((hb1.trans hb2).trans hb3).trans hb4⟩
  · have hO : ordA a b = (0, 1) := by unfold ordA; rw [if_neg hok]
    have e : subA a b = (noS, 1) := by unfold subA; rw [if_neg fun h => hok ⟨h.1, h.2.1⟩]
    rw [e]
    rw [hO] at kO
    clear hO e
    go_enter Tryz.func110, Tryz.ntmps110
    go_wp2_with (go_at_call 146; refine kO.mono ?_; rintro e w1 ⟨rfl, hw⟩; obtain rfl : w = w1 := hw.symm)
    go_ret2
    exact ⟨rfl, Below.refl _ _⟩
end Go.Proofs.YtnjbppfanmmifaaGreatDoor
namespace Go.Proofs.YtnjbppfanmmifaaGreatDoor
open Go.RowKit

/-- A row whose outer i bytes, at either end, have been turned round. -/
def Half (zs p : List Int) (i : Nat) : Prop := p.length = zs.length ∧ ∀ k, k < zs.length → p.getD k 0 = if k < i ∨ zs.length - i ≤ k then zs.getD (zs.length - 1 - k) 0 else zs.getD k 0
theorem set_same {l : List Int} {i : Nat} (h : i < l.length) (u : Int) : (l.set i u).getD i 0 = u := by
  rw [List.getD_eq_getElem?_getD, List.getElem?_set_self h]; rfl
theorem set_other {l : List Int} {i j : Nat} (h : i ≠ j) (u : Int) : (l.set i u).getD j 0 = l.getD j 0 := by
  rw [List.getD_eq_getElem?_getD, List.getElem?_set_ne h, ← List.getD_eq_getElem?_getD]
theorem half_start (zs : List Int) : Half zs zs 0 := ⟨rfl, fun k hk => by rw [if_neg (by omega)]⟩
theorem Half.next {zs p : List Int} {i j : Nat} (h : Half zs p i) (hj : j = zs.length - 1 - i) (hij : i < j) (hjn : j < zs.length) : Half zs ((p.set i (p.getD j 0)).set j (p.getD i 0)) (i + 1) := by
  obtain ⟨h1, h2⟩ := h
  refine ⟨by rw [List.length_set, List.length_set]; exact h1, fun k hk => ?_⟩
  have ei := h2 i (by omega)
  have ej := h2 j hjn
  rw [if_neg (by omega)] at ei ej
  by_cases c1 : k = j
  · subst c1
    rw [set_same (by rw [List.length_set]; omega), if_pos (by omega), ei]
    congr 1
    omega
  · rw [set_other (by omega)]
    by_cases c2 : k = i
    · subst c2
      rw [set_same (by omega), if_pos (by omega), ej, hj]
    · rw [set_other (by omega), h2 k hk]
      by_cases c3 : k < i ∨ zs.length - i ≤ k
      · rw [if_pos c3, if_pos (by omega)]
      · rw [if_neg c3, if_neg (by omega)]
theorem Half.whole {zs p : List Int} {i : Nat} (h : Half zs p i) (hi : zs.length ≤ 2 * i + 1) : p = zs.reverse := by
  obtain ⟨h1, h2⟩ := h
  apply List.ext_getElem
  · rw [h1, List.length_reverse]
  · intro k hk hk'
    have e := h2 k (by omega)
    rw [List.getD_eq_getElem?_getD, List.getElem?_eq_getElem hk, Option.getD_some] at e
    rw [e, List.getElem_reverse]
    have f : ∀ j, j = zs.length - 1 - k → zs.getD j 0 = zs[zs.length - 1 - k]'(by omega) := fun j hj => by
      subst hj
      rw [List.getD_eq_getElem?_getD, List.getElem?_eq_getElem (by omega : zs.length - 1 - k < zs.length)]; rfl
    by_cases c : k < i ∨ zs.length - i ≤ k
    · rw [if_pos c]
      exact f _ rfl
    · rw [if_neg c]
      exact f _ (by omega)
set_option maxHeartbeats 1600000 in
set_option maxRecDepth 1000000 in
theorem rev_any (g n cap base : Nat) (zs : List Int) (w : World) (hO : OwnR w base g n cap zs) (hn : n ≤ 1000000) :
    Calls Tryz.prog 188 #[.slice (some ⟨g, 0, none⟩) n cap] w fun e w' => e = .returned (.tuple #[]) ∧ OwnR w' base g n cap zs.reverse ∧ Below base w w' := by
  have hl : Hid (zs.length = n) := hO.2.1
  have hbg : Hid (base ≤ g) := hO.2.2.2
  have hO0 : Hid _ := hO
  have w0 : IntKind.i64.wrap ((n : Int) - 1) = (n : Int) - 1 := by rw [IntKind.wrap_i64]; omega
  clear hO
  go_enter Tryz.func188, Tryz.ntmps188
  go_wp2
  go_loopw [2, 3] (fun s2 s3 wr => ∃ (i : Nat) (p : List Int), i ≤ n ∧ s2 = .int .i64 i ∧ s3 = .int .i64 ((n : Int) - 1 - i) ∧ Hid (Half zs p i) ∧ Hid (OwnR wr base g n cap p) ∧ Hid (Below base w wr)) (fun i _ _ => n - (intOf i).toNat)
  case atStart => exact ⟨0, zs, Nat.zero_le _, rfl, by simp, half_start zs, hO0, Below.refl _ _⟩
  case round =>
    obtain ⟨i, p, hi, rfl, rfl, hH, hO, hbl⟩ := hrel
    by_cases hlt : i < n - 1 - i
    · obtain ⟨j, hj⟩ : ∃ j : Nat, n - 1 - i = j := ⟨_, rfl⟩
      have hlen := hl.out
      have hjz : (n : Int) - 1 - i = (j : Int) := by omega
      have hX := hO.out.cell i (by omega)
      have hY := hO.out.cell j (by omega)
      have hfX := hO.out.frozen i
      have hfY := hO.out.frozen j
      have hpl : p.length = n := by rw [hH.out.1, hlen]
      have hz := hO.out.2.2.1
      have hXb : 0 ≤ p.getD i 0 ∧ p.getD i 0 < 256 := hz _ (by rw [List.getD_eq_getElem?_getD, List.getElem?_eq_getElem (by omega : i < p.length)]; exact List.getElem_mem _)
      have hYb : 0 ≤ p.getD j 0 ∧ p.getD j 0 < 256 := hz _ (by rw [List.getD_eq_getElem?_getD, List.getElem?_eq_getElem (by omega : j < p.length)]; exact List.getElem_mem _)
      have hN : Hid _ := hH.out.next (j := j) (by omega) (by omega) (by omega)
      have hO' : Hid _ := (hO.out.store i _ hYb).store j _ hXb
      generalize p.getD i 0 = X at *
      generalize p.getD j 0 = Y at *
      have i1 : (i : Int) < (j : Int) := by omega
      have i2 : (i : Int) < (n : Int) := by omega
      have i3 : (j : Int) < (n : Int) := by omega
      have w2 : IntKind.i64.wrap ((j : Int) - 1) = (n : Int) - 1 - ((i + 1 : Nat) : Int) := by rw [IntKind.wrap_i64]; omega
      have hj' : Hid ((n : Int) - 1 - i = (j : Int)) := hjz
      have hin : i + 1 ≤ n := by omega
      rw [hjz]
      clear hjz hXb hYb hz hpl hlen hj hH hlt
      go_wp2
      go_region
      go_wp2
      go_roundw
      case rel => exact ⟨i + 1, (p.set i Y).set j X, by omega, by go_num, by go_num, hN, hO', ((hbl.out.setCell (p := ⟨g, i, none⟩) hbg.out _).setCell (p := ⟨g, j, none⟩) hbg.out _).drew⟩
      case measure => simp [intOf]; omega
    · have hn' : ¬ (i : Int) < (n : Int) - 1 - i := by omega
      have hfin : Hid (OwnR wr base g n cap zs.reverse) := by
        show OwnR _ _ _ _ _ _
        rw [← hH.out.whole (by rw [hl.out]; omega)]
        exact hO.out
      clear hH hO
      go_wp2
      go_end0
      exact ⟨rfl, hfin.out, hbl.out⟩
theorem rev_none (a : Option Addr) (c : Nat) (w : World) :
    Calls Tryz.prog 188 #[.slice a 0 c] w fun e w' => e = .returned (.tuple #[]) ∧ w' = w := by
  go_enter Tryz.func188, Tryz.ntmps188
  go_wp2
  go_loopw [2, 3] (fun s2 s3 wr => s2 = .int .i64 0 ∧ s3 = .int .i64 (-1) ∧ wr = w) (fun _ _ _ => 0)
  case atStart => exact ⟨rfl, rfl, rfl⟩
  case round =>
    obtain ⟨rfl, rfl, rfl⟩ := hrel
    go_wp2
    go_end0
    exact ⟨rfl, rfl⟩
end Go.Proofs.YtnjbppfanmmifaaGreatDoor
