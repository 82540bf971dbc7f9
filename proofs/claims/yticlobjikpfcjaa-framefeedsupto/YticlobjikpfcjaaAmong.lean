/-
  Loads and bytes, both made by the call, side by side: the loads' own bytes are old.
-/
import Derived.Test.YticlobjikpfcjaaIns
import Derived.Test.YticlobjikpfcjaaNext
namespace Go.Proofs.Yticlobjikpfcjaa
open Go.RowKit

/-- An old load. -/
def LoadO (w : World) (B : Nat) (u : Value) (l : List Int) : Prop :=
  ∃ a cap, u = .slice a l.length cap ∧ Bytes w a l ∧ (a = none → cap = 0) ∧ l.length ≤ cap ∧ cap ≤ maxLen ∧ ∀ x, a = some x → l ≠ [] → x.block < B
def OwnsO (w : World) (B : Nat) (v : Value) (Ls : List (List Int)) : Prop :=
  ∃ vs, w.ownsRow B 22 1 v Ls.length vs ∧ ∀ i u, vs[i]? = some u → LoadO w B u (Ls.getD i [])

theorem LoadO.below {w w' : World} {B : Nat} {u : Value} {l : List Int} (h : LoadO w B u l) (hb : Below B w w') : LoadO w' B u l := by
  obtain ⟨a, cap, h1, h2, h3, h4, h5, h6⟩ := h
  exact ⟨a, cap, h1, h2.below hb (fun x hx hne => h6 x hx hne), h3, h4, h5, h6⟩
theorem ownsO_nil (w : World) (B : Nat) : OwnsO w B (.slice none 0 0) [] := ⟨[], World.ownsRow_nil w B 22 1, by simp⟩
theorem OwnsO.loads {w : World} {B : Nat} {v : Value} {Ls : List (List Int)} (h : OwnsO w B v Ls) : OwnsL w B B v Ls := by
  obtain ⟨vs, ho, hl⟩ := h
  refine ⟨vs, ho, fun i u hu => ?_⟩
  obtain ⟨a, cap, h1, h2, h3, h4, h5, h6⟩ := hl i u hu
  exact ⟨a, cap, h1, h2, h3, h4, h5, fun x hx hne => .inl (h6 x hx hne)⟩
/-- What is below, and the list's own row, stay: the list stays. -/
theorem OwnsO.keep {w w' : World} {B : Nat} {v : Value} {Ls : List (List Int)} {r : Option Nat} (h : OwnsO w B v Ls) (hg : w.grownBy w' r) (hr : ∀ k, r = some k → B ≤ k) (hne : v.ownBlock = none ∨ v.ownBlock ≠ r) (hB : B ≤ w.heap.size) : OwnsO w' B v Ls := by
  obtain ⟨vs, ho, hl⟩ := h
  exact ⟨vs, ho.kept hg hne, fun i u hu => (hl i u hu).below ((Below.refl B w).grown hg hB hr)⟩
theorem OwnsO.below {w w' : World} {B : Nat} {v : Value} {Ls : List (List Int)} (h : OwnsO w B v Ls) (hb : Below w.heap.size w w') (hB : B ≤ w.heap.size) : OwnsO w' B v Ls :=
  h.keep (r := none) ⟨hb.os, hb.tape, hb.output, hb.size, fun k hk _ => hb.block k hk⟩ (fun k hk => by cases hk) (by cases hv : v.ownBlock <;> simp) hB
/-- Bytes that are appended to leave it. -/
theorem OwnsO.bytes {w w' : World} {B : Nat} {v u : Value} {Ls : List (List Int)} {zs : List Int} (h : OwnsO w B v Ls) (ho : OwnsB w B u zs) (hg : w.grownBy w' u.ownBlock) (hB : B ≤ w.heap.size) : OwnsO w' B v Ls := by
  refine h.keep hg (fun k hk => (ho.1.lt k hk).1) ?_ hB
  obtain ⟨vs, hvs, _⟩ := h
  rcases hvs.2 with ⟨rfl, _⟩ | ⟨g, cap, cur, rfl, _, h1, _⟩
  · exact .inl rfl
  · right
    intro e
    rcases ho.1.2 with ⟨rfl, _⟩ | ⟨g', cap', cur', rfl, _, h2, _⟩
    · cases e
    · cases e
      rw [h1] at h2
      cases h2
/-- A list that is appended to leaves bytes. -/
theorem OwnsB.loads {w w' : World} {B B' : Nat} {v u : Value} {Ls : List (List Int)} {zs : List Int} (ho : OwnsB w B' u zs) (h : OwnsO w B v Ls) (hg : w.grownBy w' v.ownBlock) : OwnsB w' B' u zs := by
  refine ⟨ho.1.kept hg ?_, ho.2⟩
  obtain ⟨vs, hvs, _⟩ := h
  rcases ho.1.2 with ⟨rfl, _⟩ | ⟨g', cap', cur', rfl, _, h2, _⟩
  · exact .inl rfl
  · right
    intro e
    rcases hvs.2 with ⟨rfl, _⟩ | ⟨g, cap, cur, rfl, _, h1, _⟩
    · cases e
    · cases e
      rw [h1] at h2
      cases h2

/-- 'append(v, l)', v the call's own list of old loads, l an old load. -/
theorem wpList_append_old {w : World} {ops : Array Oper} {rest : List Oper} {o : Oper} {a : Act} {Q : Exit → Act → World → Prop} (hgd : o.guard = none) (s x : Operand)
    (ho : o.op = .call { callee := .builtin .append, args := #[s, x], argTypes := #[31, 31] })
    (B : Nat) (v u : Value) (Ls : List (List Int)) (l : List Int) (hs : a.eval s = v) (hown : OwnsO w B v Ls) (hu : LoadO w B u l)
    (ad : Addr) (hx : a.eval x = .slice (some ad) 1 1) (hc : w.cell? (ad.add 0) = some u)
    (hbytes : (Ls.length + 1) * 24 ≤ 140737488355328) (hbase : B ≤ w.heap.size)
    (h : ∀ v' w', OwnsO w' B v' (Ls ++ [l]) → w.grownBy w' v.ownBlock → wpList Try.prog ops Q rest (a.put o.dst v') w') : wpList Try.prog ops Q (o :: rest) a w := by
  obtain ⟨i, hi, hz, hsz, hby⟩ := info_parts info22
  obtain ⟨vs, hvs, hl⟩ := hown
  refine wpList_append_own w hgd s x 31 ho B 22 i (.slice none 0 0) 1 24 Try.underlying31 hi hz hsz hby rfl (by decide) v Ls.length _ hs hvs ad 1 1 [u] hx rfl (fun j y hy => ?_) (fun y hy => ?_) ?_ hbytes hbase ?_
  · have hj : j = 0 := by
      have := (List.getElem?_eq_some_iff.1 hy).1
      simp at this
      omega
    subst hj
    simp only [List.getElem?_cons_zero, Option.some.injEq] at hy
    subst hy
    exact hc
  · simp only [List.mem_cons, List.not_mem_nil, or_false] at hy
    subst hy
    obtain ⟨a', cap', rfl, _⟩ := hu
    rfl
  · unfold maxLen; omega
  · intro v' w' ho' hg _
    have hbel : Below B w w' := (Below.refl B w).grown hg hbase fun k hk => (hvs.lt k hk).1
    refine h v' w' ⟨vs ++ [u], by rw [List.length_append]; exact ho', fun j y hy => ?_⟩ hg
    have hvl : vs.length = Ls.length := by have := hvs.1; omega
    by_cases hj : j < vs.length
    · rw [List.getElem?_append_left hj] at hy
      have := (hl j y hy).below hbel
      rwa [List.getD_eq_getElem?_getD, List.getElem?_append_left (by omega), ← List.getD_eq_getElem?_getD]
    · rw [List.getElem?_append_right (by omega)] at hy
      have hj0 : j - vs.length = 0 := by
        have := (List.getElem?_eq_some_iff.1 hy).1
        simp at this
        omega
      rw [hj0] at hy
      simp only [List.getElem?_cons_zero, Option.some.injEq] at hy
      subst hy
      rw [List.getD_eq_getElem?_getD, List.getElem?_append_right (by omega), ← hvl, hj0]
      exact hu.below hbel

/-- An old list's load, seen from later: its cell, and that it is old. -/
theorem old_load {w w' : World} {a : Option Addr} {Ls : List (List Int)} (h : Lists w w.heap.size a Ls) (hb : Below w.heap.size w w') {k : Nat} (hk : k < Ls.length) :
    ∃ (l : List Int) (b off : Nat) (a1 : Option Addr) (n1 c1 : Nat), a = some ⟨b, off, none⟩ ∧ w'.cell? ⟨b, off + k, none⟩ = some (.slice a1 n1 c1) ∧ Hid (l.length = n1) ∧ Hid (Bytes w a1 l) ∧ Hid (a1 = none → c1 = 0) ∧ n1 ≤ c1 ∧ c1 ≤ 9223372036854775807 ∧ Hid (LoadO w w.heap.size (.slice a1 n1 c1) l) ∧ Hid (Ls.take (k + 1) = Ls.take k ++ [l]) ∧ Hid (Ls[k]? = some l) := by
  rcases h.2 with h0 | ⟨b, off, vs, rfl, hs, hl, hc⟩
  · subst h0; simp at hk
  · obtain ⟨l, a1, n1, c1, e1, e2, e3, e4, e5, e6, e7, e8, e9⟩ := next_load hl hc hk
    have hblk : ∀ x, a1 = some x → l ≠ [] → x.block < w.heap.size := fun x hx hne => by
      have h3 := e3.out
      rw [hx] at h3
      exact h3.lt hne
    refine ⟨l, b, off, a1, n1, c1, rfl, ?_, e2, e3, e4, e5, e6, ?_, e8, e9⟩
    · rw [hb.cell (p := ⟨b, off + k, none⟩) (World.block_lt_of_cell? w ⟨b, off + k, none⟩ e1)]
      exact e1
    · have hn : n1 = l.length := e2.out.symm
      subst hn
      exact ⟨a1, c1, rfl, e3.out, e4.out, e5, by unfold maxLen; exact e6, hblk⟩

theorem tot_mono (Ls : List (List Int)) (k : Nat) : tot (Ls.take k) ≤ tot (Ls.take (k + 1)) := by
  have h := tot_take (Ls.take (k + 1)) k
  rwa [List.take_take, Nat.min_eq_left (by omega)] at h
theorem owns_bytes {w : World} {B n c : Nat} {a : Option Addr} {zs : List Int} (h : OwnsB w B (.slice a n c) zs) : Bytes w a zs := by
  obtain ⟨a', cap', e, _, _, hb, _⟩ := h.shape
  simp only [Value.slice.injEq] at e
  rw [e.1]
  exact hb
/-- A list's row is no stream's block. -/
theorem own_not {w : World} {B g lost : Nat} {q : List Int} {v : Value} {Ls : List (List Int)} (h : OwnsO w B v Ls) (hs : Stm w g q lost) : v.ownBlock = none ∨ v.ownBlock ≠ some g := by
  obtain ⟨vs, hvs, _⟩ := h
  obtain ⟨cur, hc⟩ := hs.block
  rcases hvs.2 with ⟨rfl, _⟩ | ⟨g', cap, cur', rfl, _, h1, _⟩
  · exact .inl rfl
  · right
    intro e
    cases e
    rw [hc] at h1
    cases h1
end Go.Proofs.Yticlobjikpfcjaa
