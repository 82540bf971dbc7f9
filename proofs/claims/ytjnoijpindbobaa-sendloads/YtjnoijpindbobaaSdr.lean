/-
  What is told is told with the load that was pushed: a list of the loads pushed.
-/
import Derived.Test.YtjnoijpindbobaaSdp
namespace Go.Proofs.Ytjnoijpindbobaa
open Go.RowKit
set_option linter.unusedVariables false
theorem infoB : (Try.prog.info? 29).map (fun i => (i.zero, i.size, i.bytes)) = some (some (.slice none 0 0), 1, 24) := by kernel_rfl
/-- An old load. -/
def LoadO (w : World) (B : Nat) (u : Value) (l : List Int) : Prop :=
  ∃ a cap, u = .slice a l.length cap ∧ Bytes w a l ∧ (a = none → cap = 0) ∧ l.length ≤ cap ∧ cap ≤ maxLen ∧ ∀ x, a = some x → l ≠ [] → x.block < B
def OwnsO (w : World) (B : Nat) (v : Value) (Ls : List (List Int)) : Prop :=
  ∃ vs, w.ownsRow B 29 1 v Ls.length vs ∧ ∀ i u, vs[i]? = some u → LoadO w B u (Ls.getD i [])
theorem LoadO.below {w w' : World} {B : Nat} {u : Value} {l : List Int} (h : LoadO w B u l) (hb : Below B w w') : LoadO w' B u l := by
  obtain ⟨a, cap, h1, h2, h3, h4, h5, h6⟩ := h
  exact ⟨a, cap, h1, h2.below hb (fun x hx hne => h6 x hx hne), h3, h4, h5, h6⟩
theorem ownsO_nil (w : World) (B : Nat) : OwnsO w B (.slice none 0 0) [] := ⟨[], World.ownsRow_nil w B 29 1, by simp⟩
theorem OwnsO.keep {w w' : World} {B : Nat} {v : Value} {Ls : List (List Int)} (h : OwnsO w B v Ls) (hb : Below B w w') (hr : ∀ (g : Nat) (cur : Array Value), w.heap[g]? = some (Obj.cells cur 29 (0, 0)) → w'.heap[g]? = w.heap[g]?) : OwnsO w' B v Ls := by
  obtain ⟨vs, ho, hl⟩ := h
  exact ⟨vs, ownsRow_keep ho (fun b cur _ h2 => hr b cur h2), fun i u hu => (hl i u hu).below hb⟩
theorem OwnsO.kept {w w' : World} {B : Nat} {v : Value} {Ls : List (List Int)} (h : OwnsO w B v Ls) (hb : Below w.heap.size w w') (hB : B ≤ w.heap.size) : OwnsO w' B v Ls :=
  h.keep (hb.mono hB) fun g cur hg => hb.block g (Array.getElem?_eq_some_iff.1 hg).1
/-- A sender's calls leave it. -/
theorem OwnsO.k2 {w w' : World} {B sb mb : Nat} {v : Value} {Ls : List (List Int)} {s : St} (h : OwnsO w B v Ls) (k : K2 sb mb w w') (hS : Sd w B sb mb s) (hB : B ≤ w.heap.size) : OwnsO w' B v Ls := by
  refine h.keep (k.below (Below.refl B w) hB hS.hs hS.hm) fun g cur hg => k.block g (Array.getElem?_eq_some_iff.1 hg).1 (fun e => ?_) (fun e => ?_)
  · subst e
    have := hS.blk
    unfold Blk at this
    rw [hg] at this
    cases this
  · subst e
    obtain ⟨D, ⟨es, clock, h1, _⟩, _⟩ := hS.mp
    rw [hg] at h1
    cases h1
/-- A row of slices that grows leaves a sender. -/
theorem Sd.grow {w w' : World} {B sb mb : Nat} {s : St} {r : Option Nat} (h : Sd w B sb mb s) (hg : w.grownBy w' r) (hr : ∀ k, r = some k → ∃ cs, Blk w k cs 29) : Sd w' B sb mb s := by
  have n1 : some sb ≠ r := fun e => by
    obtain ⟨cs, hc⟩ := hr sb e.symm
    have := h.blk
    unfold Blk at this hc
    rw [hc] at this
    cases this
  have n2 : some mb ≠ r := fun e => by
    obtain ⟨cs, hc⟩ := hr mb e.symm
    obtain ⟨D, ⟨es, clock, h1, _⟩, _⟩ := h.mp
    unfold Blk at hc
    rw [hc] at h1
    cases h1
  refine ⟨h.ok, h.hs, h.hm, (hg.block sb h.blk.lt n1).trans h.blk, ?_, fun z e he => ?_⟩
  · obtain ⟨D, ⟨es, clock, h1, h2⟩, h3⟩ := h.mp
    exact ⟨D, ⟨es, clock, by rw [hg.block mb (Array.getElem?_eq_some_iff.1 h1).1 n2]; exact h1, h2⟩, h3⟩
  · have l := h.ld z e he
    have hne : ∀ x, e.a = some x → w'.heap[x.block]? = w.heap[x.block]? := fun x hx => hg.block _ (l.at_ x hx).2.1 (fun e1 => by
      obtain ⟨cs, hc⟩ := hr x.block e1.symm
      obtain ⟨cs2, hc2⟩ := l.ty x hx
      unfold Blk at hc hc2
      rw [hc] at hc2
      cases hc2)
    refine ⟨⟨l.by_.1, l.by_.2.1, ?_⟩, l.nil, l.le, l.mx, fun x hx => ⟨(l.at_ x hx).1, Nat.lt_of_lt_of_le (l.at_ x hx).2.1 hg.size, (l.at_ x hx).2.2⟩, fun x hx => (l.ty x hx).imp fun cs hc => (hne x hx).trans hc⟩
    rcases l.by_.2.2 with h1 | ⟨b, off, h1, h2⟩
    · exact .inl h1
    · refine .inr ⟨b, off, h1, fun i hi => ?_⟩
      rw [← h2 i hi]
      exact World.cell?_of_block (w := w) (w' := w') (hne ⟨b, off, none⟩ h1)
/-- 'append(v, l)', v the call's own list of old loads, l an old load. -/
theorem wpList_append_old {w : World} {ops : Array Oper} {rest : List Oper} {o : Oper} {a : Act} {Q : Exit → Act → World → Prop} (hgd : o.guard = none) (s x : Operand)
    (ho : o.op = .call { callee := .builtin .append, args := #[s, x], argTypes := #[35, 35] })
    (B : Nat) (v u : Value) (Ls : List (List Int)) (l : List Int) (hs : a.eval s = v) (hown : OwnsO w B v Ls) (hu : LoadO w B u l)
    (ad : Addr) (hx : a.eval x = .slice (some ad) 1 1) (hc : w.cell? (ad.add 0) = some u)
    (hbytes : Ls.length ≤ 2199023255552) (hbase : B ≤ w.heap.size)
    (h : ∀ v' w', OwnsO w' B v' (Ls ++ [l]) → w.grownBy w' v.ownBlock → wpList Try.prog ops Q rest (a.put o.dst v') w') : wpList Try.prog ops Q (o :: rest) a w := by
  obtain ⟨i, hi, hz, hsz, hby⟩ := info_parts infoB
  obtain ⟨vs, hvs, hl⟩ := hown
  refine wpList_append_own_wide w hgd s x 35 ho B 29 i (.slice none 0 0) 1 24 Try.underlying35 hi hz hsz hby rfl (by decide) v Ls.length _ hs hvs ad 1 1 [u] hx rfl (fun j y hy => ?_) (fun y hy => ?_) ?_ (by omega) hbase ?_
  · have hj : j = 0 := by
      have := (List.getElem?_eq_some_iff.1 hy).1
      simp at this
      omega
    subst hj
    simp only [List.getElem?_cons_zero, Option.some.injEq] at hy
    subst hy
    exact hc
  · simp only [List.mem_cons, List.not_mem_nil, or_false] at hy
    subst hy
    obtain ⟨a', cap', rfl, _⟩ := hu
    rfl
  · unfold maxLen; omega
  · intro v' w' ho' hg _
    have hbel : Below B w w' := (Below.refl B w).grown hg hbase fun k hk => (hvs.lt k hk).1
    refine h v' w' ⟨vs ++ [u], by rw [List.length_append]; exact ho', fun j y hy => ?_⟩ hg
    have hvl : vs.length = Ls.length := by have := hvs.1; omega
    by_cases hj : j < vs.length
    · rw [List.getElem?_append_left hj] at hy
      have := (hl j y hy).below hbel
      rwa [List.getD_eq_getElem?_getD, List.getElem?_append_left (by omega), ← List.getD_eq_getElem?_getD]
    · rw [List.getElem?_append_right (by omega)] at hy
      have hj0 : j - vs.length = 0 := by
        have := (List.getElem?_eq_some_iff.1 hy).1
        simp at this
        omega
      rw [hj0] at hy
      simp only [List.getElem?_cons_zero, Option.some.injEq] at hy
      subst hy
      rw [List.getD_eq_getElem?_getD, List.getElem?_append_right (by omega), ← hvl, hj0]
      exact hu.below hbel
theorem OwnsO.own {w : World} {B : Nat} {v : Value} {Ls : List (List Int)} (h : OwnsO w B v Ls) : ∀ k, v.ownBlock = some k → B ≤ k ∧ ∃ cs, Blk w k cs 29 := by
  intro k hk
  obtain ⟨vs, hvs, _⟩ := h
  rcases hvs.2 with ⟨rfl, _⟩ | ⟨g, cap, cur, rfl, hg, hc, _⟩
  · simp [Value.ownBlock] at hk
  · simp [Value.ownBlock] at hk
    subst hk
    exact ⟨hg, cur, hc⟩
theorem OwnsO.form {w : World} {B : Nat} {v : Value} {Ls : List (List Int)} (h : OwnsO w B v Ls) : ∃ a n cap, v = .slice a n cap ∧ n = Ls.length ∧ n ≤ cap ∧ cap ≤ 9223372036854775807 := by
  obtain ⟨vs, hvs, _⟩ := h
  rcases hvs.2 with ⟨hv, hn⟩ | ⟨g, cap, cur, hv, hg, hc, hnc, hcm, r⟩
  · exact ⟨none, 0, 0, hv, hn.symm, by omega, by omega⟩
  · exact ⟨some ⟨g, 0, none⟩, Ls.length, cap, hv, rfl, hnc, by unfold maxLen at hcm; omega⟩
/-- One load of the list. -/
theorem OwnsO.at {w : World} {B : Nat} {v : Value} {Ls : List (List Int)} (h : OwnsO w B v Ls) {i : Nat} {l : List Int} (hi : Ls[i]? = some l) :
    ∃ g cap a c, v = .slice (some ⟨g, 0, none⟩) Ls.length cap ∧ w.cell? ⟨g, i, none⟩ = some (.slice a l.length c) ∧ Bytes w a l := by
  have hlt : i < Ls.length := (List.getElem?_eq_some_iff.1 hi).1
  obtain ⟨vs, hvs, hl⟩ := h
  rcases hvs.2 with ⟨hv, hn⟩ | ⟨g, cap, cur, hv, hg, hc, hnc, hcm, hcs, htk⟩
  · omega
  · have hvl : vs.length = Ls.length := by have := hvs.1; omega
    have hu : vs[i]? = some (vs[i]'(by omega)) := List.getElem?_eq_getElem _
    obtain ⟨a, c, e1, e2, _⟩ := hl i _ hu
    rw [List.getD_eq_getElem?_getD, hi] at e1 e2
    refine ⟨g, cap, a, c, hv, ?_, e2⟩
    rw [cell_row hc, ← Array.getElem?_toList]
    have h1 : (cur.toList.take (Ls.length * 1))[i]? = vs[i]? := by rw [htk]
    rw [List.getElem?_take, if_pos (by omega)] at h1
    rw [h1, hu, e1]
    rfl
/-- THE LOADS THAT ARE NOT DONE ARE THOSE THAT WERE PUSHED. -/
def PL (s : St) (P : List (List Int)) : Prop := s.nxt = (P.length : Int) + 1 ∧ ∀ z e, s.L z = some e → P[(z - 1).toNat]? = some e.zs
theorem PL.sb {s s' : St} {P : List (List Int)} (h : PL s P) (k : Sb s s') : PL s' P :=
  ⟨k.nxt.trans h.1, fun z e he => by obtain ⟨e1, h1, h2⟩ := k.zs z e he; rw [h2]; exact h.2 z e1 h1⟩
theorem PL.add {s : St} {P : List (List Int)} {e : Ent} (h : PL s P) (hO : Ok s) : PL (addA s e) (P ++ [e.zs]) := by
  refine ⟨?_, fun z e1 he => ?_⟩
  · show s.nxt + 1 = _
    rw [h.1, List.length_append]
    simp
  · have he : (if z = s.nxt then some e else s.L z) = some e1 := he
    have hn := h.1
    by_cases hz : z = s.nxt
    · rw [if_pos hz] at he
      cases he
      rw [show (z - 1).toNat = P.length by omega, List.getElem?_append_right (Nat.le_refl _)]
      simp
    · rw [if_neg hz] at he
      have := (hO.inn z).1 (by rw [he]; rfl)
      have := hO.b1
      rw [List.getElem?_append_left (by omega)]
      exact h.2 z e1 he
theorem due_mem {s : St} {now : Int} : ∀ (k : Nat) (p : Int × List Int), p ∈ dueL s now k → s.base ≤ p.1 ∧ p.1 < s.base + (k : Int) ∧ ∃ e, s.L p.1 = some e ∧ e.zs = p.2
  | 0, p, h => by simp [dueL] at h
  | k + 1, p, h => by
    unfold dueL at h
    rcases List.mem_append.1 h with h | h
    · obtain ⟨h1, h2, h3⟩ := due_mem k p h
      exact ⟨h1, by omega, h3⟩
    · cases hL : s.L (s.base + (k : Int)) with
      | none => rw [hL] at h; simp at h
      | some e =>
        rw [hL] at h
        by_cases ht : tellB now e = true
        · simp [ht] at h
          subst h
          exact ⟨by show s.base ≤ s.base + (k : Int); omega, by show s.base + (k : Int) < _; omega, e, hL, rfl⟩
        · simp [ht] at h
theorem due_sorted {s : St} {now : Int} : ∀ (k : Nat), (dueL s now k).Pairwise (fun p q => p.1 < q.1)
  | 0 => by simp [dueL]
  | k + 1 => by
    unfold dueL
    rw [List.pairwise_append]
    refine ⟨due_sorted k, ?_, fun p hp q hq => ?_⟩
    · split
      · split <;> simp
      · simp
    · have h1 := (due_mem k p hp).2.1
      cases hL : s.L (s.base + (k : Int)) with
      | none => rw [hL] at hq; simp at hq
      | some e =>
        rw [hL] at hq
        by_cases ht : tellB now e = true
        · simp [ht] at hq
          subst hq
          exact h1
        · simp [ht] at hq
end Go.Proofs.Ytjnoijpindbobaa
