/-
  A list of the loads that were taken, and who watches a link.
-/
import Derived.Test.YtfipdldoklkciaaLlh
import Derived.Deep.DeepAppendWide
namespace Go.Proofs.Ytfipdldoklkciaa
open Go.RowKit
set_option linter.unusedVariables false
theorem infoB : (Try.prog.info? 23).map (fun i => (i.zero, i.size, i.bytes)) = some (some (.slice none 0 0), 1, 24) := by kernel_rfl
/-- An old load. -/
def LoadO (w : World) (B : Nat) (u : Value) (l : List Int) : Prop :=
  ∃ a cap, u = .slice a l.length cap ∧ Bytes w a l ∧ (a = none → cap = 0) ∧ l.length ≤ cap ∧ cap ≤ maxLen ∧ ∀ x, a = some x → l ≠ [] → x.block < B
def OwnsO (w : World) (B : Nat) (v : Value) (Ls : List (List Int)) : Prop :=
  ∃ vs, w.ownsRow B 23 1 v Ls.length vs ∧ ∀ i u, vs[i]? = some u → LoadO w B u (Ls.getD i [])
theorem LoadO.below {w w' : World} {B : Nat} {u : Value} {l : List Int} (h : LoadO w B u l) (hb : Below B w w') : LoadO w' B u l := by
  obtain ⟨a, cap, h1, h2, h3, h4, h5, h6⟩ := h
  exact ⟨a, cap, h1, h2.below hb (fun x hx hne => h6 x hx hne), h3, h4, h5, h6⟩
theorem ownsO_nil (w : World) (B : Nat) : OwnsO w B (.slice none 0 0) [] := ⟨[], World.ownsRow_nil w B 23 1, by simp⟩
theorem OwnsO.keep {w w' : World} {B : Nat} {v : Value} {Ls : List (List Int)} (h : OwnsO w B v Ls) (hb : Below B w w') (hr : ∀ (g : Nat) (cur : Array Value), w.heap[g]? = some (Obj.cells cur 23 (0, 0)) → w'.heap[g]? = w.heap[g]?) : OwnsO w' B v Ls := by
  obtain ⟨vs, ho, hl⟩ := h
  exact ⟨vs, ownsRow_keep ho (fun b cur _ h2 => hr b cur h2), fun i u hu => (hl i u hu).below hb⟩
theorem OwnsO.kept {w w' : World} {B : Nat} {v : Value} {Ls : List (List Int)} (h : OwnsO w B v Ls) (hb : Below w.heap.size w w') (hB : B ≤ w.heap.size) : OwnsO w' B v Ls :=
  h.keep (hb.mono hB) fun g cur hg => hb.block g (Array.getElem?_eq_some_iff.1 hg).1
/-- 'append(v, l)' as a step of a region that draws its order. -/
theorem step_append_old {w : World} {ops : Array Oper} {o : Oper} {a : Act} {K : Act → World → Prop} {Q : Exit → Act → World → Prop} {E : Prop} (hgd : o.guard = none) (s x : Operand)
    (ho : o.op = .call { callee := .builtin .append, args := #[s, x], argTypes := #[44, 44] })
    (B : Nat) (v u : Value) (Ls : List (List Int)) (l : List Int) (hs : a.eval s = v) (hown : OwnsO w B v Ls) (hu : LoadO w B u l)
    (ad : Addr) (hx : a.eval x = .slice (some ad) 1 1) (hc : w.cell? (ad.add 0) = some u)
    (hbytes : Ls.length ≤ 2199023255552) (hbase : B ≤ w.heap.size)
    (h : ∀ v' w', OwnsO w' B v' (Ls ++ [l]) → w.grownBy w' v.ownBlock → K (a.put o.dst v') w') :
    if Region.wanted o (yielded ops a.tmps) = true then Oper.wp Try.prog o a w K Q else E := by
  have hw : Region.wanted o (yielded ops a.tmps) = true := by simp [Region.wanted, hgd]
  rw [if_pos hw]
  obtain ⟨i, hi, hz, hsz, hby⟩ := info_parts infoB
  obtain ⟨vs, hvs, hl⟩ := hown
  refine wp_append_own_wide w s x 44 ho B 23 i (.slice none 0 0) 1 24 Try.underlying44 hi hz hsz hby rfl (by decide) v Ls.length _ hs hvs ad 1 1 [u] hx rfl (fun j y hy => ?_) (fun y hy => ?_) ?_ (by omega) hbase ?_
  · have hj : j = 0 := by
      have := (List.getElem?_eq_some_iff.1 hy).1
      simp at this
      omega
    subst hj
    simp only [List.getElem?_cons_zero, Option.some.injEq] at hy
    subst hy
    exact hc
  · simp only [List.mem_cons, List.not_mem_nil, or_false] at hy
    subst hy
    obtain ⟨a', cap', rfl, _⟩ := hu
    rfl
  · unfold maxLen; omega
  · intro v' w' ho' hg _
    have hbel : Below B w w' := (Below.refl B w).grown hg hbase fun k hk => (hvs.lt k hk).1
    refine h v' w' ⟨vs ++ [u], by rw [List.length_append]; exact ho', fun j y hy => ?_⟩ hg
    have hvl : vs.length = Ls.length := by have := hvs.1; omega
    by_cases hj : j < vs.length
    · rw [List.getElem?_append_left hj] at hy
      have := (hl j y hy).below hbel
      rwa [List.getD_eq_getElem?_getD, List.getElem?_append_left (by omega), ← List.getD_eq_getElem?_getD]
    · rw [List.getElem?_append_right (by omega)] at hy
      have hj0 : j - vs.length = 0 := by
        have := (List.getElem?_eq_some_iff.1 hy).1
        simp at this
        omega
      rw [hj0] at hy
      simp only [List.getElem?_cons_zero, Option.some.injEq] at hy
      subst hy
      rw [List.getD_eq_getElem?_getD, List.getElem?_append_right (by omega), ← hvl, hj0]
      exact hu.below hbel
theorem OwnsO.own {w : World} {B : Nat} {v : Value} {Ls : List (List Int)} (h : OwnsO w B v Ls) : ∀ k, v.ownBlock = some k → B ≤ k ∧ ∃ cs, Blk w k cs 23 := by
  intro k hk
  obtain ⟨vs, hvs, _⟩ := h
  rcases hvs.2 with ⟨rfl, _⟩ | ⟨g, cap, cur, rfl, hg, hc, _⟩
  · simp [Value.ownBlock] at hk
  · simp [Value.ownBlock] at hk
    subst hk
    exact ⟨hg, cur, hc⟩
theorem OwnsO.form {w : World} {B : Nat} {v : Value} {Ls : List (List Int)} (h : OwnsO w B v Ls) : ∃ a n cap, v = .slice a n cap ∧ n = Ls.length ∧ n ≤ cap ∧ cap ≤ 9223372036854775807 := by
  obtain ⟨vs, hvs, _⟩ := h
  rcases hvs.2 with ⟨hv, hn⟩ | ⟨g, cap, cur, hv, hg, hc, hnc, hcm, r⟩
  · exact ⟨none, 0, 0, hv, hn.symm, by omega, by omega⟩
  · exact ⟨some ⟨g, 0, none⟩, Ls.length, cap, hv, rfl, hnc, by unfold maxLen at hcm; omega⟩
/-- One load of the list. -/
theorem OwnsO.at {w : World} {B : Nat} {v : Value} {Ls : List (List Int)} (h : OwnsO w B v Ls) {i : Nat} {l : List Int} (hi : Ls[i]? = some l) :
    ∃ g cap a c, v = .slice (some ⟨g, 0, none⟩) Ls.length cap ∧ w.cell? ⟨g, i, none⟩ = some (.slice a l.length c) ∧ Bytes w a l := by
  have hlt : i < Ls.length := (List.getElem?_eq_some_iff.1 hi).1
  obtain ⟨vs, hvs, hl⟩ := h
  rcases hvs.2 with ⟨hv, hn⟩ | ⟨g, cap, cur, hv, hg, hc, hnc, hcm, hcs, htk⟩
  · omega
  · have hvl : vs.length = Ls.length := by have := hvs.1; omega
    have hu : vs[i]? = some (vs[i]'(by omega)) := List.getElem?_eq_getElem _
    obtain ⟨a, c, e1, e2, _⟩ := hl i _ hu
    rw [List.getD_eq_getElem?_getD, hi] at e1 e2
    refine ⟨g, cap, a, c, hv, ?_, e2⟩
    rw [cell_row hc, ← Array.getElem?_toList]
    have h1 : (cur.toList.take (Ls.length * 1))[i]? = vs[i]? := by rw [htk]
    rw [List.getElem?_take, if_pos (by omega)] at h1
    rw [h1, hu, e1]
    rfl
/-- A link's calls leave it. -/
theorem OwnsO.k4 {w w' : World} {B : Nat} {q : Qb} {L : Lk} {v : Value} {Ls : List (List Int)} (h : OwnsO w B v Ls) (k : K4 q w w') (hL : Lm w B q L) : OwnsO w' B v Ls := by
  obtain ⟨cs, hc, _⟩ := hL.lk
  obtain ⟨cr, hr⟩ := hL.rv.bk
  have hs := hL.sd.blk
  have hm := hL.sd.mp
  refine h.keep (k.below (Below.refl B w) hL.B_le hL) fun g cur hg => k.block g (Array.getElem?_eq_some_iff.1 hg).1 (fun e => ?_) (fun e => ?_) (fun e => ?_) (fun e => ?_)
  · rw [← e] at hc; exact absurd (hc.ty hg) (by decide)
  · rw [← e] at hs; exact absurd (hs.ty hg) (by decide)
  · rw [← e] at hm; exact hm.no _ _ hg
  · rw [← e] at hr; exact absurd (hr.ty hg) (by decide)
/-- A block that is none of a link's turns: the link stays. -/
theorem Lm.oth {w w' : World} {B g : Nat} {q : Qb} {L : Lk} {cs : Array Value} {T : TypeId} (h : Lm w B q L) (k : K2 g g w w') (hg : Blk w g cs T) (h5 : T ≠ 5) (h1 : T ≠ 66) (h2 : T ≠ 141) (h3 : T ≠ 138) : Lm w' B q L := by
  obtain ⟨cl, hc, hk⟩ := h.lk
  obtain ⟨cr, hr⟩ := h.rv.bk
  have hs := h.sd.blk
  have hm := h.sd.mp
  have n1 : q.lb ≠ g := fun e => by rw [e] at hc; exact h1 (hg.ty hc)
  have n2 : q.sb ≠ g := fun e => by rw [e] at hs; exact h2 (hg.ty hs)
  have n3 : q.mb ≠ g := fun e => by rw [e] at hm; exact hm.no _ _ hg
  have n4 : q.rb ≠ g := fun e => by rw [e] at hr; exact h3 (hg.ty hr)
  have n5 : ∀ cs, ¬ Blk w g cs 5 := fun c hc => h5 (hg.ty hc)
  exact ⟨h.ok, h.sd.but k ⟨n2, n2⟩ ⟨n3, n3⟩ n5 n5, h.rv.k2 k n4 n4, ⟨cl, (k.block q.lb hc.lt n1 n1).trans hc, hk⟩, fun x hx => (h.gr x hx).k2 k n5 n5, h.hl, h.hr⟩
theorem Lm.grows {w w' : World} {B : Nat} {q : Qb} {L : Lk} {v : Value} {Ls : List (List Int)} (h : Lm w B q L) (hO : OwnsO w B v Ls) (hg : w.grownBy w' v.ownBlock) : Lm w' B q L := by
  cases hv : v.ownBlock with
  | none =>
    rw [hv] at hg
    exact h.kept ((Below.refl _ _).grown hg (Nat.le_refl _) (by intro k hk; cases hk))
  | some k =>
    rw [hv] at hg
    obtain ⟨_, cs, hc⟩ := hO.own k hv
    exact h.oth (K2.of_g hg) hc (by decide) (by decide) (by decide) (by decide)
/-- WHO WATCHES A LINK, IN BLOCK g: what always holds, the loads taken, how many were answered. -/
structure Wt (w0 w : World) (B : Nat) (q : Qb) (g : Nat) (L : Lk) (win : Int) (S : List (List Int)) (k : Nat) : Prop where
  lm : Lm w B q L
  bel : Below B w0 w
  inv : Inv L win S k
  wb : ∃ v, Blk w g #[.pointer (some ⟨q.lb, 0, none⟩), v, .int .i64 L.r.tk] 46 ∧ OwnsO w B v S
  hg : B ≤ g
theorem Wt.kept {w0 w w' : World} {B : Nat} {q : Qb} {g : Nat} {L : Lk} {win : Int} {S : List (List Int)} {k : Nat} (h : Wt w0 w B q g L win S k) (hb : Below w.heap.size w w') : Wt w0 w' B q g L win S k := by
  obtain ⟨v, h1, h2⟩ := h.wb
  exact ⟨h.lm.kept hb, h.bel.trans (hb.mono h.lm.B_le), h.inv, ⟨v, h1.kept hb, h2.kept hb h.lm.B_le⟩, h.hg⟩
theorem Blk.k4 {w w' : World} {B : Nat} {q : Qb} {L : Lk} {g : Nat} {cs : Array Value} {T : TypeId} (h : Blk w g cs T) (k : K4 q w w') (hL : Lm w B q L) (h1 : T ≠ 66) (h2 : T ≠ 141) (h3 : T ≠ 138) : Blk w' g cs T := by
  obtain ⟨cl, hc, _⟩ := hL.lk
  obtain ⟨cr, hr⟩ := hL.rv.bk
  have hs := hL.sd.blk
  have hm := hL.sd.mp
  refine (k.block g h.lt (fun e => ?_) (fun e => ?_) (fun e => ?_) (fun e => ?_)).trans h
  · rw [← e] at hc; exact h1 (h.ty hc)
  · rw [← e] at hs; exact h2 (h.ty hs)
  · rw [← e] at hm; exact hm.no _ _ h
  · rw [← e] at hr; exact h3 (h.ty hr)
end Go.Proofs.Ytfipdldoklkciaa
