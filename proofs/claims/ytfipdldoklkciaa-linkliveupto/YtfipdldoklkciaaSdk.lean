/-
  Messages told: a list in new memory, and an append to it.
-/
import Derived.Test.YtfipdldoklkciaaSdj
import Derived.Deep.DeepAppendWide
namespace Go.Proofs.Ytfipdldoklkciaa
open Go.RowKit
set_option linter.unusedVariables false
/-- A message's cells: its number, and its load's slice. -/
def msC (p : Int × Value × List Int) : List Value := [.int .i64 1, .int .u64 0, .int .i64 0, .int .i64 p.1, .int .i64 0, .int .u64 0, .int .i64 0, .int .i64 0, p.2.1]
def msCs (L : List (Int × Value × List Int)) : List Value := (L.map msC).flatten
theorem msCs_snoc (L : List (Int × Value × List Int)) (t : Int × Value × List Int) : msCs (L ++ [t]) = msCs L ++ msC t := by simp [msCs]
theorem msCs_len (L : List (Int × Value × List Int)) : (msCs L).length = L.length * 9 := by
  induction L with
  | nil => rfl
  | cons t L ih =>
    have : msCs (t :: L) = msC t ++ msCs L := rfl
    rw [this, List.length_append, ih, List.length_cons]
    simp [msC]; omega
/-- THE SLICE v HOLDS THESE MESSAGES, IN NEW MEMORY. -/
def OwnsT (w : World) (base : Nat) (v : Value) (L : List (Int × Value × List Int)) : Prop := w.ownsRow base 25 9 v L.length (msCs L) ∧ ∀ p ∈ L, OwnsB w base p.2.1 p.2.2
theorem ownsT_nil (w : World) (base : Nat) : OwnsT w base (.slice none 0 0) [] := ⟨World.ownsRow_nil w base 25 9, by simp⟩
theorem infoM : (Try.prog.info? 25).map (fun i => (i.zero, i.size, i.bytes)) = some (some (.agg #[.int .i64 0, .int .u64 0, .int .i64 0, .int .i64 0, .int .i64 0, .int .u64 0, .int .i64 0, .int .i64 0, .slice none 0 0]), 9, 88) := by kernel_rfl
theorem ownsRow_keep {w w' : World} {base e k n : Nat} {v : Value} {cs : List Value} (h : w.ownsRow base e k v n cs) (hb : ∀ b cur, base ≤ b → w.heap[b]? = some (.cells cur e (0, 0)) → w'.heap[b]? = w.heap[b]?) : w'.ownsRow base e k v n cs := by
  obtain ⟨h1, h2⟩ := h
  refine ⟨h1, ?_⟩
  rcases h2 with h2 | ⟨g, cap, cur, hv, hg, hc, r⟩
  · exact .inl h2
  · exact .inr ⟨g, cap, cur, hv, hg, by rw [hb g cur hg hc]; exact hc, r⟩
theorem OwnsT.keep {w w' : World} {base : Nat} {v : Value} {L : List (Int × Value × List Int)} (h : OwnsT w base v L) (hb : ∀ b cur e, base ≤ b → w.heap[b]? = some (.cells cur e (0, 0)) → e = 25 ∨ e = 5 → w'.heap[b]? = w.heap[b]?) : OwnsT w' base v L :=
  ⟨ownsRow_keep h.1 (fun b cur h1 h2 => hb b cur _ h1 h2 (.inl rfl)), fun p hp => ⟨ownsRow_keep (h.2 p hp).1 (fun b cur h1 h2 => hb b cur _ h1 h2 (.inr rfl)), (h.2 p hp).2⟩⟩
theorem OwnsT.kept {w w' : World} {base : Nat} {v : Value} {L : List (Int × Value × List Int)} (h : OwnsT w base v L) (hb : Below w.heap.size w w') : OwnsT w' base v L :=
  h.keep fun b cur e _ h2 _ => hb.block b (Array.getElem?_eq_some_iff.1 h2).1
theorem OwnsT.alloc {w : World} {base : Nat} {v : Value} {L : List (Int × Value × List Int)} (h : OwnsT w base v L) (o : Obj) : OwnsT (w.alloc o) base v L := h.kept ((Below.refl _ _).alloc (Nat.le_refl _) o)
theorem OwnsT.k2 {q g : Nat} {w w' : World} {base : Nat} {v : Value} {L : List (Int × Value × List Int)} (h : OwnsT w base v L) (k : K2 q g w w') (hq : q < base) (hg : g < base) : OwnsT w' base v L :=
  h.keep fun b cur e h1 h2 _ => k.block b (Array.getElem?_eq_some_iff.1 h2).1 (by omega) (by omega)
theorem OwnsT.form {w : World} {base : Nat} {v : Value} {L : List (Int × Value × List Int)} (h : OwnsT w base v L) : ∃ a n cap, v = .slice a n cap ∧ n = L.length ∧ n ≤ cap ∧ cap ≤ 9223372036854775807 := by
  rcases h.1.2 with ⟨hv, hn⟩ | ⟨g, cap, cur, hv, hg, hc, hnc, hcm, r⟩
  · exact ⟨none, 0, 0, hv, hn.symm, by omega, by omega⟩
  · exact ⟨some ⟨g, 0, none⟩, L.length, cap, hv, rfl, hnc, by unfold maxLen at hcm; omega⟩
theorem addr_add0 (g j : Nat) : (⟨g, 0, none⟩ : Addr).add j = ⟨g, j, none⟩ := by simp [Addr.add]; exact fun h => h.symm
/-- What is told at a place. -/
theorem OwnsT.cells {w : World} {base : Nat} {v : Value} {L : List (Int × Value × List Int)} (h : OwnsT w base v L) {i : Nat} {p : Int × Value × List Int} (hi : L[i]? = some p) :
    ∃ g cap, v = .slice (some ⟨g, 0, none⟩) L.length cap ∧ base ≤ g ∧ g < w.heap.size ∧ ∀ j, j < 9 → w.cell? ⟨g, i * 9 + j, none⟩ = (msC p)[j]? := by
  have hlt : i < L.length := (List.getElem?_eq_some_iff.1 hi).1
  rcases h.1.2 with ⟨hv, hn⟩ | ⟨g, cap, cur, hv, hg, hc, hnc, hcm, hcs, htk⟩
  · omega
  · refine ⟨g, cap, hv, hg, (Array.getElem?_eq_some_iff.1 hc).1, fun j hj => ?_⟩
    rw [cell_row hc, ← Array.getElem?_toList]
    have h1 : (cur.toList.take (L.length * 9))[i * 9 + j]? = (msCs L)[i * 9 + j]? := by rw [htk]
    rw [List.getElem?_take, if_pos (by omega)] at h1
    rw [h1]
    clear h1 htk hcs hc hcm hnc hg hv h
    induction L generalizing i with
    | nil => simp at hi
    | cons t L ih =>
      have e : msCs (t :: L) = msC t ++ msCs L := rfl
      rw [e]
      cases i with
      | zero =>
        simp at hi
        subst hi
        rw [Nat.zero_mul, Nat.zero_add, List.getElem?_append_left (by simp [msC]; omega)]
      | succ i =>
        rw [List.getElem?_append_right (by simp [msC]; omega)]
        rw [show (i + 1) * 9 + j - (msC t).length = i * 9 + j by simp [msC]; omega]
        exact ih (by simpa using hi) (by simpa using hlt)
/-- 'append(v, x)'. -/
theorem wpList_append_msg {w : World} {ops : Array Oper} {rest : List Oper} {o : Oper} {a : Act} {Q : Exit → Act → World → Prop} (hgd : o.guard = none) (s x : Operand)
    (ho : o.op = .call { callee := .builtin .append, args := #[s, x], argTypes := #[110, 110] })
    (base : Nat) (v : Value) (L : List (Int × Value × List Int)) (t : Int × Value × List Int) (hs : a.eval s = v) (hown : OwnsT w base v L) (ht : OwnsB w base t.2.1 t.2.2)
    (g : Nat) (hx : a.eval x = .slice (some ⟨g, 0, none⟩) 1 1) (hb : ∀ j, j < 9 → w.cell? ⟨g, j, none⟩ = (msC t)[j]?)
    (hlen : L.length ≤ 100000) (hbase : base ≤ w.heap.size)
    (h : ∀ v' w', OwnsT w' base v' (L ++ [t]) → w.grownBy w' v.ownBlock → wpList Try.prog ops Q rest (a.put o.dst v') w') : wpList Try.prog ops Q (o :: rest) a w := by
  obtain ⟨i, hi, hz, hsz, hby⟩ := info_parts infoM
  refine wpList_append_own_wide w hgd s x 110 ho base 25 i _ 9 88 Try.underlying110 hi hz hsz hby rfl (by decide) v L.length _ hs hown.1 ⟨g, 0, none⟩ 1 1 (msC t) hx rfl ?_ ?_ (by unfold maxLen; omega) (by omega) hbase ?_
  · intro j u hu
    have hj : j < 9 := (List.getElem?_eq_some_iff.1 hu).1
    rw [addr_add0, hb j hj]; exact hu
  · intro u hu
    obtain ⟨pa, pc, e, _⟩ := ht.shape
    simp [msC, e] at hu
    rcases hu with rfl | rfl | rfl | rfl | rfl | rfl | rfl | rfl | rfl <;> rfl
  · intro v' w' h1 h2 _
    refine h v' w' ⟨?_, fun p hp => ?_⟩ h2
    · rw [List.length_append, msCs_snoc]
      exact h1
    · have hk : ∀ p : Int × Value × List Int, OwnsB w base p.2.1 p.2.2 → OwnsB w' base p.2.1 p.2.2 := fun p hp => ⟨ownsRow_keep hp.1 (fun b cur h3 h4 => h2.block b (Array.getElem?_eq_some_iff.1 h4).1 (fun e => by
        rcases hown.1.2 with ⟨rfl, _⟩ | ⟨g', cap', cur', rfl, _, hc', _⟩
        · simp [Value.ownBlock] at e
        · simp [Value.ownBlock] at e
          subst e
          rw [h4] at hc'
          cases hc')), hp.2⟩
      rcases List.mem_append.1 hp with hp | hp
      · exact hk p (hown.2 p hp)
      · simp at hp
        subst hp
        exact hk _ ht
theorem ownT_below {w w1 w2 : World} {base : Nat} {v : Value} {L : List (Int × Value × List Int)} (hb : Below base w w1) (h : OwnsT w1 base v L) (hg : w1.grownBy w2 v.ownBlock) (hB : base ≤ w1.heap.size) : Below base w w2 :=
  hb.grown hg hB fun k hk => by
    rcases h.1.2 with ⟨rfl, _⟩ | ⟨g, cap, cur, rfl, hg', _⟩
    · simp [Value.ownBlock] at hk
    · simp [Value.ownBlock] at hk
      omega
/-- All of a sender's blocks lie below N. -/
def Up (N sb mb : Nat) (s : St) : Prop := sb < N ∧ mb < N ∧ ∀ z e x, s.L z = some e → e.a = some x → x.block < N
theorem Sd.up {w : World} {B sb mb : Nat} {s : St} (h : Sd w B sb mb s) : Up w.heap.size sb mb s := ⟨h.blk.lt, h.mp.lt, fun z e x he hx => ((h.ld z e he).at_ x hx).2.1⟩
theorem Sd.below {w w' : World} {N B sb mb : Nat} {s : St} (h : Sd w B sb mb s) (u : Up N sb mb s) (hb : Below N w w') : Sd w' B sb mb s := by
  refine ⟨h.ok, h.hs, h.hm, ?_, ?_, fun z e he => ?_⟩
  · unfold Blk
    rw [hb.block sb u.1]
    exact h.blk
  · obtain ⟨D, ⟨es, clock, h1, h2⟩, h3⟩ := h.mp
    exact ⟨D, ⟨es, clock, by rw [hb.block mb u.2.1]; exact h1, h2⟩, h3⟩
  · have l := h.ld z e he
    exact ⟨l.by_.below hb (fun x hx _ => u.2.2 z e x he hx), l.nil, l.le, l.mx, fun x hx => ⟨(l.at_ x hx).1, Nat.lt_of_lt_of_le (l.at_ x hx).2.1 hb.size, (l.at_ x hx).2.2⟩, fun x hx => (l.ty x hx).imp fun cs hc => (hb.block x.block (u.2.2 z e x he hx)).trans hc⟩
end Go.Proofs.Ytfipdldoklkciaa
