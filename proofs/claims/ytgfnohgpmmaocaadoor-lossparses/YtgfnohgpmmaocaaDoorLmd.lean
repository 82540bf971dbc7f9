/-
  A list of losses in new memory, and an append to it.
-/
import Derived.Test.YtgfnohgpmmaocaaDoorLmb
namespace Go.Proofs.YtgfnohgpmmaocaaDoor
open Go.RowKit
set_option linter.unusedVariables false
/-! ### A list of losses in new memory -/
/-- A loss's cells, its path's slice given. -/
def lsC (p : Value × Ls) : List Value := [p.1, .int .i64 p.2.kind, .int .u64 (p.2.n : Nat)]
def lsCs (L : List (Value × Ls)) : List Value := (L.map lsC).flatten
theorem lsCs_snoc (L : List (Value × Ls)) (t : Value × Ls) : lsCs (L ++ [t]) = lsCs L ++ lsC t := by simp [lsCs]
theorem lsCs_len (L : List (Value × Ls)) : (lsCs L).length = L.length * 3 := by
  induction L with
  | nil => rfl
  | cons t L ih =>
    have : lsCs (t :: L) = lsC t ++ lsCs L := rfl
    rw [this, List.length_append, ih, List.length_cons]
    simp [lsC]; omega
/-- THE SLICE v HOLDS THESE LOSSES, IN NEW MEMORY. -/
def OwnsK (w : World) (base : Nat) (v : Value) (L : List (Value × Ls)) : Prop := w.ownsRow base 41 3 v L.length (lsCs L) ∧ ∀ p ∈ L, OwnsI w base p.1 p.2.path ∧ p.2.n < 18446744073709551616
theorem ownsK_nil (w : World) (base : Nat) : OwnsK w base (.slice none 0 0) [] := ⟨World.ownsRow_nil w base 41 3, by simp⟩
theorem infoL : (Tryd.prog.info? 41).map (fun i => (i.zero, i.size, i.bytes)) = some (some (.agg #[.slice none 0 0, .int .i64 0, .int .u64 0]), 3, 40) := by kernel_rfl
theorem ownsRow_keep {w w' : World} {base e k n : Nat} {v : Value} {cs : List Value} (h : w.ownsRow base e k v n cs) (hb : ∀ b cur, base ≤ b → w.heap[b]? = some (.cells cur e (0, 0)) → w'.heap[b]? = w.heap[b]?) : w'.ownsRow base e k v n cs := by
  obtain ⟨h1, h2⟩ := h
  refine ⟨h1, ?_⟩
  rcases h2 with h2 | ⟨g, cap, cur, hv, hg, hc, r⟩
  · exact .inl h2
  · exact .inr ⟨g, cap, cur, hv, hg, by rw [hb g cur hg hc]; exact hc, r⟩
theorem OwnsK.keep {w w' : World} {base : Nat} {v : Value} {L : List (Value × Ls)} (h : OwnsK w base v L) (hb : ∀ b cur e, base ≤ b → w.heap[b]? = some (.cells cur e (0, 0)) → e = 41 ∨ e = 3 → w'.heap[b]? = w.heap[b]?) : OwnsK w' base v L :=
  ⟨ownsRow_keep h.1 (fun b cur h1 h2 => hb b cur _ h1 h2 (.inl rfl)), fun p hp => ⟨ownsRow_keep (h.2 p hp).1 (fun b cur h1 h2 => hb b cur _ h1 h2 (.inr rfl)), (h.2 p hp).2⟩⟩
theorem OwnsK.kept {w w' : World} {base : Nat} {v : Value} {L : List (Value × Ls)} (h : OwnsK w base v L) (hb : Below w.heap.size w w') : OwnsK w' base v L :=
  h.keep fun b cur e _ h2 _ => hb.block b (Array.getElem?_eq_some_iff.1 h2).1
theorem OwnsK.alloc {w : World} {base : Nat} {v : Value} {L : List (Value × Ls)} (h : OwnsK w base v L) (o : Obj) : OwnsK (w.alloc o) base v L := h.kept ((Below.refl _ _).alloc (Nat.le_refl _) o)
theorem OwnsK.k2 {q g : Nat} {w w' : World} {base : Nat} {v : Value} {L : List (Value × Ls)} (h : OwnsK w base v L) (k : K2 q g w w') (hq : q < base) (hg : g < base) : OwnsK w' base v L :=
  h.keep fun b cur e h1 h2 _ => k.block b (Array.getElem?_eq_some_iff.1 h2).1 (by omega) (by omega)
theorem OwnsK.form {w : World} {base : Nat} {v : Value} {L : List (Value × Ls)} (h : OwnsK w base v L) : ∃ a n cap, v = .slice a n cap ∧ n = L.length ∧ n ≤ cap ∧ cap ≤ 9223372036854775807 := by
  rcases h.1.2 with ⟨hv, hn⟩ | ⟨g, cap, cur, hv, hg, hc, hnc, hcm, r⟩
  · exact ⟨none, 0, 0, hv, hn.symm, by omega, by omega⟩
  · exact ⟨some ⟨g, 0, none⟩, L.length, cap, hv, rfl, hnc, by unfold maxLen at hcm; omega⟩
theorem addr_add0 (g j : Nat) : (⟨g, 0, none⟩ : Addr).add j = ⟨g, j, none⟩ := by simp [Addr.add]; exact fun h => h.symm
/-- 'append(v, x)'. -/
theorem wpList_append_loss {w : World} {ops : Array Oper} {rest : List Oper} {o : Oper} {a : Act} {Q : Exit → Act → World → Prop} (hgd : o.guard = none) (s x : Operand)
    (ho : o.op = .call { callee := .builtin .append, args := #[s, x], argTypes := #[22, 22] })
    (base : Nat) (v : Value) (L : List (Value × Ls)) (t : Value × Ls) (hs : a.eval s = v) (hown : OwnsK w base v L) (ht : OwnsI w base t.1 t.2.path ∧ t.2.n < 18446744073709551616)
    (g : Nat) (hx : a.eval x = .slice (some ⟨g, 0, none⟩) 1 1) (hb : ∀ j, j < 3 → w.cell? ⟨g, j, none⟩ = (lsC t)[j]?)
    (hlen : L.length ≤ 100000) (hbase : base ≤ w.heap.size)
    (h : ∀ v' w', OwnsK w' base v' (L ++ [t]) → w.grownBy w' v.ownBlock → wpList Tryd.prog ops Q rest (a.put o.dst v') w') : wpList Tryd.prog ops Q (o :: rest) a w := by
  obtain ⟨i, hi, hz, hsz, hby⟩ := info_parts infoL
  refine wpList_append_own_wide w hgd s x 22 ho base 41 i _ 3 40 Tryd.underlying22 hi hz hsz hby rfl (by decide) v L.length _ hs hown.1 ⟨g, 0, none⟩ 1 1 (lsC t) hx rfl ?_ ?_ (by unfold maxLen; omega) (by omega) hbase ?_
  · intro j u hu
    have hj : j < 3 := (List.getElem?_eq_some_iff.1 hu).1
    rw [addr_add0, hb j hj]; exact hu
  · intro u hu
    obtain ⟨pa, pn, pc, e, _⟩ := ht.1.form3
    simp [lsC, e] at hu
    rcases hu with rfl | rfl | rfl <;> rfl
  · intro v' w' h1 h2 _
    refine h v' w' ⟨?_, fun p hp => ?_⟩ h2
    · rw [List.length_append, lsCs_snoc]
      exact h1
    · have hk : ∀ p : Value × Ls, OwnsI w base p.1 p.2.path ∧ p.2.n < 18446744073709551616 → OwnsI w' base p.1 p.2.path ∧ p.2.n < 18446744073709551616 := fun (p : Value × Ls) hp => ⟨ownsRow_keep hp.1 (fun b cur h3 h4 => h2.block b (Array.getElem?_eq_some_iff.1 h4).1 (fun e => by
        rcases hown.1.2 with ⟨rfl, _⟩ | ⟨g', cap', cur', rfl, _, hc', _⟩
        · simp [Value.ownBlock] at e
        · simp [Value.ownBlock] at e
          subst e
          rw [h4] at hc'
          cases hc')), hp.2⟩
      rcases List.mem_append.1 hp with hp | hp
      · exact hk p (hown.2 p hp)
      · simp at hp
        subst hp
        exact hk _ ht
theorem grownK_below {w w1 w2 : World} {base : Nat} {v : Value} {L : List (Value × Ls)} (hb : Below base w w1) (h : OwnsK w1 base v L) (hg : w1.grownBy w2 v.ownBlock) (hB : base ≤ w1.heap.size) : Below base w w2 :=
  hb.grown hg hB fun k hk => by
    rcases h.1.2 with ⟨rfl, _⟩ | ⟨g, cap, cur, rfl, hg', _⟩
    · simp [Value.ownBlock] at hk
    · simp [Value.ownBlock] at hk
      omega
end Go.Proofs.YtgfnohgpmmaocaaDoor
