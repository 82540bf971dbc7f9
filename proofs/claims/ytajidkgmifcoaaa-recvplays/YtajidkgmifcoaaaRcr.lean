/-
  The document's receiver in memory.
-/
import Derived.Test.YtajidkgmifcoaaaRch
import Derived.Deep.DeepAppendWide
import Derived.Laws.MakeOwn
import Derived.Laws.OwnMore
namespace Go.Proofs.Ytajidkgmifcoaaa
open Go.RowKit
set_option linter.unusedVariables false
theorem OwnsB.low {w : World} {b b' : Nat} {v : Value} {zs : List Int} (h : OwnsB w b v zs) (hb : b' ≤ b) : OwnsB w b' v zs := by
  obtain ⟨⟨h1, h2⟩, h3⟩ := h
  refine ⟨⟨h1, ?_⟩, h3⟩
  rcases h2 with h2 | ⟨g, cap, cur, hv, hg, r⟩
  · exact .inl h2
  · exact .inr ⟨g, cap, cur, hv, by omega, r⟩
theorem ownsRow_keep {w w' : World} {base e k n : Nat} {v : Value} {cs : List Value} (h : w.ownsRow base e k v n cs) (hb : ∀ b cur, base ≤ b → w.heap[b]? = some (.cells cur e (0, 0)) → w'.heap[b]? = w.heap[b]?) : w'.ownsRow base e k v n cs := by
  obtain ⟨h1, h2⟩ := h
  refine ⟨h1, ?_⟩
  rcases h2 with h2 | ⟨g, cap, cur, hv, hg, hc, r⟩
  · exact .inl h2
  · exact .inr ⟨g, cap, cur, hv, hg, by rw [hb g cur hg hc]; exact hc, r⟩
theorem ownsRow_low {w : World} {b b' e k n : Nat} {v : Value} {cs : List Value} (h : w.ownsRow b e k v n cs) (hb : b' ≤ b) : w.ownsRow b' e k v n cs := by
  obtain ⟨h1, h2⟩ := h
  refine ⟨h1, ?_⟩
  rcases h2 with h2 | ⟨g, cap, cur, hv, hg, r⟩
  · exact .inl h2
  · exact .inr ⟨g, cap, cur, hv, by omega, r⟩
/-- What may stand: did it come, its slice, its bytes. -/
abbrev Cm := Bool × Value × List Int
def Row (cs : List Value) (L : List Cm) : Prop := cs.length = L.length * 2 ∧ ∀ k p, L[k]? = some p → cs[k * 2]? = some (.bool p.1) ∧ cs[k * 2 + 1]? = some p.2.1
/-- THE SLICE v HOLDS THESE, IN NEW MEMORY. -/
def OwnsC (w : World) (base : Nat) (v : Value) (L : List Cm) : Prop := (∃ cs, w.ownsRow base 60 2 v L.length cs ∧ Row cs L) ∧ ∀ p ∈ L, OwnsB w base p.2.1 p.2.2
theorem OwnsC.keep {w w' : World} {base : Nat} {v : Value} {L : List Cm} (h : OwnsC w base v L) (hb : ∀ b cur e, base ≤ b → w.heap[b]? = some (.cells cur e (0, 0)) → e = 60 ∨ e = 5 → w'.heap[b]? = w.heap[b]?) : OwnsC w' base v L := by
  obtain ⟨⟨cs, h1, h2⟩, h3⟩ := h
  exact ⟨⟨cs, ownsRow_keep h1 (fun b cur k1 k2 => hb b cur _ k1 k2 (.inl rfl)), h2⟩, fun p hp => ⟨ownsRow_keep (h3 p hp).1 (fun b cur k1 k2 => hb b cur _ k1 k2 (.inr rfl)), (h3 p hp).2⟩⟩
theorem OwnsC.kept {w w' : World} {base : Nat} {v : Value} {L : List Cm} (h : OwnsC w base v L) (hb : Below w.heap.size w w') : OwnsC w' base v L :=
  h.keep fun b cur e _ h2 _ => hb.block b (Array.getElem?_eq_some_iff.1 h2).1
theorem infoC : (Try.prog.info? 60).map (fun i => (i.zero, i.size, i.bytes)) = some (some (.agg #[.bool false, .slice none 0 0]), 2, 32) := by kernel_rfl
/-- THE DOCUMENT'S RECEIVER IN MEMORY. -/
structure Dm (w : World) (mb D : Nat) (s : Rc) : Prop where
  hm : D ≤ mb
  ok : Rok s
  ex : ∃ (g n c : Nat) (L : List Cm), Blk w mb #[.int .i64 s.win, .int .i64 s.tk, .slice (some ⟨g, 0, none⟩) n c] 29 ∧ OwnsC w D (.slice (some ⟨g, 0, none⟩) n c) L ∧ (n : Int) = s.win ∧ L.length = n ∧ n ≤ c ∧ c ≤ 9223372036854775807 ∧
    ∀ k p, L[k]? = some p → p.1 = has s k ∧ (p.1 = true → s.L (s.tk + 1 + (k : Int)) = some p.2.2)
theorem Dm.keep {w w' : World} {mb D : Nat} {s : Rc} (h : Dm w mb D s) (hb : ∀ b cur e, D ≤ b → w.heap[b]? = some (.cells cur e (0, 0)) → w'.heap[b]? = w.heap[b]?) : Dm w' mb D s := by
  obtain ⟨hm, ok, g, n, c, L, h1, h2, h3⟩ := h
  exact ⟨hm, ok, g, n, c, L, (hb mb _ _ hm h1).trans h1, h2.keep (fun b cur e k1 k2 _ => hb b cur e k1 k2), h3⟩
theorem Dm.kept {w w' : World} {mb D : Nat} {s : Rc} (h : Dm w mb D s) (hb : Below w.heap.size w w') : Dm w' mb D s :=
  h.keep fun b cur e _ h2 => hb.block b (Array.getElem?_eq_some_iff.1 h2).1
theorem Dm.k2 {w w' : World} {mb D rb : Nat} {s : Rc} (h : Dm w mb D s) (k : K2 rb rb w w') (hr : rb < D) : Dm w' mb D s :=
  h.keep fun b cur e h1 h2 => k.block b (Array.getElem?_eq_some_iff.1 h2).1 (by omega) (by omega)
theorem Dm.lt {w : World} {mb D : Nat} {s : Rc} (h : Dm w mb D s) : mb < w.heap.size := by
  obtain ⟨hm, ok, g, n, c, L, h1, h2, h3⟩ := h
  exact h1.lt
theorem OwnsC.len {w : World} {D g n c : Nat} {L : List Cm} (h : OwnsC w D (.slice (some ⟨g, 0, none⟩) n c) L) : n = L.length := by
  obtain ⟨⟨cs, h1, h2⟩, h3⟩ := h
  rcases h1.2 with ⟨hv, _⟩ | ⟨g', cap, cur, hv, _⟩
  · cases hv
  · cases hv; rfl
theorem OwnsC.cell {w : World} {D g n c : Nat} {L : List Cm} (h : OwnsC w D (.slice (some ⟨g, 0, none⟩) n c) L) {k : Nat} {p : Cm} (hk : L[k]? = some p) :
    w.cell? ⟨g, k * 2, none⟩ = some (.bool p.1) ∧ w.cell? ⟨g, k * 2 + 1, none⟩ = some p.2.1 := by
  obtain rfl := h.len
  obtain ⟨⟨cs, h1, h2⟩, h3⟩ := h
  have hlt : k < L.length := (List.getElem?_eq_some_iff.1 hk).1
  have e := h2.2 k p hk
  exact ⟨by rw [h1.cellAt (k * 2) (by omega)]; exact e.1, by rw [h1.cellAt (k * 2 + 1) (by omega)]; exact e.2⟩
theorem OwnsC.fz {w : World} {D g n c : Nat} {L : List Cm} (h : OwnsC w D (.slice (some ⟨g, 0, none⟩) n c) L) (j : Nat) : w.frozen? ⟨g, j, none⟩ = false := by
  obtain rfl := h.len
  obtain ⟨⟨cs, h1, h2⟩, h3⟩ := h
  exact h1.frozenAt j
theorem OwnsC.blk {w : World} {D g n c : Nat} {L : List Cm} (h : OwnsC w D (.slice (some ⟨g, 0, none⟩) n c) L) : D ≤ g ∧ ∃ cs, Blk w g cs 60 := by
  obtain ⟨⟨cs, h1, h2⟩, h3⟩ := h
  rcases h1.2 with ⟨hv, _⟩ | ⟨g', cap, cur, hv, hg, hc, _⟩
  · cases hv
  · cases hv
    exact ⟨hg, cur, hc⟩
/-- One element is stored anew. -/
theorem OwnsC.put {w : World} {D g n c : Nat} {L : List Cm} (h : OwnsC w D (.slice (some ⟨g, 0, none⟩) n c) L) {k : Nat} (hk : k < L.length) (p : Cm) (hp : OwnsB w D p.2.1 p.2.2) :
    OwnsC ((w.setCell ⟨g, k * 2, none⟩ (.bool p.1)).setCell ⟨g, k * 2 + 1, none⟩ p.2.1) D (.slice (some ⟨g, 0, none⟩) n c) (L.set k p) := by
  obtain ⟨hD, cg, hcg⟩ := h.blk
  obtain rfl := h.len
  obtain ⟨⟨cs, h1, h2⟩, h3⟩ := h
  have hB : ∀ q : Cm, OwnsB w D q.2.1 q.2.2 → OwnsB ((w.setCell ⟨g, k * 2, none⟩ (.bool p.1)).setCell ⟨g, k * 2 + 1, none⟩ p.2.1) D q.2.1 q.2.2 := fun q hq => ⟨ownsRow_keep hq.1 (fun b cur k1 k2 => by
    have hne : b ≠ g := fun e => by
      subst e
      unfold Blk at hcg
      rw [hcg] at k2
      cases k2
    rw [Below.heap_setCell _ _ _ _ (by simpa using hne), Below.heap_setCell _ _ _ _ (by simpa using hne)]), hq.2⟩
  refine ⟨⟨(cs.set (k * 2) (.bool p.1)).set (k * 2 + 1) p.2.1, ?_, by simp [h2.1], fun j q hq => ?_⟩, fun q hq => ?_⟩
  · have := ((h1.stored (k * 2) (.bool p.1)).1.stored (k * 2 + 1) p.2.1).1
    rw [List.length_set]
    exact this
  · have hl := h2.1
    by_cases e : j = k
    · subst e
      rw [List.getElem?_set_self hk] at hq
      cases hq
      exact ⟨by rw [List.getElem?_set_ne (by omega), List.getElem?_set_self (by omega)], by rw [List.getElem?_set_self (by rw [List.length_set]; omega)]⟩
    · rw [List.getElem?_set_ne (by omega)] at hq
      have e2 := h2.2 j q hq
      exact ⟨by rw [List.getElem?_set_ne (by omega), List.getElem?_set_ne (by omega)]; exact e2.1, by rw [List.getElem?_set_ne (by omega), List.getElem?_set_ne (by omega)]; exact e2.2⟩
  · rcases List.mem_or_eq_of_mem_set hq with k1 | k1
    · exact hB q (h3 q k1)
    · rw [k1]; exact hB p hp
theorem made_row (n : Nat) : Row (madeCells (#[.bool false, .slice none 0 0] : Array Value) (n * 2)).toList (List.replicate n (false, .slice none 0 0, [])) := by
  refine ⟨by rw [Array.length_toList, size_madeCells, List.length_replicate], fun k p hk => ?_⟩
  have hlt : k < n := by have := (List.getElem?_eq_some_iff.1 hk).1; simpa using this
  rw [List.getElem?_replicate, if_pos hlt] at hk
  cases hk
  have e0 : k * 2 % 2 = 0 := by omega
  have e1 : (k * 2 + 1) % 2 = 1 := by omega
  constructor
  · simp [madeCells, show k * 2 < n * 2 by omega, e0]
  · simp [madeCells, show k * 2 + 1 < n * 2 by omega, e1]
theorem mnew_no (win : Int) (w : World) (h : win < 1 ∨ 32 < win) :
    Calls Try.prog 10 #[.int .i64 win] w fun e w' => e = .returned (.tuple #[.agg #[.int .i64 0, .int .i64 0, .slice none 0 0], .int .i64 1]) ∧ Hid (Below w.heap.size w w') := by
  by_cases h0 : win < 1
  · have d0 : decide (win < 1) = true := by simp; omega
    clear h h0
    go_enter Try.func10, Try.ntmps10
    go_wp2
    refine bodyPost_ret (v := .tuple #[.agg #[.int .i64 0, .int .i64 0, .slice none 0 0], .int .i64 1]) (by simp [results, Try.results10, go_sem, *]) rfl ⟨rfl, (Below.refl _ _).alloc (Nat.le_refl _) _⟩
  · have d0 : decide (win < 1) = false := by simp; omega
    have d1 : decide (win > 32) = true := by simp; omega
    clear h h0
    go_enter Try.func10, Try.ntmps10
    go_wp2
    refine bodyPost_ret (v := .tuple #[.agg #[.int .i64 0, .int .i64 0, .slice none 0 0], .int .i64 1]) (by simp [results, Try.results10, go_sem, *]) rfl ⟨rfl, (Below.refl _ _).alloc (Nat.le_refl _) _⟩
theorem OwnsC.low {w : World} {b b' : Nat} {v : Value} {L : List Cm} (h : OwnsC w b v L) (hb : b' ≤ b) : OwnsC w b' v L := by
  obtain ⟨⟨cs, h1, h2⟩, h3⟩ := h
  exact ⟨⟨cs, ownsRow_low h1 hb, h2⟩, fun p hp => (h3 p hp).low hb⟩
theorem OwnsC.away {w : World} {b g j : Nat} {v u : Value} {L : List Cm} (h : OwnsC w b v L) (hg : g < b) : OwnsC (w.setCell ⟨g, j, none⟩ u) b v L :=
  h.keep fun k cur e h1 h2 _ => Below.heap_setCell _ _ _ _ (by show k ≠ g; omega)
theorem mnew_yes (n : Nat) (w : World) (h1 : 1 ≤ n) (h2 : n ≤ 32) :
    Calls Try.prog 10 #[.int .i64 (n : Int)] w fun e w' => ∃ g, e = .returned (.tuple #[.agg #[.int .i64 (n : Int), .int .i64 0, .slice (some ⟨g, 0, none⟩) n n], .int .i64 0]) ∧ Hid (OwnsC w' w.heap.size (.slice (some ⟨g, 0, none⟩) n n) (List.replicate n (false, .slice none 0 0, []))) ∧ Hid (Below w.heap.size w w') := by
  have d0 : decide ((n : Int) < 1) = false := by simp; omega
  have d1 : decide ((n : Int) > 32) = false := by simp; omega
  obtain ⟨i, hi, hz, hsz, hby⟩ := info_parts infoC
  have hmk := fun (x : World) (hx : w.heap.size + 1 ≤ x.heap.size) => run_make_full (P := Try.prog) x (w.heap.size + 1) 27 60 i _ 2 Try.underlying27 hi hz hsz .i64 .i64 n (by rw [hby]; omega) (by unfold maxLen; omega) hx
  obtain ⟨x, hx⟩ : ∃ x, x = w.alloc (.cells #[.int .i64 0, .int .i64 0, .slice none 0 0] 29) := ⟨_, rfl⟩
  obtain ⟨w2, hm, ho, hg⟩ := hmk x (by rw [hx]; simp)
  have hB1 : Below w.heap.size w x := by rw [hx]; exact (Below.refl _ _).alloc (Nat.le_refl _) _
  have hB2 : Below w.heap.size w w2 := hB1.grown hg (by rw [hx]; simp) (fun k hk => by cases hk)
  have hbk : Blk w2 w.heap.size #[.int .i64 0, .int .i64 0, .slice none 0 0] 29 := by
    have : Blk x w.heap.size #[.int .i64 0, .int .i64 0, .slice none 0 0] 29 := by rw [hx]; exact blk_new _ _ _
    unfold Blk
    rw [hg.block _ this.lt (by simp)]
    exact this
  have hxs : x.heap.size = w.heap.size + 1 := by rw [hx]; simp
  rw [hxs] at hm ho
  have hOO : Hid (OwnsC w2 (w.heap.size + 1) (.slice (some ⟨w.heap.size + 1, 0, none⟩) n n) (List.replicate n (false, .slice none 0 0, []))) := by
    refine ⟨⟨_, by rw [List.length_replicate]; exact ho, made_row n⟩, fun p hp => ?_⟩
    obtain ⟨_, rfl⟩ := List.mem_replicate.1 hp
    exact ownsB_nil _ _
  have hBB : Hid (Below w.heap.size w w2) := hB2
  have y0 := hbk.cell 0
  have y1 := hbk.cell 1
  have y2 := hbk.cell 2
  have z0 := hbk.fz 0
  have z1 := hbk.fz 1
  have z2 := hbk.fz 2
  have hbkH : Hid (Blk w2 w.heap.size #[.int .i64 0, .int .i64 0, .slice none 0 0] 29) := hbk
  rw [hx] at hm
  clear hmk ho hg hB1 hB2 hbk hx hxs
  go_enter Try.func10, Try.ntmps10
  go_wp2
  refine bodyPost_ret (v := .tuple #[.agg #[.int .i64 (n : Int), .int .i64 0, .slice (some ⟨w.heap.size + 1, 0, none⟩) n n], .int .i64 0]) (by simp [results, Try.results10, go_sem, *]) rfl ⟨_, rfl, ?_, ?_⟩
  · exact (((hOO.out.away (by omega)).away (by omega)).away (by omega)).low (by omega)
  · exact ((hBB.out.setCell (Nat.le_refl _) _).setCell (Nat.le_refl _) _).setCell (Nat.le_refl _) _
end Go.Proofs.Ytajidkgmifcoaaa
