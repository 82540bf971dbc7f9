/-
  A tree with a node at the end of a path: tree.Put.
-/
import Derived.Test.YtkealjaealeojabQLym
namespace Go.Proofs.Ytkealjaealeojab
open Go.RowKit
set_option linter.unusedVariables false

/-- Nine cells written in a row: the world behind it. -/
theorem wrt9 {w : World} {g o : Nat} {cur : Array Value} (x : Nb) (hg : w.heap[g]? = some (.cells cur 26 (0, 0))) (ho : o + 9 ≤ cur.size) : Wrt w (((((((((w.setCell ⟨g, o, none⟩ (.int .i64 x.kind)).setCell ⟨g, o + 1, none⟩ (.int .u64 x.num)).setCell ⟨g, o + 2, none⟩ (.bool x.neg)).setCell ⟨g, o + 3, none⟩ (.string x.dig)).setCell ⟨g, o + 4, none⟩ (.int .i64 x.exp)).setCell ⟨g, o + 5, none⟩ (.string x.txt)).setCell ⟨g, o + 6, none⟩ (.slice x.ab x.lb x.cb)).setCell ⟨g, o + 7, none⟩ (.slice x.ak x.lk x.ck)).setCell ⟨g, o + 8, none⟩ (.slice x.ai x.li x.ci)) g o x := by
  have e := fun (w : World) (cs : Array Value) (j : Nat) (v : Value) (h : w.heap[g]? = some (.cells cs 26 (0, 0))) => heap_setCell_same w g j cs 26 v h
  have h1 := e _ _ o (.int .i64 x.kind) hg
  have h2 := e _ _ (o + 1) (.int .u64 x.num) h1
  have h3 := e _ _ (o + 2) (.bool x.neg) h2
  have h4 := e _ _ (o + 3) (.string x.dig) h3
  have h5 := e _ _ (o + 4) (.int .i64 x.exp) h4
  have h6 := e _ _ (o + 5) (.string x.txt) h5
  have h7 := e _ _ (o + 6) (.slice x.ab x.lb x.cb) h6
  have h8 := e _ _ (o + 7) (.slice x.ak x.lk x.ck) h7
  have h9 := e _ _ (o + 8) (.slice x.ai x.li x.ci) h8
  refine ⟨⟨cur, _, hg, h9, by simp, fun j hj => ?_, fun i hi => ?_⟩, fun k hk => ?_⟩
  · have : j = 0 ∨ j = 1 ∨ j = 2 ∨ j = 3 ∨ j = 4 ∨ j = 5 ∨ j = 6 ∨ j = 7 ∨ j = 8 := by omega
    rcases this with rfl | rfl | rfl | rfl | rfl | rfl | rfl | rfl | rfl <;> simp [Array.getElem?_setIfInBounds, Nb.cells] <;> omega
  · simp only [Array.getElem?_setIfInBounds]
    repeat rw [if_neg (by omega)]
  · simp only [setk hk]
theorem Wrt.kp {w w' : World} {g o : Nat} {x : Nb} (h : Wrt w w' g o x) (h1 : w'.os = w.os) (h2 : w'.tape = w.tape) (h3 : w'.output = w.output) (h4 : w'.heap.size = w.heap.size) : Kp (fun k => k = g) w w' := ⟨h1, h2, h3, Nat.le_of_eq h4.symm, fun k _ hk => h.other k hk⟩
/-- What tree.Put answers. -/
def PutIs (B : Nat) (w' : World) (t x : Tr) (ps : List Int) (b' : Nb) (er : Int) : Prop :=
  ((1024 < t.size ∨ 1024 < x.size) ∧ b' = zN ∧ er = 8) ∨ (t.size ≤ 1024 ∧ x.size ≤ 1024 ∧ t.find ps = none ∧ b' = zN ∧ er = 19) ∨ (t.size ≤ 1024 ∧ x.size ≤ 1024 ∧ er = 0 ∧ ∃ D m f, t.lay x ps = some m ∧ Fresh B D w' b' m f)
/-- Where a path leads is a place in a row of nodes, in the box or in the tree's own blocks. -/
theorem lead_row {w : World} {g o : Nat} : ∀ (p : List Int) (D : Nat) (b : Nb) (t : Tr) (f : List Nat) (g0 o0 : Nat), NdS (· ∈ f) D w b t → (∃ f, FrD 26 D w b f) → Spot w g0 o0 b → (∃ cur, w.heap[g0]? = some (.cells cur 26 (0, 0)) ∧ o0 + 9 ≤ cur.size) → LeadAt w g o p g0 o0 t → ∃ cur, w.heap[g]? = some (.cells cur 26 (0, 0)) ∧ o + 9 ≤ cur.size := by
  intro p
  induction p with
  | nil => intro D b t f g0 o0 _ _ _ h hL; obtain ⟨rfl, rfl⟩ := hL; exact h
  | cons k p ih =>
    intro D b t f g0 o0 hN hF hs _ hL
    obtain ⟨nb, i, sd, bk, ok, u, hs', hw, ha, hu, hL2⟩ := hL
    have e := spot_inj hs hs'
    subst e
    cases D with
    | zero => exact absurd hN id
    | succ D =>
    have hil := Tr.way_lt hw
    have hrow : RowN (NdS (· ∈ f) D w) w (b.sideA sd) (b.sideL sd) (b.sideC sd) (t.side sd) := by
      cases sd with
      | true => exact hN.2.2.2.2.1
      | false => exact hN.2.2.2.2.2
    obtain ⟨fF, f0, f1, f2, hf, hc, hb, hk, hi⟩ := hF
    have hfr : ∃ fS, FrR 26 (FrD 26 D w) w (b.sideA sd) (b.sideL sd) fS := by
      cases sd with
      | true => exact ⟨f1, hk⟩
      | false => exact ⟨f2, hi⟩
    obtain ⟨fS, hfr⟩ := hfr
    rcases hfr with ⟨q0, _⟩ | ⟨g1, cur, fs, hg1, _, hg, hls, hfl, hel⟩
    · have := hrow.1; omega
    · rw [ha] at hg1
      cases hg1
      have hl := hrow.1
      obtain ⟨nb1, c1, c2⟩ := hel i (by omega)
      rcases hrow.2.2 with q | ⟨b', off', hb', hc'⟩
      · rw [q] at hil; cases hil
      · rw [ha] at hb'
        cases hb'
        obtain ⟨nb2, d1, d2⟩ := hc' i hil
        have e2 : nb2 = nb1 := cells_inj fun j hj => by
          have := d1 j hj
          rw [Nat.zero_add, cell_row hg] at this
          exact this.symm.trans (c1 j hj)
        subst e2
        have hui : (t.side sd)[i] = u := by rw [List.getElem?_eq_getElem hil] at hu; exact Option.some.inj hu
        rw [hui] at d2
        have h9 : i < b.sideL sd := by omega
        exact ih D nb2 u f bk (0 + i * 9) d2 ⟨_, c2⟩ (fun j hj => by rw [cell_row hg, Nat.zero_add]; exact c1 j hj) ⟨cur, hg, by omega⟩ hL2
theorem LeadAt.kept {w w' : World} {g o : Nat} (hb : Below w.heap.size w w') : ∀ (p : List Int) (g0 o0 : Nat) (t : Tr), LeadAt w g o p g0 o0 t → LeadAt w' g o p g0 o0 t := by
  intro p
  induction p with
  | nil => intro g0 o0 t h; exact h
  | cons k p ih =>
    intro g0 o0 t h
    obtain ⟨nb, i, sd, bk, ok, u, hs, hw, ha, hu, hL⟩ := h
    exact ⟨nb, i, sd, bk, ok, u, hs.kept hb, hw, ha, hu, ih _ _ _ hL⟩
theorem row_fz {w : World} {g : Nat} {cur : Array Value} (h : w.heap[g]? = some (.cells cur 26 (0, 0))) (j : Nat) : w.frozen? ⟨g, j, none⟩ = false := by
  simp [World.frozen?, h]
end Go.Proofs.Ytkealjaealeojab
