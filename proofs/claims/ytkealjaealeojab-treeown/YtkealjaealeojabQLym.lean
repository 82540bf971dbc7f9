/-
  A node written into a tree that lies in blocks of its own, where a path leads: what the tree is then.
-/
import Derived.Test.YtkealjaealeojabQGd
namespace Go.Proofs.Ytkealjaealeojab
open Go.RowKit
set_option linter.unusedVariables false

theorem cells_inj {a b : Nb} (h : ∀ j, j < 9 → a.cells[j]? = b.cells[j]?) : a = b := by
  have h0 := h 0 (by omega); have h1 := h 1 (by omega); have h2 := h 2 (by omega); have h3 := h 3 (by omega); have h4 := h 4 (by omega)
  have h5 := h 5 (by omega); have h6 := h 6 (by omega); have h7 := h 7 (by omega); have h8 := h 8 (by omega)
  cases a; cases b
  simp [Nb.cells] at h0 h1 h2 h3 h4 h5 h6 h7 h8
  obtain ⟨p1, p2, p3⟩ := h6
  obtain ⟨q1, q2, q3⟩ := h7
  obtain ⟨r1, r2, r3⟩ := h8
  subst h0 h1 h2 h3 h4 h5 p1 p2 p3 q1 q2 q3 r1 r2 r3
  rfl
theorem spot_inj {w : World} {g o : Nat} {a b : Nb} (h : Spot w g o a) (k : Spot w g o b) : a = b := cells_inj fun j hj => (h j hj).symm.trans (k j hj)

/-- The world w' is w with the node x written at (g, o). -/
structure Wrt (w w' : World) (g o : Nat) (x : Nb) : Prop where
  row : ∃ cur cur', w.heap[g]? = some (.cells cur 26 (0, 0)) ∧ w'.heap[g]? = some (.cells cur' 26 (0, 0)) ∧ cur'.size = cur.size ∧ (∀ j, j < 9 → cur'[o + j]? = x.cells[j]?) ∧ ∀ i, (i < o ∨ o + 9 ≤ i) → cur'[i]? = cur[i]?
  other : ∀ k, k ≠ g → w'.heap[k]? = w.heap[k]?

theorem flatten_set_mem {fs : List (List Nat)} {i : Nat} {fn : List Nat} {k : Nat} (h : k ∈ (fs.set i fn).flatten) : k ∈ fs.flatten ∨ k ∈ fn := by
  obtain ⟨l, hl, hk⟩ := List.mem_flatten.1 h
  rcases List.mem_or_eq_of_mem_set hl with hl | rfl
  · exact .inl (List.mem_flatten.2 ⟨l, hl, hk⟩)
  · exact .inr hk
theorem flatten_set_nodup {fs : List (List Nat)} {i : Nat} {fn : List Nat} (hi : i < fs.length) (h : fs.flatten.Nodup) (hn : fn.Nodup) (hd : ∀ k ∈ fn, k ∈ fs[i] ∨ k ∉ fs.flatten) : (fs.set i fn).flatten.Nodup := by
  have e0 : fs = fs.take i ++ fs[i] :: fs.drop (i + 1) := by rw [← List.drop_eq_getElem_cons hi, List.take_append_drop]
  have e1 : fs.set i fn = fs.take i ++ fn :: fs.drop (i + 1) := List.set_eq_take_append_cons_drop .. |>.trans (if_pos hi)
  have hf : fs.flatten = (fs.take i).flatten ++ (fs[i] ++ (fs.drop (i + 1)).flatten) := by
    conv => lhs; rw [e0]
    rw [List.flatten_append, List.flatten_cons]
  rw [e1, List.flatten_append, List.flatten_cons]
  rw [hf] at h
  have hm : ∀ k, k ∉ fs.flatten → k ∉ (fs.take i).flatten ∧ k ∉ (fs.drop (i + 1)).flatten := fun k hk => by
    rw [hf, List.mem_append, List.mem_append] at hk
    exact ⟨fun q => hk (.inl q), fun q => hk (.inr (.inr q))⟩
  obtain ⟨n1, n2, n3⟩ := List.nodup_append.1 h
  obtain ⟨n4, n5, n6⟩ := List.nodup_append.1 n2
  refine List.nodup_append.2 ⟨n1, List.nodup_append.2 ⟨hn, n5, fun a ha b hb e => ?_⟩, fun a ha b hb e => ?_⟩
  · subst e
    rcases hd a ha with q | q
    · exact n6 a q a hb rfl
    · exact (hm a q).2 hb
  · subst e
    rcases List.mem_append.1 hb with hb | hb
    · rcases hd a hb with q | q
      · exact n3 a ha a (List.mem_append_left _ q) rfl
      · exact (hm a q).1 ha
    · exact n3 a ha a (List.mem_append_right _ hb) rfl

theorem frD_le {tn : TypeId} {d e : Nat} {w : World} {b : Nb} {f : List Nat} (h : FrD tn d w b f) (hle : d ≤ e) : FrD tn e w b f := by
  induction hle with
  | refl => exact h
  | step _ ih => exact frD_succ _ ih
theorem rowfr {S : Nat → Prop} {D : Nat} {w : World} {a : Option Addr} {len cap : Nat} {l : List Tr} {f : List Nat} (ih : ∀ (b : Nb) (t : Tr) (f : List Nat), NdS S D w b t → FrD 26 D w b f → NdS (· ∈ f) D w b t)
    (hR : RowN (NdS S D w) w a len cap l) (hF : FrR 26 (FrD 26 D w) w a len f) : RowN (NdS (· ∈ f) D w) w a len cap l ∧ In (· ∈ f) a len := by
  obtain ⟨hl, hroom, hrow⟩ := hR
  rcases hF with ⟨h0, rfl⟩ | ⟨g, cur, fs, ha, rfl, hg, hls, hfl, hel⟩
  · subst h0
    have : l = [] := List.eq_nil_of_length_eq_zero hl
    subst this
    exact ⟨⟨rfl, hroom, .inl rfl⟩, fun h => by cases h⟩
  · refine ⟨⟨hl, hroom, ?_⟩, fun _ x hx => by rw [ha] at hx; cases hx; exact List.mem_cons_self⟩
    rcases hrow with h | ⟨b', off', hb', hc'⟩
    · exact .inl h
    · refine .inr ⟨b', off', hb', fun i hi => ?_⟩
      obtain ⟨nb, h1, h2⟩ := hc' i hi
      obtain ⟨nb2, h3, h4⟩ := hel i (by omega)
      rw [ha] at hb'
      cases hb'
      have e : nb = nb2 := cells_inj fun j hj => by
        have := h1 j hj
        rw [Nat.zero_add, cell_row hg] at this
        exact this.symm.trans (h3 j hj)
      subst e
      exact ⟨nb, h1, (ih nb _ _ h2 h4).mono fun k hk => List.mem_cons_of_mem _ (List.mem_flatten.2 ⟨_, List.getElem_mem _, hk⟩)⟩
/-- A tree lies in its own blocks. -/
theorem nds_fr {S : Nat → Prop} : ∀ (D : Nat) {w : World} (b : Nb) (t : Tr) (f : List Nat), NdS S D w b t → FrD 26 D w b f → NdS (· ∈ f) D w b t := by
  intro D
  induction D with
  | zero => intro w b t f h; exact absurd h id
  | succ D ih =>
    intro w b t f h hF
    obtain ⟨h0, h1, h2, h3, h4, h5⟩ := h
    obtain ⟨f0, f1, f2, rfl, hc, hb, hk, hi⟩ := hF
    obtain ⟨r4, i4⟩ := rowfr (fun b t f => ih b t f) h4 hk
    obtain ⟨r5, i5⟩ := rowfr (fun b t f => ih b t f) h5 hi
    have m1 : ∀ k, k ∈ f1 → k ∈ f0 ++ (f1 ++ f2) := fun k hk => List.mem_append_right _ (List.mem_append_left _ hk)
    have m2 : ∀ k, k ∈ f2 → k ∈ f0 ++ (f1 ++ f2) := fun k hk => List.mem_append_right _ (List.mem_append_right _ hk)
    refine ⟨h0, h1, h2, ⟨fun hl x hx => ?_, i4.mono m1, i5.mono m2⟩, r4.mono fun _ _ _ q => q.mono m1, r5.mono fun _ _ _ q => q.mono m2⟩
    rcases hb with ⟨h, _⟩ | ⟨g, cur, ha, rfl, _⟩
    · omega
    · rw [ha] at hx; cases hx; exact List.mem_append_left _ (List.mem_singleton.2 rfl)
/-- A row with another element at i. -/
theorem row_turn {D E : Nat} {w w' : World} {a : Option Addr} {len cap : Nat} {l : List Tr} {f : List Nat} {g1 : Nat} {cur cur' : Array Value} {fs : List (List Nat)} {i : Nat} {nbn : Nb} {y : Tr} {fn : List Nat}
    (hR : RowN (NdS (· ∈ f) D w) w a len cap l) (ha : a = some ⟨g1, 0, none⟩) (hg : w.heap[g1]? = some (.cells cur 26 (0, 0))) (hls : len * 9 ≤ cur.size) (hfl : fs.length = len)
    (hel : ∀ i (h : i < fs.length), ∃ nb : Nb, (∀ j, j < 9 → cur[i * 9 + j]? = nb.cells[j]?) ∧ FrD 26 D w nb fs[i])
    (hi : i < len) (hg' : w'.heap[g1]? = some (.cells cur' 26 (0, 0))) (hsz : cur'.size = cur.size)
    (hnew : ∀ j, j < 9 → cur'[i * 9 + j]? = nbn.cells[j]?) (hold : ∀ m, m ≠ i → ∀ j, j < 9 → cur'[m * 9 + j]? = cur[m * 9 + j]?)
    (hst : ∀ m (h : m < fs.length), m ≠ i → ∀ k ∈ fs[m], w'.heap[k]? = w.heap[k]?)
    (hy : NdS (· ∈ fn) (D + E) w' nbn y) (hf : FrD 26 (D + E) w' nbn fn) :
    RowN (NdS (· ∈ g1 :: (fs.set i fn).flatten) (D + E) w') w' a len cap (l.set i y) ∧ FrR 26 (FrD 26 (D + E) w') w' a len (g1 :: (fs.set i fn).flatten) := by
  obtain ⟨hl, hroom, hrow⟩ := hR
  have hcell : ∀ q, w'.cell? ⟨g1, q, none⟩ = cur'[q]? := fun q => cell_row hg' q
  have hmem : ∀ m (h : m < fs.length) (hne : m ≠ i) k, k ∈ fs[m] → k ∈ g1 :: (fs.set i fn).flatten := fun m h hne k hk =>
    List.mem_cons_of_mem _ (List.mem_flatten.2 ⟨fs[m], by
      have : (fs.set i fn)[m]'(by rw [List.length_set]; exact h) = fs[m] := List.getElem_set_ne (Ne.symm hne) _
      rw [← this]; exact List.getElem_mem _, hk⟩)
  have hfn : ∀ k, k ∈ fn → k ∈ g1 :: (fs.set i fn).flatten := fun k hk =>
    List.mem_cons_of_mem _ (List.mem_flatten.2 ⟨fn, by
      have h0 := List.getElem_mem (l := fs.set i fn) (n := i) (by rw [List.length_set]; omega)
      rwa [List.getElem_set_self] at h0, hk⟩)
  constructor
  · refine ⟨by rw [List.length_set]; exact hl, hroom, .inr ⟨g1, 0, ha, fun m hm => ?_⟩⟩
    rw [List.length_set] at hm
    by_cases e : m = i
    · subst e
      refine ⟨nbn, fun j hj => by rw [Nat.zero_add, hcell]; exact hnew j hj, ?_⟩
      rw [List.getElem_set_self]
      exact hy.mono hfn
    · rcases hrow with rfl | ⟨b', off', hb', hc'⟩
      · cases hm
      · rw [ha] at hb'
        cases hb'
        obtain ⟨nb, h1, h2⟩ := hc' m hm
        have h1' : ∀ j, j < 9 → cur[m * 9 + j]? = nb.cells[j]? := fun j hj => by
          have := h1 j hj
          rw [Nat.zero_add, cell_row hg] at this
          exact this
        refine ⟨nb, fun j hj => by rw [Nat.zero_add, hcell, hold m e j hj]; exact h1' j hj, ?_⟩
        rw [List.getElem_set_ne (Ne.symm e)]
        obtain ⟨nb2, g3, g4⟩ := hel m (by omega)
        have e2 : nb = nb2 := cells_inj fun j hj => (h1' j hj).symm.trans (g3 j hj)
        subst e2
        have h3 := nds_fr D nb _ _ h2 g4
        exact ((h3.stays fun k hk => hst m (by omega) e k hk).le (Nat.le_add_right _ _)).mono fun k hk => hmem m (by omega) e k hk
  · refine .inr ⟨g1, cur', fs.set i fn, ha, rfl, hg', by rw [hsz]; exact hls, by rw [List.length_set]; exact hfl, fun m hm => ?_⟩
    rw [List.length_set] at hm
    by_cases e : m = i
    · subst e
      refine ⟨nbn, hnew, ?_⟩
      rw [List.getElem_set_self]
      exact hf
    · obtain ⟨nb, h1, h2⟩ := hel m hm
      refine ⟨nb, fun j hj => by rw [hold m e j hj]; exact h1 j hj, ?_⟩
      rw [List.getElem_set_ne (Ne.symm e)]
      have h3 := h2.stays fun k hk => hst m hm e k hk
      exact frD_le h3 (Nat.le_add_right _ _)


theorem flatten_lt {fs : List (List Nat)} (h : fs.flatten.Nodup) {m i : Nat} (hi : i < fs.length) (hlt : m < i) {q : Nat} (h1 : q ∈ fs[m]'(by omega)) (h2 : q ∈ fs[i]) : False := by
  have e0 : fs = fs.take i ++ fs[i] :: fs.drop (i + 1) := by rw [← List.drop_eq_getElem_cons hi, List.take_append_drop]
  have hf : fs.flatten = (fs.take i).flatten ++ (fs[i] ++ (fs.drop (i + 1)).flatten) := by
    conv => lhs; rw [e0]
    rw [List.flatten_append, List.flatten_cons]
  rw [hf] at h
  refine (List.nodup_append.1 h).2.2 q (List.mem_flatten.2 ⟨fs[m]'(by omega), ?_, h1⟩) q (List.mem_append_left _ h2) rfl
  have h0 := List.getElem_mem (l := fs.take i) (n := m) (by rw [List.length_take]; omega)
  rwa [List.getElem_take] at h0
theorem flatten_apart {fs : List (List Nat)} (h : fs.flatten.Nodup) {m i : Nat} (hm : m < fs.length) (hi : i < fs.length) (hne : m ≠ i) {q : Nat} (h1 : q ∈ fs[m]) (h2 : q ∈ fs[i]) : False := by
  rcases Nat.lt_or_gt_of_ne hne with hlt | hlt
  · exact flatten_lt h hi hlt h1 h2
  · exact flatten_lt h hm hlt h2 h1
theorem inb {w : World} {a : Option Addr} {n : Nat} {f0 : List Nat} (h : FrB w a n f0) : In (· ∈ f0) a n := fun hl x hx => by
  rcases h with ⟨h, _⟩ | ⟨g, cur, ha, rfl, _⟩
  · omega
  · rw [ha] at hx; cases hx; exact List.mem_singleton.2 rfl

/-- One step up: a node one of whose nodes has turned. -/
theorem lay_one {w w' : World} {D E : Nat} {b : Nb} {t : Tr} {f fx : List Nat} {k : Int} {i : Nat} {sd : Bool} {bk ok : Nat} {P : Tr → Prop}
    (hN : NdS (· ∈ f) (D + 1) w b t) (hF : FrD 26 (D + 1) w b f) (hnd : f.Nodup) (hdj : ∀ q ∈ f, q ∉ fx) (hw : t.way k = some (i, sd)) (ha : b.sideA sd = some ⟨bk, ok, none⟩)
    (hstep : ∀ (cur : Array Value) (fs : List (List Nat)), ok = 0 → w.heap[bk]? = some (.cells cur 26 (0, 0)) → fs.length = (t.side sd).length → (bk :: fs.flatten).Nodup → (∀ q, q ∈ bk :: fs.flatten → q ∈ f) →
      (∀ m (h : m < fs.length) (h2 : m < (t.side sd).length), ∃ nb : Nb, (∀ j, j < 9 → cur[m * 9 + j]? = nb.cells[j]?) ∧ FrD 26 D w nb fs[m] ∧ NdS (· ∈ fs[m]) D w nb (t.side sd)[m]) →
      ∃ cur' nbn y fn, w'.heap[bk]? = some (.cells cur' 26 (0, 0)) ∧ cur'.size = cur.size ∧ (∀ j, j < 9 → cur'[i * 9 + j]? = nbn.cells[j]?) ∧ (∀ m, m ≠ i → ∀ j, j < 9 → cur'[m * 9 + j]? = cur[m * 9 + j]?) ∧
        NdS (· ∈ fn) (D + E) w' nbn y ∧ FrD 26 (D + E) w' nbn fn ∧ fn.Nodup ∧ (∀ q ∈ fn, (∃ h : i < fs.length, q ∈ fs[i]) ∨ q ∈ fx) ∧ (∀ q, q ∈ f → q ≠ bk → (∀ h : i < fs.length, q ∉ fs[i]) → w'.heap[q]? = w.heap[q]?) ∧ P y) :
    bk ∈ f ∧ ∃ y f', P y ∧ NdS (· ∈ f') (D + 1 + E) w' b (t.turn sd ((t.side sd).set i y)) ∧ FrD 26 (D + 1 + E) w' b f' ∧ f'.Nodup ∧ ∀ q ∈ f', q ∈ f ∨ q ∈ fx := by
  have hil := Tr.way_lt hw
  obtain ⟨h0, h1, h2, ⟨in0, in1, in2⟩, h4, h5⟩ := hN
  obtain ⟨f0, f1, f2, hf, hc, hb, hk, hi⟩ := hF
  obtain ⟨n0, n12, d0⟩ := List.nodup_append.1 (hf ▸ hnd)
  obtain ⟨n1, n2, d12⟩ := List.nodup_append.1 n12
  have m0 : ∀ q, q ∈ f0 → q ∈ f := fun q hq => by rw [hf]; exact List.mem_append_left _ hq
  have m1 : ∀ q, q ∈ f1 → q ∈ f := fun q hq => by rw [hf]; exact List.mem_append_right _ (List.mem_append_left _ hq)
  have m2 : ∀ q, q ∈ f2 → q ∈ f := fun q hq => by rw [hf]; exact List.mem_append_right _ (List.mem_append_right _ hq)
  have up : ∀ {b : Nb} {t : Tr} {S : Nat → Prop}, NdS S D w b t → NdS S (D + E) w b t := fun h => h.le (Nat.le_add_right _ _)
  have e1 : D + 1 + E = D + E + 1 := by omega
  cases sd with
  | true =>
    have ha' : b.ak = some ⟨bk, ok, none⟩ := ha
    have hil' : i < t.keys.length := hil
    rcases hk with ⟨q0, _⟩ | ⟨g1, cur, fs, hg1, rfl, hg, hls, hfl, hel⟩
    · have := h4.1; omega
    · rw [ha'] at hg1
      cases hg1
      have hel2 : ∀ m (h : m < fs.length) (h2 : m < t.keys.length), ∃ nb : Nb, (∀ j, j < 9 → cur[m * 9 + j]? = nb.cells[j]?) ∧ FrD 26 D w nb fs[m] ∧ NdS (· ∈ fs[m]) D w nb t.keys[m] := fun m h hm2 => by
        obtain ⟨nb, c1, c2⟩ := hel m h
        rcases h4.2.2 with q | ⟨b', off', hb', hc'⟩
        · rw [q] at hm2; cases hm2
        · rw [ha'] at hb'
          cases hb'
          obtain ⟨nb2, g1', g2'⟩ := hc' m hm2
          have e2 : nb2 = nb := cells_inj fun j hj => by
            have := g1' j hj
            rw [Nat.zero_add, cell_row hg] at this
            exact this.symm.trans (c1 j hj)
          subst e2
          exact ⟨nb2, c1, c2, nds_fr D nb2 _ _ g2' c2⟩
      obtain ⟨cur', nbn, y, fn, s1, s2, s3, s4, s5, s6, s7, s8, s9, s10⟩ := hstep cur fs rfl hg (by rw [hfl]; exact h4.1.symm) n1 (fun q hq => m1 q hq) hel2
      have hR := row_turn h4 ha' hg hls hfl hel (by have := h4.1; omega) s1 s2 s3 s4 (fun m hm hne q hq => s9 q (m1 q (List.mem_cons_of_mem _ (List.mem_flatten.2 ⟨_, List.getElem_mem hm, hq⟩))) (fun e => (List.nodup_cons.1 n1).1 (by rw [← e]; exact List.mem_flatten.2 ⟨_, List.getElem_mem hm, hq⟩)) (fun hi2 hq2 => by
        exact flatten_apart (List.nodup_cons.1 n1).2 hm hi2 hne hq hq2)) s5 s6
      have o0 : ∀ q, q ∈ f0 → w'.heap[q]? = w.heap[q]? := fun q hq => s9 q (m0 q hq) (fun e => d0 q hq q (List.mem_append_left _ (by rw [e]; exact List.mem_cons_self)) rfl) (fun hi2 hq2 => d0 q hq q (List.mem_append_left _ (List.mem_cons_of_mem _ (List.mem_flatten.2 ⟨_, List.getElem_mem hi2, hq2⟩))) rfl)
      have o2 : ∀ q, q ∈ f2 → w'.heap[q]? = w.heap[q]? := fun q hq => s9 q (m2 q hq) (fun e => d12 q (by rw [e]; exact List.mem_cons_self) q hq rfl) (fun hi2 hq2 => d12 q (List.mem_cons_of_mem _ (List.mem_flatten.2 ⟨_, List.getElem_mem hi2, hq2⟩)) q hq rfl)
      have r5 := rowfr (fun b t f => nds_fr D b t f) h5 hi
      have hfn : ∀ q, q ∈ bk :: (fs.set i fn).flatten → q ∈ bk :: fs.flatten ∨ q ∈ fx := fun q hq => by
        rcases List.mem_cons.1 hq with rfl | hq
        · exact .inl List.mem_cons_self
        · rcases flatten_set_mem hq with hq | hq
          · exact .inl (List.mem_cons_of_mem _ hq)
          · rcases s8 q hq with ⟨hi2, hq⟩ | hq
            · exact .inl (List.mem_cons_of_mem _ (List.mem_flatten.2 ⟨_, List.getElem_mem hi2, hq⟩))
            · exact .inr hq
      have hnk : (bk :: (fs.set i fn).flatten).Nodup := List.nodup_cons.2 ⟨fun hq => by
          rcases flatten_set_mem hq with hq | hq
          · exact (List.nodup_cons.1 n1).1 hq
          · rcases s8 _ hq with ⟨hi2, hq⟩ | hq
            · exact (List.nodup_cons.1 n1).1 (List.mem_flatten.2 ⟨_, List.getElem_mem hi2, hq⟩)
            · exact hdj _ (m1 _ List.mem_cons_self) hq, flatten_set_nodup (by have := h4.1; omega) (List.nodup_cons.1 n1).2 s7 (fun q hq => by
          rcases s8 q hq with ⟨hi2, hq⟩ | hq
          · exact .inl hq
          · exact .inr fun hq2 => hdj q (m1 q (List.mem_cons_of_mem _ hq2)) hq)⟩
      refine ⟨m1 _ List.mem_cons_self, y, f0 ++ ((bk :: (fs.set i fn).flatten) ++ f2), s10, ?_, ?_, ?_, ?_⟩
      · rw [e1]
        exact ⟨h0, h1, ⟨h2.1, h2.2.1, h2.2.2.stays (by rw [h2.1]; exact inb hb) o0⟩, ⟨(inb hb).mono fun q hq => List.mem_append_left _ hq, fun _ x hx => by rw [ha'] at hx; cases hx; exact List.mem_append_right _ (List.mem_append_left _ List.mem_cons_self), r5.2.mono fun q hq => List.mem_append_right _ (List.mem_append_right _ hq)⟩,
          hR.1.mono fun _ _ _ q => q.mono fun k hk => List.mem_append_right _ (List.mem_append_left _ hk), r5.1.stays r5.2 o2 fun _ _ _ q => ((q.stays o2).le (Nat.le_add_right _ _)).mono fun k hk => List.mem_append_right _ (List.mem_append_right _ hk)⟩
      · rw [e1]
        exact ⟨f0, _, f2, rfl, hc, hb.stays o0, hR.2, hi.stays o2 fun _ e he q => frD_le (q.stays fun k hk => o2 k (he k hk)) (Nat.le_add_right _ _)⟩
      · refine List.nodup_append.2 ⟨n0, List.nodup_append.2 ⟨hnk, n2, fun a ha2 c hc2 e => ?_⟩, fun a ha2 c hc2 e => ?_⟩
        · subst e
          rcases hfn a ha2 with q | q
          · exact d12 a q a hc2 rfl
          · exact hdj a (m2 a hc2) q
        · subst e
          rcases List.mem_append.1 hc2 with hc2 | hc2
          · rcases hfn a hc2 with q | q
            · exact d0 a ha2 a (List.mem_append_left _ q) rfl
            · exact hdj a (m0 a ha2) q
          · exact d0 a ha2 a (List.mem_append_right _ hc2) rfl
      · intro q hq
        rcases List.mem_append.1 hq with hq | hq
        · exact .inl (m0 q hq)
        · rcases List.mem_append.1 hq with hq | hq
          · rcases hfn q hq with hq | hq
            · exact .inl (m1 q hq)
            · exact .inr hq
          · exact .inl (m2 q hq)
  | false =>
    have ha' : b.ai = some ⟨bk, ok, none⟩ := ha
    have hil' : i < t.kids.length := hil
    rcases hi with ⟨q0, _⟩ | ⟨g1, cur, fs, hg1, rfl, hg, hls, hfl, hel⟩
    · have := h5.1; omega
    · rw [ha'] at hg1
      cases hg1
      have hel2 : ∀ m (h : m < fs.length) (h2 : m < t.kids.length), ∃ nb : Nb, (∀ j, j < 9 → cur[m * 9 + j]? = nb.cells[j]?) ∧ FrD 26 D w nb fs[m] ∧ NdS (· ∈ fs[m]) D w nb t.kids[m] := fun m h hm2 => by
        obtain ⟨nb, c1, c2⟩ := hel m h
        rcases h5.2.2 with q | ⟨b', off', hb', hc'⟩
        · rw [q] at hm2; cases hm2
        · rw [ha'] at hb'
          cases hb'
          obtain ⟨nb2, g1', g2'⟩ := hc' m hm2
          have e2 : nb2 = nb := cells_inj fun j hj => by
            have := g1' j hj
            rw [Nat.zero_add, cell_row hg] at this
            exact this.symm.trans (c1 j hj)
          subst e2
          exact ⟨nb2, c1, c2, nds_fr D nb2 _ _ g2' c2⟩
      obtain ⟨cur', nbn, y, fn, s1, s2, s3, s4, s5, s6, s7, s8, s9, s10⟩ := hstep cur fs rfl hg (by rw [hfl]; exact h5.1.symm) n2 (fun q hq => m2 q hq) hel2
      have hR := row_turn h5 ha' hg hls hfl hel (by have := h5.1; omega) s1 s2 s3 s4 (fun m hm hne q hq => s9 q (m2 q (List.mem_cons_of_mem _ (List.mem_flatten.2 ⟨_, List.getElem_mem hm, hq⟩))) (fun e => (List.nodup_cons.1 n2).1 (by rw [← e]; exact List.mem_flatten.2 ⟨_, List.getElem_mem hm, hq⟩)) (fun hi2 hq2 => by
        exact flatten_apart (List.nodup_cons.1 n2).2 hm hi2 hne hq hq2)) s5 s6
      have o0 : ∀ q, q ∈ f0 → w'.heap[q]? = w.heap[q]? := fun q hq => s9 q (m0 q hq) (fun e => d0 q hq q (List.mem_append_right _ (by rw [e]; exact List.mem_cons_self)) rfl) (fun hi2 hq2 => d0 q hq q (List.mem_append_right _ (List.mem_cons_of_mem _ (List.mem_flatten.2 ⟨_, List.getElem_mem hi2, hq2⟩))) rfl)
      have o1 : ∀ q, q ∈ f1 → w'.heap[q]? = w.heap[q]? := fun q hq => s9 q (m1 q hq) (fun e => d12 q hq q (by rw [e]; exact List.mem_cons_self) rfl) (fun hi2 hq2 => d12 q hq q (List.mem_cons_of_mem _ (List.mem_flatten.2 ⟨_, List.getElem_mem hi2, hq2⟩)) rfl)
      have r4 := rowfr (fun b t f => nds_fr D b t f) h4 hk
      have hfn : ∀ q, q ∈ bk :: (fs.set i fn).flatten → q ∈ bk :: fs.flatten ∨ q ∈ fx := fun q hq => by
        rcases List.mem_cons.1 hq with rfl | hq
        · exact .inl List.mem_cons_self
        · rcases flatten_set_mem hq with hq | hq
          · exact .inl (List.mem_cons_of_mem _ hq)
          · rcases s8 q hq with ⟨hi2, hq⟩ | hq
            · exact .inl (List.mem_cons_of_mem _ (List.mem_flatten.2 ⟨_, List.getElem_mem hi2, hq⟩))
            · exact .inr hq
      have hnk : (bk :: (fs.set i fn).flatten).Nodup := List.nodup_cons.2 ⟨fun hq => by
          rcases flatten_set_mem hq with hq | hq
          · exact (List.nodup_cons.1 n2).1 hq
          · rcases s8 _ hq with ⟨hi2, hq⟩ | hq
            · exact (List.nodup_cons.1 n2).1 (List.mem_flatten.2 ⟨_, List.getElem_mem hi2, hq⟩)
            · exact hdj _ (m2 _ List.mem_cons_self) hq, flatten_set_nodup (by have := h5.1; omega) (List.nodup_cons.1 n2).2 s7 (fun q hq => by
          rcases s8 q hq with ⟨hi2, hq⟩ | hq
          · exact .inl hq
          · exact .inr fun hq2 => hdj q (m2 q (List.mem_cons_of_mem _ hq2)) hq)⟩
      refine ⟨m2 _ List.mem_cons_self, y, f0 ++ (f1 ++ (bk :: (fs.set i fn).flatten)), s10, ?_, ?_, ?_, ?_⟩
      · rw [e1]
        exact ⟨h0, h1, ⟨h2.1, h2.2.1, h2.2.2.stays (by rw [h2.1]; exact inb hb) o0⟩, ⟨(inb hb).mono fun q hq => List.mem_append_left _ hq, r4.2.mono fun q hq => List.mem_append_right _ (List.mem_append_left _ hq), fun _ x hx => by rw [ha'] at hx; cases hx; exact List.mem_append_right _ (List.mem_append_right _ List.mem_cons_self)⟩,
          r4.1.stays r4.2 o1 fun _ _ _ q => ((q.stays o1).le (Nat.le_add_right _ _)).mono fun k hk => List.mem_append_right _ (List.mem_append_left _ hk), hR.1.mono fun _ _ _ q => q.mono fun k hk => List.mem_append_right _ (List.mem_append_right _ hk)⟩
      · rw [e1]
        exact ⟨f0, f1, _, rfl, hc, hb.stays o0, hk.stays o1 fun _ e he q => frD_le (q.stays fun k hk => o1 k (he k hk)) (Nat.le_add_right _ _), hR.2⟩
      · refine List.nodup_append.2 ⟨n0, List.nodup_append.2 ⟨n1, hnk, fun a ha2 c hc2 e => ?_⟩, fun a ha2 c hc2 e => ?_⟩
        · subst e
          rcases hfn a hc2 with q | q
          · exact d12 a ha2 a q rfl
          · exact hdj a (m1 a ha2) q
        · subst e
          rcases List.mem_append.1 hc2 with hc2 | hc2
          · exact d0 a ha2 a (List.mem_append_left _ hc2) rfl
          · rcases hfn a hc2 with q | q
            · exact d0 a ha2 a (List.mem_append_right _ q) rfl
            · exact hdj a (m0 a ha2) q
      · intro q hq
        rcases List.mem_append.1 hq with hq | hq
        · exact .inl (m0 q hq)
        · rcases List.mem_append.1 hq with hq | hq
          · exact .inl (m1 q hq)
          · rcases hfn q hq with hq | hq
            · exact .inl (m2 q hq)
            · exact .inr hq

/-- THE TREE WITH x WHERE THE PATH LEADS. -/
theorem lay_mem {w w' : World} {g o : Nat} {x : Nb} {tx : Tr} {fx : List Nat} {E : Nat} (hW : Wrt w w' g o x) (hx : NdS (· ∈ fx) E w' x tx) (hxf : FrD 26 E w' x fx) (hxn : fx.Nodup) :
    ∀ (p : List Int) (k : Int) (D : Nat) (b : Nb) (t : Tr) (f : List Nat) (g0 o0 : Nat), NdS (· ∈ f) D w b t → FrD 26 D w b f → f.Nodup → (∀ q ∈ f, q ∉ fx) → Spot w g0 o0 b → LeadAt w g o (k :: p) g0 o0 t →
      g ∈ f ∧ ∃ t' f', t.lay tx (k :: p) = some t' ∧ NdS (· ∈ f') (D + E) w' b t' ∧ FrD 26 (D + E) w' b f' ∧ f'.Nodup ∧ ∀ q ∈ f', q ∈ f ∨ q ∈ fx := by
  intro p
  induction p with
  | nil =>
    intro k D b t f g0 o0 hN hF hnd hdj hs hL
    obtain ⟨nb, i, sd, bk, ok, u, hs', hw, ha, hu, hg, ho⟩ := hL
    have e := spot_inj hs hs'
    subst e
    cases D with
    | zero => exact absurd hN id
    | succ D =>
    obtain ⟨hm, y, f', hy, h1, h2, h3, h4⟩ := lay_one (E := E) (P := fun y => y = tx) (w' := w') hN hF hnd hdj hw ha (by
      intro cur fs h0 hgc hfl hn hsub hel
      obtain ⟨cur1, cur', c1, c2, c3, c4, c5⟩ := hW.row
      subst hg h0
      rw [hgc] at c1
      cases c1
      refine ⟨cur', x, tx, fx, c2, c3, fun j hj => by have := c4 j hj; rw [ho, Nat.zero_add] at this; exact this, fun m hne j hj => c5 _ ?_, hx.le (by omega), frD_le hxf (by omega), hxn, fun q hq => .inr hq, fun q _ hq _ => hW.other q hq, rfl⟩
      rw [ho]
      rcases Nat.lt_or_gt_of_ne hne with q | q
      · left; omega
      · right; omega)
    subst hy hg
    exact ⟨hm, _, f', by rw [Tr.lay_some hw hu, Tr.lay_nil], h1, h2, h3, h4⟩
  | cons k2 p ih =>
    intro k D b t f g0 o0 hN hF hnd hdj hs hL
    obtain ⟨nb, i, sd, bk, ok, u, hs', hw, ha, hu, hL2⟩ := hL
    have e := spot_inj hs hs'
    subst e
    cases D with
    | zero => exact absurd hN id
    | succ D =>
    have key : ∀ (cur : Array Value) (fs : List (List Nat)), ok = 0 → w.heap[bk]? = some (.cells cur 26 (0, 0)) → fs.length = (t.side sd).length → (bk :: fs.flatten).Nodup → (∀ q, q ∈ bk :: fs.flatten → q ∈ f) →
      (∀ m (h : m < fs.length) (h2 : m < (t.side sd).length), ∃ nb : Nb, (∀ j, j < 9 → cur[m * 9 + j]? = nb.cells[j]?) ∧ FrD 26 D w nb fs[m] ∧ NdS (· ∈ fs[m]) D w nb (t.side sd)[m]) →
      ∃ cur' nbn y fn, w'.heap[bk]? = some (.cells cur' 26 (0, 0)) ∧ cur'.size = cur.size ∧ (∀ j, j < 9 → cur'[i * 9 + j]? = nbn.cells[j]?) ∧ (∀ m, m ≠ i → ∀ j, j < 9 → cur'[m * 9 + j]? = cur[m * 9 + j]?) ∧
        NdS (· ∈ fn) (D + E) w' nbn y ∧ FrD 26 (D + E) w' nbn fn ∧ fn.Nodup ∧ (∀ q ∈ fn, (∃ h : i < fs.length, q ∈ fs[i]) ∨ q ∈ fx) ∧ (∀ q, q ∈ f → q ≠ bk → (∀ h : i < fs.length, q ∉ fs[i]) → w'.heap[q]? = w.heap[q]?) ∧ (u.lay tx (k2 :: p) = some y ∧ g ∈ f) := by
      intro cur fs h0 hgc hfl hn hsub hel
      have hil := Tr.way_lt hw
      obtain ⟨nbi, c1, c2, c3⟩ := hel i (by omega) hil
      have hui : (t.side sd)[i] = u := by rw [List.getElem?_eq_getElem hil] at hu; exact Option.some.inj hu
      rw [hui] at c3
      subst h0
      have hsub2 : ∀ q, q ∈ fs[i]'(by omega) → q ∈ fs.flatten := fun q hq => List.mem_flatten.2 ⟨_, List.getElem_mem _, hq⟩
      have hni : (fs[i]'(by omega)).Nodup := (List.nodup_cons.1 hn).2.sublist (List.sublist_flatten_of_mem (List.getElem_mem _))
      obtain ⟨hm, t2, f2, l1, l2, l3, l4, l5⟩ := ih k2 D nbi u fs[i] bk (0 + i * 9) c3 c2 hni (fun q hq => hdj q (hsub q (List.mem_cons_of_mem _ (hsub2 q hq)))) (fun j hj => by rw [cell_row hgc, Nat.zero_add]; exact c1 j hj) hL2
      have hgb : g ≠ bk := fun e => (List.nodup_cons.1 hn).1 (by rw [← e]; exact hsub2 g hm)
      exact ⟨cur, nbi, t2, f2, by rw [hW.other bk (Ne.symm hgb)]; exact hgc, rfl, c1, fun _ _ _ _ => rfl, l2, l3, l4, fun q hq => (l5 q hq).imp (fun h => ⟨by omega, h⟩) id, fun q _ _ hq => hW.other q (fun e => hq (by omega) (by rw [e]; exact hm)), l1, hsub g (List.mem_cons_of_mem _ (hsub2 g hm))⟩
    obtain ⟨hm, y, f', ⟨hy, hgf⟩, h1, h2, h3, h4⟩ := lay_one (E := E) (P := fun y => u.lay tx (k2 :: p) = some y ∧ g ∈ f) (w' := w') hN hF hnd hdj hw ha key
    exact ⟨hgf, _, f', by rw [Tr.lay_some hw hu, hy], h1, h2, h3, h4⟩
end Go.Proofs.Ytkealjaealeojab
