/-
  A tree written over: the statement's 'spoil'. Only the tree's own blocks turn.
-/
import Derived.Test.YtkealjaealeojabQTow
namespace Go.Proofs.Ytkealjaealeojab
open Go.RowKit
set_option linter.unusedVariables false

/-- Bytes that may be written over, from i on. -/
def SpB (w : World) (a : Option Addr) (len : Nat) (f : List Nat) (i : Nat) : Prop :=
  (len = 0 ∧ f = []) ∨ ∃ g cur, a = some ⟨g, 0, none⟩ ∧ f = [g] ∧ w.heap[g]? = some (.cells cur 5 (0, 0)) ∧ len ≤ cur.size ∧ ∀ j, i ≤ j → j < len → ∃ c : Int, cur[j]? = some (.int .u8 c) ∧ 0 ≤ c ∧ c < 256
/-- Nodes that may be written over, from i on. -/
def SpR (D : Nat) (w : World) (a : Option Addr) (len : Nat) (f : List Nat) (i : Nat) : Prop :=
  (len = 0 ∧ f = []) ∨ ∃ g cur fs, a = some ⟨g, 0, none⟩ ∧ f = g :: List.flatten fs ∧ w.heap[g]? = some (.cells cur 26 (0, 0)) ∧ len * 9 ≤ cur.size ∧ fs.length = len ∧
    ∀ j (h : j < fs.length), i ≤ j → ∃ nb : Nb, (∀ q, q < 9 → cur[j * 9 + q]? = nb.cells[q]?) ∧ FrD 26 D w nb fs[j]
theorem SpB.stays {w w' : World} {a : Option Addr} {len i : Nat} {f : List Nat} (h : SpB w a len f i) (hb : ∀ k, k ∈ f → w'.heap[k]? = w.heap[k]?) : SpB w' a len f i := by
  rcases h with h | ⟨g, cur, ha, hf, hg, hr⟩
  · exact .inl h
  · exact .inr ⟨g, cur, ha, hf, by rw [hb g (by rw [hf]; exact List.mem_cons_self)]; exact hg, hr⟩
theorem SpR.stays {D : Nat} {w w' : World} {a : Option Addr} {len i : Nat} {f : List Nat} (h : SpR D w a len f i) (hb : ∀ k, k ∈ f → w'.heap[k]? = w.heap[k]?) : SpR D w' a len f i := by
  rcases h with h | ⟨g, cur, fs, ha, hf, hg, hl, hfl, hr⟩
  · exact .inl h
  · refine .inr ⟨g, cur, fs, ha, hf, by rw [hb g (by rw [hf]; exact List.mem_cons_self)]; exact hg, hl, hfl, fun j hj hij => ?_⟩
    obtain ⟨nb, h1, h2⟩ := hr j hj hij
    exact ⟨nb, h1, h2.stays fun k hk => hb k (by rw [hf]; exact List.mem_cons_of_mem _ (List.mem_flatten.2 ⟨_, List.getElem_mem hj, hk⟩))⟩
theorem flat_apart {fs : List (List Nat)} (h : fs.flatten.Nodup) {i j : Nat} (hi : i < fs.length) (hj : j < fs.length) (hne : i ≠ j) : ∀ k, k ∈ fs[i] → k ∉ fs[j] := by
  intro k h1 h2
  have hp := (List.pairwise_flatten.1 h).2
  rw [List.pairwise_iff_getElem] at hp
  rcases Nat.lt_or_gt_of_ne hne with q | q
  · exact hp i j hi hj q k h1 k h2 rfl
  · exact hp j i hj hi q k h2 k h1 rfl
/-- The node at i, and what comes of it. -/
theorem SpR.el {D : Nat} {w : World} {a : Option Addr} {len i : Nat} {f : List Nat} (h : SpR D w a len f i) (hn : f.Nodup) (hi : i < len) :
    ∃ g cur nb fi, a = some ⟨g, 0, none⟩ ∧ g ∈ f ∧ (∀ k ∈ fi, k ∈ f) ∧ g ∉ fi ∧ fi.Nodup ∧ w.heap[g]? = some (.cells cur 26 (0, 0)) ∧ len * 9 ≤ cur.size ∧ Spot w g (i * 9) nb ∧ FrD 26 D w nb fi ∧
      ∀ (w2 w3 : World) (x : Nb), (∀ k, k ∈ f → k ∉ fi → w2.heap[k]? = w.heap[k]?) → Wrt w2 w3 g (i * 9) x → SpR D w3 a len f (i + 1) := by
  rcases h with ⟨h0, _⟩ | ⟨g, cur, fs, ha, hf, hg, hl, hfl, hr⟩
  · omega
  · obtain ⟨nb, h1, h2⟩ := hr i (by omega) (Nat.le_refl _)
    have hm : ∀ j (hj : j < fs.length) k, k ∈ fs[j] → k ∈ f := fun j hj k hk => by rw [hf]; exact List.mem_cons_of_mem _ (List.mem_flatten.2 ⟨_, List.getElem_mem hj, hk⟩)
    have hn' := hn
    rw [hf] at hn'
    obtain ⟨n1, n2⟩ := List.nodup_cons.1 hn'
    have hgj : ∀ j (hj : j < fs.length), g ∉ fs[j] := fun j hj hk => n1 (List.mem_flatten.2 ⟨_, List.getElem_mem hj, hk⟩)
    refine ⟨g, cur, nb, fs[i]'(by omega), ha, by rw [hf]; exact List.mem_cons_self, hm i (by omega), hgj i (by omega), (List.pairwise_flatten.1 n2).1 _ (List.getElem_mem _), hg, hl, fun q hq => by rw [cell_row hg]; exact h1 q hq, h2, ?_⟩
    intro w2 w3 x hk hw
    obtain ⟨⟨cu, cu', hg1, hg2, hz, hnw, ho⟩, hot⟩ := hw
    have hg9 : w2.heap[g]? = w.heap[g]? := hk g (by rw [hf]; exact List.mem_cons_self) (hgj i (by omega))
    rw [hg9, hg] at hg1
    cases hg1
    refine .inr ⟨g, cu', fs, ha, hf, hg2, by omega, hfl, fun j hj hij => ?_⟩
    obtain ⟨nb', e1, e2⟩ := hr j hj (by omega)
    refine ⟨nb', fun q hq => by rw [ho _ (by omega)]; exact e1 q hq, e2.stays fun k hk' => ?_⟩
    rw [hot k (fun e => hgj j hj (e ▸ hk')), hk k (hm j hj k hk') (fun hc => flat_apart n2 (i := i) (j := j) (by omega) hj (by omega) k hc hk')]
theorem spb_of {w : World} {a : Option Addr} {len : Nat} {f : List Nat} (h : FrB w a len f) : SpB w a len f 0 := by
  rcases h with h | ⟨g, cur, ha, hf, hg, hl, hr⟩
  · exact .inl h
  · exact .inr ⟨g, cur, ha, hf, hg, hl, fun j _ hj => hr j hj⟩
theorem spr_of {D : Nat} {w : World} {a : Option Addr} {len : Nat} {f : List Nat} (h : FrR 26 (FrD 26 D w) w a len f) : SpR D w a len f 0 := by
  rcases h with h | ⟨g, cur, fs, ha, hf, hg, hl, hfl, hr⟩
  · exact .inl h
  · exact .inr ⟨g, cur, fs, ha, hf, hg, hl, hfl, fun j hj _ => hr j hj⟩
/-- WHERE THE WRITING STANDS. -/
structure Sps (w wr : World) (b : Nb) (D : Nat) (f f0 f1 f2 : List Nat) (i0 i1 i2 : Nat) : Prop where
  box : NBox wr w.heap.size b
  kp : Kp (· ∈ f) w wr
  by_ : SpB wr b.ab b.lb f0 i0
  ks : SpR D wr b.ak b.lk f1 i1
  is : SpR D wr b.ai b.li f2 i2
/-- A node that is next. -/
structure SpE (w wr : World) (b : Nb) (D : Nat) (f f0 f1 f2 : List Nat) (i0 i1 i2 g o : Nat) (nb : Nb) (fi : List Nat) : Prop where
  fr : FrD 26 D wr nb fi
  nd : fi.Nodup
  lt : ∀ k ∈ fi, k < wr.heap.size
  sp : Spot wr g o nb
  bx : w.heap.size ∉ fi ∧ w.heap.size < wr.heap.size
  gi : g ∉ fi
  row : ∃ cur, wr.heap[g]? = some (.cells cur 26 (0, 0)) ∧ o + 9 ≤ cur.size
  go : ∀ (w2 w3 : World) (x : Nb), Kp (· ∈ fi) wr w2 → Wrt w2 w3 g o x → Kp (fun k => k = g) w2 w3 → Sps w w3 b D f f0 f1 f2 i0 i1 i2
theorem SpE.boxcell {w wr w2 : World} {b : Nb} {D : Nat} {f f0 f1 f2 : List Nat} {i0 i1 i2 g o : Nat} {nb : Nb} {fi : List Nat} (h : SpE w wr b D f f0 f1 f2 i0 i1 i2 g o nb fi) (hk : Kp (· ∈ fi) wr w2) {j : Nat} : w2.cell? ⟨w.heap.size, j, none⟩ = wr.cell? ⟨w.heap.size, j, none⟩ :=
  World.cell?_of_block (w := wr) (w' := w2) (a := ⟨w.heap.size, j, none⟩) (hk.block _ h.bx.2 h.bx.1)
theorem SpE.rowk {w wr w2 : World} {b : Nb} {D : Nat} {f f0 f1 f2 : List Nat} {i0 i1 i2 g o : Nat} {nb : Nb} {fi : List Nat} (h : SpE w wr b D f f0 f1 f2 i0 i1 i2 g o nb fi) (hk : Kp (· ∈ fi) wr w2) : ∃ cur, w2.heap[g]? = some (.cells cur 26 (0, 0)) ∧ o + 9 ≤ cur.size := by
  obtain ⟨cur, hg, hz⟩ := h.row
  exact ⟨cur, by rw [hk.block g (Array.getElem?_eq_some_iff.1 hg).1 h.gi]; exact hg, hz⟩
theorem SpE.fz {w wr w2 : World} {b : Nb} {D : Nat} {f f0 f1 f2 : List Nat} {i0 i1 i2 g o : Nat} {nb : Nb} {fi : List Nat} (h : SpE w wr b D f f0 f1 f2 i0 i1 i2 g o nb fi) (hk : Kp (· ∈ fi) wr w2) (q : Nat) : w2.frozen? ⟨g, o + q, none⟩ = false := by
  obtain ⟨cur, hg, _⟩ := h.rowk hk
  simp [World.frozen?, hg]
theorem SpE.spk {w wr w2 : World} {b : Nb} {D : Nat} {f f0 f1 f2 : List Nat} {i0 i1 i2 g o : Nat} {nb : Nb} {fi : List Nat} (h : SpE w wr b D f f0 f1 f2 i0 i1 i2 g o nb fi) (hk : Kp (· ∈ fi) wr w2) : Spot w2 g o nb := fun j hj => by
  obtain ⟨cur, hg, _⟩ := h.row
  rw [World.cell?_of_block (w := wr) (w' := w2) (a := ⟨g, o + j, none⟩) (hk.block _ (Array.getElem?_eq_some_iff.1 hg).1 h.gi)]
  exact h.sp j hj
theorem SpE.next {w wr w2 : World} {b : Nb} {D : Nat} {f f0 f1 f2 : List Nat} {i0 i1 i2 g o : Nat} {nb : Nb} {fi : List Nat} (h : SpE w wr b D f f0 f1 f2 i0 i1 i2 g o nb fi) (x : Nb) (hk : Kp (· ∈ fi) wr w2) :
    Sps w (((((((((w2.setCell ⟨g, o, none⟩ (.int .i64 x.kind)).setCell ⟨g, o + 1, none⟩ (.int .u64 x.num)).setCell ⟨g, o + 2, none⟩ (.bool x.neg)).setCell ⟨g, o + 3, none⟩ (.string x.dig)).setCell ⟨g, o + 4, none⟩ (.int .i64 x.exp)).setCell ⟨g, o + 5, none⟩ (.string x.txt)).setCell ⟨g, o + 6, none⟩ (.slice x.ab x.lb x.cb)).setCell ⟨g, o + 7, none⟩ (.slice x.ak x.lk x.ck)).setCell ⟨g, o + 8, none⟩ (.slice x.ai x.li x.ci)) b D f f0 f1 f2 i0 i1 i2 := by
  obtain ⟨cur, hg, hz⟩ := h.rowk hk
  exact h.go w2 _ x hk (wrt9 x hg hz) (sets_kp w2 g o x)
theorem Sps.el1 {w wr : World} {b : Nb} {D : Nat} {f0 f1 f2 : List Nat} {i0 i1 i2 : Nat} (h : Sps w wr b D (f0 ++ (f1 ++ f2)) f0 f1 f2 i0 i1 i2) (hi : i1 < b.lk) (hn : (f0 ++ (f1 ++ f2)).Nodup) (hl : ∀ k ∈ f0 ++ (f1 ++ f2), k < w.heap.size) :
    ∃ g o nb fi, Hid (o = 0) ∧ b.ak = some ⟨g, o, none⟩ ∧ SpE w wr b D (f0 ++ (f1 ++ f2)) f0 f1 f2 i0 (i1 + 1) i2 g (o + i1 * 9) nb fi := by
  obtain ⟨n0, n12, d0⟩ := List.nodup_append.1 hn
  obtain ⟨n1, n2, d1⟩ := List.nodup_append.1 n12
  obtain ⟨g, cur, nb, fi, ha, hgf, hff, hgi, hfn, hg, hz, hsp, hfr, hgo⟩ := h.ks.el n1 hi
  have m1 : ∀ k, k ∈ f1 → k ∈ f0 ++ (f1 ++ f2) := fun k hk => List.mem_append_right _ (List.mem_append_left _ hk)
  have hb := h.box.lt
  have hs := h.kp.size
  refine ⟨g, 0, nb, fi, rfl, ha, hfr, hfn, fun k hk => Nat.lt_of_lt_of_le (hl k (m1 k (hff k hk))) hs, by rw [Nat.zero_add]; exact hsp, ⟨fun hc => Nat.lt_irrefl _ (hl _ (m1 _ (hff _ hc))), hb⟩, hgi, ⟨cur, hg, by omega⟩, ?_⟩
  intro w2 w3 x hk hw hk3
  rw [Nat.zero_add] at hw
  have st : ∀ k, k < wr.heap.size → k ∉ f1 → w3.heap[k]? = wr.heap[k]? := fun k hkl hkf => by
    rw [hw.other k (fun e => hkf (e ▸ hgf)), hk.block k hkl (fun hc => hkf (hff k hc))]
  have lf : ∀ k, k ∈ f0 ++ (f1 ++ f2) → k < wr.heap.size := fun k hk => Nat.lt_of_lt_of_le (hl k hk) hs
  refine ⟨h.box.same (st _ hb (fun hc => Nat.lt_irrefl _ (hl _ (m1 _ hc)))), (h.kp.trans (hk.iff2 fun k hc => m1 k (hff k hc))).trans (hk3.iff2 fun k e => e ▸ m1 g hgf), h.by_.stays fun k hk0 => st k (lf k (List.mem_append_left _ hk0)) (fun hc => d0 k hk0 k (List.mem_append_left _ hc) rfl), hgo w2 w3 x (fun k hkf hki => hk.block k (lf k (m1 k hkf)) hki) hw, h.is.stays fun k hk2 => st k (lf k (List.mem_append_right _ (List.mem_append_right _ hk2))) (fun hc => d1 k hc k hk2 rfl)⟩
theorem Sps.el2 {w wr : World} {b : Nb} {D : Nat} {f0 f1 f2 : List Nat} {i0 i1 i2 : Nat} (h : Sps w wr b D (f0 ++ (f1 ++ f2)) f0 f1 f2 i0 i1 i2) (hi : i2 < b.li) (hn : (f0 ++ (f1 ++ f2)).Nodup) (hl : ∀ k ∈ f0 ++ (f1 ++ f2), k < w.heap.size) :
    ∃ g o nb fi, Hid (o = 0) ∧ b.ai = some ⟨g, o, none⟩ ∧ SpE w wr b D (f0 ++ (f1 ++ f2)) f0 f1 f2 i0 i1 (i2 + 1) g (o + i2 * 9) nb fi := by
  obtain ⟨n0, n12, d0⟩ := List.nodup_append.1 hn
  obtain ⟨n1, n2, d1⟩ := List.nodup_append.1 n12
  obtain ⟨g, cur, nb, fi, ha, hgf, hff, hgi, hfn, hg, hz, hsp, hfr, hgo⟩ := h.is.el n2 hi
  have m2 : ∀ k, k ∈ f2 → k ∈ f0 ++ (f1 ++ f2) := fun k hk => List.mem_append_right _ (List.mem_append_right _ hk)
  have hb := h.box.lt
  have hs := h.kp.size
  refine ⟨g, 0, nb, fi, rfl, ha, hfr, hfn, fun k hk => Nat.lt_of_lt_of_le (hl k (m2 k (hff k hk))) hs, by rw [Nat.zero_add]; exact hsp, ⟨fun hc => Nat.lt_irrefl _ (hl _ (m2 _ (hff _ hc))), hb⟩, hgi, ⟨cur, hg, by omega⟩, ?_⟩
  intro w2 w3 x hk hw hk3
  rw [Nat.zero_add] at hw
  have st : ∀ k, k < wr.heap.size → k ∉ f2 → w3.heap[k]? = wr.heap[k]? := fun k hkl hkf => by
    rw [hw.other k (fun e => hkf (e ▸ hgf)), hk.block k hkl (fun hc => hkf (hff k hc))]
  have lf : ∀ k, k ∈ f0 ++ (f1 ++ f2) → k < wr.heap.size := fun k hk => Nat.lt_of_lt_of_le (hl k hk) hs
  refine ⟨h.box.same (st _ hb (fun hc => Nat.lt_irrefl _ (hl _ (m2 _ hc)))), (h.kp.trans (hk.iff2 fun k hc => m2 k (hff k hc))).trans (hk3.iff2 fun k e => e ▸ m2 g hgf), h.by_.stays fun k hk0 => st k (lf k (List.mem_append_left _ hk0)) (fun hc => d0 k hk0 k (List.mem_append_right _ hc) rfl), h.ks.stays fun k hk1 => st k (lf k (List.mem_append_right _ (List.mem_append_left _ hk1))) (fun hc => d1 k hk1 k hc rfl), hgo w2 w3 x (fun k hkf hki => hk.block k (lf k (m2 k hkf)) hki) hw⟩
/-- A byte that is next. -/
theorem Sps.el0 {w wr : World} {b : Nb} {D : Nat} {f0 f1 f2 : List Nat} {i0 i1 i2 : Nat} (h : Sps w wr b D (f0 ++ (f1 ++ f2)) f0 f1 f2 i0 i1 i2) (hi : i0 < b.lb) (hn : (f0 ++ (f1 ++ f2)).Nodup) (hl : ∀ k ∈ f0 ++ (f1 ++ f2), k < w.heap.size) :
    ∃ g o, ∃ c : Int, Hid (o = 0) ∧ b.ab = some ⟨g, o, none⟩ ∧ wr.cell? ⟨g, o + i0, none⟩ = some (.int .u8 c) ∧ (0 ≤ c ∧ c < 256) ∧ wr.frozen? ⟨g, o + i0, none⟩ = false ∧ ∀ v : Value, Sps w (wr.setCell ⟨g, o + i0, none⟩ v) b D (f0 ++ (f1 ++ f2)) f0 f1 f2 (i0 + 1) i1 i2 := by
  obtain ⟨n0, n12, d0⟩ := List.nodup_append.1 hn
  have hb := h.box.lt
  have hs := h.kp.size
  rcases h.by_ with ⟨h0, _⟩ | ⟨g, cur, ha, hf, hg, hz, hr⟩
  · omega
  · obtain ⟨c, hc, hc1⟩ := hr i0 (Nat.le_refl _) hi
    have hgf : g ∈ f0 := by rw [hf]; exact List.mem_cons_self
    have mg : g ∈ f0 ++ (f1 ++ f2) := List.mem_append_left _ hgf
    have st : ∀ (v : Value) k, k ≠ g → (wr.setCell ⟨g, 0 + i0, none⟩ v).heap[k]? = wr.heap[k]? := fun v k hk => setk hk v
    refine ⟨g, 0, c, rfl, ha, by rw [Nat.zero_add, cell_row hg]; exact hc, hc1, by simp [World.frozen?, hg], fun v => ?_⟩
    refine ⟨h.box.same (st v _ (fun e => Nat.lt_irrefl _ (e ▸ hl g mg))), h.kp.trans ⟨rfl, rfl, rfl, by simp [World.setCell], fun k _ hk => st v k (fun e => hk (e ▸ mg))⟩, ?_, h.ks.stays fun k hk => st v k (fun e => d0 g hgf k (List.mem_append_left _ hk) e.symm), h.is.stays fun k hk => st v k (fun e => d0 g hgf k (List.mem_append_right _ hk) e.symm)⟩
    refine .inr ⟨g, cur.setIfInBounds (0 + i0) v, ha, hf, heap_setCell_same wr g (0 + i0) cur 5 v hg, by simp; exact hz, fun j hij hj => ?_⟩
    obtain ⟨c', e1, e2⟩ := hr j (by omega) hj
    refine ⟨c', ?_, e2⟩
    rw [Array.getElem?_setIfInBounds, if_neg (by omega)]
    exact e1
def mN : Nb := ⟨-1, 0, false, ⟨#[]⟩, 0, ⟨#[]⟩, none, 0, 0, none, 0, 0, none, 0, 0⟩
def SpAt (D : Nat) : Prop := ∀ (b : Nb) (w : World) (f : List Nat), FrD 26 D w b f → f.Nodup → (∀ k ∈ f, k < w.heap.size) → Calls Try.prog 14 #[.agg b.arr] w fun e w' => e = .returned (.tuple #[]) ∧ Kp (· ∈ f) w w'
theorem sps_new {D : Nat} {w : World} {b : Nb} {f0 f1 f2 : List Nat} (h0 : FrB w b.ab b.lb f0) (h1 : FrR 26 (FrD 26 D w) w b.ak b.lk f1) (h2 : FrR 26 (FrD 26 D w) w b.ai b.li f2) (hl : ∀ k ∈ f0 ++ (f1 ++ f2), k < w.heap.size) : Sps w (w.alloc (.cells b.arr 26)) b D (f0 ++ (f1 ++ f2)) f0 f1 f2 0 0 0 := by
  have hA := alloc_below w (.cells b.arr 26)
  have st : ∀ k, k ∈ f0 ++ (f1 ++ f2) → (w.alloc (.cells b.arr 26)).heap[k]? = w.heap[k]? := fun k hk => hA.block k (hl k hk)
  exact ⟨nbox_new w b, Kp.of hA, (spb_of h0).stays fun k hk => st k (List.mem_append_left _ hk), (spr_of h1).stays fun k hk => st k (List.mem_append_right _ (List.mem_append_left _ hk)), (spr_of h2).stays fun k hk => st k (List.mem_append_right _ (List.mem_append_right _ hk))⟩
end Go.Proofs.Ytkealjaealeojab
