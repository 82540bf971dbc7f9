/-
  Rows of a tree that are made anew, node by node: what stands in them on the way.
-/
import Derived.Test.YtkealjaealeojabQGpu
import Derived.Test.YtkealjaealeojabQEpb
namespace Go.Proofs.Ytkealjaealeojab
open Go.RowKit
set_option linter.unusedVariables false

/-- A row in a block of its own, of which the first i nodes are made anew (in blocks from M on), the others are the old ones (in blocks below B). -/
structure Orw (B M D lo hi : Nat) (w : World) (a : Option Addr) (n c : Nat) (l : List Tr) (i : Nat) : Prop where
  len : l.length = n
  room : Room 136 a n c
  row : l = [] ∨ ∃ g cur, a = some ⟨g, 0, none⟩ ∧ lo ≤ g ∧ g < hi ∧ w.heap[g]? = some (.cells cur 26 (0, 0)) ∧ n * 9 ≤ cur.size ∧ ∀ j (h : j < l.length), ∃ nb : Nb, (∀ q, q < 9 → cur[j * 9 + q]? = nb.cells[q]?) ∧ (j < i → NdS (fun k => M ≤ k ∧ k < w.heap.size) D w nb l[j]) ∧ (i ≤ j → NdS (fun k => k < B) D w nb l[j])
theorem Orw.kept {B M D lo hi : Nat} {w w' : World} {a : Option Addr} {n c : Nat} {l : List Tr} {i : Nat} (h : Orw B M D lo hi w a n c l i) (hs : w.heap.size ≤ w'.heap.size) (hk : ∀ k, (k < B ∨ (lo ≤ k ∧ k < hi) ∨ (M ≤ k ∧ k < w.heap.size)) → w'.heap[k]? = w.heap[k]?) : Orw B M D lo hi w' a n c l i := by
  refine ⟨h.len, h.room, ?_⟩
  rcases h.row with h0 | ⟨g, cur, ha, h1, h2, hg, hc, he⟩
  · exact .inl h0
  · refine .inr ⟨g, cur, ha, h1, h2, by rw [hk g (.inr (.inl ⟨h1, h2⟩))]; exact hg, hc, fun j hj => ?_⟩
    obtain ⟨nb, e1, e2, e3⟩ := he j hj
    exact ⟨nb, e1, fun q => ((e2 q).stays fun k hk' => hk k (.inr (.inr hk'))).mono fun k hk' => ⟨hk'.1, by omega⟩, fun q => (e3 q).stays fun k hk' => hk k (.inl hk')⟩
/-- The node at i, as the walk reads it. -/
theorem Orw.el {B M D lo hi : Nat} {w : World} {a : Option Addr} {n c : Nat} {l : List Tr} {i : Nat} (h : Orw B M D lo hi w a n c l i) (hin : i < n) (hl : i < l.length) :
    ∃ g cur nb, a = some ⟨g, 0, none⟩ ∧ lo ≤ g ∧ g < hi ∧ w.heap[g]? = some (.cells cur 26 (0, 0)) ∧ n * 9 ≤ cur.size ∧ Spot w g (i * 9) nb ∧ (∀ q, w.frozen? ⟨g, q, none⟩ = false) ∧ NdS (fun k => k < B) D w nb l[i] := by
  rcases h.row with h0 | ⟨g, cur, ha, h1, h2, hg, hc, he⟩
  · subst h0; cases hl
  · obtain ⟨nb, e1, e2, e3⟩ := he i hl
    refine ⟨g, cur, nb, ha, h1, h2, hg, hc, fun q hq => ?_, fun q => by simp [World.frozen?, hg], e3 (Nat.le_refl _)⟩
    rw [cell_row hg]
    exact e1 q hq
/-- The node at i is made anew. -/
theorem Orw.put {B M D lo hi : Nat} {w w' : World} {g : Nat} {n c : Nat} {l : List Tr} {i : Nat} {x : Nb} (h : Orw B M D lo hi w (some ⟨g, 0, none⟩) n c l i) (hl : i < l.length) (hB : B ≤ lo) (hM : hi ≤ M) (hw : Wrt w w' g (i * 9) x) (hs : w'.heap.size = w.heap.size)
    (hx : NdS (fun k => M ≤ k ∧ k < w.heap.size) D w x l[i]) : Orw B M D lo hi w' (some ⟨g, 0, none⟩) n c l (i + 1) := by
  refine ⟨h.len, h.room, ?_⟩
  rcases h.row with h0 | ⟨g', cur, ha, h1, h2, hg, hc, he⟩
  · subst h0; cases hl
  · cases ha
    obtain ⟨⟨cu, cu', hg1, hg2, hz, hn, ho⟩, hot⟩ := hw
    rw [hg] at hg1
    cases hg1
    have st1 : ∀ k, (M ≤ k ∧ k < w.heap.size) → w'.heap[k]? = w.heap[k]? := fun k hk => hot k (by omega)
    have st2 : ∀ k, k < B → w'.heap[k]? = w.heap[k]? := fun k hk => hot k (by omega)
    refine .inr ⟨g, cu', rfl, h1, h2, hg2, by omega, fun j hj => ?_⟩
    obtain ⟨nb, e1, e2, e3⟩ := he j hj
    by_cases e : j = i
    · subst e
      exact ⟨x, hn, fun _ => by rw [hs]; exact hx.stays st1, fun q => by omega⟩
    · refine ⟨nb, fun q hq => ?_, fun q => ?_, fun q => (e3 (by omega)).stays st2⟩
      · rw [ho _ (by omega)]; exact e1 q hq
      · rw [hs]; exact (e2 (by omega)).stays st1
/-- The row as a whole. -/
theorem Orw.fin {B M D lo hi E : Nat} {w : World} {a : Option Addr} {n c : Nat} {l : List Tr} (h : Orw B M D lo hi w a n c l n) (hE : E ≤ lo) (hM : E ≤ M) (hh : hi ≤ w.heap.size) : RowN (NdS (fun k => E ≤ k ∧ k < w.heap.size) D w) w a n c l ∧ In (fun k => E ≤ k ∧ k < w.heap.size) a n := by
  have hl := h.len
  rcases h.row with h0 | ⟨g, cur, ha, h1, h2, hg, hc, he⟩
  · subst h0
    have : n = 0 := by simpa using hl.symm
    subst this
    exact ⟨⟨rfl, h.room, .inl rfl⟩, fun q => by cases q⟩
  · refine ⟨⟨hl, h.room, .inr ⟨g, 0, ha, fun j hj => ?_⟩⟩, fun _ x hx => by rw [ha] at hx; cases hx; exact ⟨Nat.le_trans hE h1, Nat.lt_of_lt_of_le h2 hh⟩⟩
    obtain ⟨nb, e1, e2, e3⟩ := he j hj
    exact ⟨nb, fun q hq => by rw [Nat.zero_add, cell_row hg]; exact e1 q hq, (e2 (by omega)).mono fun k hk => ⟨Nat.le_trans hM hk.1, hk.2⟩⟩
/-- A row that was copied: none is made anew yet. -/
theorem orw_new {B D lo n : Nat} {w : World} {v : Value} {bs : List Nb} {l : List Tr} (ho : OwnsN 26 w lo v bs) (hl : bs.length = n) (hln : l.length = n) (hn : n ≤ 1024) (hq : ∀ j (h : j < bs.length) (h2 : j < l.length), NdS (fun k => k < B) D w bs[j] l[j]) :
    ∃ a c, v = .slice a n c ∧ ∀ M, Orw B M D lo w.heap.size w a n c l 0 := by
  subst hln
  obtain ⟨h1, h2⟩ := ho
  rcases h2 with ⟨rfl, hn0⟩ | ⟨g, cap, cur, rfl, hb, hg, hnc, hcm, hcs, htk⟩
  · have h0 : l = [] := List.eq_nil_of_length_eq_zero (by omega)
    subst h0
    exact ⟨none, 0, rfl, fun M => ⟨rfl, ⟨Nat.le_refl _, Nat.zero_le _, fun _ => rfl, by simp⟩, .inl rfl⟩⟩
  · refine ⟨some ⟨g, 0, none⟩, cap, by rw [hl], fun M => ⟨rfl, ⟨by omega, hcm, (fun h => by cases h), by omega⟩, .inr ⟨g, cur, rfl, hb, (Array.getElem?_eq_some_iff.1 hg).1, hg, by rw [hcs]; omega, fun j hj => ⟨bs[j]'(by omega), fun q hq => ?_, fun h => by omega, fun _ => hq j (by omega) hj⟩⟩⟩⟩
    rw [← Array.getElem?_toList, ← cs_get bs (by omega) hq, ← htk, List.getElem?_take, if_pos (by omega)]
/-- WHERE THE COPY STANDS: the box, the bytes, both rows. -/
structure Ows (w : World) (m0 m1 M D : Nat) (b : Nb) (t : Tr) (wr : World) (p4 p5 p6 : Option Addr) (q4 q5 q6 i1 i2 : Nat) : Prop where
  box : NBox wr w.heap.size { b with ab := p4, cb := q4, ak := p5, ck := q5, ai := p6, ci := q6 }
  res : NBox wr (w.heap.size + 1) zN
  bel : Below w.heap.size w wr
  byt : Bytes wr p4 t.bytes
  bin : In (fun k => w.heap.size + 2 ≤ k ∧ k < m0) p4 t.bytes.length
  ks : Orw w.heap.size M D m0 m1 wr p5 b.lk q5 t.keys i1
  is : Orw w.heap.size M D m1 M wr p6 b.li q6 t.kids i2
  o0 : w.heap.size + 2 ≤ m0
  o1 : m0 ≤ m1
  o2 : m1 ≤ M
  o3 : M ≤ wr.heap.size
theorem Ows.call {w wr w' : World} {m0 m1 M D : Nat} {b : Nb} {t : Tr} {p4 p5 p6 : Option Addr} {q4 q5 q6 i1 i2 : Nat} (h : Ows w m0 m1 M D b t wr p4 p5 p6 q4 q5 q6 i1 i2) (hb : Below wr.heap.size wr w') : Ows w m0 m1 M D b t w' p4 p5 p6 q4 q5 q6 i1 i2 := by
  have a0 := h.o0; have a1 := h.o1; have a2 := h.o2; have a3 := h.o3
  refine ⟨h.box.kept hb h.box.lt, h.res.kept hb h.res.lt, h.bel.trans (hb.mono h.bel.size), h.byt.kept hb, h.bin, h.ks.kept hb.size fun k hk => hb.block k (by omega), h.is.kept hb.size fun k hk => hb.block k (by omega), a0, a1, a2, Nat.le_trans a3 hb.size⟩
theorem Ows.put1 {w wr w' : World} {m0 m1 M D g : Nat} {b : Nb} {t : Tr} {p4 p6 : Option Addr} {q4 q5 q6 i1 i2 : Nat} {x : Nb} (h : Ows w m0 m1 M D b t wr p4 (some ⟨g, 0, none⟩) p6 q4 q5 q6 i1 i2) (hg : m0 ≤ g ∧ g < m1) (hl : i1 < t.keys.length) (hw : Wrt wr w' g (i1 * 9) x) (hk : Kp (fun k => k = g) wr w') (hs : w'.heap.size = wr.heap.size)
    (hx : NdS (fun k => M ≤ k ∧ k < wr.heap.size) D wr x t.keys[i1]) : Ows w m0 m1 M D b t w' p4 (some ⟨g, 0, none⟩) p6 q4 q5 q6 (i1 + 1) i2 := by
  have a0 := h.o0; have a1 := h.o1; have a2 := h.o2; have a3 := h.o3
  have hbz := h.bel.size
  refine ⟨h.box.same (hw.other _ (by omega)), h.res.same (hw.other _ (by omega)), h.bel.trans (hk.below hbz fun k e => by omega), h.byt.stays h.bin fun k hk => hw.other k (by omega), h.bin, h.ks.put hl (by omega) (by omega) hw hs hx, h.is.kept (Nat.le_of_eq hs.symm) fun k hk => hw.other k (by omega), a0, a1, a2, by omega⟩
theorem Ows.put2 {w wr w' : World} {m0 m1 M D g : Nat} {b : Nb} {t : Tr} {p4 p5 : Option Addr} {q4 q5 q6 i1 i2 : Nat} {x : Nb} (h : Ows w m0 m1 M D b t wr p4 p5 (some ⟨g, 0, none⟩) q4 q5 q6 i1 i2) (hg : m1 ≤ g ∧ g < M) (hl : i2 < t.kids.length) (hw : Wrt wr w' g (i2 * 9) x) (hk : Kp (fun k => k = g) wr w') (hs : w'.heap.size = wr.heap.size)
    (hx : NdS (fun k => M ≤ k ∧ k < wr.heap.size) D wr x t.kids[i2]) : Ows w m0 m1 M D b t w' p4 p5 (some ⟨g, 0, none⟩) q4 q5 q6 i1 (i2 + 1) := by
  have a0 := h.o0; have a1 := h.o1; have a2 := h.o2; have a3 := h.o3
  have hbz := h.bel.size
  refine ⟨h.box.same (hw.other _ (by omega)), h.res.same (hw.other _ (by omega)), h.bel.trans (hk.below hbz fun k e => by omega), h.byt.stays h.bin fun k hk => hw.other k (by omega), h.bin, h.ks.kept (Nat.le_of_eq hs.symm) fun k hk => hw.other k (by omega), h.is.put hl (by omega) (by omega) hw hs hx, a0, a1, a2, by omega⟩
/-- The copy as a whole. -/
theorem Ows.fin {w wr : World} {m0 m1 M D : Nat} {b : Nb} {t : Tr} {p4 p5 p6 : Option Addr} {q4 q5 q6 : Nat} (h : Ows w m0 m1 M D b t wr p4 p5 p6 q4 q5 q6 b.lk b.li) (hN : Nd (D + 1) w b t) (hr : Room 1 p4 b.lb q4) : NdS (fun k => w.heap.size + 2 ≤ k ∧ k < wr.heap.size) (D + 1) wr { b with ab := p4, cb := q4, ak := p5, ck := q5, ai := p6, ci := q6 } t := by
  have a0 := h.o0; have a1 := h.o1; have a2 := h.o2; have a3 := h.o3
  obtain ⟨n0, n1, ⟨n2, n3, n4⟩, n5, n6⟩ := hN
  obtain ⟨k1, k2⟩ := h.ks.fin (E := w.heap.size + 2) (by omega) (by omega) (by omega)
  obtain ⟨k3, k4⟩ := h.is.fin (E := w.heap.size + 2) (by omega) (by omega) (by omega)
  refine ⟨n0, n1, ⟨n2, hr, h.byt⟩, ⟨?_, k2, k4⟩, k1, k3⟩
  have := h.bin
  rw [n2] at this
  exact this.mono fun k hk => ⟨hk.1, by omega⟩
theorem kp_gr {C : Nat → Prop} {w w' : World} (h : w.grownBy w' none) : Kp C w w' := ⟨h.os, h.tape, h.output, h.size, fun k hk _ => h.block k hk (fun e => by cases e)⟩
theorem ows_new {w w4 w5 w6 w7 : World} {D : Nat} {b : Nb} {t : Tr} {p4 p5 p6 : Option Addr} {q4 q5 q6 lo0 lo1 lo2 : Nat} (h1 : NBox w7 w.heap.size { b with ab := p4, cb := q4, ak := p5, ck := q5, ai := p6, ci := q6 }) (h2 : NBox w7 (w.heap.size + 1) zN) (hb : Below w.heap.size w w7)
    (hby : Bytes w4 p4 t.bytes) (hin : In (fun k => lo0 ≤ k ∧ k < w4.heap.size) p4 t.bytes.length) (O5 : ∀ M, Orw w.heap.size M D lo1 w5.heap.size w5 p5 b.lk q5 t.keys 0) (O6 : ∀ M, Orw w.heap.size M D lo2 w6.heap.size w6 p6 b.li q6 t.kids 0)
    (K4 : Kp (fun k => k = w.heap.size ∨ k = w.heap.size + 1) w4 w7) (K5 : Kp (fun k => k = w.heap.size ∨ k = w.heap.size + 1) w5 w7) (K6 : Kp (fun k => k = w.heap.size ∨ k = w.heap.size + 1) w6 w7) (e0 : w.heap.size + 2 ≤ lo0) (e0' : lo0 ≤ w4.heap.size) (e1 : lo1 = w4.heap.size) (e2 : lo2 = w5.heap.size) (e3 : w5.heap.size ≤ w6.heap.size) (e4 : w7.heap.size = w6.heap.size) (e5 : w4.heap.size ≤ w5.heap.size) :
    Ows w w4.heap.size w5.heap.size w6.heap.size D b t w7 p4 p5 p6 q4 q5 q6 0 0 := by
  subst e1 e2
  refine ⟨h1, h2, hb, ?_, hin.mono fun k hk => ⟨by omega, hk.2⟩, (O5 w6.heap.size).kept K5.size fun k hk => K5.block k (by omega) (by omega), (O6 w6.heap.size).kept K6.size fun k hk => K6.block k (by omega) (by omega), by omega, by omega, by omega, by omega⟩
  exact hby.stays hin fun k hk => K4.block k hk.2 (by omega)
end Go.Proofs.Ytkealjaealeojab
