/-
  A tree with a node at a path, as the document says: what Lay stands on.
-/
import Derived.Test.YtkealjaealeojabQGpu
import Derived.Test.YtkealjaealeojabQEaw
import Derived.Test.YtkealjaealeojabQEpb
namespace Go.Proofs.Ytkealjaealeojab
open Go.RowKit
set_option linter.unusedVariables false
/-- Three boxes of a call's own. -/
structure Bt (w0 w : World) (b x c : Nb) : Prop where
  one : NBox w w0.heap.size b
  two : NBox w (w0.heap.size + 1) x
  thr : NBox w (w0.heap.size + 1 + 1) c
  bel : Below w0.heap.size w0 w
theorem Bt.on {w0 w w' : World} {b x c : Nb} (h : Bt w0 w b x c) (hb : Below w.heap.size w w') : Bt w0 w' b x c := ⟨h.one.kept hb h.one.lt, h.two.kept hb h.two.lt, h.thr.kept hb h.thr.lt, h.bel.trans (hb.mono h.bel.size)⟩
theorem Bt.drew {w0 w : World} {b x c : Nb} (h : Bt w0 w b x c) : Bt w0 w.drew b x c := ⟨h.one, h.two, h.thr, h.bel.drew⟩
theorem Bt.kp {w0 w w' : World} {b x c : Nb} {C : Nat → Prop} (h : Bt w0 w b x c) (hk : Kp C w w') (hC : ∀ k, C k → w0.heap.size + 1 + 1 < k) : Bt w0 w' b x c :=
  ⟨h.one.same (hk.block _ h.one.lt fun q => by have := hC _ q; omega), h.two.same (hk.block _ h.two.lt fun q => by have := hC _ q; omega), h.thr.same (hk.block _ h.thr.lt fun q => by have := hC _ q; omega), h.bel.trans (hk.below h.bel.size fun k q => by have := hC k q; omega)⟩
theorem bt_new (w : World) (b x c : Nb) : Bt w (((w.alloc (.cells b.arr 26)).alloc (.cells x.arr 26)).alloc (.cells c.arr 26)) b x c := by
  have q1 := alloc_below w (.cells b.arr 26)
  have q2 := alloc_below (w.alloc (.cells b.arr 26)) (.cells x.arr 26)
  have q3 := alloc_below ((w.alloc (.cells b.arr 26)).alloc (.cells x.arr 26)) (.cells c.arr 26)
  have s1 : (w.alloc (.cells b.arr 26)).heap.size = w.heap.size + 1 := by simp
  have s2 : ((w.alloc (.cells b.arr 26)).alloc (.cells x.arr 26)).heap.size = w.heap.size + 1 + 1 := by simp
  have n2 := nbox_new (w.alloc (.cells b.arr 26)) x
  have n3 := nbox_new ((w.alloc (.cells b.arr 26)).alloc (.cells x.arr 26)) c
  rw [s1] at n2
  rw [s2] at n3
  exact ⟨((nbox_new w b).kept q2 (by omega)).kept q3 (by omega), n2.kept q3 (by omega), n3, (q1.trans (q2.mono (by omega))).trans (q3.mono (by omega))⟩
theorem Bt.put {w0 w : World} {b x c : Nb} (h : Bt w0 w b x c) (y : Nb) :
    Bt w0 (((((((((w.setCell ⟨w0.heap.size + 1 + 1, 0, none⟩ (.int .i64 y.kind)).setCell ⟨w0.heap.size + 1 + 1, 1, none⟩ (.int .u64 y.num)).setCell ⟨w0.heap.size + 1 + 1, 2, none⟩ (.bool y.neg)).setCell ⟨w0.heap.size + 1 + 1, 3, none⟩ (.string y.dig)).setCell ⟨w0.heap.size + 1 + 1, 4, none⟩ (.int .i64 y.exp)).setCell ⟨w0.heap.size + 1 + 1, 5, none⟩ (.string y.txt)).setCell ⟨w0.heap.size + 1 + 1, 6, none⟩ (.slice y.ab y.lb y.cb)).setCell ⟨w0.heap.size + 1 + 1, 7, none⟩ (.slice y.ak y.lk y.ck)).setCell ⟨w0.heap.size + 1 + 1, 8, none⟩ (.slice y.ai y.li y.ci)) b x y := by
  have X := Bx.put (⟨h.one, h.thr, Kp.refl _ _⟩ : Bx w w w0.heap.size (w0.heap.size + 1 + 1) b c) (by omega) y
  have K := kp_one X h.one
  exact ⟨X.one, h.two.same (K.block _ h.two.lt fun q => by omega), X.two, h.bel.trans (K.below h.bel.size fun k q => by omega)⟩
/-- What was put into the third box leaves all else as it was. -/
theorem Bt.put_kp {w0 w : World} {b x c : Nb} (h : Bt w0 w b x c) (y : Nb) :
    Kp (fun k => k = w0.heap.size + 1 + 1) w (((((((((w.setCell ⟨w0.heap.size + 1 + 1, 0, none⟩ (.int .i64 y.kind)).setCell ⟨w0.heap.size + 1 + 1, 1, none⟩ (.int .u64 y.num)).setCell ⟨w0.heap.size + 1 + 1, 2, none⟩ (.bool y.neg)).setCell ⟨w0.heap.size + 1 + 1, 3, none⟩ (.string y.dig)).setCell ⟨w0.heap.size + 1 + 1, 4, none⟩ (.int .i64 y.exp)).setCell ⟨w0.heap.size + 1 + 1, 5, none⟩ (.string y.txt)).setCell ⟨w0.heap.size + 1 + 1, 6, none⟩ (.slice y.ab y.lb y.cb)).setCell ⟨w0.heap.size + 1 + 1, 7, none⟩ (.slice y.ak y.lk y.ck)).setCell ⟨w0.heap.size + 1 + 1, 8, none⟩ (.slice y.ai y.li y.ci)) :=
  kp_one (Bx.put (⟨h.one, h.thr, Kp.refl _ _⟩ : Bx w w w0.heap.size (w0.heap.size + 1 + 1) b c) (by omega) y) h.one
/-- A row of the call's own in which a node lies. -/
theorem own_pos {w : World} {base : Nat} {v : Value} {bs : List Nb} (h : OwnsN 26 w base v bs) {j : Nat} (hj : j < bs.length) :
    ∃ g o cap cur, v = .slice (some ⟨g, o, none⟩) bs.length cap ∧ o = 0 ∧ bs.length ≤ cap ∧ cap ≤ maxLen ∧ base ≤ g ∧ g < w.heap.size ∧ w.heap[g]? = some (.cells cur 26 (0, 0)) ∧ o + j * 9 + 9 ≤ cur.size ∧ Spot w g (o + j * 9) bs[j] ∧ Nine w (some ⟨g, o, none⟩) bs := by
  obtain ⟨a, cap', hv', hc', hn', hx'⟩ := h.shape
  obtain ⟨hl, hv⟩ := h
  rcases hv with ⟨rfl, hn⟩ | ⟨g, cap, cur, rfl, hb, hg, hnc, hcm, hcs, htk⟩
  · omega
  · have ha : a = some ⟨g, 0, none⟩ := by simp at hv'; exact hv'.1.symm
    rw [ha] at hn'
    refine ⟨g, 0, cap, cur, rfl, rfl, hnc, hcm, hb, (Array.getElem?_eq_some_iff.1 hg).1, hg, by rw [hcs]; omega, fun q hq => ?_, hn'⟩
    rcases hn' with h0 | ⟨g', o', e, hc⟩
    · rw [h0] at hj; cases hj
    · cases e
      have := hc j hj q hq
      rw [← this]
      congr 2
      omega
/-- A node written over in a row. -/
theorem row_put {w w' : World} {g o : Nat} {bs : List Nb} {j : Nat} {y : Nb} (h0 : o = 0) (hN : Nine w (some ⟨g, o, none⟩) bs) (hj : j < bs.length) (hW : Wrt w w' g (o + j * 9) y) : Nine w' (some ⟨g, o, none⟩) (bs.set j y) := by
  subst h0
  obtain ⟨⟨cur, cur', h1, h2, h3, h4, h5⟩, _⟩ := hW
  rcases hN with e | ⟨g', o', e, hc⟩
  · subst e; cases hj
  · cases e
    refine .inr ⟨g, 0, rfl, fun i hi q hq => ?_⟩
    rw [List.length_set] at hi
    rw [cell_row h2]
    by_cases e : i = j
    · subst e
      rw [List.getElem_set_self, ← h4 q hq]
      congr 1
      omega
    · rw [List.getElem_set_ne (Ne.symm e), ← hc i hi q hq, cell_row h1]
      exact h5 _ (by omega)
theorem path_tail {w : World} {pb po np cp : Nat} {k : Int} {p : List Int} (h : PathOk w (some ⟨pb, po, none⟩) np cp (k :: p)) : PathOk w (some ⟨pb, po + 1, none⟩) (np - 1) (cp - 1) p := by
  obtain ⟨h1, h2, h3, h4, h5⟩ := h
  have h1' : p.length + 1 = np := by simpa using h1
  refine ⟨by omega, ⟨by have := h2.1; simp at this; omega, .inr ⟨pb, po + 1, rfl, fun i hi => ?_⟩⟩, by omega, fun k hk => h4 k (List.mem_cons_of_mem _ hk), by omega⟩
  have := h2.cell (i := i + 1) (by simp; omega)
  simpa [Nat.add_assoc, Nat.add_comm 1 i] using this
theorem path_last {w : World} {pa : Option Addr} {np : Nat} {k : Int} {p : List Int} (h : PathOk w pa np 1 (k :: p)) (a : Option Addr) : p = [] ∧ PathOk w a 0 0 p := by
  obtain ⟨h1, h2, h3, h4, h5⟩ := h
  have h1' : p.length + 1 = np := by simpa using h1
  have e : p = [] := List.eq_nil_of_length_eq_zero (by omega)
  subst e
  exact ⟨rfl, rfl, ⟨by simp, .inl rfl⟩, Nat.le_refl _, (fun k hk => by cases hk), by omega⟩
theorem path_one {w : World} {pa : Option Addr} {np cp : Nat} {k : Int} {p : List Int} (h : PathOk w pa np cp (k :: p)) (hc : cp = 1) : PathOk w pa (np - 1) (cp - 1) p := by
  subst hc
  have h1 := h.1
  have h3 := h.2.2.1
  have e : np - 1 = 0 := by omega
  rw [e]
  exact (path_last h pa).2
/-- Where what Lay answers lies. -/
def LayS (B lo hi k : Nat) : Prop := k < B ∨ (lo ≤ k ∧ k < hi)
/-- What the document's Lay answers. -/
def LayIs (B E : Nat) (w w' : World) (t x : Tr) (ps : List Int) (b' : Nb) (er : Int) : Prop :=
  (t.lay x ps = none ∧ b' = zN ∧ er = 19) ∨ (er = 0 ∧ ∃ m, t.lay x ps = some m ∧ NdS (LayS B w.heap.size w'.heap.size) E w' b' m)
theorem NdS.side {S : Nat → Prop} {D : Nat} {w : World} {b : Nb} {t : Tr} (h : NdS S (D + 1) w b t) (sd : Bool) : RowN (NdS S D w) w (b.sideA sd) (b.sideL sd) (b.sideC sd) (t.side sd) := by
  cases sd
  · exact h.2.2.2.2.2
  · exact h.2.2.2.2.1
/-- The row and what is to lie in it make the tree. -/
theorem lay_meet {B D Dx : Nat} {w w7 w8 w10 : World} {b y : Nb} {t ty : Tr} {j g o n c : Nat} {sd : Bool} {bs : List Nb} (hB : B ≤ w.heap.size) (hN : NdS (· < B) (D + 1) w b t) (hbl : bs.length = (t.side sd).length) (hn : bs.length = n) (hc : n ≤ c ∧ c ≤ maxLen) (hn3 : n ≤ 1000000)
    (hbs : ∀ i (h : i < bs.length) (k : i < (t.side sd).length), NdS (· < B) D w bs[i] (t.side sd)[i]) (hj : j < bs.length)
    (hY : NdS (LayS B w7.heap.size w8.heap.size) (D + Dx) w8 y ty) (hg : w.heap.size ≤ g ∧ g < w7.heap.size) (hw7 : w.heap.size ≤ w7.heap.size) (h89 : ∀ k, LayS B w7.heap.size w8.heap.size k → w10.heap[k]? = w8.heap[k]?) (h810 : w8.heap.size ≤ w10.heap.size) (hg10 : g < w10.heap.size) (hb : Below w.heap.size w w10) (hR : Nine w10 (some ⟨g, o, none⟩) (bs.set j y)) (b' : Nb)
    (hb' : b' = if sd then { b with ak := some ⟨g, o, none⟩, lk := n, ck := c } else { b with ai := some ⟨g, o, none⟩, li := n, ci := c }) :
    NdS (LayS B w.heap.size w10.heap.size) (D + Dx + 1) w10 b' (t.turn sd ((t.side sd).set j ty)) := by
  subst hb'
  subst hn
  have hmono : ∀ k, k < B → LayS B w.heap.size w10.heap.size k := fun k h => .inl h
  have old : ∀ k, k < B → w10.heap[k]? = w.heap[k]? := fun k hk => hb.block k (by omega)
  have hM7 : ∀ k, LayS B w7.heap.size w8.heap.size k → LayS B w.heap.size w10.heap.size k := fun k h => h.elim .inl fun h => .inr ⟨by omega, by omega⟩
  have hY' : NdS (LayS B w.heap.size w10.heap.size) (D + Dx) w10 y ty := (hY.stays h89).mono hM7
  have hE : ∀ {b : Nb} {t : Tr}, NdS (· < B) D w b t → NdS (LayS B w.heap.size w10.heap.size) (D + Dx) w10 b t := fun h => ((h.stays old).mono hmono).le (by omega)
  have hrow : RowN (NdS (LayS B w.heap.size w10.heap.size) (D + Dx) w10) w10 (some ⟨g, o, none⟩) bs.length c ((t.side sd).set j ty) := by
    refine rowN_of hR (by simp [hbl]) (by simp [hbl]) ⟨hc.1, hc.2, (fun h => by cases h), by omega⟩ fun i hi k => ?_
    by_cases e : i = j
    · subst e; rw [List.getElem_set_self, List.getElem_set_self]; exact hY'
    · rw [List.getElem_set_ne (Ne.symm e), List.getElem_set_ne (Ne.symm e)]
      exact hE (hbs i (by simpa using hi) (by simpa using k))
  obtain ⟨h1, h2, ⟨h31, h32, h33⟩, ⟨i1, i2, i3⟩, h5, h6⟩ := hN
  have hBy : Bytes w10 b.ab t.bytes := h33.stays (by rw [h31]; exact i1) old
  cases sd with
  | false => exact ⟨h1, h2, ⟨h31, h32, hBy⟩, ⟨i1.mono hmono, i2.mono hmono, fun _ x hx => by cases hx; exact .inr ⟨hg.1, hg10⟩⟩, h5.stays i2 old fun _ _ _ q => hE q, hrow⟩
  | true => exact ⟨h1, h2, ⟨h31, h32, hBy⟩, ⟨i1.mono hmono, fun _ x hx => by cases hx; exact .inr ⟨hg.1, hg10⟩, i3.mono hmono⟩, hrow, h6.stays i3 old fun _ _ _ q => hE q⟩
/-- Behind the call: y stands in a box of its own, the row is as it was. -/
structure Af (B : Nat) (w w4 wc w5 w6 : World) (b x y : Nb) (g gy : Nat) (cur : Array Value) : Prop where
  bt : Bt w w6 b x zN
  yb : NBox w6 gy y
  row : w6.heap[g]? = some (.cells cur 26 (0, 0))
  bel : Below w4.heap.size w4 w6
  keep : ∀ k, LayS B wc.heap.size w5.heap.size k → w6.heap[k]? = w5.heap[k]?
  size : w5.heap.size ≤ w6.heap.size
/-- The box was made behind the call. -/
theorem af_late {B : Nat} {w w4 wc w5 : World} {b x y : Nb} {g : Nat} {cur : Array Value} (hB : B ≤ w.heap.size) (T4 : Bt w w4 b x zN) (h5 : Below w4.heap.size w4 w5) (hg : w4.heap[g]? = some (.cells cur 26 (0, 0))) :
    Af B w w4 wc w5 (w5.alloc (.cells y.arr 26)) b x y g w5.heap.size cur := by
  have hb := h5.trans ((alloc_below w5 (.cells y.arr 26)).mono h5.size)
  have hl := (Array.getElem?_eq_some_iff.1 hg).1
  have h1 := T4.bel.size
  have h2 := h5.size
  exact ⟨T4.on hb, nbox_new _ _, (hb.block g hl).trans hg, hb, fun k hk => (alloc_below w5 _).block k (hk.elim (fun h => by omega) fun h => h.2), Nat.le_of_lt (alloc_lt _ _)⟩
/-- The box was made ahead of the call. -/
theorem af_early {B : Nat} {w w4 w5 : World} {b x y : Nb} {g : Nat} {cur : Array Value} (hB : B ≤ w.heap.size) (T4 : Bt w w4 b x zN) (h5 : Below (w4.drew.alloc (.cells zN.arr 26)).heap.size (w4.drew.alloc (.cells zN.arr 26)) w5) (hg : w4.heap[g]? = some (.cells cur 26 (0, 0))) :
    Af B w w4 (w4.drew.alloc (.cells zN.arr 26)) w5 (((((((((w5.setCell ⟨w4.heap.size, 0, none⟩ (.int .i64 y.kind)).setCell ⟨w4.heap.size, 1, none⟩ (.int .u64 y.num)).setCell ⟨w4.heap.size, 2, none⟩ (.bool y.neg)).setCell ⟨w4.heap.size, 3, none⟩ (.string y.dig)).setCell ⟨w4.heap.size, 4, none⟩ (.int .i64 y.exp)).setCell ⟨w4.heap.size, 5, none⟩ (.string y.txt)).setCell ⟨w4.heap.size, 6, none⟩ (.slice y.ab y.lb y.cb)).setCell ⟨w4.heap.size, 7, none⟩ (.slice y.ak y.lk y.ck)).setCell ⟨w4.heap.size, 8, none⟩ (.slice y.ai y.li y.ci)) b x y g w4.heap.size cur := by
  have hs : (w4.drew.alloc (.cells zN.arr 26)).heap.size = w4.heap.size + 1 := by show (w4.alloc (.cells zN.arr 26)).heap.size = _; simp
  have q0 : Below w4.heap.size w4 w4.drew := (Below.refl _ _).drew
  have q1 : Below w4.heap.size w4 (w4.drew.alloc (.cells zN.arr 26)) := q0.trans ((alloc_below w4.drew _).mono (Nat.le_refl _))
  have q2 := q1.trans (h5.mono q1.size)
  have hl := (Array.getElem?_eq_some_iff.1 hg).1
  have h1 := T4.bel.size
  have h2 := h5.size
  have N5 : NBox w5 w4.heap.size zN := (nbox_new w4.drew zN).kept h5 (by rw [hs]; exact Nat.lt_succ_self _)
  have T5 := T4.on q2
  have X := Bx.put (⟨T5.one, N5, Kp.refl _ _⟩ : Bx w5 w5 w.heap.size w4.heap.size b zN) (by have := T4.one.lt; omega) y
  have K := kp_one X T5.one
  have hlt := T4.thr.lt
  have hb := q2.trans (K.below q2.size fun k hk => by omega)
  exact ⟨T5.kp K fun k hk => by omega, X.two, (hb.block g hl).trans hg, hb, fun k hk => K.block k (hk.elim (fun h => by omega) fun h => h.2) (fun e => by rcases hk with h | h <;> omega), K.size⟩
/-- A field of the first box turned. -/
theorem Bt.fld8 {w0 w : World} {b x c : Nb} (h : Bt w0 w b x c) (a : Option Addr) (n q : Nat) : Bt w0 (w.setCell ⟨w0.heap.size, 8, none⟩ (.slice a n q)) { b with ai := a, li := n, ci := q } x c :=
  ⟨nbox_set h.one 8 _ rfl, h.two.same (setk (by omega) _), h.thr.same (setk (by omega) _), h.bel.trans (Kp.below (C := fun k => k = w0.heap.size) ⟨rfl, rfl, rfl, by simp [World.setCell], fun k _ hc => setk hc _⟩ h.bel.size fun k hk => Nat.le_of_eq hk.symm)⟩
theorem Bt.fld7 {w0 w : World} {b x c : Nb} (h : Bt w0 w b x c) (a : Option Addr) (n q : Nat) : Bt w0 (w.setCell ⟨w0.heap.size, 7, none⟩ (.slice a n q)) { b with ak := a, lk := n, ck := q } x c :=
  ⟨nbox_set h.one 7 _ rfl, h.two.same (setk (by omega) _), h.thr.same (setk (by omega) _), h.bel.trans (Kp.below (C := fun k => k = w0.heap.size) ⟨rfl, rfl, rfl, by simp [World.setCell], fun k _ hc => setk hc _⟩ h.bel.size fun k hk => Nat.le_of_eq hk.symm)⟩
theorem fld_kp (w : World) (g j : Nat) (v : Value) : Kp (fun k => k = g) w (w.setCell ⟨g, j, none⟩ v) := ⟨rfl, rfl, rfl, by simp [World.setCell], fun k _ hc => setk hc _⟩
theorem Nine.same {w w' : World} {g o : Nat} {bs : List Nb} (h : Nine w (some ⟨g, o, none⟩) bs) (hb : w'.heap[g]? = w.heap[g]?) : Nine w' (some ⟨g, o, none⟩) bs := by
  rcases h with h | ⟨g', o', e, hc⟩
  · exact .inl h
  · cases e
    refine .inr ⟨g, o, rfl, fun i hi q hq => ?_⟩
    rw [← hc i hi q hq]
    simp only [World.cell?, hb]
/-- All that was written makes the tree. -/
theorem lay_fin {B D Dx : Nat} {w w4 wc w5 w6 w7 w8 wF : World} {b x y : Nb} {t ty : Tr} {j g gy o n c : Nat} {sd : Bool} {bs : List Nb} {cur : Array Value} (hB : B ≤ w.heap.size) (hN : NdS (· < B) (D + 1) w b t) (hbl : bs.length = (t.side sd).length) (hn : bs.length = n) (hc : n ≤ c ∧ c ≤ maxLen) (hn3 : n ≤ 1000000)
    (hbs : ∀ i (h : i < bs.length) (k : i < (t.side sd).length), NdS (· < B) D w bs[i] (t.side sd)[i]) (hj : j < bs.length)
    (F : Af B w w4 wc w5 w6 b x y g gy cur) (hwc : w4.heap.size ≤ wc.heap.size) (h5 : w4.heap.size ≤ w5.heap.size) (hg : w.heap.size + 1 + 1 < g) (hg4 : g < w4.heap.size) (h0 : o = 0) (hnine : Nine w4 (some ⟨g, o, none⟩) bs) (hW : Wrt w6 w7 g (o + j * 9) y) (K7 : Kp (fun k => k = g) w6 w7)
    (K8 : Kp (fun k => k = w.heap.size) w7 w8) (K9 : Kp (fun k => k = w.heap.size + 1 + 1) w8 wF) (hb : Below w.heap.size w wF) (hY : NdS (LayS B wc.heap.size w5.heap.size) (D + Dx) w5 y ty) (b' : Nb)
    (hb' : b' = if sd then { b with ak := some ⟨g, o, none⟩, lk := n, ck := c } else { b with ai := some ⟨g, o, none⟩, li := n, ci := c }) :
    NdS (LayS B w.heap.size wF.heap.size) (D + 1 + Dx) wF b' (t.turn sd ((t.side sd).set j ty)) := by
  have s5 := F.size
  have s7 := K7.size
  have s8 := K8.size
  have s9 := K9.size
  have s4 := F.bel.size
  have eF : ∀ k, k < w7.heap.size → k ≠ w.heap.size → k ≠ w.heap.size + 1 + 1 → wF.heap[k]? = w7.heap[k]? := fun k h1 h2 h3 => (K9.block k (by omega) h3).trans (K8.block k h1 h2)
  have hN7 := row_put h0 (hnine.kept F.bel) hj hW
  have hNF := hN7.same (eF g (by omega) (by omega) (by omega))
  refine (lay_meet (w7 := wc) (w8 := w5) (w10 := wF) hB hN hbl hn hc hn3 hbs hj hY ⟨by omega, by omega⟩ (by omega) (fun k hk => ?_) (by omega) (by omega) hb hNF b' hb').le (by omega)
  rw [← F.keep k hk]
  have hk5 : k < w5.heap.size ∧ k ≠ g ∧ k ≠ w.heap.size ∧ k ≠ w.heap.size + 1 + 1 := by
    rcases hk with h | h
    · exact ⟨by omega, by omega, by omega, by omega⟩
    · exact ⟨h.2, by omega, by omega, by omega⟩
  rw [eF k (by omega) hk5.2.2.1 hk5.2.2.2]
  exact K7.block k (by omega) hk5.2.1
end Go.Proofs.Ytkealjaealeojab
