/-
  Nodes appended to nodes of the call's own: the row stays where it is, or lies in a new block.
  When two trees are the same: tree.same, with slices.EqualFunc.
  Trees in new memory: what they are; tree.cloneAll.
  The library's calls, as this program bears them: told of in Lib.
  Nodes of which all is zero; stores into blocks.
  A tree in new memory: tree.clone.
-/
import Derived.Test.YtelabgonpmafpaaDoorU7
import Derived.Test.YtelabgonpmafpaaDoorU2
import Derived.Test.YtelabgonpmafpaaDoorU3
import Derived.Shelf.Abstract
namespace Go.Proofs.YtelabgonpmafpaaDoor
open Go.RowKit
set_option linter.unusedVariables false

section
variable {tn : TypeId}
end
end Go.Proofs.YtelabgonpmafpaaDoor
namespace Go.Proofs.YtelabgonpmafpaaDoor
open Go.RowKit
set_option linter.unusedVariables false

/-- bytes.Equal. -/
theorem beq_any (a b : Option Addr) (n m ca cb : Nat) (x y : List Int) (w : World) (hx : x.length = n) (hy : y.length = m) (ha : Bytes w a x) (hb : Bytes w b y) (v : Bool) (hv : v = true ↔ x = y) :
    Calls Tryd.prog 50 #[.slice a n ca, .slice b m cb] w fun e w' => e = .returned (.bool v) ∧ w' = w := by
  have c1 := conv_str ha n ca hx
  have c2 := conv_str hb m cb hy
  have hE : ((strOfNums x).toList == (strOfNums y).toList) = v := by
    rw [Bool.eq_iff_iff, hv, str_eq ha.1 hb.1, decide_eq_true_iff]
  clear hx hy ha hb hv
  generalize strOfNums x = p at *
  generalize strOfNums y = q at *
  go_enter Tryd.func50, Tryd.ntmps50
  go_wp2
  go_ret
  exact ⟨rfl, rfl⟩

/-- tree.same, at trees of a depth. -/
def SameAt (D : Nat) : Prop := ∀ (t u : Tr) (a b : Nb) (w : World) (v : Bool), Nd D w a t → Nd D w b u → (v = true ↔ t = u) → Calls Tryd.prog 35 #[.agg a.arr, .agg b.arr] w fun e w' => e = .returned (.bool v) ∧ Below w.heap.size w w'

/-- The element at i of a row, as the world has grown. -/
theorem row_el {D : Nat} {w w' : World} {a : Option Addr} {len cap : Nat} {l : List Tr} (h : RowN (Nd D w) w a len cap l) (hb : Below w.heap.size w w') {i : Nat} (hi : i < l.length) :
    ∃ (bk off : Nat) (nb : Nb), a = some ⟨bk, off, none⟩ ∧ (∀ j, j < 9 → w'.cell? ⟨bk, off + (i * 9 + j), none⟩ = nb.cells[j]?) ∧ Nd D w' nb l[i] ∧ bk < w.heap.size := by
  have hk := h.kept (R := Nd D w') hb (fun _ _ _ q => q.kept hb)
  obtain ⟨_, _, h2⟩ := h
  obtain ⟨_, _, h2'⟩ := hk
  rcases h2 with rfl | ⟨b, off, ha, hc⟩
  · cases hi
  · rcases h2' with rfl | ⟨b', off', ha', hc'⟩
    · cases hi
    · obtain ⟨nb, hn, hQ⟩ := hc' i hi
      rw [ha] at ha'
      cases ha'
      obtain ⟨nb0, hn0, _⟩ := hc i hi
      exact ⟨b, off, nb, ha, hn, hQ, some_block ((hn0 0 (by omega)).trans (List.getElem?_eq_getElem (by simp [Nb.cells])))⟩

set_option maxHeartbeats 4000000 in
set_option maxRecDepth 100000 in
theorem eqf_any {D : Nat} (ih : SameAt D) (a b : Option Addr) (n m ca cb : Nat) (x y : List Tr) (w : World) (ha : RowN (Nd D w) w a n ca x) (hb : RowN (Nd D w) w b m cb y) (v : Bool) (hv : v = true ↔ x = y) :
    Calls Tryd.prog 51 #[.slice a n ca, .slice b m cb, .func (.func 35) #[] #[]] w fun e w' => e = .returned (.bool v) ∧ Below w.heap.size w w' := by
  have e36 : ∀ args w, (callFunc 35 args).run Tryd.prog w = .ok (.enter 35 args) w := enters_of Tryd.func35 (by kernel_rfl) rfl
  have hx : Hid (x.length = n) := ha.1
  have hy : Hid (y.length = m) := hb.1
  have mk := ha.2.1.1
  have mk' := ha.2.1.2.1
  have mi := hb.2.1.1
  have mi' := hb.2.1.2.1
  unfold maxLen at mk' mi'
  have hA : Hid (RowN (Nd D w) w a n ca x) := ha
  have hB : Hid (RowN (Nd D w) w b m cb y) := hb
  have hV : Hid (v = true ↔ x = y) := hv
  clear ha hb hv
  by_cases hnm : n = m
  · subst hnm
    go_enter Tryd.func51, Tryd.ntmps51
    go_wp2
    go_loopw [7, 8, 9, 17] (fun _ _ _ s17 wr => ∃ (i : Nat), i ≤ n ∧ s17 = .int .i64 i ∧ Hid (Below w.heap.size w wr) ∧ Hid (x.take i = y.take i)) (fun _ _ _ i _ => n - (intOf i).toNat)
    case atStart => exact ⟨0, Nat.zero_le _, rfl, Below.refl _ _, rfl⟩
    case round =>
      obtain ⟨i, him, rfl, hbl, hT⟩ := hrel
      by_cases hlt : i < n
      · have hz : (i : Int) < (n : Int) := by omega
        have hix : i < x.length := by rw [hx.out]; exact hlt
        have hiy : i < y.length := by rw [hy.out]; exact hlt
        obtain ⟨bk, ok, nk, rfl, hck, hNk, hbk⟩ := row_el hA.out hbl.out hix
        obtain ⟨bi, oi, ni, rfl, hci, hNi, hbi⟩ := row_el hB.out hbl.out hiy
        obtain ⟨f0, f1, f2, f3, f4, f5, f6, f7, f8⟩ := elem_fields hck
        obtain ⟨p0, p1, p2, p3, p4, p5, p6, p7, p8⟩ := elem_fields hci
        have hw : Hid (w.heap.size ≤ wr.heap.size) := hbl.out.size
        have lk : bk < wr.heap.size := Nat.lt_of_lt_of_le hbk hbl.out.size
        have li : bi < wr.heap.size := Nat.lt_of_lt_of_le hbi hbl.out.size
        have b1 := alloc_below wr (.cells nk.arr 26)
        have b2 := alloc_below (wr.alloc (.cells nk.arr 26)) (.cells ni.arr 26)
        have b12 : Hid (Below wr.heap.size wr ((wr.alloc (.cells nk.arr 26)).alloc (.cells ni.arr 26))) := b1.trans (b2.mono b1.size)
        have kk := fun v' => ih x[i] y[i] nk ni ((wr.alloc (.cells nk.arr 26)).alloc (.cells ni.arr 26)) v' ((hNk.kept b1).kept b2) ((hNi.kept b1).kept b2)
        have wi : IntKind.i64.wrap ((i : Int) + 1) = (i : Int) + 1 := by rw [IntKind.wrap_i64]; omega
        by_cases hE : x[i] = y[i]
        · have k1 := kk true (by simp [hE])
          have hT' : Hid (x.take (i + 1) = y.take (i + 1)) := by
            show _ = _
            rw [List.take_succ_eq_append_getElem hix, List.take_succ_eq_append_getElem hiy, hT.out, hE]
          clear hck hci hNk hNi kk hE b1 b2 hbk hbi ih
          go_wp2_with (go_at_fn 35; refine k1.mono ?_; rintro e w1 ⟨rfl, hb1⟩)
          go_roundw
          case rel => exact ⟨i + 1, by omega, by go_num, (hbl.out.trans (b12.out.mono hw.out)).trans (hb1.mono (Nat.le_trans hw.out b12.out.size)), hT'⟩
          case measure => simp [intOf]; omega
        · have k1 := kk false (by simp [hE])
          have hv : v = false := by
            cases hv : v with
            | false => rfl
            | true =>
              exfalso
              have := hV.out.1 hv
              subst this
              exact hE rfl
          subst hv
          clear hck hci hNk hNi kk hE b1 b2 hbk hbi ih
          go_wp2_with (go_at_fn 35; refine k1.mono ?_; rintro e w1 ⟨rfl, hb1⟩)
          go_ret
          exact ⟨rfl, (hbl.out.trans (b12.out.mono hw.out)).trans (hb1.mono (Nat.le_trans hw.out b12.out.size))⟩
      · have hz : ¬ (i : Int) < (n : Int) := by omega
        have hv : v = true := hV.out.2 (by
          have h1 := hT.out
          rwa [List.take_of_length_le (by rw [hx.out]; omega), List.take_of_length_le (by rw [hy.out]; omega)] at h1)
        subst hv
        clear ih
        go_wp2
        go_ret
        exact ⟨rfl, hbl.out⟩
  · have hv : v = false := by
      cases hv : v with
      | false => rfl
      | true =>
        exfalso
        have h1 := hV.out.1 hv
        apply hnm
        rw [← hx.out, ← hy.out, h1]
    subst hv
    have hz : (n : Int) ≠ (m : Int) := by omega
    clear ih
    go_enter Tryd.func51, Tryd.ntmps51
    go_wp2
    go_ret
    exact ⟨rfl, Below.refl _ _⟩
end Go.Proofs.YtelabgonpmafpaaDoor
namespace Go.Proofs.YtelabgonpmafpaaDoor
open Go.RowKit
set_option linter.unusedVariables false

/-- A ROW OF TREES IN NEW MEMORY, each in blocks of its own: its blocks are f. -/
def FreshR (B D : Nat) (w : World) (a : Option Addr) (n c : Nat) (l : List Tr) (f : List Nat) : Prop :=
  RowN (NdS (· ∈ f) D w) w a n c l ∧ In (· ∈ f) a n ∧ FrR 26 (FrD 26 D w) w a n f ∧ f.Nodup ∧ ∀ k ∈ f, B ≤ k ∧ k < w.heap.size
/-- A TREE IN NEW MEMORY. -/
def Fresh (B D : Nat) (w : World) (b : Nb) (t : Tr) (f : List Nat) : Prop :=
  NdS (· ∈ f) D w b t ∧ FrD 26 D w b f ∧ f.Nodup ∧ ∀ k ∈ f, B ≤ k ∧ k < w.heap.size
theorem Fresh.kept {B D : Nat} {w w' : World} {b : Nb} {t : Tr} {f : List Nat} (h : Fresh B D w b t f) (hb : Below w.heap.size w w') : Fresh B D w' b t f :=
  ⟨h.1.below hb fun k hk => (h.2.2.2 k hk).2, h.2.1.stays fun k hk => hb.block k (h.2.2.2 k hk).2, h.2.2.1, fun k hk => ⟨(h.2.2.2 k hk).1, Nat.lt_of_lt_of_le (h.2.2.2 k hk).2 hb.size⟩⟩
theorem FreshR.kept {B D : Nat} {w w' : World} {a : Option Addr} {n c : Nat} {l : List Tr} {f : List Nat} (h : FreshR B D w a n c l f) (hb : Below w.heap.size w w') : FreshR B D w' a n c l f :=
  ⟨h.1.stays h.2.1 (fun k hk => hb.block k (h.2.2.2.2 k hk).2) fun _ _ _ q => q.below hb fun k hk => (h.2.2.2.2 k hk).2, h.2.1, h.2.2.1.stays (fun k hk => hb.block k (h.2.2.2.2 k hk).2) fun _ e he q => q.stays fun k hk => hb.block k (h.2.2.2.2 k (he k hk)).2, h.2.2.2.1, fun k hk => ⟨(h.2.2.2.2 k hk).1, Nat.lt_of_lt_of_le (h.2.2.2.2 k hk).2 hb.size⟩⟩

/-- What has been cloned so far. -/
def ClSt (B D : Nat) (w : World) (v : Value) (l : List Tr) (bs : List Nb) (fs : List (List Nat)) : Prop :=
  OwnsN 26 w B v bs ∧ bs.length = fs.length ∧ bs.length = l.length ∧ (∀ j (h : j < bs.length) (h2 : j < fs.length) (h3 : j < l.length), NdS (· ∈ fs[j]) D w bs[j] l[j] ∧ FrD 26 D w bs[j] fs[j]) ∧ fs.flatten.Nodup ∧ ∀ k ∈ fs.flatten, B ≤ k ∧ k < w.heap.size ∧ v.ownBlock ≠ some k
theorem ClSt.next {B D B2 : Nat} {w w2 w3 w4 : World} {v v' : Value} {l : List Tr} {bs : List Nb} {fs : List (List Nat)} {x : Tr} {nb : Nb} {f : List Nat} (h : ClSt B D w v l bs fs) (hw2 : Below w.heap.size w w2) (hF : Fresh B2 D w2 nb x f) (hB : B ≤ w.heap.size) (hB2 : w.heap.size ≤ B2)
    (hw3 : Below w2.heap.size w2 w3) (ho : OwnsN 26 w4 B v' (bs ++ [nb])) (hg : w3.grownBy w4 v.ownBlock) (hn : ∀ g, v'.ownBlock = some g → v.ownBlock = some g ∨ w3.heap.size ≤ g) : ClSt B D w4 v' (l ++ [x]) (bs ++ [nb]) (fs ++ [f]) := by
  obtain ⟨h0, h1, h2, h3, h4, h5⟩ := h
  have hlt := fun g => World.ownsRow.lt h0 g
  have old : ∀ k, k < w.heap.size → v.ownBlock ≠ some k → w4.heap[k]? = w.heap[k]? := fun k hk hne => by
    rw [hg.block k (Nat.lt_of_lt_of_le hk (Nat.le_trans hw2.size hw3.size)) (fun e => hne e.symm), hw3.block k (Nat.lt_of_lt_of_le hk hw2.size), hw2.block k hk]
  have new : ∀ k, k ∈ f → w4.heap[k]? = w2.heap[k]? := fun k hk => by
    have hk' := hF.2.2.2 k hk
    rw [hg.block k (Nat.lt_of_lt_of_le hk'.2 hw3.size) (fun e => by have := (hlt k e.symm).2; omega), hw3.block k hk'.2]
  have hsz : w2.heap.size ≤ w4.heap.size := Nat.le_trans hw3.size hg.size
  refine ⟨ho, by simp [h1], by simp [h2], fun j hj hj2 hj3 => ?_, ?_, fun k hk => ?_⟩
  · by_cases hjl : j < bs.length
    · rw [List.getElem_append_left hjl, List.getElem_append_left (by omega), List.getElem_append_left (by omega)]
      have hq := h3 j hjl (by omega) (by omega)
      have hm : ∀ k, k ∈ fs[j]'(by omega) → k ∈ fs.flatten := fun k hk => List.mem_flatten.2 ⟨_, List.getElem_mem _, hk⟩
      exact ⟨hq.1.stays fun k hk => old k (h5 k (hm k hk)).2.1 (h5 k (hm k hk)).2.2, hq.2.stays fun k hk => old k (h5 k (hm k hk)).2.1 (h5 k (hm k hk)).2.2⟩
    · have e : j = bs.length := by simp at hj; omega
      subst e
      rw [List.getElem_append_right (Nat.le_refl _), List.getElem_append_right (by omega), List.getElem_append_right (by omega)]
      simp only [h1, h2 ▸ h1, Nat.sub_self]
      simp only [List.getElem_cons_zero]
      exact ⟨hF.1.stays new, hF.2.1.stays new⟩
  · rw [List.flatten_append, List.flatten_cons, List.flatten_nil, List.append_nil]
    refine List.nodup_append.2 ⟨h4, hF.2.2.1, fun x hx y hy e => ?_⟩
    subst e
    have := (h5 x hx).2.1
    have := (hF.2.2.2 x hy).1
    omega
  · rw [List.flatten_append, List.flatten_cons, List.flatten_nil, List.append_nil, List.mem_append] at hk
    rcases hk with hk | hk
    · have h6 := h5 k hk
      refine ⟨h6.1, by have := hw2.size; omega, fun e => ?_⟩
      rcases hn k e with e | e
      · exact h6.2.2 e
      · have := hw3.size; have := hw2.size; omega
    · have h6 := hF.2.2.2 k hk
      refine ⟨by omega, by omega, fun e => ?_⟩
      rcases hn k e with e | e
      · have := (hlt k e).2; omega
      · have := hw3.size; omega
end Go.Proofs.YtelabgonpmafpaaDoor
namespace Go.Proofs.YtelabgonpmafpaaDoor
end Go.Proofs.YtelabgonpmafpaaDoor
namespace Go.Proofs.YtelabgonpmafpaaDoor
open Go.RowKit
set_option linter.unusedVariables false
/-- A node of which all is zero. -/
def zN : Nb := ⟨0, 0, false, ⟨#[]⟩, 0, ⟨#[]⟩, none, 0, 0, none, 0, 0, none, 0, 0⟩
def zT : Tr := ⟨0, 0, false, ⟨#[]⟩, 0, ⟨#[]⟩, [], [], []⟩
theorem setk {w : World} {g j k : Nat} (h : k ≠ g) (v : Value) : (w.setCell ⟨g, j, none⟩ v).heap[k]? = w.heap[k]? := Below.heap_setCell w ⟨g, j, none⟩ v k h
end Go.Proofs.YtelabgonpmafpaaDoor
namespace Go.Proofs.YtelabgonpmafpaaDoor
open Go.RowKit
set_option linter.unusedVariables false

/-- Two boxes, and a world in which only they have turned. -/
structure Bx (W w : World) (g1 g2 : Nat) (b c : Nb) : Prop where
  one : NBox w g1 b
  two : NBox w g2 c
  kp : Kp (fun k => k = g1 ∨ k = g2) W w
theorem Bx.call {W w w' : World} {g1 g2 : Nat} {b c : Nb} (h : Bx W w g1 g2 b c) (hb : Below w.heap.size w w') : Bx W w' g1 g2 b c :=
  ⟨h.one.kept hb h.one.lt, h.two.kept hb h.two.lt, h.kp.trans (Kp.of hb)⟩
theorem Bx.grown {W w w' : World} {g1 g2 : Nat} {b c : Nb} (h : Bx W w g1 g2 b c) (hb : w.grownBy w' none) : Bx W w' g1 g2 b c :=
  h.call ⟨hb.os, hb.tape, hb.output, hb.size, fun k hk => hb.block k hk (fun e => by cases e)⟩
theorem nbox_setc {w : World} {g : Nat} {b b' : Nb} (h : NBox w g b) (j : Nat) (v : Value) (hv : b'.arr = b.arr.setIfInBounds j v) : NBox (w.setCell ⟨g, j, none⟩ v) g b' := by
  unfold NBox
  rw [heap_setCell_same w g j b.arr 26 v h, hv]
theorem Bx.set {W w : World} {g1 g2 : Nat} {b c : Nb} (h : Bx W w g1 g2 b c) (hne : g1 ≠ g2) (b' : Nb) (j : Nat) (v : Value) (hv : b'.arr = b.arr.setIfInBounds j v) : Bx W (w.setCell ⟨g1, j, none⟩ v) g1 g2 b' c :=
  ⟨nbox_setc h.one j v hv, h.two.same (setk (Ne.symm hne) v), h.kp.trans ⟨rfl, rfl, rfl, by simp [World.setCell], fun k _ hc => setk (fun e => hc (.inl e)) v⟩⟩
theorem Bx.set2 {W w : World} {g1 g2 : Nat} {b c : Nb} (h : Bx W w g1 g2 b c) (hne : g1 ≠ g2) (c' : Nb) (j : Nat) (v : Value) (hv : c'.arr = c.arr.setIfInBounds j v) : Bx W (w.setCell ⟨g2, j, none⟩ v) g1 g2 b c' :=
  ⟨h.one.same (setk hne v), nbox_setc h.two j v hv, h.kp.trans ⟨rfl, rfl, rfl, by simp [World.setCell], fun k _ hc => setk (fun e => hc (.inr e)) v⟩⟩
/-- A node written whole into a box. -/
theorem Bx.put {W w : World} {g1 g2 : Nat} {b c : Nb} (h : Bx W w g1 g2 b c) (hne : g1 ≠ g2) (x : Nb) :
    Bx W (((((((((w.setCell ⟨g2, 0, none⟩ (.int .i64 x.kind)).setCell ⟨g2, 1, none⟩ (.int .u64 x.num)).setCell ⟨g2, 2, none⟩ (.bool x.neg)).setCell ⟨g2, 3, none⟩ (.string x.dig)).setCell ⟨g2, 4, none⟩ (.int .i64 x.exp)).setCell ⟨g2, 5, none⟩ (.string x.txt)).setCell ⟨g2, 6, none⟩ (.slice x.ab x.lb x.cb)).setCell ⟨g2, 7, none⟩ (.slice x.ak x.lk x.ck)).setCell ⟨g2, 8, none⟩ (.slice x.ai x.li x.ci)) g1 g2 b x := by
  obtain ⟨x0, x1, x2, x3, x4, x5, xa, xb, xc, xd, xe, xf, xg, xh, xi⟩ := x
  obtain ⟨c0, c1, c2, c3, c4, c5, ca, cb, cc, cd, ce, cf, cg, ch, ci⟩ := c
  exact ((((((((h.set2 hne ⟨x0, c1, c2, c3, c4, c5, ca, cb, cc, cd, ce, cf, cg, ch, ci⟩ 0 _ rfl).set2 hne ⟨x0, x1, c2, c3, c4, c5, ca, cb, cc, cd, ce, cf, cg, ch, ci⟩ 1 _ rfl).set2 hne ⟨x0, x1, x2, c3, c4, c5, ca, cb, cc, cd, ce, cf, cg, ch, ci⟩ 2 _ rfl).set2 hne ⟨x0, x1, x2, x3, c4, c5, ca, cb, cc, cd, ce, cf, cg, ch, ci⟩ 3 _ rfl).set2 hne ⟨x0, x1, x2, x3, x4, c5, ca, cb, cc, cd, ce, cf, cg, ch, ci⟩ 4 _ rfl).set2 hne ⟨x0, x1, x2, x3, x4, x5, ca, cb, cc, cd, ce, cf, cg, ch, ci⟩ 5 _ rfl).set2 hne ⟨x0, x1, x2, x3, x4, x5, xa, xb, xc, cd, ce, cf, cg, ch, ci⟩ 6 _ rfl).set2 hne ⟨x0, x1, x2, x3, x4, x5, xa, xb, xc, xd, xe, xf, cg, ch, ci⟩ 7 _ rfl).set2 hne ⟨x0, x1, x2, x3, x4, x5, xa, xb, xc, xd, xe, xf, xg, xh, xi⟩ 8 _ rfl
theorem FreshR.kp {C : Nat → Prop} {B D : Nat} {w w' : World} {a : Option Addr} {n c : Nat} {l : List Tr} {f : List Nat} (h : FreshR B D w a n c l f) (hk : Kp C w w') (hC : ∀ k, C k → k < B) : FreshR B D w' a n c l f := by
  have hs : ∀ k, k ∈ f → w'.heap[k]? = w.heap[k]? := fun k hk' => hk.block k (h.2.2.2.2 k hk').2 (fun hc => by have := hC k hc; have := (h.2.2.2.2 k hk').1; omega)
  exact ⟨h.1.stays h.2.1 hs fun _ _ _ q => q.stays hs, h.2.1, h.2.2.1.stays hs fun _ e he q => q.stays fun k hk' => hs k (he k hk'), h.2.2.2.1, fun k hk' => ⟨(h.2.2.2.2 k hk').1, Nat.lt_of_lt_of_le (h.2.2.2.2 k hk').2 hk.size⟩⟩
/-- Bytes of one's own, in a block of their own. -/
theorem OwnsB.fr {w : World} {base : Nat} {a : Option Addr} {n c : Nat} {zs : List Int} (h : OwnsB w base (.slice a n c) zs) : ∃ f0, FrB w a n f0 ∧ In (· ∈ f0) a n ∧ f0.Nodup ∧ ∀ k ∈ f0, base ≤ k ∧ k < w.heap.size := by
  obtain ⟨⟨hl, hv⟩, hz⟩ := h
  rcases hv with ⟨e, hn⟩ | ⟨g, cap, cur, e, hb, hg, hnc, hcm, hcs, htk⟩
  · cases e
    exact ⟨[], .inl ⟨rfl, rfl⟩, (fun h => by cases h), by simp, fun k hk => by cases hk⟩
  · cases e
    by_cases h0 : zs.length = 0
    · exact ⟨[], .inl ⟨h0, rfl⟩, fun h => by omega, by simp, fun k hk => by cases hk⟩
    · refine ⟨[g], .inr ⟨g, cur, rfl, rfl, hg, by rw [hcs]; omega, fun i hi => ?_⟩, fun _ x hx => by cases hx; exact List.mem_singleton.2 rfl, by simp, fun k hk => ?_⟩
      · have h1 : (cur.toList.take (zs.length * 1))[i]? = (zs.map (Value.int .u8))[i]? := by rw [htk]
        rw [List.getElem?_take, if_pos (by omega), List.getElem?_map, List.getElem?_eq_getElem hi] at h1
        exact ⟨zs[i], by rw [← Array.getElem?_toList]; exact h1, hz _ (List.getElem_mem hi)⟩
      · rw [List.mem_singleton] at hk
        subst hk
        exact ⟨hb, (Array.getElem?_eq_some_iff.1 hg).1⟩
theorem FrB.kp {C : Nat → Prop} {w w' : World} {a : Option Addr} {n : Nat} {f : List Nat} (h : FrB w a n f) (hk : Kp C w w') (hf : ∀ k ∈ f, k < w.heap.size ∧ ¬ C k) : FrB w' a n f := h.stays fun k hk' => hk.block k (hf k hk').1 (hf k hk').2
theorem Bytes.kp {C : Nat → Prop} {w w' : World} {a : Option Addr} {zs : List Int} {f : List Nat} (h : Bytes w a zs) (hi : In (· ∈ f) a zs.length) (hk : Kp C w w') (hf : ∀ k ∈ f, k < w.heap.size ∧ ¬ C k) : Bytes w' a zs := h.stays hi fun k hk' => hk.block k (hf k hk').1 (hf k hk').2

end Go.Proofs.YtelabgonpmafpaaDoor
