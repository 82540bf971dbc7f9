/-
  Rows of nodes: nine cells each; read, made, appended to.
  A node of a row, loaded whole, and written over in a row of the call's own.
  A tree in memory, and the blocks in which it lies: it stays as long as these blocks stay.
  A node by value in a box; worlds in which all but some blocks stay as they were.
  Which trees may be, as plain data: the fault of the first node that has one, and keys that stand twice.
  All nodes of a tree with their depths, in the order in which they are gone over; going over them as long as more is wanted; and what is told so: how many there are, how deep they lie, the first fault, keys that stand twice.
  Going over all nodes of a tree: tree.each, whatever it hands each node to.
  tree.each: the function to which nodes are handed wants no more at once.
  tree.each: it wants more.
  tree.each: it wants more.
  How many nodes a tree has, and how deep it is: tree.each put together, tree.measure, Few, Size, Deep.
-/
import Derived.Test.YtmlacmoembjeoaaGreatDoorG1
import Derived.Deep.DeepAppendWide
import Derived.Laws.AppendOwnNone
import Derived.Laws.CopyRow
import Derived.Laws.CopyOwn
import Derived.Laws.Cells
import Derived.Shelf.Abstract
namespace Go.Proofs.YtmlacmoembjeoaaGreatDoor
open Go.RowKit
set_option linter.unusedVariables false

/-- The cells of nodes, one behind another. -/
def Cs (bs : List Nb) : List Value := bs.flatMap Nb.cells
theorem nb_nine (b : Nb) : b.cells.length = 9 := rfl
theorem cs_nil : Cs [] = [] := rfl
theorem cs_cons (b : Nb) (bs : List Nb) : Cs (b :: bs) = b.cells ++ Cs bs := rfl
theorem cs_app (l m : List Nb) : Cs (l ++ m) = Cs l ++ Cs m := List.flatMap_append
theorem cs_len (bs : List Nb) : (Cs bs).length = bs.length * 9 := by
  induction bs with
  | nil => rfl
  | cons b r ih => rw [cs_cons, List.length_append, ih, nb_nine, List.length_cons]; omega
theorem cs_get : ∀ (bs : List Nb) {i j : Nat} (h : i < bs.length) (hj : j < 9), (Cs bs)[i * 9 + j]? = (bs[i]).cells[j]? := by
  intro bs
  induction bs with
  | nil => intro i j h; cases h
  | cons b r ih =>
    intro i j h hj
    rw [cs_cons]
    cases i with
    | zero => rw [Nat.zero_mul, Nat.zero_add, List.getElem?_append_left (by rw [nb_nine]; exact hj)]; rfl
    | succ i =>
      rw [List.getElem?_append_right (by rw [nb_nine]; omega), nb_nine, show (i + 1) * 9 + j - 9 = i * 9 + j by omega]
      exact ih (by simpa using h) hj
theorem cell_one (b : Nb) : ∀ u ∈ b.cells, u.oneCell' = true := by
  intro u hu
  simp only [Nb.cells, List.mem_cons, List.not_mem_nil, or_false] at hu
  rcases hu with rfl | rfl | rfl | rfl | rfl | rfl | rfl | rfl | rfl <;> rfl
theorem cs_one (bs : List Nb) : ∀ u ∈ Cs bs, u.oneCell' = true := by
  intro u hu
  obtain ⟨b, _, h⟩ := List.mem_flatMap.1 hu
  exact cell_one b u h

/-- The nodes bs lie at a. -/
def Nine (w : World) (a : Option Addr) (bs : List Nb) : Prop :=
  bs = [] ∨ ∃ b off, a = some ⟨b, off, none⟩ ∧ ∀ i (h : i < bs.length) j, j < 9 → w.cell? ⟨b, off + (i * 9 + j), none⟩ = (bs[i]).cells[j]?

theorem rowN_of {Q : Nb → Tr → Prop} {w : World} {a : Option Addr} {len cap : Nat} {l : List Tr} {bs : List Nb} (hb : Nine w a bs) (hlen : bs.length = l.length) (hn : l.length = len) (hr : Room 136 a len cap)
    (hq : ∀ i (h : i < bs.length) (k : i < l.length), Q bs[i] l[i]) : RowN Q w a len cap l := by
  refine ⟨hn, hr, ?_⟩
  rcases hb with rfl | ⟨b, off, ha, hc⟩
  · exact .inl (List.eq_nil_of_length_eq_zero hlen.symm)
  · exact .inr ⟨b, off, ha, fun i hi => ⟨bs[i]'(by omega), fun j hj => hc i (by omega) j hj, hq i (by omega) hi⟩⟩
theorem Nine.news {w : World} {x : Addr} {bs : List Nb} (h : Nine w (some x) bs) : ∀ j u, (Cs bs)[j]? = some u → w.cell? (x.add j) = some u := by
  intro j u hu
  rcases h with rfl | ⟨b, off, hx, hc⟩
  · simp [Cs] at hu
  · cases hx
    have hj : j < bs.length * 9 := by
      have := (List.getElem?_eq_some_iff.1 hu).1
      rwa [cs_len] at this
    have hi : j / 9 < bs.length := by omega
    have h1 := hc (j / 9) hi (j % 9) (Nat.mod_lt _ (by omega))
    have h2 := cs_get bs hi (Nat.mod_lt j (by omega))
    rw [show j / 9 * 9 + j % 9 = j by omega] at h1 h2
    have e : (⟨b, off, none⟩ : Addr).add j = ⟨b, off + j, none⟩ := by
      by_cases h0 : j = 0
      · subst h0; simp [Addr.add]
      · simp [Addr.add, h0]
    rw [e, h1, ← h2, hu]
theorem Nine.kept {w w' : World} {a : Option Addr} {bs : List Nb} (h : Nine w a bs) (hb : Below w.heap.size w w') : Nine w' a bs := by
  rcases h with h | ⟨b, off, ha, hc⟩
  · exact .inl h
  · refine .inr ⟨b, off, ha, fun i hi j hj => ?_⟩
    have h9 := hc i hi j hj
    have hlt : b < w.heap.size := some_block (h9.trans (List.getElem?_eq_getElem (by simpa [Nb.cells] using hj)))
    rw [hb.cell (p := ⟨b, off + (i * 9 + j), none⟩) hlt]
    exact h9

/-- Nodes in new memory. -/
def OwnsN (tn : TypeId) (w : World) (base : Nat) (v : Value) (bs : List Nb) : Prop := w.ownsRow base tn 9 v bs.length (Cs bs)
section
variable {tn : TypeId}
theorem ownsN_nil (w : World) (base : Nat) : OwnsN tn w base (.slice none 0 0) [] := World.ownsRow_nil w base tn 9
theorem OwnsN.shape {w : World} {base : Nat} {v : Value} {bs : List Nb} (h : OwnsN tn w base v bs) :
    ∃ a cap, v = .slice a bs.length cap ∧ (bs.length ≤ cap ∧ cap ≤ maxLen ∧ (a = none → cap = 0)) ∧ Nine w a bs ∧ (∀ x, a = some x → base ≤ x.block ∧ x.block < w.heap.size ∧ x.off = 0 ∧ x.spot = none) := by
  obtain ⟨hl, hv⟩ := h
  rcases hv with ⟨rfl, hn⟩ | ⟨g, cap, cur, rfl, hb, hg, hnc, hcm, hcs, htk⟩
  · have h0 : bs = [] := List.eq_nil_of_length_eq_zero hn
    subst h0
    exact ⟨none, 0, rfl, ⟨Nat.le_refl _, Nat.zero_le _, fun _ => rfl⟩, .inl rfl, fun x hx => by cases hx⟩
  · refine ⟨some ⟨g, 0, none⟩, cap, rfl, ⟨hnc, hcm, fun hx => by cases hx⟩, .inr ⟨g, 0, rfl, fun i hi j hj => ?_⟩, ?_⟩
    · rw [Nat.zero_add, cell_row hg, ← Array.getElem?_toList, ← cs_get bs hi hj, ← htk, List.getElem?_take, if_pos (by omega)]
    · intro x hx
      cases hx
      exact ⟨hb, (Array.getElem?_eq_some_iff.1 hg).1, rfl, rfl⟩
theorem OwnsN.below {w w' : World} {base : Nat} {v : Value} {bs : List Nb} (h : OwnsN tn w base v bs) (hb : Below w.heap.size w w') : OwnsN tn w' base v bs :=
  World.ownsRow.kept (row := none) h ⟨hb.os, hb.tape, hb.output, hb.size, fun k hk _ => hb.block k hk⟩ (by cases hv : v.ownBlock <;> simp)
end
end Go.Proofs.YtmlacmoembjeoaaGreatDoor
namespace Go.Proofs.YtmlacmoembjeoaaGreatDoor
open Go.RowKit
set_option linter.unusedVariables false

section
variable {tn : TypeId}
end
end Go.Proofs.YtmlacmoembjeoaaGreatDoor
namespace Go.Proofs.YtmlacmoembjeoaaGreatDoor
open Go.RowKit
set_option linter.unusedVariables false

/-- Where a slice with elements lies. -/
def In (S : Nat → Prop) (a : Option Addr) (len : Nat) : Prop := 0 < len → ∀ x, a = some x → S x.block
theorem In.mono {S R : Nat → Prop} {a : Option Addr} {len : Nat} (h : In S a len) (hs : ∀ k, S k → R k) : In R a len := fun h0 x hx => hs _ (h h0 x hx)

/-- A node in memory that lies in the blocks S, whole. -/
def NdS (S : Nat → Prop) : Nat → World → Nb → Tr → Prop
  | 0, _, _, _ => False
  | d + 1, w, b, t => (b.kind = t.kind ∧ b.num = t.num ∧ b.neg = t.neg ∧ b.dig = t.dig ∧ b.exp = t.exp ∧ b.txt = t.txt) ∧
    ((Lit.int .i64 t.kind).wf = true ∧ (Lit.int .u64 t.num).wf = true ∧ (Lit.int .i64 t.exp).wf = true ∧ t.dig.size ≤ 140737488351232 ∧ t.txt.size ≤ 140737488351232) ∧
    (t.bytes.length = b.lb ∧ Room 1 b.ab b.lb b.cb ∧ Bytes w b.ab t.bytes) ∧
    (In S b.ab b.lb ∧ In S b.ak b.lk ∧ In S b.ai b.li) ∧
    RowN (NdS S d w) w b.ak b.lk b.ck t.keys ∧ RowN (NdS S d w) w b.ai b.li b.ci t.kids

theorem NdS.nd {S : Nat → Prop} : ∀ {d : Nat} {w : World} {b : Nb} {t : Tr}, NdS S d w b t → Nd d w b t := by
  intro d
  induction d with
  | zero => intro w b t h; exact h
  | succ d ih =>
    intro w b t h
    obtain ⟨h0, h1, h2, _, h3, h4⟩ := h
    exact ⟨h0, h1, h2, h3.mono fun _ _ _ q => ih q, h4.mono fun _ _ _ q => ih q⟩
theorem NdS.mono {S R : Nat → Prop} (hs : ∀ k, S k → R k) : ∀ {d : Nat} {w : World} {b : Nb} {t : Tr}, NdS S d w b t → NdS R d w b t := by
  intro d
  induction d with
  | zero => intro w b t h; exact h
  | succ d ih =>
    intro w b t h
    obtain ⟨h0, h1, h2, ⟨i0, i1, i2⟩, h3, h4⟩ := h
    exact ⟨h0, h1, h2, ⟨i0.mono hs, i1.mono hs, i2.mono hs⟩, h3.mono fun _ _ _ q => ih q, h4.mono fun _ _ _ q => ih q⟩
theorem ndS_succ {S : Nat → Prop} : ∀ (d : Nat) {w : World} {b : Nb} {t : Tr}, NdS S d w b t → NdS S (d + 1) w b t := by
  intro d
  induction d with
  | zero => intro w b t h; exact absurd h id
  | succ d ih =>
    intro w b t h
    obtain ⟨h0, h1, h2, i, h3, h4⟩ := h
    exact ⟨h0, h1, h2, i, h3.mono fun _ _ _ q => ih q, h4.mono fun _ _ _ q => ih q⟩
theorem NdS.le {S : Nat → Prop} {d e : Nat} {w : World} {b : Nb} {t : Tr} (h : NdS S d w b t) (hle : d ≤ e) : NdS S e w b t := by
  induction hle with
  | refl => exact h
  | step _ ih => exact ndS_succ _ ih

theorem bytes_in {w : World} {a : Option Addr} {zs : List Int} (hb : Bytes w a zs) : In (· < w.heap.size) a zs.length := by
  intro h0 x hx
  rcases hb.2.2 with rfl | ⟨b, off, ha, hc⟩
  · cases h0
  · rw [ha] at hx
    cases hx
    exact some_block (hc 0 h0)
theorem RowN.in {Q : Nb → Tr → Prop} {w : World} {a : Option Addr} {len cap : Nat} {l : List Tr} (h : RowN Q w a len cap l) : In (· < w.heap.size) a len := by
  intro h0 x hx
  obtain ⟨hl, _, h2⟩ := h
  rcases h2 with rfl | ⟨b, off, ha, hc⟩
  · rw [← hl] at h0; cases h0
  · rw [ha] at hx
    cases hx
    obtain ⟨nb, hn, _⟩ := hc 0 (by omega)
    exact some_block ((hn 0 (by omega)).trans (List.getElem?_eq_getElem (by simp [Nb.cells])))
/-- IT STAYS AS LONG AS ITS BLOCKS STAY. -/
theorem Bytes.stays {w w' : World} {S : Nat → Prop} {a : Option Addr} {zs : List Int} (hb : Bytes w a zs) (hi : In S a zs.length) (h : ∀ k, S k → w'.heap[k]? = w.heap[k]?) : Bytes w' a zs := by
  obtain ⟨h0, h1, h2⟩ := hb
  refine ⟨h0, h1, ?_⟩
  rcases h2 with h2 | ⟨b, off, rfl, hc⟩
  · exact .inl h2
  · refine .inr ⟨b, off, rfl, fun i hi' => ?_⟩
    rw [World.cell?_of_block (w := w) (a := ⟨b, off + i, none⟩) (h b (hi (by omega) _ rfl))]
    exact hc i hi'
theorem RowN.stays {Q R : Nb → Tr → Prop} {S : Nat → Prop} {w w' : World} {a : Option Addr} {len cap : Nat} {l : List Tr} (h : RowN Q w a len cap l) (hi : In S a len) (hb : ∀ k, S k → w'.heap[k]? = w.heap[k]?) (hq : ∀ b t, t ∈ l → Q b t → R b t) : RowN R w' a len cap l := by
  obtain ⟨h0, h1, h2⟩ := h
  refine ⟨h0, h1, ?_⟩
  rcases h2 with h2 | ⟨b, off, ha, hc⟩
  · exact .inl h2
  · refine .inr ⟨b, off, ha, fun i hi' => ?_⟩
    obtain ⟨nb, hn, hQ⟩ := hc i hi'
    refine ⟨nb, fun j hj => ?_, hq _ _ (List.getElem_mem hi') hQ⟩
    rw [World.cell?_of_block (w := w) (a := ⟨b, off + (i * 9 + j), none⟩) (hb b (hi (by omega) _ ha))]
    exact hn j hj
theorem NdS.stays {S : Nat → Prop} : ∀ {d : Nat} {w w' : World} {b : Nb} {t : Tr}, NdS S d w b t → (∀ k, S k → w'.heap[k]? = w.heap[k]?) → NdS S d w' b t := by
  intro d
  induction d with
  | zero => intro w w' b t h _; exact h
  | succ d ih =>
    intro w w' b t h hb
    obtain ⟨h0, h1, ⟨h2, h2', h2''⟩, ⟨i0, i1, i2⟩, h3, h4⟩ := h
    exact ⟨h0, h1, ⟨h2, h2', h2''.stays (by rw [h2]; exact i0) hb⟩, ⟨i0, i1, i2⟩, h3.stays i1 hb fun _ _ _ q => ih q hb, h4.stays i2 hb fun _ _ _ q => ih q hb⟩
/-! ### A tree that may be written over -/

end Go.Proofs.YtmlacmoembjeoaaGreatDoor
namespace Go.Proofs.YtmlacmoembjeoaaGreatDoor
open Go.RowKit
set_option linter.unusedVariables false

/-- A node's cells as a row. -/
def Nb.arr (b : Nb) : Array Value := #[.int .i64 b.kind, .int .u64 b.num, .bool b.neg, .string b.dig, .int .i64 b.exp, .string b.txt, .slice b.ab b.lb b.cb, .slice b.ak b.lk b.ck, .slice b.ai b.li b.ci]
theorem Nb.arr_eq (b : Nb) : b.arr = b.cells.toArray := rfl
/-- A box: a block that holds a node, nothing else. -/
def NBox (w : World) (g : Nat) (b : Nb) : Prop := w.heap[g]? = some (.cells b.arr 26 (0, 0))
theorem NBox.lt {w : World} {g : Nat} {b : Nb} (h : NBox w g b) : g < w.heap.size := (Array.getElem?_eq_some_iff.1 h).1
theorem NBox.cell {w : World} {g : Nat} {b : Nb} (h : NBox w g b) (j : Nat) : w.cell? ⟨g, j, none⟩ = b.cells[j]? := by
  rw [cell_row h, Nb.arr_eq]; simp
theorem NBox.fz {w : World} {g : Nat} {b : Nb} (h : NBox w g b) (j : Nat) : w.frozen? ⟨g, j, none⟩ = false := by
  unfold NBox at h
  simp [World.frozen?, h]
theorem NBox.same {w w' : World} {g : Nat} {b : Nb} (h : NBox w g b) (hb : w'.heap[g]? = w.heap[g]?) : NBox w' g b := by
  unfold NBox; rw [hb]; exact h
theorem NBox.kept {w w' : World} {g B : Nat} {b : Nb} (h : NBox w g b) (hb : Below B w w') (hg : g < B) : NBox w' g b := h.same (hb.block g hg)
theorem nbox_new (w : World) (b : Nb) : NBox (w.alloc (.cells b.arr 26)) w.heap.size b := heap_alloc_new w _
/-- What the walk reads of a box: its fields. -/
theorem NBox.fields {w : World} {g : Nat} {b : Nb} (h : NBox w g b) :
    w.cell? ⟨g, 0, none⟩ = some (.int .i64 b.kind) ∧ w.cell? ⟨g, 1, none⟩ = some (.int .u64 b.num) ∧ w.cell? ⟨g, 2, none⟩ = some (.bool b.neg) ∧ w.cell? ⟨g, 3, none⟩ = some (.string b.dig) ∧ w.cell? ⟨g, 4, none⟩ = some (.int .i64 b.exp) ∧ w.cell? ⟨g, 5, none⟩ = some (.string b.txt) ∧ w.cell? ⟨g, 6, none⟩ = some (.slice b.ab b.lb b.cb) ∧ w.cell? ⟨g, 7, none⟩ = some (.slice b.ak b.lk b.ck) ∧ w.cell? ⟨g, 8, none⟩ = some (.slice b.ai b.li b.ci) :=
  ⟨h.cell 0, h.cell 1, h.cell 2, h.cell 3, h.cell 4, h.cell 5, h.cell 6, h.cell 7, h.cell 8⟩
/-- The cells of an element of a row, as the walk reads them. -/
theorem elem_fields {w : World} {b off : Nat} {nb : Nb} {i : Nat} (h : ∀ j, j < 9 → w.cell? ⟨b, off + (i * 9 + j), none⟩ = nb.cells[j]?) :
    w.cell? ⟨b, off + i * 9, none⟩ = some (.int .i64 nb.kind) ∧ w.cell? ⟨b, off + i * 9 + 1, none⟩ = some (.int .u64 nb.num) ∧ w.cell? ⟨b, off + i * 9 + 2, none⟩ = some (.bool nb.neg) ∧ w.cell? ⟨b, off + i * 9 + 3, none⟩ = some (.string nb.dig) ∧ w.cell? ⟨b, off + i * 9 + 4, none⟩ = some (.int .i64 nb.exp) ∧ w.cell? ⟨b, off + i * 9 + 5, none⟩ = some (.string nb.txt) ∧ w.cell? ⟨b, off + i * 9 + 6, none⟩ = some (.slice nb.ab nb.lb nb.cb) ∧ w.cell? ⟨b, off + i * 9 + 7, none⟩ = some (.slice nb.ak nb.lk nb.ck) ∧ w.cell? ⟨b, off + i * 9 + 8, none⟩ = some (.slice nb.ai nb.li nb.ci) :=
  ⟨h 0 (by omega), h 1 (by omega), h 2 (by omega), h 3 (by omega), h 4 (by omega), h 5 (by omega), h 6 (by omega), h 7 (by omega), h 8 (by omega)⟩

/-- ALL BLOCKS STAY, THOSE OF C ASIDE. -/
structure Kp (C : Nat → Prop) (w w' : World) : Prop where
  os : w'.os = w.os
  tape : w'.tape = w.tape
  output : w'.output = w.output
  size : w.heap.size ≤ w'.heap.size
  block : ∀ k, k < w.heap.size → ¬ C k → w'.heap[k]? = w.heap[k]?
theorem Kp.refl (C : Nat → Prop) (w : World) : Kp C w w := ⟨rfl, rfl, rfl, Nat.le_refl _, fun _ _ _ => rfl⟩
theorem Kp.trans {C : Nat → Prop} {a b c : World} (h : Kp C a b) (k : Kp C b c) : Kp C a c :=
  ⟨k.os.trans h.os, k.tape.trans h.tape, k.output.trans h.output, Nat.le_trans h.size k.size, fun i hi hc => (k.block i (Nat.lt_of_lt_of_le hi h.size) hc).trans (h.block i hi hc)⟩
theorem Kp.below {C : Nat → Prop} {B : Nat} {w w' : World} (h : Kp C w w') (hB : B ≤ w.heap.size) (hC : ∀ k, C k → B ≤ k) : Below B w w' :=
  ⟨h.os, h.tape, h.output, h.size, fun k hk => h.block k (by omega) fun hc => by have := hC k hc; omega⟩
theorem alloc_lt (w : World) (o : Obj) : w.heap.size < (w.alloc o).heap.size := by simp
theorem alloc_below (w : World) (o : Obj) : Below w.heap.size w (w.alloc o) := (Below.refl _ _).alloc (Nat.le_refl _) o
theorem box_below {w w' : World} {o : Obj} (h : Below (w.alloc o).heap.size (w.alloc o) w') : Below w.heap.size w w' := (alloc_below w o).trans (h.mono (Nat.le_of_lt (alloc_lt w o)))
end Go.Proofs.YtmlacmoembjeoaaGreatDoor
namespace Go.Proofs.YtmlacmoembjeoaaGreatDoor
set_option linter.unusedVariables false
namespace Tr

end Tr
end Go.Proofs.YtmlacmoembjeoaaGreatDoor
namespace Go.Proofs.YtmlacmoembjeoaaGreatDoor
set_option linter.unusedVariables false
namespace Tr

/-- GOING OVER THEM, as long as more is wanted: was all wanted, and what is known behind it. -/
def go {σ : Type} (f : Tr → Nat → σ → Bool × σ) : List (Tr × Nat) → σ → Bool × σ
  | [], s => (true, s)
  | x :: l, s => if (f x.1 x.2 s).1 = true then go f l (f x.1 x.2 s).2 else (false, (f x.1 x.2 s).2)
/-! ### How many, how deep -/

/-! ### The first fault -/

/-- The fault of the node: go on, if there is none. -/
def flt (al : Tr → Int) (t : Tr) (_ : Nat) (_ : Int) : Bool × Int := (decide (al t = 0), al t)
/-! ### Keys twice -/

end Tr
end Go.Proofs.YtmlacmoembjeoaaGreatDoor
namespace Go.Proofs.YtmlacmoembjeoaaGreatDoor
open Go.RowKit
set_option linter.unusedVariables false

end Go.Proofs.YtmlacmoembjeoaaGreatDoor
namespace Go.Proofs.YtmlacmoembjeoaaGreatDoor
open Go.RowKit
set_option linter.unusedVariables false

end Go.Proofs.YtmlacmoembjeoaaGreatDoor
namespace Go.Proofs.YtmlacmoembjeoaaGreatDoor
open Go.RowKit
set_option linter.unusedVariables false

end Go.Proofs.YtmlacmoembjeoaaGreatDoor
namespace Go.Proofs.YtmlacmoembjeoaaGreatDoor
open Go.RowKit
set_option linter.unusedVariables false

end Go.Proofs.YtmlacmoembjeoaaGreatDoor
namespace Go.Proofs.YtmlacmoembjeoaaGreatDoor
open Go.RowKit
set_option linter.unusedVariables false

end Go.Proofs.YtmlacmoembjeoaaGreatDoor
