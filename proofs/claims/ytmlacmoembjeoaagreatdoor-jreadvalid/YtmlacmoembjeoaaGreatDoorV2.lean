/-
  A tree in memory, and the blocks in which it lies: it stays as long as these blocks stay.
  The types of a node in this program.
  A node by value in a box; worlds in which all but some blocks stay as they were.
  Nodes appended to nodes of the call's own: the row stays where it is, or lies in a new block.
  Bytes turned into strings, and compared: they are equal just where the bytes are.
  When two trees are the same: tree.same, with slices.EqualFunc.
  Trees in new memory: what they are; tree.cloneAll.
  The library functions of this program, held against those that the shelf knows.
  Which texts are numbers: nat.Right, and the document's.
-/
import Derived.Test.YtmlacmoembjeoaaGreatDoorV1
import Derived.Test.YtmlacmoembjeoaaGreatDoorProg
import Derived.Shelf.Abstract
import Derived.Shelf.Strings.Trim
import Derived.Shelf.Strings.BuilderK
import Derived.Shelf.Utf8.AppendRunePlain
import Derived.Shelf.LaysM
import Derived.Shelf.Strconv.Clone
import Derived.Shelf.Strings.Search1
import Derived.Shelf.Strings.Prefix
namespace Go.Proofs.YtmlacmoembjeoaaGreatDoor
open Go.RowKit
set_option linter.unusedVariables false

/-- Where a slice with elements lies. -/
def In (S : Nat → Prop) (a : Option Addr) (len : Nat) : Prop := 0 < len → ∀ x, a = some x → S x.block
theorem In.mono {S R : Nat → Prop} {a : Option Addr} {len : Nat} (h : In S a len) (hs : ∀ k, S k → R k) : In R a len := fun h0 x hx => hs _ (h h0 x hx)

/-- A node in memory that lies in the blocks S, whole. -/
def NdS (S : Nat → Prop) : Nat → World → Nb → Tr → Prop
  | 0, _, _, _ => False
  | d + 1, w, b, t => (b.kind = t.kind ∧ b.num = t.num ∧ b.neg = t.neg ∧ b.dig = t.dig ∧ b.exp = t.exp ∧ b.txt = t.txt) ∧
    ((Lit.int .i64 t.kind).wf = true ∧ (Lit.int .u64 t.num).wf = true ∧ (Lit.int .i64 t.exp).wf = true ∧ t.dig.size ≤ 140737488351232 ∧ t.txt.size ≤ 140737488351232) ∧
    (t.bytes.length = b.lb ∧ Room 1 b.ab b.lb b.cb ∧ Bytes w b.ab t.bytes) ∧
    (In S b.ab b.lb ∧ In S b.ak b.lk ∧ In S b.ai b.li) ∧
    RowN (NdS S d w) w b.ak b.lk b.ck t.keys ∧ RowN (NdS S d w) w b.ai b.li b.ci t.kids

theorem NdS.nd {S : Nat → Prop} : ∀ {d : Nat} {w : World} {b : Nb} {t : Tr}, NdS S d w b t → Nd d w b t := by
  intro d
  induction d with
  | zero => intro w b t h; exact h
  | succ d ih =>
    intro w b t h
    obtain ⟨h0, h1, h2, _, h3, h4⟩ := h
    exact ⟨h0, h1, h2, h3.mono fun _ _ _ q => ih q, h4.mono fun _ _ _ q => ih q⟩
theorem NdS.mono {S R : Nat → Prop} (hs : ∀ k, S k → R k) : ∀ {d : Nat} {w : World} {b : Nb} {t : Tr}, NdS S d w b t → NdS R d w b t := by
  intro d
  induction d with
  | zero => intro w b t h; exact h
  | succ d ih =>
    intro w b t h
    obtain ⟨h0, h1, h2, ⟨i0, i1, i2⟩, h3, h4⟩ := h
    exact ⟨h0, h1, h2, ⟨i0.mono hs, i1.mono hs, i2.mono hs⟩, h3.mono fun _ _ _ q => ih q, h4.mono fun _ _ _ q => ih q⟩
theorem ndS_succ {S : Nat → Prop} : ∀ (d : Nat) {w : World} {b : Nb} {t : Tr}, NdS S d w b t → NdS S (d + 1) w b t := by
  intro d
  induction d with
  | zero => intro w b t h; exact absurd h id
  | succ d ih =>
    intro w b t h
    obtain ⟨h0, h1, h2, i, h3, h4⟩ := h
    exact ⟨h0, h1, h2, i, h3.mono fun _ _ _ q => ih q, h4.mono fun _ _ _ q => ih q⟩
theorem NdS.le {S : Nat → Prop} {d e : Nat} {w : World} {b : Nb} {t : Tr} (h : NdS S d w b t) (hle : d ≤ e) : NdS S e w b t := by
  induction hle with
  | refl => exact h
  | step _ ih => exact ndS_succ _ ih

theorem bytes_in {w : World} {a : Option Addr} {zs : List Int} (hb : Bytes w a zs) : In (· < w.heap.size) a zs.length := by
  intro h0 x hx
  rcases hb.2.2 with rfl | ⟨b, off, ha, hc⟩
  · cases h0
  · rw [ha] at hx
    cases hx
    exact some_block (hc 0 h0)
theorem RowN.in {Q : Nb → Tr → Prop} {w : World} {a : Option Addr} {len cap : Nat} {l : List Tr} (h : RowN Q w a len cap l) : In (· < w.heap.size) a len := by
  intro h0 x hx
  obtain ⟨hl, _, h2⟩ := h
  rcases h2 with rfl | ⟨b, off, ha, hc⟩
  · rw [← hl] at h0; cases h0
  · rw [ha] at hx
    cases hx
    obtain ⟨nb, hn, _⟩ := hc 0 (by omega)
    exact some_block ((hn 0 (by omega)).trans (List.getElem?_eq_getElem (by simp [Nb.cells])))
/-- All of a tree lies in memory that is there. -/
theorem Nd.all : ∀ {d : Nat} {w : World} {b : Nb} {t : Tr}, Nd d w b t → NdS (· < w.heap.size) d w b t := by
  intro d
  induction d with
  | zero => intro w b t h; exact h
  | succ d ih =>
    intro w b t h
    obtain ⟨h0, h1, h2, h3, h4⟩ := h
    exact ⟨h0, h1, h2, ⟨by have := bytes_in h2.2.2; rwa [h2.1] at this, h3.in, h4.in⟩, h3.mono fun _ _ _ q => ih q, h4.mono fun _ _ _ q => ih q⟩

/-- IT STAYS AS LONG AS ITS BLOCKS STAY. -/
theorem Bytes.stays {w w' : World} {S : Nat → Prop} {a : Option Addr} {zs : List Int} (hb : Bytes w a zs) (hi : In S a zs.length) (h : ∀ k, S k → w'.heap[k]? = w.heap[k]?) : Bytes w' a zs := by
  obtain ⟨h0, h1, h2⟩ := hb
  refine ⟨h0, h1, ?_⟩
  rcases h2 with h2 | ⟨b, off, rfl, hc⟩
  · exact .inl h2
  · refine .inr ⟨b, off, rfl, fun i hi' => ?_⟩
    rw [World.cell?_of_block (w := w) (a := ⟨b, off + i, none⟩) (h b (hi (by omega) _ rfl))]
    exact hc i hi'
theorem RowN.stays {Q R : Nb → Tr → Prop} {S : Nat → Prop} {w w' : World} {a : Option Addr} {len cap : Nat} {l : List Tr} (h : RowN Q w a len cap l) (hi : In S a len) (hb : ∀ k, S k → w'.heap[k]? = w.heap[k]?) (hq : ∀ b t, t ∈ l → Q b t → R b t) : RowN R w' a len cap l := by
  obtain ⟨h0, h1, h2⟩ := h
  refine ⟨h0, h1, ?_⟩
  rcases h2 with h2 | ⟨b, off, ha, hc⟩
  · exact .inl h2
  · refine .inr ⟨b, off, ha, fun i hi' => ?_⟩
    obtain ⟨nb, hn, hQ⟩ := hc i hi'
    refine ⟨nb, fun j hj => ?_, hq _ _ (List.getElem_mem hi') hQ⟩
    rw [World.cell?_of_block (w := w) (a := ⟨b, off + (i * 9 + j), none⟩) (hb b (hi (by omega) _ ha))]
    exact hn j hj
theorem NdS.stays {S : Nat → Prop} : ∀ {d : Nat} {w w' : World} {b : Nb} {t : Tr}, NdS S d w b t → (∀ k, S k → w'.heap[k]? = w.heap[k]?) → NdS S d w' b t := by
  intro d
  induction d with
  | zero => intro w w' b t h _; exact h
  | succ d ih =>
    intro w w' b t h hb
    obtain ⟨h0, h1, ⟨h2, h2', h2''⟩, ⟨i0, i1, i2⟩, h3, h4⟩ := h
    exact ⟨h0, h1, ⟨h2, h2', h2''.stays (by rw [h2]; exact i0) hb⟩, ⟨i0, i1, i2⟩, h3.stays i1 hb fun _ _ _ q => ih q hb, h4.stays i2 hb fun _ _ _ q => ih q hb⟩
theorem NdS.below {S : Nat → Prop} {B : Nat} {d : Nat} {w w' : World} {b : Nb} {t : Tr} (h : NdS S d w b t) (hb : Below B w w') (hS : ∀ k, S k → k < B) : NdS S d w' b t := h.stays fun k hk => hb.block k (hS k hk)
/-- A block turned that is none of its. -/
theorem NdS.grown {S : Nat → Prop} {g d : Nat} {w w' : World} {b : Nb} {t : Tr} (h : NdS S d w b t) (hg : w.grownBy w' (some g)) (hS : ∀ k, S k → k < w.heap.size ∧ k ≠ g) : NdS S d w' b t :=
  h.stays fun k hk => hg.block k (hS k hk).1 (fun e => (hS k hk).2 (Option.some.inj e))

/-! ### A tree that may be written over -/

/-- Bytes that may be written over, in the blocks f. -/
def FrB (w : World) (a : Option Addr) (len : Nat) (f : List Nat) : Prop :=
  (len = 0 ∧ f = []) ∨ ∃ g cur, a = some ⟨g, 0, none⟩ ∧ f = [g] ∧ w.heap[g]? = some (.cells cur 5 (0, 0)) ∧ len ≤ cur.size ∧ ∀ i, i < len → ∃ c : Int, cur[i]? = some (.int .u8 c) ∧ 0 ≤ c ∧ c < 256
/-- Nodes that may be written over. -/
def FrR (tn : TypeId) (Q : Nb → List Nat → Prop) (w : World) (a : Option Addr) (len : Nat) (f : List Nat) : Prop :=
  (len = 0 ∧ f = []) ∨ ∃ g cur fs, a = some ⟨g, 0, none⟩ ∧ f = g :: List.flatten fs ∧ w.heap[g]? = some (.cells cur tn (0, 0)) ∧ len * 9 ≤ cur.size ∧ fs.length = len ∧
    ∀ i (h : i < fs.length), ∃ nb : Nb, (∀ j, j < 9 → cur[i * 9 + j]? = nb.cells[j]?) ∧ Q nb fs[i]
/-- A TREE ALL OF WHICH MAY BE WRITTEN OVER: its blocks are f. -/
def FrD (tn : TypeId) : Nat → World → Nb → List Nat → Prop
  | 0, _, _, _ => False
  | d + 1, w, b, f => ∃ f0 f1 f2, f = f0 ++ (f1 ++ f2) ∧ (b.lb ≤ b.cb ∧ b.lk ≤ b.ck ∧ b.li ≤ b.ci ∧ b.cb ≤ maxLen ∧ b.ck ≤ maxLen ∧ b.ci ≤ maxLen) ∧ FrB w b.ab b.lb f0 ∧ FrR tn (FrD tn d w) w b.ak b.lk f1 ∧ FrR tn (FrD tn d w) w b.ai b.li f2
theorem FrB.stays {w w' : World} {a : Option Addr} {len : Nat} {f : List Nat} (h : FrB w a len f) (hb : ∀ k, k ∈ f → w'.heap[k]? = w.heap[k]?) : FrB w' a len f := by
  rcases h with h | ⟨g, cur, ha, hf, hg, hr⟩
  · exact .inl h
  · exact .inr ⟨g, cur, ha, hf, by rw [hb g (by rw [hf]; exact List.mem_cons_self)]; exact hg, hr⟩
theorem FrR.stays {tn : TypeId} {Q R : Nb → List Nat → Prop} {w w' : World} {a : Option Addr} {len : Nat} {f : List Nat} (h : FrR tn Q w a len f) (hb : ∀ k, k ∈ f → w'.heap[k]? = w.heap[k]?) (hq : ∀ b e, (∀ k, k ∈ e → k ∈ f) → Q b e → R b e) : FrR tn R w' a len f := by
  rcases h with h | ⟨g, cur, fs, ha, hf, hg, hl, hfl, hr⟩
  · exact .inl h
  · refine .inr ⟨g, cur, fs, ha, hf, by rw [hb g (by rw [hf]; exact List.mem_cons_self)]; exact hg, hl, hfl, fun i hi => ?_⟩
    obtain ⟨nb, h1, h2⟩ := hr i hi
    refine ⟨nb, h1, hq _ _ (fun k hk => ?_) h2⟩
    rw [hf]
    exact List.mem_cons_of_mem _ (List.mem_flatten.2 ⟨_, List.getElem_mem hi, hk⟩)
theorem FrD.stays {tn : TypeId} : ∀ {d : Nat} {w w' : World} {b : Nb} {f : List Nat}, FrD tn d w b f → (∀ k, k ∈ f → w'.heap[k]? = w.heap[k]?) → FrD tn d w' b f := by
  intro d
  induction d with
  | zero => intro w w' b f h _; exact h
  | succ d ih =>
    intro w w' b f h hb
    obtain ⟨f0, f1, f2, hf, hc, h0, h1, h2⟩ := h
    have m0 : ∀ k, k ∈ f0 → k ∈ f := fun k hk => by rw [hf]; exact List.mem_append_left _ hk
    have m1 : ∀ k, k ∈ f1 → k ∈ f := fun k hk => by rw [hf]; exact List.mem_append_right _ (List.mem_append_left _ hk)
    have m2 : ∀ k, k ∈ f2 → k ∈ f := fun k hk => by rw [hf]; exact List.mem_append_right _ (List.mem_append_right _ hk)
    exact ⟨f0, f1, f2, hf, hc, h0.stays fun k hk => hb k (m0 k hk), h1.stays (fun k hk => hb k (m1 k hk)) fun _ e he q => ih q fun k hk => hb k (m1 k (he k hk)), h2.stays (fun k hk => hb k (m2 k hk)) fun _ e he q => ih q fun k hk => hb k (m2 k (he k hk))⟩
theorem FrR.mono {tn : TypeId} {Q R : Nb → List Nat → Prop} {w : World} {a : Option Addr} {len : Nat} {f : List Nat} (h : FrR tn Q w a len f) (hq : ∀ b e, Q b e → R b e) : FrR tn R w a len f := h.stays (fun _ _ => rfl) fun _ _ _ q => hq _ _ q
end Go.Proofs.YtmlacmoembjeoaaGreatDoor
namespace Go.Proofs.YtmlacmoembjeoaaGreatDoor
end Go.Proofs.YtmlacmoembjeoaaGreatDoor
namespace Go.Proofs.YtmlacmoembjeoaaGreatDoor
open Go.RowKit
set_option linter.unusedVariables false

/-- A node's cells as a row. -/
def Nb.arr (b : Nb) : Array Value := #[.int .i64 b.kind, .int .u64 b.num, .bool b.neg, .string b.dig, .int .i64 b.exp, .string b.txt, .slice b.ab b.lb b.cb, .slice b.ak b.lk b.ck, .slice b.ai b.li b.ci]
theorem Nb.arr_eq (b : Nb) : b.arr = b.cells.toArray := rfl
/-- A box: a block that holds a node, nothing else. -/
def NBox (w : World) (g : Nat) (b : Nb) : Prop := w.heap[g]? = some (.cells b.arr 26 (0, 0))
theorem NBox.lt {w : World} {g : Nat} {b : Nb} (h : NBox w g b) : g < w.heap.size := (Array.getElem?_eq_some_iff.1 h).1
theorem NBox.cell {w : World} {g : Nat} {b : Nb} (h : NBox w g b) (j : Nat) : w.cell? ⟨g, j, none⟩ = b.cells[j]? := by
  rw [cell_row h, Nb.arr_eq]; simp
theorem NBox.fz {w : World} {g : Nat} {b : Nb} (h : NBox w g b) (j : Nat) : w.frozen? ⟨g, j, none⟩ = false := by
  unfold NBox at h
  simp [World.frozen?, h]
theorem NBox.same {w w' : World} {g : Nat} {b : Nb} (h : NBox w g b) (hb : w'.heap[g]? = w.heap[g]?) : NBox w' g b := by
  unfold NBox; rw [hb]; exact h
theorem NBox.kept {w w' : World} {g B : Nat} {b : Nb} (h : NBox w g b) (hb : Below B w w') (hg : g < B) : NBox w' g b := h.same (hb.block g hg)
theorem nbox_new (w : World) (b : Nb) : NBox (w.alloc (.cells b.arr 26)) w.heap.size b := heap_alloc_new w _
/-- What the walk reads of a box: its fields. -/
theorem NBox.fields {w : World} {g : Nat} {b : Nb} (h : NBox w g b) :
    w.cell? ⟨g, 0, none⟩ = some (.int .i64 b.kind) ∧ w.cell? ⟨g, 1, none⟩ = some (.int .u64 b.num) ∧ w.cell? ⟨g, 2, none⟩ = some (.bool b.neg) ∧ w.cell? ⟨g, 3, none⟩ = some (.string b.dig) ∧ w.cell? ⟨g, 4, none⟩ = some (.int .i64 b.exp) ∧ w.cell? ⟨g, 5, none⟩ = some (.string b.txt) ∧ w.cell? ⟨g, 6, none⟩ = some (.slice b.ab b.lb b.cb) ∧ w.cell? ⟨g, 7, none⟩ = some (.slice b.ak b.lk b.ck) ∧ w.cell? ⟨g, 8, none⟩ = some (.slice b.ai b.li b.ci) :=
  ⟨h.cell 0, h.cell 1, h.cell 2, h.cell 3, h.cell 4, h.cell 5, h.cell 6, h.cell 7, h.cell 8⟩
/-- The cells of an element of a row, as the walk reads them. -/
theorem elem_fields {w : World} {b off : Nat} {nb : Nb} {i : Nat} (h : ∀ j, j < 9 → w.cell? ⟨b, off + (i * 9 + j), none⟩ = nb.cells[j]?) :
    w.cell? ⟨b, off + i * 9, none⟩ = some (.int .i64 nb.kind) ∧ w.cell? ⟨b, off + i * 9 + 1, none⟩ = some (.int .u64 nb.num) ∧ w.cell? ⟨b, off + i * 9 + 2, none⟩ = some (.bool nb.neg) ∧ w.cell? ⟨b, off + i * 9 + 3, none⟩ = some (.string nb.dig) ∧ w.cell? ⟨b, off + i * 9 + 4, none⟩ = some (.int .i64 nb.exp) ∧ w.cell? ⟨b, off + i * 9 + 5, none⟩ = some (.string nb.txt) ∧ w.cell? ⟨b, off + i * 9 + 6, none⟩ = some (.slice nb.ab nb.lb nb.cb) ∧ w.cell? ⟨b, off + i * 9 + 7, none⟩ = some (.slice nb.ak nb.lk nb.ck) ∧ w.cell? ⟨b, off + i * 9 + 8, none⟩ = some (.slice nb.ai nb.li nb.ci) :=
  ⟨h 0 (by omega), h 1 (by omega), h 2 (by omega), h 3 (by omega), h 4 (by omega), h 5 (by omega), h 6 (by omega), h 7 (by omega), h 8 (by omega)⟩

/-- ALL BLOCKS STAY, THOSE OF C ASIDE. -/
structure Kp (C : Nat → Prop) (w w' : World) : Prop where
  os : w'.os = w.os
  tape : w'.tape = w.tape
  output : w'.output = w.output
  size : w.heap.size ≤ w'.heap.size
  block : ∀ k, k < w.heap.size → ¬ C k → w'.heap[k]? = w.heap[k]?
theorem Kp.refl (C : Nat → Prop) (w : World) : Kp C w w := ⟨rfl, rfl, rfl, Nat.le_refl _, fun _ _ _ => rfl⟩
theorem Kp.trans {C : Nat → Prop} {a b c : World} (h : Kp C a b) (k : Kp C b c) : Kp C a c :=
  ⟨k.os.trans h.os, k.tape.trans h.tape, k.output.trans h.output, Nat.le_trans h.size k.size, fun i hi hc => (k.block i (Nat.lt_of_lt_of_le hi h.size) hc).trans (h.block i hi hc)⟩
theorem Kp.of {C : Nat → Prop} {w w' : World} (h : Below w.heap.size w w') : Kp C w w' := ⟨h.os, h.tape, h.output, h.size, fun k hk _ => h.block k hk⟩
theorem Kp.below {C : Nat → Prop} {B : Nat} {w w' : World} (h : Kp C w w') (hB : B ≤ w.heap.size) (hC : ∀ k, C k → B ≤ k) : Below B w w' :=
  ⟨h.os, h.tape, h.output, h.size, fun k hk => h.block k (by omega) fun hc => by have := hC k hc; omega⟩
theorem Kp.none {w w' : World} (h : Kp (fun _ => False) w w') : Below w.heap.size w w' := h.below (Nat.le_refl _) (fun _ hc => hc.elim)
theorem alloc_lt (w : World) (o : Obj) : w.heap.size < (w.alloc o).heap.size := by simp
theorem alloc_below (w : World) (o : Obj) : Below w.heap.size w (w.alloc o) := (Below.refl _ _).alloc (Nat.le_refl _) o
theorem box_below {w w' : World} {o : Obj} (h : Below (w.alloc o).heap.size (w.alloc o) w') : Below w.heap.size w w' := (alloc_below w o).trans (h.mono (Nat.le_of_lt (alloc_lt w o)))
end Go.Proofs.YtmlacmoembjeoaaGreatDoor
namespace Go.Proofs.YtmlacmoembjeoaaGreatDoor
open Go.RowKit
set_option linter.unusedVariables false

theorem ok_inj {α : Type} {v v' : α} {w w' : World} (h : (Result.ok v w : Result α) = .ok v' w') : v = v' := by cases h; rfl
section
variable {tn : TypeId}
end
theorem infoN : (Tryz.prog.info? 26).map (fun i => (i.zero, i.size, i.bytes)) = some (some (.agg #[.int .i64 0, .int .u64 0, .bool false, .string ⟨#[]⟩, .int .i64 0, .string ⟨#[]⟩, .slice none 0 0, .slice none 0 0, .slice none 0 0]), 9, 136) := by kernel_rfl
end Go.Proofs.YtmlacmoembjeoaaGreatDoor
namespace Go.Proofs.YtmlacmoembjeoaaGreatDoor
open Go.RowKit

theorem conv_str {w : World} {a : Option Addr} {zs : List Int} (hb : Bytes w a zs) (m cap : Nat) (hm : zs.length = m) :
    (convert 22 9 (.slice a m cap)).run Tryz.prog w = .ok (.string (strOfNums zs)) w := by
  subst hm
  rcases hb.2.2 with rfl | ⟨b, off, rfl, hc⟩
  · cases a with
    | none => rw [run_convert_bytes_nil w 22 5 Tryz.underlying22 Tryz.underlying5 _ cap 9 Tryz.underlying9]; rfl
    | some x =>
      rw [run_convert_bytes_string w 22 9 5 _ _ cap Tryz.underlying22 Tryz.underlying5 Tryz.underlying9]
      have hl := run_loadCells_list (P := Tryz.prog) w x [] (by simp)
      exact run_bytesToString w x 0 cap [] hl
  · exact run_convert_bytes_arg w 22 5 Tryz.underlying22 Tryz.underlying5 b off zs.length cap zs rfl hc 9 Tryz.underlying9

end Go.Proofs.YtmlacmoembjeoaaGreatDoor
namespace Go.Proofs.YtmlacmoembjeoaaGreatDoor
open Go.RowKit
set_option linter.unusedVariables false

end Go.Proofs.YtmlacmoembjeoaaGreatDoor
namespace Go.Proofs.YtmlacmoembjeoaaGreatDoor
open Go.RowKit
set_option linter.unusedVariables false

/-- A ROW OF TREES IN NEW MEMORY, each in blocks of its own: its blocks are f. -/
def FreshR (B D : Nat) (w : World) (a : Option Addr) (n c : Nat) (l : List Tr) (f : List Nat) : Prop :=
  RowN (NdS (· ∈ f) D w) w a n c l ∧ In (· ∈ f) a n ∧ FrR 26 (FrD 26 D w) w a n f ∧ f.Nodup ∧ ∀ k ∈ f, B ≤ k ∧ k < w.heap.size
/-- A TREE IN NEW MEMORY. -/
def Fresh (B D : Nat) (w : World) (b : Nb) (t : Tr) (f : List Nat) : Prop :=
  NdS (· ∈ f) D w b t ∧ FrD 26 D w b f ∧ f.Nodup ∧ ∀ k ∈ f, B ≤ k ∧ k < w.heap.size
theorem Fresh.kept {B D : Nat} {w w' : World} {b : Nb} {t : Tr} {f : List Nat} (h : Fresh B D w b t f) (hb : Below w.heap.size w w') : Fresh B D w' b t f :=
  ⟨h.1.below hb fun k hk => (h.2.2.2 k hk).2, h.2.1.stays fun k hk => hb.block k (h.2.2.2 k hk).2, h.2.2.1, fun k hk => ⟨(h.2.2.2 k hk).1, Nat.lt_of_lt_of_le (h.2.2.2 k hk).2 hb.size⟩⟩
theorem FreshR.kept {B D : Nat} {w w' : World} {a : Option Addr} {n c : Nat} {l : List Tr} {f : List Nat} (h : FreshR B D w a n c l f) (hb : Below w.heap.size w w') : FreshR B D w' a n c l f :=
  ⟨h.1.stays h.2.1 (fun k hk => hb.block k (h.2.2.2.2 k hk).2) fun _ _ _ q => q.below hb fun k hk => (h.2.2.2.2 k hk).2, h.2.1, h.2.2.1.stays (fun k hk => hb.block k (h.2.2.2.2 k hk).2) fun _ e he q => q.stays fun k hk => hb.block k (h.2.2.2.2 k (he k hk)).2, h.2.2.2.1, fun k hk => ⟨(h.2.2.2.2 k hk).1, Nat.lt_of_lt_of_le (h.2.2.2.2 k hk).2 hb.size⟩⟩

/-- What has been cloned so far. -/
def ClSt (B D : Nat) (w : World) (v : Value) (l : List Tr) (bs : List Nb) (fs : List (List Nat)) : Prop :=
  OwnsN 26 w B v bs ∧ bs.length = fs.length ∧ bs.length = l.length ∧ (∀ j (h : j < bs.length) (h2 : j < fs.length) (h3 : j < l.length), NdS (· ∈ fs[j]) D w bs[j] l[j] ∧ FrD 26 D w bs[j] fs[j]) ∧ fs.flatten.Nodup ∧ ∀ k ∈ fs.flatten, B ≤ k ∧ k < w.heap.size ∧ v.ownBlock ≠ some k
theorem ClSt.next {B D B2 : Nat} {w w2 w3 w4 : World} {v v' : Value} {l : List Tr} {bs : List Nb} {fs : List (List Nat)} {x : Tr} {nb : Nb} {f : List Nat} (h : ClSt B D w v l bs fs) (hw2 : Below w.heap.size w w2) (hF : Fresh B2 D w2 nb x f) (hB : B ≤ w.heap.size) (hB2 : w.heap.size ≤ B2)
    (hw3 : Below w2.heap.size w2 w3) (ho : OwnsN 26 w4 B v' (bs ++ [nb])) (hg : w3.grownBy w4 v.ownBlock) (hn : ∀ g, v'.ownBlock = some g → v.ownBlock = some g ∨ w3.heap.size ≤ g) : ClSt B D w4 v' (l ++ [x]) (bs ++ [nb]) (fs ++ [f]) := by
  obtain ⟨h0, h1, h2, h3, h4, h5⟩ := h
  have hlt := fun g => World.ownsRow.lt h0 g
  have old : ∀ k, k < w.heap.size → v.ownBlock ≠ some k → w4.heap[k]? = w.heap[k]? := fun k hk hne => by
    rw [hg.block k (Nat.lt_of_lt_of_le hk (Nat.le_trans hw2.size hw3.size)) (fun e => hne e.symm), hw3.block k (Nat.lt_of_lt_of_le hk hw2.size), hw2.block k hk]
  have new : ∀ k, k ∈ f → w4.heap[k]? = w2.heap[k]? := fun k hk => by
    have hk' := hF.2.2.2 k hk
    rw [hg.block k (Nat.lt_of_lt_of_le hk'.2 hw3.size) (fun e => by have := (hlt k e.symm).2; omega), hw3.block k hk'.2]
  have hsz : w2.heap.size ≤ w4.heap.size := Nat.le_trans hw3.size hg.size
  refine ⟨ho, by simp [h1], by simp [h2], fun j hj hj2 hj3 => ?_, ?_, fun k hk => ?_⟩
  · by_cases hjl : j < bs.length
    · rw [List.getElem_append_left hjl, List.getElem_append_left (by omega), List.getElem_append_left (by omega)]
      have hq := h3 j hjl (by omega) (by omega)
      have hm : ∀ k, k ∈ fs[j]'(by omega) → k ∈ fs.flatten := fun k hk => List.mem_flatten.2 ⟨_, List.getElem_mem _, hk⟩
      exact ⟨hq.1.stays fun k hk => old k (h5 k (hm k hk)).2.1 (h5 k (hm k hk)).2.2, hq.2.stays fun k hk => old k (h5 k (hm k hk)).2.1 (h5 k (hm k hk)).2.2⟩
    · have e : j = bs.length := by simp at hj; omega
      subst e
      rw [List.getElem_append_right (Nat.le_refl _), List.getElem_append_right (by omega), List.getElem_append_right (by omega)]
      simp only [h1, h2 ▸ h1, Nat.sub_self]
      simp only [List.getElem_cons_zero]
      exact ⟨hF.1.stays new, hF.2.1.stays new⟩
  · rw [List.flatten_append, List.flatten_cons, List.flatten_nil, List.append_nil]
    refine List.nodup_append.2 ⟨h4, hF.2.2.1, fun x hx y hy e => ?_⟩
    subst e
    have := (h5 x hx).2.1
    have := (hF.2.2.2 x hy).1
    omega
  · rw [List.flatten_append, List.flatten_cons, List.flatten_nil, List.append_nil, List.mem_append] at hk
    rcases hk with hk | hk
    · have h6 := h5 k hk
      refine ⟨h6.1, by have := hw2.size; omega, fun e => ?_⟩
      rcases hn k e with e | e
      · exact h6.2.2 e
      · have := hw3.size; have := hw2.size; omega
    · have h6 := hF.2.2.2 k hk
      refine ⟨by omega, by omega, fun e => ?_⟩
      rcases hn k e with e | e
      · have := (hlt k e).2; omega
      · have := hw3.size; omega
/-- All have been cloned. -/
theorem ClSt.fin {B D : Nat} {w : World} {v : Value} {l : List Tr} {bs : List Nb} {fs : List (List Nat)} (h : ClSt B D w v l bs fs) (hn : l.length ≤ 1000000) : ∃ a c f, v = .slice a l.length c ∧ FreshR B D w a l.length c l f := by
  obtain ⟨h0, h1, h2, h3, h4, h5⟩ := h
  obtain ⟨a, c, hv, hc, hnine, hnew⟩ := h0.shape
  obtain ⟨hl, hq⟩ := h0
  rcases hq with ⟨rfl, hn0⟩ | ⟨g, cap, cur, rfl, hb, hg, hnc, hcm, hcs, htk⟩
  · have hb0 : bs = [] := List.eq_nil_of_length_eq_zero hn0
    have hl0 : l = [] := List.eq_nil_of_length_eq_zero (by rw [← h2, hb0]; rfl)
    subst hl0
    refine ⟨none, 0, [], rfl, ⟨rfl, ⟨Nat.le_refl _, Nat.zero_le _, fun _ => rfl, by simp⟩, .inl rfl⟩, (fun h => by cases h), .inl ⟨rfl, rfl⟩, by simp, (fun k hk => by cases hk)⟩
  · refine ⟨some ⟨g, 0, none⟩, cap, g :: fs.flatten, by rw [h2], ?_, fun _ x hx => by cases hx; exact List.mem_cons_self, ?_, ?_, fun k hk => ?_⟩
    · have ha : a = some ⟨g, 0, none⟩ := by simp at hv; exact hv.1.symm
      rw [ha] at hnine
      refine rowN_of hnine h2 rfl ⟨by omega, hcm, fun h => (by cases h), by omega⟩ fun i hi hi2 => ?_
      exact (h3 i hi (by omega) hi2).1.mono fun k hk => List.mem_cons_of_mem _ (List.mem_flatten.2 ⟨_, List.getElem_mem (by omega), hk⟩)
    · refine .inr ⟨g, cur, fs, rfl, rfl, hg, by rw [hcs]; omega, by omega, fun i hi => ⟨bs[i]'(by omega), fun j hj => ?_, (h3 i (by omega) hi (by omega)).2⟩⟩
      rw [← Array.getElem?_toList, ← cs_get bs (by omega) hj, ← htk, List.getElem?_take, if_pos (by omega)]
    · refine List.nodup_cons.2 ⟨fun hm => (h5 g hm).2.2 rfl, h4⟩
    · rcases List.mem_cons.1 hk with rfl | hk
      · exact ⟨hb, (Array.getElem?_eq_some_iff.1 hg).1⟩
      · exact ⟨(h5 k hk).1, (h5 k hk).2.1⟩
theorem nine_one (w : World) (nb : Nb) : Nine (w.alloc (.cells nb.arr 26)) (some ⟨w.heap.size, 0, none⟩) [nb] := by
  refine .inr ⟨w.heap.size, 0, rfl, fun i hi j hj => ?_⟩
  have e : i = 0 := by simp at hi; omega
  subst e
  rw [Nat.zero_add, Nat.zero_mul, Nat.zero_add]
  exact (nbox_new w nb).cell j

end Go.Proofs.YtmlacmoembjeoaaGreatDoor
namespace Go.Proofs.YtmlacmoembjeoaaGreatDoor
open Go Go.Proofs Go.Shelf
def lays161_ren : Go.Shelf.Ren := ⟨fun | 161 => 129 | 231 => 144 | 227 => 145 | 233 => 146 | 235 => 147 | 228 => 158 | 197 => 159 | 151 => 160 | 260 => 164 | 152 => 139 | 137 => 71 | 119 => 155 | 224 => 156 | 225 => 157 | 217 => 88 | 266 => 115 | n => n, fun | 9 => 9 | 4 => 4 | 3 => 3 | 5 => 5 | 117 => 151 | 116 => 150 | 0 => 0 | 124 => 154 | 105 => 91 | 21 => 21 | 119 => 169 | 46 => 106 | 139 => 172 | 138 => 171 | n => n, fun | 3 => 1 | 4 => 2 | n => n⟩
theorem lays161 : Go.Proofs.Lays.n161 Tryz.prog lays161_ren := {
  mixed := by kernel_rfl
  f119 := Tryz.func155.trans (congrArg some (by kernel_rfl))
  f137 := Tryz.func71.trans (congrArg some (by kernel_rfl))
  f151 := Tryz.func160.trans (congrArg some (by kernel_rfl))
  f152 := Tryz.func139.trans (congrArg some (by kernel_rfl))
  f161 := Tryz.func129.trans (congrArg some (by kernel_rfl))
  f197 := Tryz.func159.trans (congrArg some (by kernel_rfl))
  f217 := Tryz.func88.trans (congrArg some (by kernel_rfl))
  f224 := Tryz.func156.trans (congrArg some (by kernel_rfl))
  f225 := Tryz.func157.trans (congrArg some (by kernel_rfl))
  f227 := Tryz.func145.trans (congrArg some (by kernel_rfl))
  f228 := Tryz.func158.trans (congrArg some (by kernel_rfl))
  f231 := Tryz.func144.trans (congrArg some (by kernel_rfl))
  f233 := Tryz.func146.trans (congrArg some (by kernel_rfl))
  f235 := Tryz.func147.trans (congrArg some (by kernel_rfl))
  f260 := Tryz.func164.trans (congrArg some (by kernel_rfl))
  f266 := Tryz.func115.trans (congrArg some (by kernel_rfl))
  t0 := Tryz.underlying0
  a0 := Tryz.isAgg0
  z0 := Tryz.sizeOf0
  v0 := Tryz.zeroValue0
  t3 := Tryz.underlying3
  a3 := Tryz.isAgg3
  z3 := Tryz.sizeOf3
  v3 := Tryz.zeroValue3
  t4 := Tryz.underlying4
  a4 := Tryz.isAgg4
  z4 := Tryz.sizeOf4
  v4 := Tryz.zeroValue4
  t5 := Tryz.underlying5
  a5 := Tryz.isAgg5
  z5 := Tryz.sizeOf5
  v5 := Tryz.zeroValue5
  t9 := Tryz.underlying9
  a9 := Tryz.isAgg9
  z9 := Tryz.sizeOf9
  v9 := Tryz.zeroValue9
  t21 := Tryz.underlying21
  a21 := Tryz.isAgg21
  z21 := Tryz.sizeOf21
  v21 := Tryz.zeroValue21
  t46 := Tryz.underlying106
  a46 := Tryz.isAgg106
  z46 := Tryz.sizeOf106
  v46 := Tryz.zeroValue106
  t105 := Tryz.underlying91
  a105 := Tryz.isAgg91
  z105 := Tryz.sizeOf91
  v105 := Tryz.zeroValue91
  t116 := Tryz.underlying150
  a116 := Tryz.isAgg150
  z116 := Tryz.sizeOf150
  t117 := Tryz.underlying151
  a117 := Tryz.isAgg151
  z117 := Tryz.sizeOf151
  v117 := Tryz.zeroValue151
  t119 := Tryz.underlying169
  a119 := Tryz.isAgg169
  z119 := Tryz.sizeOf169
  t124 := Tryz.underlying154
  a124 := Tryz.isAgg154
  z124 := Tryz.sizeOf154
  v124 := Tryz.zeroValue154
  t138 := Tryz.underlying171
  a138 := Tryz.isAgg171
  z138 := Tryz.sizeOf171
  v138 := Tryz.zeroValue171
  t139 := Tryz.underlying172
  a139 := Tryz.isAgg172
  z139 := Tryz.sizeOf172
  v139 := Tryz.zeroValue172
  g3 := by kernel_rfl
  g4 := by kernel_rfl }
def lays162_ren : Go.Shelf.Ren := ⟨fun | 162 => 131 | 232 => 148 | 227 => 145 | 234 => 149 | 236 => 150 | 228 => 158 | 271 => 161 | 151 => 160 | 120 => 165 | 197 => 159 | 152 => 139 | 260 => 164 | 137 => 71 | 119 => 155 | 224 => 156 | 225 => 157 | 217 => 88 | 266 => 115 | n => n, fun | 9 => 9 | 4 => 4 | 3 => 3 | 5 => 5 | 117 => 151 | 116 => 150 | 0 => 0 | 124 => 154 | 21 => 21 | 105 => 91 | 46 => 106 | 119 => 169 | 139 => 172 | 138 => 171 | n => n, fun | 3 => 1 | 4 => 2 | n => n⟩
theorem lays162 : Go.Proofs.Lays.n162 Tryz.prog lays162_ren := {
  mixed := by kernel_rfl
  f119 := Tryz.func155.trans (congrArg some (by kernel_rfl))
  f120 := Tryz.func165.trans (congrArg some (by kernel_rfl))
  f137 := Tryz.func71.trans (congrArg some (by kernel_rfl))
  f151 := Tryz.func160.trans (congrArg some (by kernel_rfl))
  f152 := Tryz.func139.trans (congrArg some (by kernel_rfl))
  f162 := Tryz.func131.trans (congrArg some (by kernel_rfl))
  f197 := Tryz.func159.trans (congrArg some (by kernel_rfl))
  f217 := Tryz.func88.trans (congrArg some (by kernel_rfl))
  f224 := Tryz.func156.trans (congrArg some (by kernel_rfl))
  f225 := Tryz.func157.trans (congrArg some (by kernel_rfl))
  f227 := Tryz.func145.trans (congrArg some (by kernel_rfl))
  f228 := Tryz.func158.trans (congrArg some (by kernel_rfl))
  f232 := Tryz.func148.trans (congrArg some (by kernel_rfl))
  f234 := Tryz.func149.trans (congrArg some (by kernel_rfl))
  f236 := Tryz.func150.trans (congrArg some (by kernel_rfl))
  f260 := Tryz.func164.trans (congrArg some (by kernel_rfl))
  f266 := Tryz.func115.trans (congrArg some (by kernel_rfl))
  f271 := Tryz.func161.trans (congrArg some (by kernel_rfl))
  t0 := Tryz.underlying0
  a0 := Tryz.isAgg0
  z0 := Tryz.sizeOf0
  v0 := Tryz.zeroValue0
  t3 := Tryz.underlying3
  a3 := Tryz.isAgg3
  z3 := Tryz.sizeOf3
  v3 := Tryz.zeroValue3
  t4 := Tryz.underlying4
  a4 := Tryz.isAgg4
  z4 := Tryz.sizeOf4
  v4 := Tryz.zeroValue4
  t5 := Tryz.underlying5
  a5 := Tryz.isAgg5
  z5 := Tryz.sizeOf5
  v5 := Tryz.zeroValue5
  t9 := Tryz.underlying9
  a9 := Tryz.isAgg9
  z9 := Tryz.sizeOf9
  v9 := Tryz.zeroValue9
  t21 := Tryz.underlying21
  a21 := Tryz.isAgg21
  z21 := Tryz.sizeOf21
  v21 := Tryz.zeroValue21
  t46 := Tryz.underlying106
  a46 := Tryz.isAgg106
  z46 := Tryz.sizeOf106
  v46 := Tryz.zeroValue106
  t105 := Tryz.underlying91
  a105 := Tryz.isAgg91
  z105 := Tryz.sizeOf91
  v105 := Tryz.zeroValue91
  t116 := Tryz.underlying150
  a116 := Tryz.isAgg150
  z116 := Tryz.sizeOf150
  t117 := Tryz.underlying151
  a117 := Tryz.isAgg151
  z117 := Tryz.sizeOf151
  v117 := Tryz.zeroValue151
  t119 := Tryz.underlying169
  a119 := Tryz.isAgg169
  z119 := Tryz.sizeOf169
  t124 := Tryz.underlying154
  a124 := Tryz.isAgg154
  z124 := Tryz.sizeOf154
  v124 := Tryz.zeroValue154
  t138 := Tryz.underlying171
  a138 := Tryz.isAgg171
  z138 := Tryz.sizeOf171
  v138 := Tryz.zeroValue171
  t139 := Tryz.underlying172
  a139 := Tryz.isAgg172
  z139 := Tryz.sizeOf172
  v139 := Tryz.zeroValue172
  g3 := by kernel_rfl
  g4 := by kernel_rfl }
def laysM316_ren : Go.Shelf.Ren := ⟨fun | 316 => 122 | n => n, fun | 9 => 9 | 3 => 3 | 4 => 4 | 37 => 22 | 0 => 0 | 127 => 139 | 5 => 5 | n => n, fun | n => n⟩
theorem laysM316 : Go.Proofs.LaysM.n316 Tryz.prog laysM316_ren := {
  mixed := by kernel_rfl
  f316 := Tryz.func122.trans (congrArg some (by kernel_rfl))
  t0 := Tryz.underlying0
  a0 := Tryz.isAgg0
  z0 := Tryz.sizeOf0
  v0 := Tryz.zeroValue0
  t3 := Tryz.underlying3
  a3 := Tryz.isAgg3
  z3 := Tryz.sizeOf3
  v3 := Tryz.zeroValue3
  t4 := Tryz.underlying4
  a4 := Tryz.isAgg4
  z4 := Tryz.sizeOf4
  v4 := Tryz.zeroValue4
  t9 := Tryz.underlying9
  a9 := Tryz.isAgg9
  z9 := Tryz.sizeOf9
  v9 := Tryz.zeroValue9
  t37 := Tryz.underlying22
  a37 := Tryz.isAgg22
  z37 := Tryz.sizeOf22
  v37 := Tryz.zeroValue22
  t127 := Tryz.underlying139
  a127 := Tryz.isAgg139
  z127 := Tryz.sizeOf139
  v127 := Tryz.zeroValue139
  t5 := Tryz.underlying5
  a5 := Tryz.isAgg5
  z5 := Tryz.sizeOf5
  v5 := Tryz.zeroValue5
  i0 := by kernel_rfl
  i3 := by kernel_rfl
  i4 := by kernel_rfl
  i5 := by kernel_rfl
  i9 := by kernel_rfl
  i37 := by kernel_rfl
  i127 := by kernel_rfl }
def lays217_ren : Go.Shelf.Ren := ⟨fun | 217 => 88 | 266 => 115 | n => n, fun | 9 => 9 | 5 => 5 | 3 => 3 | n => n, fun | n => n⟩
theorem lays217 : Go.Proofs.Lays.n217 Tryz.prog lays217_ren := {
  mixed := by kernel_rfl
  f217 := Tryz.func88.trans (congrArg some (by kernel_rfl))
  f266 := Tryz.func115.trans (congrArg some (by kernel_rfl))
  t3 := Tryz.underlying3
  a3 := Tryz.isAgg3
  z3 := Tryz.sizeOf3
  v3 := Tryz.zeroValue3
  t5 := Tryz.underlying5
  a5 := Tryz.isAgg5
  z5 := Tryz.sizeOf5
  v5 := Tryz.zeroValue5
  t9 := Tryz.underlying9
  a9 := Tryz.isAgg9
  z9 := Tryz.sizeOf9
  v9 := Tryz.zeroValue9 }
def lays99_ren : Go.Shelf.Ren := ⟨fun | 99 => 116 | 206 => 135 | n => n, fun | 9 => 9 | 4 => 4 | 3 => 3 | n => n, fun | n => n⟩
theorem lays99 : Go.Proofs.Lays.n99 Tryz.prog lays99_ren := {
  mixed := by kernel_rfl
  f99 := Tryz.func116.trans (congrArg some (by kernel_rfl))
  f206 := Tryz.func135.trans (congrArg some (by kernel_rfl))
  t3 := Tryz.underlying3
  a3 := Tryz.isAgg3
  z3 := Tryz.sizeOf3
  v3 := Tryz.zeroValue3
  t4 := Tryz.underlying4
  a4 := Tryz.isAgg4
  z4 := Tryz.sizeOf4
  v4 := Tryz.zeroValue4
  t9 := Tryz.underlying9
  a9 := Tryz.isAgg9
  z9 := Tryz.sizeOf9
  v9 := Tryz.zeroValue9 }
def lays169_ren : Go.Shelf.Ren := ⟨fun | 169 => 92 | n => n, fun | 70 => 109 | 9 => 9 | 0 => 0 | 72 => 111 | 37 => 22 | 127 => 139 | 3 => 3 | 5 => 5 | n => n, fun | n => n⟩
theorem lays169 : Go.Proofs.Lays.n169 Tryz.prog lays169_ren := {
  mixed := by kernel_rfl
  f169 := Tryz.func92.trans (congrArg some (by kernel_rfl))
  t0 := Tryz.underlying0
  a0 := Tryz.isAgg0
  z0 := Tryz.sizeOf0
  v0 := Tryz.zeroValue0
  t3 := Tryz.underlying3
  a3 := Tryz.isAgg3
  z3 := Tryz.sizeOf3
  v3 := Tryz.zeroValue3
  t9 := Tryz.underlying9
  a9 := Tryz.isAgg9
  z9 := Tryz.sizeOf9
  v9 := Tryz.zeroValue9
  t37 := Tryz.underlying22
  a37 := Tryz.isAgg22
  z37 := Tryz.sizeOf22
  v37 := Tryz.zeroValue22
  t70 := Tryz.underlying109
  a70 := Tryz.isAgg109
  z70 := Tryz.sizeOf109
  v70 := Tryz.zeroValue109
  t72 := Tryz.underlying111
  a72 := Tryz.isAgg111
  z72 := Tryz.sizeOf111
  v72 := Tryz.zeroValue111
  t127 := Tryz.underlying139
  a127 := Tryz.isAgg139
  z127 := Tryz.sizeOf139
  v127 := Tryz.zeroValue139 }
def lays242_ren : Go.Shelf.Ren := ⟨fun | 242 => 163 | 278 => 167 | n => n, fun | 37 => 22 | 21 => 21 | 51 => 168 | 4 => 4 | 5 => 5 | 46 => 106 | n => n, fun | n => n⟩
theorem lays242 : Go.Proofs.Lays.n242 Tryz.prog lays242_ren := {
  mixed := by kernel_rfl
  f242 := Tryz.func163.trans (congrArg some (by kernel_rfl))
  f278 := Tryz.func167.trans (congrArg some (by kernel_rfl))
  t4 := Tryz.underlying4
  a4 := Tryz.isAgg4
  z4 := Tryz.sizeOf4
  v4 := Tryz.zeroValue4
  t5 := Tryz.underlying5
  a5 := Tryz.isAgg5
  z5 := Tryz.sizeOf5
  v5 := Tryz.zeroValue5
  t21 := Tryz.underlying21
  a21 := Tryz.isAgg21
  z21 := Tryz.sizeOf21
  v21 := Tryz.zeroValue21
  t37 := Tryz.underlying22
  a37 := Tryz.isAgg22
  z37 := Tryz.sizeOf22
  v37 := Tryz.zeroValue22
  t46 := Tryz.underlying106
  a46 := Tryz.isAgg106
  z46 := Tryz.sizeOf106
  v46 := Tryz.zeroValue106
  t51 := Tryz.underlying168
  a51 := Tryz.isAgg168
  z51 := Tryz.sizeOf168
  v51 := Tryz.zeroValue168 }
def lays100_ren : Go.Shelf.Ren := ⟨fun | 100 => 133 | 207 => 151 | n => n, fun | 9 => 9 | 4 => 4 | 3 => 3 | n => n, fun | n => n⟩
theorem lays100 : Go.Proofs.Lays.n100 Tryz.prog lays100_ren := {
  mixed := by kernel_rfl
  f100 := Tryz.func133.trans (congrArg some (by kernel_rfl))
  f207 := Tryz.func151.trans (congrArg some (by kernel_rfl))
  t3 := Tryz.underlying3
  a3 := Tryz.isAgg3
  z3 := Tryz.sizeOf3
  v3 := Tryz.zeroValue3
  t4 := Tryz.underlying4
  a4 := Tryz.isAgg4
  z4 := Tryz.sizeOf4
  v4 := Tryz.zeroValue4
  t9 := Tryz.underlying9
  a9 := Tryz.isAgg9
  z9 := Tryz.sizeOf9
  v9 := Tryz.zeroValue9 }
theorem Extra_169 : Builder.Extra Tryz.prog lays169_ren := {
  sizeBuilder := by kernel_rfl
  liesBuilder := by kernel_rfl
  t5 := Tryz.underlying5
  a5 := Tryz.isAgg5
  z5 := Tryz.sizeOf5
  v5 := Tryz.zeroValue5
  infoByte := by kernel_rfl
  cellsByte := by kernel_rfl
  sizeByte := by kernel_rfl
  neB5 := by decide }
end Go.Proofs.YtmlacmoembjeoaaGreatDoor
namespace Go.Proofs.YtmlacmoembjeoaaGreatDoor
open Go.RowKit

theorem bs_at (s : ByteArray) {k : Nat} (h : k < s.size) : (bs s).getD k 0 = (((s[k]'h).toNat : Nat) : Int) := by
  unfold bs
  rw [List.getD_eq_getElem?_getD, List.getElem?_map, Array.getElem?_toList, Array.getElem?_eq_getElem (by exact h)]
  rfl
theorem not_empty {s : ByteArray} (h : 0 < s.size) : s.toList.isEmpty = false := by
  rw [ByteArray.toList_eq]
  cases h1 : s.data.toList with
  | nil =>
    have h2 := congrArg List.length h1
    rw [Array.length_toList] at h2
    have h3 : s.size = 0 := h2
    omega
  | cons a l => rfl
theorem empty_size {s : ByteArray} (h : s.size = 0) : s = noS := by
  have h1 : s.data.toList = [] := List.eq_nil_of_length_eq_zero (by rw [Array.length_toList]; exact h)
  have h2 : bs s = bs noS := by unfold bs; rw [h1]; rfl
  exact bs_inj h2
theorem zero_first {s : ByteArray} (hz : (bs s).getD 0 0 = 48) : (s.toList == [48]) = rt s := by
  have e : s.toList = [48] ↔ s.size = 1 := by
    constructor
    · intro h
      rw [ByteArray.toList_eq] at h
      have h2 := congrArg List.length h
      rw [Array.length_toList] at h2
      exact h2
    · intro h
      have h2 : bs s = bs ⟨#[48]⟩ := by
        have hl : (bs s).length = 1 := by rw [bs_len]; exact h
        match hb : bs s, hl with
        | [c], _ =>
          rw [hb] at hz
          have hc : c = 48 := hz
          rw [hc]; rfl
      rw [bs_inj h2, ByteArray.toList_eq]
  rw [Bool.eq_iff_iff, beq_iff_eq, e, rt_iff]
  constructor
  · intro h
    have hl : (bs s).length = 1 := by rw [bs_len]; exact h
    refine ⟨⟨fun h2 => (by rw [h2] at hl; cases hl), fun c hc => ?_, fun _ => hl⟩, by omega⟩
    match hb : bs s, hl with
    | [x], _ =>
      rw [hb] at hz hc
      have hx : x = 48 := hz
      simp only [List.mem_cons, List.not_mem_nil, or_false] at hc
      omega
  · intro h
    have := h.1.2.2 hz
    rwa [bs_len] at this
theorem not_digs {s : ByteArray} {k : Nat} (hk : k < s.size) (h : (bs s).getD k 0 < 48 ∨ 57 < (bs s).getD k 0) : rt s = false := by
  refine rt_not fun hr => ?_
  have h1 : k < (bs s).length := by rw [bs_len]; exact hk
  rw [List.getD_eq_getElem?_getD, List.getElem?_eq_getElem h1] at h
  have h2 := hr.1.2.1 _ (List.getElem_mem h1)
  simp only [Option.getD_some] at h
  omega
theorem all_digs {s : ByteArray} (h0 : 0 < s.size) (h1 : s.size ≤ 800) (hz : (bs s).getD 0 0 ≠ 48 ∨ s.size = 1) (h : ∀ c ∈ (bs s).take s.size, 48 ≤ c ∧ c ≤ 57) : rt s = true := by
  rw [rt_iff]
  rw [List.take_of_length_le (by rw [bs_len]; exact Nat.le_refl _)] at h
  refine ⟨⟨fun h2 => ?_, h, fun h2 => ?_⟩, by rw [bs_len]; exact h1⟩
  · have := bs_len s
    rw [h2, List.length_nil] at this
    omega
  · rcases hz with h3 | h3
    · exact absurd h2 h3
    · rw [bs_len]; exact h3
theorem take_digs {l : List Int} {k : Nat} (h : ∀ c ∈ l.take k, 48 ≤ c ∧ c ≤ 57) (hk : k < l.length) (hc : 48 ≤ l.getD k 0 ∧ l.getD k 0 ≤ 57) : ∀ c ∈ l.take (k + 1), 48 ≤ c ∧ c ≤ 57 := by
  intro c hm
  rw [List.take_succ_eq_append_getElem hk] at hm
  rcases List.mem_append.1 hm with h1 | h1
  · exact h c h1
  · simp only [List.mem_cons, List.not_mem_nil, or_false] at h1
    rw [List.getD_eq_getElem?_getD, List.getElem?_eq_getElem hk] at hc
    rw [h1]; exact hc

set_option maxHeartbeats 400000 in
theorem right_any (s : ByteArray) (w : World) : Calls Tryz.prog 112 #[.string s] w fun e w' => e = .returned (.bool (rt s)) ∧ w' = w := by
  by_cases h0 : s.size = 0
  · obtain rfl := empty_size h0
    have hr : rt noS = false := rfl
    rw [hr]
    unfold noS
    go_enter Tryz.func112, Tryz.ntmps112
    go_wp2
    go_ret
    exact ⟨rfl, rfl⟩
  have he := not_empty (s := s) (by omega)
  by_cases h1 : 800 < s.size
  · have hr : rt s = false := rt_not fun h => by have := h.2; rw [bs_len] at this; omega
    rw [hr]
    have d1 : decide (800 < ((s.size : Nat) : Int)) = true := by simp; omega
    clear h0 h1
    go_enter Tryz.func112, Tryz.ntmps112
    go_wp2
    go_ret
    exact ⟨rfl, rfl⟩
  have d1 : decide (800 < ((s.size : Nat) : Int)) = false := by simp; omega
  have b0 := bs_at s (k := 0) (by omega)
  have hp : 0 < s.size := by omega
  by_cases hz : (bs s).getD 0 0 = 48
  · have hr : Hid ((s.toList == [48]) = rt s) := zero_first hz
    have e0 : (((s[0]'hp).toNat : Nat) : Int) = 48 := by rw [← b0, hz]
    clear b0 hz h0 h1
    generalize rt s = R at *
    go_enter Tryz.func112, Tryz.ntmps112
    go_wp2
    go_ret
    exact ⟨by rw [hr.out]; rfl, rfl⟩
  have e0 : ((((s[0]'hp).toNat : Nat) : Int) == 48) = false := by rw [← b0]; simpa using hz
  have hall : Hid (∀ k, k < s.size → (bs s).getD k 0 < 48 ∨ 57 < (bs s).getD k 0 → rt s = false) := fun k hk h => not_digs hk h
  have hend : Hid ((∀ c ∈ (bs s).take s.size, 48 ≤ c ∧ c ≤ 57) → rt s = true) := all_digs (by omega) (by omega) (.inl hz)
  clear b0 hz
  generalize rt s = R at *
  go_enter Tryz.func112, Tryz.ntmps112
  go_wp2
  go_loop [18] (fun v => ∃ k : Nat, k ≤ s.size ∧ v = .int .i64 k ∧ Hid (∀ c ∈ (bs s).take k, 48 ≤ c ∧ c ≤ 57)) (fun v => s.size - (intOf v).toNat)
  case atStart => exact ⟨0, Nat.zero_le _, rfl, (by intro c hc; simp at hc)⟩
  case round =>
    obtain ⟨k, hk, rfl, hd⟩ := hrel
    by_cases hlt : k < s.size
    · have bk := bs_at s hlt
      have hC : Hid (_ → _ → _) := fun h1 h2 => take_digs hd.out (by rw [bs_len]; exact hlt) ⟨h1, h2⟩
      have hN := hall.out k hlt
      by_cases hA : (bs s).getD k 0 < 48
      · have d2 : decide ((((s[k]'hlt).toNat : Nat) : Int) < 48) = true := by rw [← bk]; simpa using hA
        obtain rfl := hN (.inl hA)
        clear bk hA
        go_wp2
        go_ret
        exact ⟨rfl, rfl⟩
      by_cases hB : 57 < (bs s).getD k 0
      · have d2 : decide ((((s[k]'hlt).toNat : Nat) : Int) < 48) = false := by rw [← bk]; simpa using hA
        have d3 : decide (57 < (((s[k]'hlt).toNat : Nat) : Int)) = true := by rw [← bk]; simpa using hB
        obtain rfl := hN (.inr hB)
        clear bk hA hB
        go_wp2
        go_ret
        exact ⟨rfl, rfl⟩
      · have d2 : decide ((((s[k]'hlt).toNat : Nat) : Int) < 48) = false := by rw [← bk]; simpa using hA
        have d3 : decide (57 < (((s[k]'hlt).toNat : Nat) : Int)) = false := by rw [← bk]; simpa using hB
        have hC' : Hid _ := hC.out (by omega) (by omega)
        clear bk hA hB hN hC
        go_wp2
        go_round
        case rel => exact ⟨k + 1, by omega, by go_num, hC'⟩
        case measure => simp [intOf]; omega
    · obtain rfl : k = s.size := by omega
      obtain rfl := hend.out hd.out
      go_wp2
      go_ret
      exact ⟨rfl, rfl⟩
end Go.Proofs.YtmlacmoembjeoaaGreatDoor
