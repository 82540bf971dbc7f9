/-
  Trees in new memory, all of which may be written over; the program's reader of CBOR in memory.
  The program's reader of CBOR: an item's beginning.
  The program's reader of CBOR: an item's beginning, whole.
-/
import Derived.Test.YtnjbppfanmmifaaGreatDoorQ13
import Derived.Test.YtnjbppfanmmifaaGreatDoorQ3
import Derived.Lib.Hide
import Derived.RegionTactic
import Derived.Deep.QuietTactic
import Derived.BigQuiet
import Derived.RegionDies
namespace Go.Proofs.YtnjbppfanmmifaaGreatDoor
open Go.RowKit
set_option linter.unusedVariables false

/-! ### A block, and what stays -/
/-- A block's whole. -/
def Blk (w : World) (g : Nat) (cs : Array Value) (T : TypeId) : Prop := w.heap[g]? = some (.cells cs T (0, 0))
theorem Blk.lt {w : World} {g : Nat} {cs : Array Value} {T : TypeId} (h : Blk w g cs T) : g < w.heap.size := (Array.getElem?_eq_some_iff.1 h).1
theorem Blk.cell {w : World} {g : Nat} {cs : Array Value} {T : TypeId} (h : Blk w g cs T) (j : Nat) : w.cell? ⟨g, j, none⟩ = cs[j]? := cell_row h j
theorem Blk.fz {w : World} {g : Nat} {cs : Array Value} {T : TypeId} (h : Blk w g cs T) (j : Nat) : w.frozen? ⟨g, j, none⟩ = false := by
  unfold Blk at h
  simp [World.frozen?, h]
theorem Blk.set {w : World} {g : Nat} {cs : Array Value} {T : TypeId} (h : Blk w g cs T) (j : Nat) (v : Value) : Blk (w.setCell ⟨g, j, none⟩ v) g (cs.setIfInBounds j v) T := heap_setCell_same w g j cs T v h
theorem blk_new (w : World) (cs : Array Value) (T : TypeId) : Blk (w.alloc (.cells cs T)) w.heap.size cs T := heap_alloc_new w _
/-- ALL BLOCKS BELOW B STAY, g ASIDE. -/
structure Kq (g B : Nat) (w w' : World) : Prop where
  os : w'.os = w.os
  tape : w'.tape = w.tape
  output : w'.output = w.output
  size : w.heap.size ≤ w'.heap.size
  block : ∀ k, k < B → k ≠ g → w'.heap[k]? = w.heap[k]?
theorem Kq.refl (g B : Nat) (w : World) : Kq g B w w := ⟨rfl, rfl, rfl, Nat.le_refl _, fun _ _ _ => rfl⟩
theorem Kq.trans {g B : Nat} {a b c : World} (h : Kq g B a b) (k : Kq g B b c) : Kq g B a c := ⟨k.os.trans h.os, k.tape.trans h.tape, k.output.trans h.output, Nat.le_trans h.size k.size, fun i hi hc => (k.block i hi hc).trans (h.block i hi hc)⟩
theorem Kq.mono {g B B' : Nat} {w w' : World} (h : Kq g B w w') (hB : B' ≤ B) : Kq g B' w w' := ⟨h.os, h.tape, h.output, h.size, fun k hk hg => h.block k (by omega) hg⟩
theorem Kq.next {g : Nat} {a b c : World} (h : Kq g a.heap.size a b) (k : Kq g b.heap.size b c) : Kq g a.heap.size a c := h.trans (k.mono h.size)
theorem Kq.of {g B : Nat} {w w' : World} (h : Below B w w') : Kq g B w w' := ⟨h.os, h.tape, h.output, h.size, fun k hk _ => h.block k hk⟩
theorem Kq.set (g B : Nat) (w : World) (j : Nat) (v : Value) : Kq g B w (w.setCell ⟨g, j, none⟩ v) := by
  have hb : Below g w (w.setCell ⟨g, j, none⟩ v) := (Below.refl g w).setCell (p := ⟨g, j, none⟩) (Nat.le_refl _) v
  refine ⟨hb.os, hb.tape, hb.output, hb.size, fun k hk hg => ?_⟩
  unfold World.setCell
  simp [Array.getElem?_modify, Ne.symm hg]
theorem Kq.drew (g B : Nat) (w : World) : Kq g B w w.drew := ⟨rfl, rfl, rfl, Nat.le_refl _, fun _ _ _ => rfl⟩
theorem kqd {g B : Nat} {w w' : World} (h : Kq g B w w') : Kq g B w w'.drew := ⟨h.os, h.tape, h.output, h.size, h.block⟩
theorem Kq.below {g B : Nat} {w w' : World} (h : Kq g B w w') (hg : g ≤ B) : Below g w w' := ⟨h.os, h.tape, h.output, h.size, fun k hk => h.block k (by omega) (by omega)⟩
theorem Blk.kq {w w' : World} {g k B : Nat} {cs : Array Value} {T : TypeId} (h : Blk w k cs T) (hq : Kq g B w w') (hk : k < B) (hne : k ≠ g) : Blk w' k cs T := (hq.block k hk hne).trans h
theorem Blk.kept {w w' : World} {k B : Nat} {cs : Array Value} {T : TypeId} (h : Blk w k cs T) (hb : Below B w w') (hk : k < B) : Blk w' k cs T := (hb.block k hk).trans h

/-! ### Trees in new memory -/
/-- A slice with elements lies at the beginning of a block of S, which may be written to. -/
def Wn (T : TypeId) (S : Nat → Prop) (w : World) (a : Option Addr) (len : Nat) : Prop := 0 < len → ∃ g cur, a = some ⟨g, 0, none⟩ ∧ S g ∧ w.heap[g]? = some (.cells cur T (0, 0))
theorem wn_zero (T : TypeId) (S : Nat → Prop) (w : World) (a : Option Addr) : Wn T S w a 0 := fun h => absurd h (by omega)
theorem Wn.into {T : TypeId} {S : Nat → Prop} {w : World} {a : Option Addr} {len : Nat} (h : Wn T S w a len) : In S a len := fun h0 x hx => by
  obtain ⟨g, cur, ha, hs, _⟩ := h h0
  rw [ha] at hx
  cases hx
  exact hs
theorem Wn.mono {T : TypeId} {S R : Nat → Prop} {w : World} {a : Option Addr} {len : Nat} (h : Wn T S w a len) (hs : ∀ k, S k → R k) : Wn T R w a len := fun h0 => by
  obtain ⟨g, cur, ha, hg, hh⟩ := h h0
  exact ⟨g, cur, ha, hs g hg, hh⟩
theorem Wn.stays {T : TypeId} {S : Nat → Prop} {w w' : World} {a : Option Addr} {len : Nat} (h : Wn T S w a len) (hb : ∀ k, S k → w'.heap[k]? = w.heap[k]?) : Wn T S w' a len := fun h0 => by
  obtain ⟨g, cur, ha, hg, hh⟩ := h h0
  exact ⟨g, cur, ha, hg, by rw [hb g hg]; exact hh⟩
/-- A NODE IN NEW MEMORY: all its slices lie in the blocks S, which may be written to. -/
def NdW (S : Nat → Prop) : Nat → World → Nb → Tr → Prop
  | 0, _, _, _ => False
  | d + 1, w, b, t => (b.kind = t.kind ∧ b.num = t.num ∧ b.neg = t.neg ∧ b.dig = t.dig ∧ b.exp = t.exp ∧ b.txt = t.txt) ∧
    ((Lit.int .i64 t.kind).wf = true ∧ (Lit.int .u64 t.num).wf = true ∧ (Lit.int .i64 t.exp).wf = true ∧ t.dig.size ≤ 140737488351232 ∧ t.txt.size ≤ 140737488351232) ∧
    (t.bytes.length = b.lb ∧ Room 1 b.ab b.lb b.cb ∧ Bytes w b.ab t.bytes) ∧
    (Wn 5 S w b.ab b.lb ∧ Wn 26 S w b.ak b.lk ∧ Wn 26 S w b.ai b.li) ∧
    RowN (NdW S d w) w b.ak b.lk b.ck t.keys ∧ RowN (NdW S d w) w b.ai b.li b.ci t.kids
theorem NdW.nds {S : Nat → Prop} : ∀ {d : Nat} {w : World} {b : Nb} {t : Tr}, NdW S d w b t → NdS S d w b t := by
  intro d
  induction d with
  | zero => intro w b t h; exact h
  | succ d ih =>
    intro w b t h
    obtain ⟨h0, h1, h2, ⟨i0, i1, i2⟩, h3, h4⟩ := h
    exact ⟨h0, h1, h2, ⟨i0.into, i1.into, i2.into⟩, h3.mono fun _ _ _ q => ih q, h4.mono fun _ _ _ q => ih q⟩
theorem NdW.nd {S : Nat → Prop} {d : Nat} {w : World} {b : Nb} {t : Tr} (h : NdW S d w b t) : Nd d w b t := h.nds.nd
theorem NdW.mono {S R : Nat → Prop} (hs : ∀ k, S k → R k) : ∀ {d : Nat} {w : World} {b : Nb} {t : Tr}, NdW S d w b t → NdW R d w b t := by
  intro d
  induction d with
  | zero => intro w b t h; exact h
  | succ d ih =>
    intro w b t h
    obtain ⟨h0, h1, h2, ⟨i0, i1, i2⟩, h3, h4⟩ := h
    exact ⟨h0, h1, h2, ⟨i0.mono hs, i1.mono hs, i2.mono hs⟩, h3.mono fun _ _ _ q => ih q, h4.mono fun _ _ _ q => ih q⟩
theorem ndW_succ {S : Nat → Prop} : ∀ (d : Nat) {w : World} {b : Nb} {t : Tr}, NdW S d w b t → NdW S (d + 1) w b t := by
  intro d
  induction d with
  | zero => intro w b t h; exact absurd h id
  | succ d ih =>
    intro w b t h
    obtain ⟨h0, h1, h2, i, h3, h4⟩ := h
    exact ⟨h0, h1, h2, i, h3.mono fun _ _ _ q => ih q, h4.mono fun _ _ _ q => ih q⟩
theorem NdW.le {S : Nat → Prop} {d e : Nat} {w : World} {b : Nb} {t : Tr} (h : NdW S d w b t) (hle : d ≤ e) : NdW S e w b t := by
  induction hle with
  | refl => exact h
  | step _ ih => exact ndW_succ _ ih
theorem NdW.stays {S : Nat → Prop} : ∀ {d : Nat} {w w' : World} {b : Nb} {t : Tr}, NdW S d w b t → (∀ k, S k → w'.heap[k]? = w.heap[k]?) → NdW S d w' b t := by
  intro d
  induction d with
  | zero => intro w w' b t h _; exact h
  | succ d ih =>
    intro w w' b t h hb
    obtain ⟨h0, h1, ⟨h2, h2', h2''⟩, ⟨i0, i1, i2⟩, h3, h4⟩ := h
    exact ⟨h0, h1, ⟨h2, h2', h2''.stays (by rw [h2]; exact i0.into) hb⟩, ⟨i0.stays hb, i1.stays hb, i2.stays hb⟩, h3.stays i1.into hb fun _ _ _ q => ih q hb, h4.stays i2.into hb fun _ _ _ q => ih q hb⟩
/-- The blocks from B up to E. -/
def Rg (B E : Nat) : Nat → Prop := fun k => B ≤ k ∧ k < E
/-- A leaf. -/
theorem ndw_leaf (S : Nat → Prop) (d : Nat) (w : World) {t : Tr} (hb : t.bytes = []) (hl : Lf t) (hk : (Lit.int .i64 t.kind).wf = true) (hn : (Lit.int .u64 t.num).wf = true) (he : (Lit.int .i64 t.exp).wf = true) (hd : t.dig.size ≤ 140737488351232) (hx : t.txt.size ≤ 140737488351232) :
    NdW S (d + 1) w ⟨t.kind, t.num, t.neg, t.dig, t.exp, t.txt, none, 0, 0, none, 0, 0, none, 0, 0⟩ t := by
  have r0 : ∀ k, Room k none 0 0 := fun k => ⟨Nat.le_refl _, Nat.zero_le _, fun _ => rfl, by omega⟩
  refine ⟨⟨rfl, rfl, rfl, rfl, rfl, rfl⟩, ⟨hk, hn, he, hd, hx⟩, ⟨by rw [hb]; rfl, r0 1, by rw [hb]; exact ⟨by simp, by simp, .inl rfl⟩⟩, ⟨wn_zero _ _ _ _, wn_zero _ _ _ _, wn_zero _ _ _ _⟩, ?_, ?_⟩
  · rw [hl.1]; exact ⟨rfl, r0 136, .inl rfl⟩
  · rw [hl.2]; exact ⟨rfl, r0 136, .inl rfl⟩

/-! ### Two rows of trees that grow -/
/-- Keys and kids read so far, in blocks from B on; nothing of them lies in the rows' own blocks. -/
def R2 (B D : Nat) (w : World) (vk vi : Value) (lk li : List Tr) (bk bi : List Nb) (S : Nat → Prop) : Prop := OwnsN 26 w B vk bk ∧ OwnsN 26 w B vi bi ∧ bk.length = lk.length ∧ bi.length = li.length ∧
  (∀ j (h : j < bk.length) (k : j < lk.length), NdW S D w bk[j] lk[j]) ∧ (∀ j (h : j < bi.length) (k : j < li.length), NdW S D w bi[j] li[j]) ∧
  (∀ k, S k → B ≤ k ∧ k < w.heap.size ∧ vk.ownBlock ≠ some k ∧ vi.ownBlock ≠ some k) ∧ (∀ k, vk.ownBlock = some k → vi.ownBlock ≠ some k)
theorem r2_nil (B D : Nat) (w : World) : R2 B D w (.slice none 0 0) (.slice none 0 0) [] [] [] [] (fun _ => False) := ⟨ownsN_nil _ _, ownsN_nil _ _, rfl, rfl, (fun j h => by cases h), (fun j h => by cases h), (fun k hk => hk.elim), (fun k hk => by simp [Value.ownBlock] at hk)⟩
theorem ownsN_keep {B : Nat} {w w' : World} {v : Value} {bs : List Nb} (h : OwnsN 26 w B v bs) (hb : ∀ k, v.ownBlock = some k → w'.heap[k]? = w.heap[k]?) : OwnsN 26 w' B v bs := by
  obtain ⟨hl, hv⟩ := h
  refine ⟨hl, ?_⟩
  rcases hv with hv | ⟨g, cap, cur, rfl, hbg, hg, hr⟩
  · exact .inl hv
  · exact .inr ⟨g, cap, cur, rfl, hbg, by rw [hb g rfl]; exact hg, hr⟩
theorem R2.lt {B D : Nat} {w : World} {vk vi : Value} {lk li : List Tr} {bk bi : List Nb} {S : Nat → Prop} (h : R2 B D w vk vi lk li bk bi S) (k : Nat) (hk : vk.ownBlock = some k ∨ vi.ownBlock = some k) : B ≤ k ∧ k < w.heap.size := by
  rcases hk with hk | hk
  · exact World.ownsRow.lt h.1 k hk
  · exact World.ownsRow.lt h.2.1 k hk
/-- What stays of the rows, where all blocks from B on stay. -/
theorem R2.keep {B D : Nat} {w w' : World} {vk vi : Value} {lk li : List Tr} {bk bi : List Nb} {S : Nat → Prop} (h : R2 B D w vk vi lk li bk bi S) (hs : w.heap.size ≤ w'.heap.size) (hb : ∀ k, B ≤ k → k < w.heap.size → w'.heap[k]? = w.heap[k]?) : R2 B D w' vk vi lk li bk bi S := by
  have hlt := h.lt
  obtain ⟨h1, h2, h3, h4, h5, h6, h7, h8⟩ := h
  exact ⟨ownsN_keep h1 fun k hk => hb k (hlt k (.inl hk)).1 (hlt k (.inl hk)).2, ownsN_keep h2 fun k hk => hb k (hlt k (.inr hk)).1 (hlt k (.inr hk)).2, h3, h4, fun j a b => (h5 j a b).stays fun k hk => hb k (h7 k hk).1 (h7 k hk).2.1, fun j a b => (h6 j a b).stays fun k hk => hb k (h7 k hk).1 (h7 k hk).2.1, fun k hk => ⟨(h7 k hk).1, Nat.lt_of_lt_of_le (h7 k hk).2.1 hs, (h7 k hk).2.2⟩, h8⟩
theorem R2.kq {B D g : Nat} {w w' : World} {vk vi : Value} {lk li : List Tr} {bk bi : List Nb} {S : Nat → Prop} (h : R2 B D w vk vi lk li bk bi S) (hq : Kq g w.heap.size w w') (hg : g < B) : R2 B D w' vk vi lk li bk bi S := h.keep hq.size fun k hk hw => hq.block k hw (by omega)
theorem R2.flip {B D : Nat} {w : World} {vk vi : Value} {lk li : List Tr} {bk bi : List Nb} {S : Nat → Prop} (h : R2 B D w vk vi lk li bk bi S) : R2 B D w vi vk li lk bi bk S := by
  obtain ⟨h1, h2, h3, h4, h5, h6, h7, h8⟩ := h
  exact ⟨h2, h1, h4, h3, h6, h5, fun k hk => ⟨(h7 k hk).1, (h7 k hk).2.1, (h7 k hk).2.2.2, (h7 k hk).2.2.1⟩, fun k hk e => h8 k e hk⟩
/-- One more kid. -/
theorem R2.kid {B D : Nat} {w w1 w2 : World} {vk vi vi' : Value} {lk li : List Tr} {bk bi : List Nb} {S : Nat → Prop} {x : Tr} {nb : Nb} {B2 E2 : Nat} (h : R2 B D w vk vi lk li bk bi S) (hF : NdW (Rg B2 E2) D w nb x) (hB : B ≤ B2) (hE : E2 ≤ w.heap.size) (hl2 : ∀ k, vk.ownBlock = some k ∨ vi.ownBlock = some k → k < B2)
    (hw : Below w.heap.size w w1) (ho : OwnsN 26 w2 B vi' (bi ++ [nb])) (hg : w1.grownBy w2 vi.ownBlock) (hn : ∀ g, vi'.ownBlock = some g → vi.ownBlock = some g ∨ w1.heap.size ≤ g) : R2 B D w2 vk vi' lk (li ++ [x]) bk (bi ++ [nb]) (fun k => S k ∨ Rg B2 E2 k) := by
  have hlt := h.lt
  obtain ⟨h1, h2, h3, h4, h5, h6, h7, h8⟩ := h
  have old : ∀ k, k < w.heap.size → vi.ownBlock ≠ some k → w2.heap[k]? = w.heap[k]? := fun k hk hne => by
    rw [hg.block k (Nat.lt_of_lt_of_le hk hw.size) (fun e => hne e.symm), hw.block k hk]
  have hsz : w.heap.size ≤ w2.heap.size := Nat.le_trans hw.size hg.size
  have rg : ∀ k, Rg B2 E2 k → k < w.heap.size ∧ vi.ownBlock ≠ some k := fun k hk => ⟨by have := hk.2; omega, fun e => by have := hl2 k (.inr e); have := hk.1; omega⟩
  refine ⟨ownsN_keep h1 fun k hk => old k (hlt k (.inl hk)).2 (h8 k hk), ho, h3, by simp [h4], fun j a b => ((h5 j a b).stays fun k hk => old k (h7 k hk).2.1 (h7 k hk).2.2.2).mono fun k hk => .inl hk, fun j a b => ?_, fun k hk => ?_, fun k hk e => ?_⟩
  · by_cases hj : j < bi.length
    · rw [List.getElem_append_left hj, List.getElem_append_left (by omega)]
      exact ((h6 j hj (by omega)).stays fun k hk => old k (h7 k hk).2.1 (h7 k hk).2.2.2).mono fun k hk => .inl hk
    · have e : j = bi.length := by simp at a; omega
      subst e
      rw [List.getElem_append_right (Nat.le_refl _), List.getElem_append_right (by omega)]
      simp only [h4, Nat.sub_self, List.getElem_cons_zero]
      exact (hF.stays fun k hk => old k (rg k hk).1 (rg k hk).2).mono fun k hk => .inr hk
  · rcases hk with hk | hk
    · have a := h7 k hk
      refine ⟨a.1, by omega, a.2.2.1, fun e => ?_⟩
      rcases hn k e with e | e
      · exact a.2.2.2 e
      · have := hw.size; omega
    · have a := rg k hk
      refine ⟨by have := hk.1; omega, by omega, fun e => by have := hl2 k (.inl e); have := hk.1; omega, fun e => ?_⟩
      rcases hn k e with e | e
      · exact a.2 e
      · have := hw.size; omega
  · rcases hn k e with e | e
    · exact h8 k hk e
    · have := (hlt k (.inl hk)).2; have := hw.size; omega
/-- A row as a field of a node. -/
theorem rown_fin {B D n c : Nat} {w : World} {a : Option Addr} {l : List Tr} {bs : List Nb} {S : Nat → Prop} (h0 : OwnsN 26 w B (.slice a n c) bs) (h1 : bs.length = l.length) (h2 : ∀ j (h : j < bs.length) (k : j < l.length), NdW S D w bs[j] l[j]) (hS : ∀ k, S k → B ≤ k ∧ k < w.heap.size) (hl : l.length ≤ 1000000) :
    n = l.length ∧ RowN (NdW (Rg B w.heap.size) D w) w a n c l ∧ Wn 26 (Rg B w.heap.size) w a n := by
  obtain ⟨a', c', hv, hc, hnine, hnew⟩ := h0.shape
  simp at hv
  obtain ⟨rfl, rfl, rfl⟩ := hv
  refine ⟨h1, rowN_of hnine h1 h1.symm ⟨hc.1, hc.2.1, hc.2.2, by omega⟩ fun i hi k => (h2 i hi k).mono hS, fun h0' => ?_⟩
  obtain ⟨_, hv⟩ := h0
  rcases hv with ⟨e, h⟩ | ⟨g, cap, cur, e, hb, hg, _⟩
  · omega
  · simp at e
    exact ⟨g, cur, e.1, ⟨hb, (Array.getElem?_eq_some_iff.1 hg).1⟩, hg⟩

/-! ### The reader -/
/-- What stays of a reader: its block, and its bytes. -/
structure CX where
  g : Nat
  a : Option Addr
  c : Nat
  zs : List Int
/-- The variables of the library that the reader's calls read: below B. -/
def Lw (B : Nat) (w : World) : Prop := Lib.TabBelow Tryz.prog B w "internal/strconv.uint64pow10" .u64 Lib.pow10Tab ∧ 5 < B ∧ ∃ tp p, w.cell? ⟨5, 0, none⟩ = some (.iface tp p)
theorem Lw.on {B : Nat} {w w' : World} (h : Lw B w) (hb : Below B w w') : Lw B w' := by
  obtain ⟨h1, h2, tp, p, h3⟩ := h
  exact ⟨Lib.TabBelow.on h1 hb, h2, tp, p, by rw [hb.cell h2]; exact h3⟩
/-- WHERE IT STANDS: at p, m nodes begun. -/
def RSt (C : CX) (w : World) (p m : Nat) : Prop := Blk w C.g #[.slice C.a C.zs.length C.c, .int .i64 (p : Nat), .int .i64 (m : Nat)] 52 ∧ (Bytes w C.a C.zs ∧ In (· < C.g) C.a C.zs.length) ∧ (C.zs.length ≤ C.c ∧ C.c ≤ maxLen ∧ (C.a = none → C.c = 0)) ∧ C.zs.length ≤ 4096 ∧ Lw C.g w
/-- A fault, as a panic carries it. -/
def Pn (f : Int × Nat) : Ending := .panicked [{ v := .iface 61 (.agg #[.int .i64 f.1, .int .i64 (f.2 : Nat)]), recovered := false }]
theorem RSt.lt {C : CX} {w : World} {p m : Nat} (h : RSt C w p m) : C.g < w.heap.size := Blk.lt h.1
theorem RSt.bytes {C : CX} {w w' : World} {p m : Nat} (h : RSt C w p m) (hb : ∀ k, k < C.g → w'.heap[k]? = w.heap[k]?) : Bytes w' C.a C.zs := h.2.1.1.stays h.2.1.2 hb
theorem RSt.lw {C : CX} {w : World} {p m : Nat} (h : RSt C w p m) : Lw C.g w := h.2.2.2.2
theorem RSt.on {C : CX} {w w' : World} {p m q n : Nat} (h : RSt C w p m) (hb : Below C.g w w') (hB : Blk w' C.g #[.slice C.a C.zs.length C.c, .int .i64 (q : Nat), .int .i64 (n : Nat)] 52) : RSt C w' q n :=
  ⟨hB, ⟨h.bytes hb.block, h.2.1.2⟩, h.2.2.1, h.2.2.2.1, h.lw.on hb⟩
theorem RSt.below {C : CX} {w w' : World} {p m : Nat} (h : RSt C w p m) (hb : Below w.heap.size w w') : RSt C w' p m :=
  h.on (hb.mono (Nat.le_of_lt h.lt)) (Blk.kept h.1 hb h.lt)
theorem RSt.at_ {C : CX} {w : World} {p m : Nat} (h : RSt C w p m) (q : Nat) : RSt C (w.setCell ⟨C.g, 1, none⟩ (.int .i64 (q : Nat))) q m :=
  h.on ((Kq.set C.g w.heap.size w 1 _).below (Nat.le_of_lt h.lt)) (Blk.set h.1 1 _)
theorem RSt.no_ {C : CX} {w : World} {p m : Nat} (h : RSt C w p m) (q : Nat) : RSt C (w.setCell ⟨C.g, 2, none⟩ (.int .i64 (q : Nat))) p q :=
  h.on ((Kq.set C.g w.heap.size w 2 _).below (Nat.le_of_lt h.lt)) (Blk.set h.1 2 _)
theorem RSt.drew {C : CX} {w : World} {p m : Nat} (h : RSt C w p m) : RSt C w.drew p m := h.below (Below.refl _ _).drew
end Go.Proofs.YtnjbppfanmmifaaGreatDoor
namespace Go.Proofs.YtnjbppfanmmifaaGreatDoor
open Go.RowKit
set_option linter.unusedVariables false
/-- A beginning, boxed: its cells. -/
theorem hbox (w : World) (pl n : Nat) (mj lo : Int) (cut : Bool) : (w.alloc (.cells #[.int .i64 (pl : Nat), .int .u8 mj, .int .u8 lo, .int .u64 (n : Nat), .bool cut] 94)).cell? ⟨w.heap.size, 0, none⟩ = some (.int .i64 (pl : Nat)) ∧ (w.alloc (.cells #[.int .i64 (pl : Nat), .int .u8 mj, .int .u8 lo, .int .u64 (n : Nat), .bool cut] 94)).cell? ⟨w.heap.size, 1, none⟩ = some (.int .u8 mj) ∧ (w.alloc (.cells #[.int .i64 (pl : Nat), .int .u8 mj, .int .u8 lo, .int .u64 (n : Nat), .bool cut] 94)).cell? ⟨w.heap.size, 2, none⟩ = some (.int .u8 lo) ∧ (w.alloc (.cells #[.int .i64 (pl : Nat), .int .u8 mj, .int .u8 lo, .int .u64 (n : Nat), .bool cut] 94)).cell? ⟨w.heap.size, 3, none⟩ = some (.int .u64 (n : Nat)) ∧ (w.alloc (.cells #[.int .i64 (pl : Nat), .int .u8 mj, .int .u8 lo, .int .u64 (n : Nat), .bool cut] 94)).cell? ⟨w.heap.size, 4, none⟩ = some (.bool cut) :=
  ⟨Blk.cell (blk_new w _ _) 0, Blk.cell (blk_new w _ _) 1, Blk.cell (blk_new w _ _) 2, Blk.cell (blk_new w _ _) 3, Blk.cell (blk_new w _ _) 4⟩
set_option maxHeartbeats 1000000 in
set_option maxRecDepth 100000 in
theorem chasa_any (h : Hd) (w : World) : Calls Tryz.prog 123 #[.agg h.arr] w fun e w' => e = .returned (.bool (decide (h.lo ≤ 27))) ∧ Below w.heap.size w w' := by
  obtain ⟨pl, mj, lo, n, cut⟩ := h
  unfold Hd.arr
  simp only
  obtain ⟨c0, c1, c2, c3, c4⟩ := hbox w pl n mj lo cut
  have hb := alloc_below w (.cells #[.int .i64 (pl : Nat), .int .u8 mj, .int .u8 lo, .int .u64 (n : Nat), .bool cut] 94)
  go_enter Tryz.func123, Tryz.ntmps123
  go_wp2
  go_ret
  exact ⟨rfl, hb⟩
set_option maxHeartbeats 1000000 in
set_option maxRecDepth 100000 in
theorem cisrun_any (h : Hd) (w : World) : Calls Tryz.prog 84 #[.agg h.arr] w fun e w' => e = .returned (.bool (isR h)) ∧ Below w.heap.size w w' := by
  obtain ⟨pl, mj, lo, n, cut⟩ := h
  unfold Hd.arr isR
  simp only
  obtain ⟨c0, c1, c2, c3, c4⟩ := hbox w pl n mj lo cut
  have hb : Hid (Below w.heap.size w (w.alloc (.cells #[.int .i64 (pl : Nat), .int .u8 mj, .int .u8 lo, .int .u64 (n : Nat), .bool cut] 94))) := alloc_below w _
  by_cases h2 : mj = 2
  · subst h2
    go_enter Tryz.func84, Tryz.ntmps84
    go_wp2
    go_ret
    exact ⟨rfl, hb.out⟩
  · have e2 : (mj == 2) = false := by simpa using h2
    have e3 : (decide (mj = 2) || decide (mj = 3)) = (mj == 3) := by rw [Bool.eq_iff_iff]; simp [h2]
    rw [e3]
    clear h2 e3
    go_enter Tryz.func84, Tryz.ntmps84
    go_wp2
    go_ret
    exact ⟨rfl, hb.out⟩
set_option maxHeartbeats 1000000 in
set_option maxRecDepth 100000 in
theorem cneeds_yes (C : CX) (w : World) : Calls Tryz.prog 85 #[.pointer (some ⟨C.g, 0, none⟩), .bool true] w fun e w' => e = .returned (.tuple #[]) ∧ w' = w := by
  go_enter Tryz.func85, Tryz.ntmps85
  go_wp2
  go_end0
  exact ⟨rfl, rfl⟩
set_option maxHeartbeats 1000000 in
set_option maxRecDepth 100000 in
theorem cneeds_no {C : CX} {w : World} {p m : Nat} (h : RSt C w p m) : Calls Tryz.prog 85 #[.pointer (some ⟨C.g, 0, none⟩), .bool false] w fun e w' => e = Pn (3, C.zs.length) ∧ w' = w := by
  have c0 : w.cell? ⟨C.g, 0, none⟩ = some (.slice C.a C.zs.length C.c) := Blk.cell h.1 0
  unfold Pn
  simp only
  have hb : Hid (Below w.heap.size w w) := Below.refl _ _
  generalize C.zs.length = n at *
  clear h
  go_enter Tryz.func85, Tryz.ntmps85
  go_wp2
  exact ⟨rfl, rfl, rfl⟩
set_option maxHeartbeats 1000000 in
set_option maxRecDepth 100000 in
theorem cended_none {C : CX} {w : World} {p m : Nat} (h : RSt C w p m) (hp : C.zs.length ≤ p) : Calls Tryz.prog 166 #[.pointer (some ⟨C.g, 0, none⟩)] w fun e w' => e = Pn (3, C.zs.length) ∧ Kq C.g w.heap.size w w' := by
  have c0 : w.cell? ⟨C.g, 0, none⟩ = some (.slice C.a C.zs.length C.c) := Blk.cell h.1 0
  have c1 : w.cell? ⟨C.g, 1, none⟩ = some (.int .i64 (p : Nat)) := Blk.cell h.1 1
  have kN : Hid (∀ wx, RSt C wx p m → Calls Tryz.prog 85 #[.pointer (some ⟨C.g, 0, none⟩), .bool false] wx fun e w' => e = Pn (3, C.zs.length) ∧ w' = wx) := fun wx hx => cneeds_no hx
  have hd : decide ((p : Int) < (C.zs.length : Int)) = false := by simp; omega
  have hd' : decide (p < C.zs.length) = false := by simp; omega
  have hR : Hid (RSt C w p m) := h
  have hR2 : Hid (RSt C w.drew p m) := h.drew
  generalize C.zs.length = n at *
  clear h hp
  go_enter Tryz.func166, Tryz.ntmps166
  go_wp2_with fail
  go_region_dies
  all_goals (refine (kN.out _ hR2.out).mono ?_; rintro e w2 ⟨rfl, rfl⟩; exact ⟨rfl, rfl, Kq.drew _ _ _⟩)
theorem bdn (w : World) (q : Nat) : Below w.heap.size w (w.drewN q) := ⟨rfl, rfl, rfl, Nat.le_refl _, fun _ _ => rfl⟩
theorem kqn (g : Nat) (w : World) (q : Nat) : Kq g w.heap.size w (w.drewN q) := Kq.of (bdn w q)
theorem RSt.dn {C : CX} {w : World} {p m : Nat} (h : RSt C w p m) (q : Nat) : RSt C (w.drewN q) p m := h.below (bdn w q)
/-- The byte where the reader stands. -/
theorem RSt.byte {C : CX} {w : World} {p m : Nat} (h : RSt C w p m) (hp : p < C.zs.length) : ∃ b off, C.a = some ⟨b, off, none⟩ ∧ (b < C.g ∧ ∀ i, i < C.zs.length → w.cell? ⟨b, off + i, none⟩ = some (.int .u8 (C.zs.getD i 0))) ∧ C.zs.getD p 0 = C.zs[p] ∧ 0 ≤ C.zs[p] ∧ C.zs[p] < 256 := by
  obtain ⟨hb0, hb1, hb2⟩ := h.2.1.1
  rcases hb2 with hb2 | ⟨b, off, ha, hc⟩
  · rw [hb2] at hp; simp at hp
  · have := hb0 _ (List.getElem_mem hp)
    exact ⟨b, off, ha, ⟨h.2.1.2 (by omega) _ ha, hc⟩, by rw [List.getD_eq_getElem?_getD, List.getElem?_eq_getElem hp]; rfl, this.1, this.2⟩
set_option maxHeartbeats 1000000 in
set_option maxRecDepth 100000 in
theorem cended_no {C : CX} {w : World} {p m : Nat} (h : RSt C w p m) (hp : p < C.zs.length) (h255 : C.zs[p] ≠ 255) : Calls Tryz.prog 166 #[.pointer (some ⟨C.g, 0, none⟩)] w fun e w' => e = .returned (.bool false) ∧ RSt C w' p m ∧ Below w.heap.size w w' := by
  obtain ⟨b, off, ha, ⟨hbg, hc⟩, hgd, hz0, hz1⟩ := h.byte hp
  have c0 : w.cell? ⟨C.g, 0, none⟩ = some (.slice (some ⟨b, off, none⟩) C.zs.length C.c) := by rw [← ha]; exact Blk.cell h.1 0
  have c1 : w.cell? ⟨C.g, 1, none⟩ = some (.int .i64 (p : Nat)) := Blk.cell h.1 1
  have cb : w.cell? ⟨b, off + p, none⟩ = some (.int .u8 C.zs[p]) := by rw [hc p hp, hgd]
  have kN := cneeds_yes C
  have hlt : (p : Int) < (C.zs.length : Int) := by omega
  have hd : decide ((p : Int) < (C.zs.length : Int)) = true := by simp; omega
  have hd' : decide (p < C.zs.length) = true := by simp; omega
  have hne : (C.zs[p] != 255) = true := by simpa using h255
  have hR2 : Hid (∀ q, RSt C (w.drewN q) p m) := h.dn
  have hB2 : Hid (∀ q, Below w.heap.size w (w.drewN q)) := bdn w
  have hp' : Hid (p < C.zs.length) := hp
  generalize C.zs[p] = c at *
  generalize C.zs.length = n at *
  clear h hc hgd ha h255 hbg
  go_enter Tryz.func166, Tryz.ntmps166
  go_wp2_with fail
  go_quiet ((first | (go_at_call 85; exact Calls.quiet_of_same (kN _))))
  go_wp2_with fail
  go_region
  go_wp2_with fail
  go_ret
  exact ⟨rfl, hR2.out _, hB2.out _⟩
set_option maxHeartbeats 1000000 in
set_option maxRecDepth 100000 in
theorem cended_yes {C : CX} {w : World} {p m : Nat} (h : RSt C w p m) (hp : p < C.zs.length) (h255 : C.zs[p] = 255) : Calls Tryz.prog 166 #[.pointer (some ⟨C.g, 0, none⟩)] w fun e w' => e = .returned (.bool true) ∧ RSt C w' (p + 1) m ∧ Kq C.g w.heap.size w w' := by
  obtain ⟨b, off, ha, ⟨hbg, hc⟩, hgd, hz0, hz1⟩ := h.byte hp
  have c0 : w.cell? ⟨C.g, 0, none⟩ = some (.slice (some ⟨b, off, none⟩) C.zs.length C.c) := by rw [← ha]; exact Blk.cell h.1 0
  have c1 : w.cell? ⟨C.g, 1, none⟩ = some (.int .i64 (p : Nat)) := Blk.cell h.1 1
  have f1 : w.frozen? ⟨C.g, 1, none⟩ = false := Blk.fz h.1 1
  have cb : w.cell? ⟨b, off + p, none⟩ = some (.int .u8 255) := by rw [hc p hp, hgd, h255]
  have kN := cneeds_yes C
  have hlt : (p : Int) < (C.zs.length : Int) := by omega
  have hd : decide ((p : Int) < (C.zs.length : Int)) = true := by simp; omega
  have hd' : decide (p < C.zs.length) = true := by simp; omega
  have h46 := h.2.2.2.1
  have wi : IntKind.i64.wrap ((p : Int) + 1) = (p : Int) + 1 := by rw [IntKind.wrap_i64]; omega
  have hR2 : Hid (∀ q, RSt C ((w.drewN q).setCell ⟨C.g, 1, none⟩ (.int .i64 ((p : Int) + 1))) (p + 1) m) := fun q => by have := (h.dn q).at_ (p + 1); rw [show (((p + 1 : Nat) : Nat) : Int) = (p : Int) + 1 by omega] at this; exact this
  have hB2 : Hid (∀ q, Kq C.g w.heap.size w ((w.drewN q).setCell ⟨C.g, 1, none⟩ (.int .i64 ((p : Int) + 1)))) := fun q => (kqn _ _ _).trans (Kq.set _ _ _ _ _)
  clear h hc hgd ha h255 hbg hz0 hz1 h46
  generalize C.zs.length = n at *
  go_enter Tryz.func166, Tryz.ntmps166
  go_wp2_with fail
  go_quiet ((first | (go_at_call 85; exact Calls.quiet_of_same (kN _))))
  go_wp2_with fail
  go_region
  go_wp2_with fail
  go_ret
  exact ⟨rfl, hR2.out _, hB2.out _⟩
end Go.Proofs.YtnjbppfanmmifaaGreatDoor
namespace Go.Proofs.YtnjbppfanmmifaaGreatDoor
open Go.RowKit
set_option linter.unusedVariables false
set_option maxHeartbeats 2000000 in
set_option maxRecDepth 100000 in
theorem cwidth_any (h : Hd) (w : World) : Calls Tryz.prog 122 #[.agg h.arr] w fun e w' => e = .returned (.int .i64 (hwd h.lo : Nat)) ∧ Below w.heap.size w w' := by
  obtain ⟨pl, mj, lo, n, cut⟩ := h
  unfold Hd.arr
  simp only
  obtain ⟨c0, c1, c2, c3, c4⟩ := hbox w pl n mj lo cut
  have hb : Hid (Below w.heap.size w (w.alloc (.cells #[.int .i64 (pl : Nat), .int .u8 mj, .int .u8 lo, .int .u64 (n : Nat), .bool cut] 94))) := alloc_below w _
  by_cases h4 : lo = 24
  · subst h4
    go_enter Tryz.func122, Tryz.ntmps122
    go_wp2
    go_ret
    exact ⟨rfl, hb.out⟩
  by_cases h5 : lo = 25
  · subst h5
    go_enter Tryz.func122, Tryz.ntmps122
    go_wp2
    go_ret
    exact ⟨rfl, hb.out⟩
  by_cases h6 : lo = 26
  · subst h6
    go_enter Tryz.func122, Tryz.ntmps122
    go_wp2
    go_ret
    exact ⟨rfl, hb.out⟩
  by_cases h7 : lo = 27
  · subst h7
    go_enter Tryz.func122, Tryz.ntmps122
    go_wp2
    go_ret
    exact ⟨rfl, hb.out⟩
  have e4 : (lo == 24) = false := by simpa using h4
  have e5 : (lo == 25) = false := by simpa using h5
  have e6 : (lo == 26) = false := by simpa using h6
  have e7 : (lo == 27) = false := by simpa using h7
  have e : hwd lo = 0 := by unfold hwd; rw [if_neg h4, if_neg h5, if_neg h6, if_neg h7]
  rw [e]
  clear h4 h5 h6 h7 e
  go_enter Tryz.func122, Tryz.ntmps122
  go_wp2
  go_ret
  exact ⟨rfl, hb.out⟩
set_option maxHeartbeats 2000000 in
set_option maxRecDepth 100000 in
theorem cmayb_any (h : Hd) (w : World) : Calls Tryz.prog 83 #[.agg h.arr] w fun e w' => e = .returned (.bool (mayA h)) ∧ Below w.heap.size w w' := by
  obtain ⟨pl, mj, lo, n, cut⟩ := h
  have kH : Hid (∀ wx, Calls Tryz.prog 123 #[.agg #[.int .i64 (pl : Nat), .int .u8 mj, .int .u8 lo, .int .u64 (n : Nat), .bool cut]] wx fun e w' => e = .returned (.bool (decide (lo ≤ 27))) ∧ Below wx.heap.size wx w') := fun wx => chasa_any ⟨pl, mj, lo, n, cut⟩ wx
  unfold Hd.arr mayA
  simp only
  obtain ⟨c0, c1, c2, c3, c4⟩ := hbox w pl n mj lo cut
  have hB := blk_new w #[.int .i64 (pl : Nat), .int .u8 mj, .int .u8 lo, .int .u64 (n : Nat), .bool cut] 94
  have hb : Hid (Below w.heap.size w (w.alloc (.cells #[.int .i64 (pl : Nat), .int .u8 mj, .int .u8 lo, .int .u64 (n : Nat), .bool cut] 94))) := alloc_below w _
  generalize hW : w.alloc (.cells #[.int .i64 (pl : Nat), .int .u8 mj, .int .u8 lo, .int .u64 (n : Nat), .bool cut] 94) = W at *
  have kk : Hid (∀ w2, Below W.heap.size W w2 → w2.cell? ⟨w.heap.size, 1, none⟩ = some (.int .u8 mj) ∧ w2.cell? ⟨w.heap.size, 2, none⟩ = some (.int .u8 lo)) := fun w2 h2 => ⟨Blk.cell (Blk.kept hB h2 hB.lt) 1, Blk.cell (Blk.kept hB h2 hB.lt) 2⟩
  subst hW
  clear hB
  by_cases h7 : lo ≤ 27
  · have e7 : decide (lo ≤ 27) = true := by simpa using h7
    rw [e7] at kH
    rw [e7, Bool.true_or]
    clear h7 e7
    go_enter Tryz.func83, Tryz.ntmps83
    go_wp2_with (go_at_call 123; refine (kH.out _).mono ?_; rintro e w2 ⟨rfl, hb2⟩)
    go_ret
    exact ⟨rfl, hb.out.trans (hb2.mono hb.out.size)⟩
  · have e7 : decide (lo ≤ 27) = false := by simpa using h7
    rw [e7] at kH
    rw [e7, Bool.false_or]
    clear h7 e7
    by_cases h31 : lo = 31
    · subst h31
      by_cases h2 : 2 ≤ mj
      · have e2 : decide (2 ≤ mj) = true := by simpa using h2
        rw [e2, Bool.true_and, show decide ((31 : Int) = 31) = true from rfl, Bool.true_and]
        clear h2
        go_enter Tryz.func83, Tryz.ntmps83
        go_wp2_with (go_at_call 123; refine (kH.out _).mono ?_; rintro e w2 ⟨rfl, hb2⟩; obtain ⟨d1, d2⟩ := kk.out w2 hb2)
        go_ret
        exact ⟨rfl, hb.out.trans (hb2.mono hb.out.size)⟩
      · have e2 : decide (2 ≤ mj) = false := by simpa using h2
        rw [e2, Bool.false_and, Bool.and_false]
        clear h2
        go_enter Tryz.func83, Tryz.ntmps83
        go_wp2_with (go_at_call 123; refine (kH.out _).mono ?_; rintro e w2 ⟨rfl, hb2⟩; obtain ⟨d1, d2⟩ := kk.out w2 hb2)
        go_ret
        exact ⟨rfl, hb.out.trans (hb2.mono hb.out.size)⟩
    · have e31 : (lo == 31) = false := by simpa using h31
      rw [show decide (lo = 31) = false from by simpa using h31, Bool.false_and]
      clear h31
      go_enter Tryz.func83, Tryz.ntmps83
      go_wp2_with (go_at_call 123; refine (kH.out _).mono ?_; rintro e w2 ⟨rfl, hb2⟩; obtain ⟨d1, d2⟩ := kk.out w2 hb2)
      go_ret
      exact ⟨rfl, hb.out.trans (hb2.mono hb.out.size)⟩
end Go.Proofs.YtnjbppfanmmifaaGreatDoor
