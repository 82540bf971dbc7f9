/-
  Bytes: what a slice of bytes is; bytes that a call itself has made, appended to and written one by one.
  Trees as plain data: what they are, how many nodes they have, how deep they are, where a path leads, and what a tree is with another node there.
  A tree in memory: what a walk is told of a node by its cells, kept as the world grows, and read off an argument.
  The types of a node in this program.
-/
import Derived.Test.YtmlacmoembjeoaaGreatDoorRows
import Derived.Test.YtmlacmoembjeoaaGreatDoorG0
import Derived.WalkKit
import Derived.WalkSpells
import Derived.WalkLawsBesides
import Derived.ProofKit
import Derived.OpenShut
import Derived.ChangeOld
import Derived.Below
import Derived.Laws.AppendOwnNone
import Derived.Laws.CopyOwn
import Derived.Laws.BytesArg
import Derived.Deep.Slices
import Derived.Deep.Strs
import Derived.ChangeReads
import Derived.SizedLaws
namespace Go.Proofs.YtmlacmoembjeoaaGreatDoor
open Go.RowKit

/-- WHAT A WALK IS TOLD OF A SLICE OF BYTES: its elements are 'zs', and lie at a. -/
def Bytes (w : World) (a : Option Addr) (zs : List Int) : Prop :=
  (∀ c ∈ zs, 0 ≤ c ∧ c < 256) ∧ zs.length ≤ maxLen ∧
  (zs = [] ∨ ∃ b off, a = some ⟨b, off, none⟩ ∧ ∀ i, i < zs.length → w.cell? ⟨b, off + i, none⟩ = some (.int .u8 (zs.getD i 0)))

theorem take_bytes {zs : List Int} (hz : ∀ c ∈ zs, 0 ≤ c ∧ c < 256) (k : Nat) : ∀ c ∈ zs.take k, 0 ≤ c ∧ c < 256 :=
  fun c h => hz c (List.mem_of_mem_take h)

/-- WHAT THE WALK IS TOLD OF A SLICE OF INTEGERS THAT CAME IN: it is nil; or it leads to a row of 'cap' cells, the numbers 'zs' (the first 'len' are its elements, the rest its spare room), each fitting its kind. -/
def IsRow (k : IntKind) (w : World) (a : Option Addr) (len cap : Nat) (zs : List Int) : Prop :=
  (a = none ∧ len = 0 ∧ cap = 0 ∧ zs = []) ∨
  ∃ x, a = some x ∧ len ≤ cap ∧ cap ≤ maxLen ∧ zs.length = cap ∧ (∀ i, i < zs.length → w.cell? (x.add i) = some (.int k (zs.getD i 0))) ∧ ∀ n ∈ zs, (Lit.int k n).wf = true

theorem nil_cap {w : World} {a : Option Addr} {len cap : Nat} {zs : List Int} (h : IsRow .u8 w a len cap zs) : a = none → cap = 0 := by
  rcases h with ⟨rfl, rfl, rfl, rfl⟩ | ⟨x, rfl, _⟩
  · exact fun _ => rfl
  · intro h; cases h

theorem row_le {w : World} {a : Option Addr} {len cap : Nat} {zs : List Int} (h : IsRow .u8 w a len cap zs) : len ≤ cap ∧ cap ≤ maxLen := by
  rcases h with ⟨rfl, rfl, rfl, rfl⟩ | ⟨x, rfl, hl, hm, _⟩
  · exact ⟨Nat.le_refl _, Nat.zero_le _⟩
  · exact ⟨hl, hm⟩

theorem bytes_of_row {w : World} {a : Option Addr} {len cap : Nat} {zs : List Int} (h : IsRow .u8 w a len cap zs) : (zs.take len).length = len ∧ Bytes w a (zs.take len) := by
  rcases h with ⟨rfl, rfl, rfl, rfl⟩ | ⟨x, rfl, hl, hm, hz, hcell, hwz⟩
  · exact ⟨rfl, by simp, by simp, .inl (by simp)⟩
  · have hlen : (zs.take len).length = len := by rw [List.length_take]; omega
    refine ⟨hlen, ?_, by omega, ?_⟩
    · intro c hc
      have := hwz c (List.mem_of_mem_take hc)
      simp [Lit.wf, show IntKind.u8.min = 0 from by decide, show IntKind.u8.max = 255 from by decide] at this
      omega
    · by_cases h0 : len = 0
      · left; subst h0; simp
      · right
        obtain ⟨b, off, spot⟩ := x
        have hc := hcell 0 (by omega)
        have hspot : spot = none := by simpa [Addr.add] using World.cell?_spot hc
        subst hspot
        refine ⟨b, off, rfl, fun i hi => ?_⟩
        have hi' : i < len := by omega
        have := hcell i (by omega)
        rw [List.getD_eq_getElem?_getD, List.getElem?_take, if_pos hi', ← List.getD_eq_getElem?_getD]
        by_cases h1 : i = 0
        · subst h1; simpa [Addr.add] using this
        · simpa [Addr.add, h1] using this

theorem info5 : (Tryz.prog.info? 5).map (fun i => (i.zero, i.size, i.bytes)) = some (some (.int .u8 0), 1, 1) := by kernel_rfl

/-- THE SLICE v LIES IN NEW MEMORY (blocks from 'base' on), AND ITS ELEMENTS ARE THE BYTES 'zs'. -/
def OwnsB (w : World) (base : Nat) (v : Value) (zs : List Int) : Prop :=
  w.ownsRow base 5 1 v zs.length (zs.map (Value.int .u8)) ∧ ∀ c ∈ zs, 0 ≤ c ∧ c < 256

theorem ownsB_nil (w : World) (base : Nat) : OwnsB w base (.slice none 0 0) [] := ⟨World.ownsRow_nil w base 5 1, by simp⟩

theorem cell_row {w : World} {g : Nat} {cur : Array Value} {t : TypeId} {m : Nat × Nat} (h : w.heap[g]? = some (.cells cur t m)) (j : Nat) : w.cell? ⟨g, j, none⟩ = cur[j]? := by
  simp [World.cell?, h]

/-- What a slice that owns its bytes looks like. -/
theorem OwnsB.shape {w : World} {base : Nat} {v : Value} {zs : List Int} (h : OwnsB w base v zs) :
    ∃ a cap, v = .slice a zs.length cap ∧ (a = none → cap = 0) ∧ (zs.length ≤ cap ∧ cap ≤ maxLen) ∧ Bytes w a zs ∧ (∀ x, a = some x → base ≤ x.block ∧ x.block < w.heap.size ∧ x.off = 0 ∧ x.spot = none) := by
  obtain ⟨⟨hl, hv⟩, hz⟩ := h
  rcases hv with ⟨rfl, hn⟩ | ⟨g, cap, cur, rfl, hb, hg, hnc, hcm, hcs, htk⟩
  · have h0 : zs = [] := List.eq_nil_of_length_eq_zero hn
    subst h0
    exact ⟨none, 0, rfl, fun _ => rfl, by simp, ⟨hz, by simp, .inl rfl⟩, fun x hx => by cases hx⟩
  · refine ⟨some ⟨g, 0, none⟩, cap, rfl, (fun hx => by cases hx), ⟨hnc, hcm⟩, ⟨hz, by omega, .inr ⟨g, 0, rfl, fun i hi => ?_⟩⟩, ?_⟩
    · rw [Nat.zero_add, cell_row hg, ← Array.getElem?_toList]
      have h1 : (cur.toList.take (zs.length * 1))[i]? = (zs.map (Value.int .u8))[i]? := by rw [htk]
      rw [List.getElem?_take, if_pos (by omega), List.getElem?_map] at h1
      rw [h1, List.getD_eq_getElem?_getD, List.getElem?_eq_getElem hi]; rfl
    · intro x hx
      cases hx
      refine ⟨hb, ?_, rfl, rfl⟩
      exact (Array.getElem?_eq_some_iff.1 hg).1

/-- The same, the length a letter of its own; what the walk must not see stands behind 'Hid'. -/
theorem OwnsB.form {w : World} {base : Nat} {v : Value} {zs : List Int} (h : OwnsB w base v zs) :
    ∃ a n cap, v = .slice a n cap ∧ Hid (zs.length = n) ∧ Hid (a = none → cap = 0) ∧ n ≤ cap ∧ cap ≤ 9223372036854775807 ∧ Hid (Bytes w a zs) := by
  obtain ⟨a, cap, hv, hn, ⟨hl, hm⟩, hb, _⟩ := h.shape
  exact ⟨a, zs.length, cap, hv, rfl, hn, hl, by simpa [maxLen] using hm, hb⟩

theorem bytes_one (zs : List Int) : ∀ u ∈ zs.map (Value.int .u8), u.oneCell' = true := by
  intro u hu
  obtain ⟨c, _, rfl⟩ := List.mem_map.1 hu
  rfl

theorem bytes_news {w : World} {x : Addr} {zs : List Int} (hb : Bytes w (some x) zs) :
    ∀ j u, (zs.map (Value.int .u8))[j]? = some u → w.cell? (x.add j) = some u := by
  intro j u hu
  rcases hb.2.2 with rfl | ⟨b, off, hx, hc⟩
  · simp at hu
  · cases hx
    have hj : j < zs.length := by
      have := (List.getElem?_eq_some_iff.1 hu).1
      simpa using this
    have h1 := hc j hj
    rw [List.getElem?_map, List.getElem?_eq_getElem hj] at hu
    simp only [Option.map_some, Option.some.injEq] at hu
    subst hu
    have e : (⟨b, off, none⟩ : Addr).add j = ⟨b, off + j, none⟩ := by
      by_cases h0 : j = 0
      · subst h0; simp [Addr.add]
      · simp [Addr.add, h0]
    rw [e, h1, List.getD_eq_getElem?_getD, List.getElem?_eq_getElem hj]; rfl

/-- 'append(v, x...)', v the call's own bytes, x any bytes. -/
theorem wpList_append_bytes {w : World} {ops : Array Oper} {rest : List Oper} {o : Oper} {a : Act} {Q : Exit → Act → World → Prop} (hgd : o.guard = none) (s x : Operand)
    (ho : o.op = .call { callee := .builtin .append, args := #[s, x], argTypes := #[22, 22] })
    (base : Nat) (v : Value) (ys zs : List Int) (hs : a.eval s = v) (hown : OwnsB w base v ys)
    (ad : Option Addr) (m c : Nat) (hx : a.eval x = .slice ad m c) (hm : zs.length = m) (hn : ad = none → c = 0) (hb : Bytes w ad zs)
    (hbytes : ys.length + zs.length ≤ 140737488355328) (hbase : base ≤ w.heap.size)
    (h : ∀ v' w', OwnsB w' base v' (ys ++ zs) → w.grownBy w' v.ownBlock → wpList Tryz.prog ops Q rest (a.put o.dst v') w') : wpList Tryz.prog ops Q (o :: rest) a w := by
  subst hm
  obtain ⟨i, hi, hz, hsz, hby⟩ := info_parts info5
  have hall : ∀ c ∈ ys ++ zs, 0 ≤ c ∧ c < 256 := fun c hc => by
    rcases List.mem_append.1 hc with h1 | h1
    · exact hown.2 c h1
    · exact hb.1 c h1
  cases ad with
  | none =>
    have h0 : zs = [] := by
      rcases hb.2.2 with h0 | ⟨_, _, h0, _⟩
      · exact h0
      · cases h0
    subst h0
    rw [hn rfl] at hx
    refine wpList_append_own_none hgd s x 22 ho base 5 i 1 Tryz.underlying22 hi v ys.length _ hs hown.1 hx ?_
    have := h v w (by simpa using hown) (World.grownBy.refl _ _)
    exact this
  | some ad =>
    refine wpList_append_own w hgd s x 22 ho base 5 i (.int .u8 0) 1 1 Tryz.underlying22 hi hz hsz hby rfl (by decide) v ys.length _ hs hown.1 ad zs.length c (zs.map (Value.int .u8)) hx (by simp) (bytes_news hb) (bytes_one zs) ?_ (by omega) hbase ?_
    · unfold maxLen; omega
    · intro v' w' ho' hg _
      refine h v' w' ⟨?_, hall⟩ hg
      rw [List.length_append, List.map_append]
      exact ho'

/-- Bytes below stay as they were. -/
theorem Bytes.below {w w' : World} {B : Nat} {a : Option Addr} {zs : List Int} (hb : Bytes w a zs) (h : Below B w w') (hB : ∀ x, a = some x → zs ≠ [] → x.block < B) : Bytes w' a zs := by
  refine ⟨hb.1, hb.2.1, ?_⟩
  rcases hb.2.2 with h0 | ⟨b, off, rfl, hc⟩
  · exact .inl h0
  · by_cases h0 : zs = []
    · exact .inl h0
    · refine .inr ⟨b, off, rfl, fun i hi => ?_⟩
      rw [h.cell (p := ⟨b, off + i, none⟩) (hB ⟨b, off, none⟩ rfl h0)]
      exact hc i hi

theorem Bytes.lt {w : World} {x : Addr} {zs : List Int} (hb : Bytes w (some x) zs) (h0 : zs ≠ []) : x.block < w.heap.size := by
  rcases hb.2.2 with h1 | ⟨b, off, h1, hc⟩
  · exact absurd h1 h0
  · cases h1
    have hp : 0 < zs.length := List.length_pos_iff.2 h0
    have := hc 0 hp
    simp only [World.cell?] at this
    show b < w.heap.size
    rcases Nat.lt_or_ge b w.heap.size with h2 | h2
    · exact h2
    · simp [Array.getElem?_eq_none h2] at this

/-- All old bytes stay as they were. -/
theorem Bytes.kept {w w' : World} {a : Option Addr} {zs : List Int} (hb : Bytes w a zs) (h : Below w.heap.size w w') : Bytes w' a zs :=
  hb.below h fun x hx h0 => by subst hx; exact hb.lt h0

theorem OwnsB.alloc {w : World} {base : Nat} {v : Value} {zs : List Int} (h : OwnsB w base v zs) (o : Obj) : OwnsB (w.alloc o) base v zs := ⟨h.1.alloc o, h.2⟩

theorem OwnsB.below {w w' : World} {base : Nat} {v : Value} {zs : List Int} (h : OwnsB w base v zs) (hb : Below w.heap.size w w') : OwnsB w' base v zs :=
  ⟨h.1.kept (row := none) ⟨hb.os, hb.tape, hb.output, hb.size, fun k hk _ => hb.block k hk⟩ (by cases hv : v.ownBlock <;> simp), h.2⟩

theorem grown_below {w w1 w2 : World} {base : Nat} {v : Value} {zs : List Int} (hb : Below base w w1) (h : OwnsB w1 base v zs) (hg : w1.grownBy w2 v.ownBlock) (hB : base ≤ w1.heap.size) : Below base w w2 :=
  hb.grown hg hB fun k hk => (h.1.lt k hk).1

theorem Bytes.drewN {w : World} {a : Option Addr} {zs : List Int} (h : Bytes w a zs) (n : Nat) : Bytes (w.drewN n) a zs := h

/-- The first bytes of bytes. -/
theorem Bytes.take {w : World} {a : Option Addr} {zs : List Int} (h : Bytes w a zs) (k : Nat) : Bytes w a (zs.take k) := by
  refine ⟨take_bytes h.1 k, Nat.le_trans (List.length_take_le' k zs) h.2.1, ?_⟩
  rcases h.2.2 with rfl | ⟨b, off, rfl, hc⟩
  · left; simp
  · right
    refine ⟨b, off, rfl, fun i hi => ?_⟩
    rw [List.length_take] at hi
    rw [hc i (by omega), List.getD_eq_getElem?_getD, List.getD_eq_getElem?_getD, List.getElem?_take, if_pos (by omega)]

/-- The bytes behind the first ones. -/
theorem Bytes.drop {w : World} {b off : Nat} {zs : List Int} (h : Bytes w (some ⟨b, off, none⟩) zs) (k : Nat) : Bytes w (some ⟨b, off + k, none⟩) (zs.drop k) := by
  refine ⟨fun c hc => h.1 c (List.mem_of_mem_drop hc), by rw [List.length_drop]; have := h.2.1; omega, ?_⟩
  rcases h.2.2 with rfl | ⟨b', off', hx, hc⟩
  · left; simp
  · right
    cases hx
    refine ⟨b, off + k, rfl, fun i hi => ?_⟩
    rw [List.length_drop] at hi
    rw [show off + k + i = off + (k + i) from by omega, hc (k + i) (by omega), List.getD_eq_getElem?_getD, List.getD_eq_getElem?_getD, List.getElem?_drop]

theorem bytes_some {w : World} {a : Option Addr} {zs : List Int} (hb : Bytes w a zs) (h : 0 < zs.length) : ∃ b off, a = some ⟨b, off, none⟩ := by
  rcases hb.2.2 with rfl | ⟨b, off, h1, _⟩
  · simp at h
  · exact ⟨b, off, h1⟩

theorem one_byte (w : World) (n : Int) (h0 : 0 ≤ n) (h1 : n < 256) : Bytes (w.alloc (.cells #[.int .u8 n] 5)) (some ⟨w.heap.size, 0, none⟩) [n] := by
  refine ⟨by intro c hc; simp at hc; omega, by simp [maxLen], .inr ⟨_, _, rfl, ?_⟩⟩
  intro i hi
  rw [World.cell?_alloc_mark]
  match i, hi with
  | 0, _ => rfl

end Go.Proofs.YtmlacmoembjeoaaGreatDoor
namespace Go.Proofs.YtmlacmoembjeoaaGreatDoor
set_option linter.unusedVariables false

/-- A TREE: a node's fields; its bytes are the elements alone. Two trees are the same iff they are equal. -/
structure Tr where
  kind : Int
  num : Int
  neg : Bool
  dig : ByteArray
  exp : Int
  txt : ByteArray
  bytes : List Int
  keys : List Tr
  kids : List Tr

namespace Tr

theorem ind {P : Tr → Prop} (h : ∀ t, (∀ k, k ∈ t.keys → P k) → (∀ k, k ∈ t.kids → P k) → P t) : ∀ t, P t := by
  have aux : ∀ (n : Nat) (t : Tr), SizeOf.sizeOf t < n → P t := by
    intro n
    induction n with
    | zero => intro t ht; exact absurd ht (Nat.not_lt_zero _)
    | succ n ih =>
      intro t ht
      refine h t (fun k hk => ih k ?_) (fun k hk => ih k ?_)
      · have := List.sizeOf_lt_of_mem hk
        cases t; simp at *; omega
      · have := List.sizeOf_lt_of_mem hk
        cases t; simp at *; omega
  exact fun t => aux _ t (Nat.lt_succ_self _)

/-- How many nodes. -/
def size : Tr → Nat
  | ⟨_, _, _, _, _, _, _, keys, kids⟩ => 1 + (keys.map size).sum + (kids.map size).sum

def sizes (l : List Tr) : Nat := (l.map size).sum

theorem size_eq (t : Tr) : t.size = 1 + sizes t.keys + sizes t.kids := by
  cases t; rw [size]; rfl

theorem sizes_nil : sizes [] = 0 := rfl
theorem sizes_cons (a : Tr) (l : List Tr) : sizes (a :: l) = a.size + sizes l := by simp [sizes]
theorem sizes_app (l m : List Tr) : sizes (l ++ m) = sizes l + sizes m := by simp [sizes]
theorem sizes_snoc (l : List Tr) {i : Nat} (h : i < l.length) : sizes (l.take (i + 1)) = sizes (l.take i) + (l[i]).size := by
  rw [List.take_succ_eq_append_getElem h, sizes_app, sizes_cons, sizes_nil, Nat.add_zero]
/-- What is left of m nodes behind a tree's; -1: there are more. -/
def lft (m : Int) (s : Nat) : Int := if (s : Int) ≤ m then m - s else -1

theorem lft_add {m : Int} {a b : Nat} (h : 0 ≤ lft m a) : lft (lft m a) b = lft m (a + b) := by
  unfold lft at *
  split at h
  · rename_i h1
    rw [if_pos h1]
    split <;> split <;> omega
  · omega
theorem lft_over {m : Int} {a b : Nat} (h : lft m a < 0) (hm : 0 ≤ m) : lft m (a + b) = -1 ∧ lft m a = -1 := by
  unfold lft at *
  split at h
  · omega
  · rename_i h1
    exact ⟨if_neg (by omega), if_neg h1⟩
theorem lft_few (s : Nat) : decide (0 ≤ lft 1024 s) = decide (s ≤ 1024) := by
  unfold lft
  split <;> simp <;> omega

def mx (l : List Nat) : Nat := l.foldl max 0
theorem foldl_le {l : List Nat} {n : Nat} (h : ∀ x ∈ l, x ≤ n) : ∀ a, a ≤ n → l.foldl max a ≤ n := by
  induction l with
  | nil => intro a ha; exact ha
  | cons b r ih => intro a ha; exact ih (fun x hx => h x (List.mem_cons_of_mem _ hx)) _ (Nat.max_le.2 ⟨ha, h b List.mem_cons_self⟩)
theorem mx_le {l : List Nat} {n : Nat} (h : ∀ x ∈ l, x ≤ n) : mx l ≤ n := foldl_le h 0 (Nat.zero_le _)

/-- The depth. -/
def deep : Tr → Nat
  | ⟨_, _, _, _, _, _, _, keys, kids⟩ => 1 + max (mx (keys.map deep)) (mx (kids.map deep))
def deeps (l : List Tr) : Nat := mx (l.map deep)
theorem deep_eq (t : Tr) : t.deep = 1 + max (deeps t.keys) (deeps t.kids) := by
  cases t; rw [deep]; rfl
/-- OF ALL NODES. -/
def All (Q : Tr → Prop) : Tr → Prop
  | ⟨a, b, c, d, e, f, g, keys, kids⟩ => Q ⟨a, b, c, d, e, f, g, keys, kids⟩ ∧ (∀ k, k ∈ keys → All Q k) ∧ (∀ k, k ∈ kids → All Q k)
theorem all_eq (Q : Tr → Prop) (t : Tr) : t.All Q ↔ Q t ∧ (∀ k, k ∈ t.keys → k.All Q) ∧ (∀ k, k ∈ t.kids → k.All Q) := by
  cases t; rw [All]
/-- WHAT STANDS IN A TREE THAT MAY BE MAY BE: few, not deep, no node with a fault, no keys twice. -/
def May (al : Tr → Prop) (t : Tr) : Prop := t.size ≤ 1024 ∧ t.deep ≤ 24 ∧ t.All al ∧ t.All (fun u => u.keys.Nodup)
end Tr
end Go.Proofs.YtmlacmoembjeoaaGreatDoor
namespace Go.Proofs.YtmlacmoembjeoaaGreatDoor
open Go.RowKit Go.ChangeShapes Go.WideShapes
set_option linter.unusedVariables false

/-- A NODE's NINE CELLS. -/
structure Nb where
  kind : Int
  num : Int
  neg : Bool
  dig : ByteArray
  exp : Int
  txt : ByteArray
  ab : Option Addr
  lb : Nat
  cb : Nat
  ak : Option Addr
  lk : Nat
  ck : Nat
  ai : Option Addr
  li : Nat
  ci : Nat

def Nb.cells (b : Nb) : List Value :=
  [.int .i64 b.kind, .int .u64 b.num, .bool b.neg, .string b.dig, .int .i64 b.exp, .string b.txt, .slice b.ab b.lb b.cb, .slice b.ak b.lk b.ck, .slice b.ai b.li b.ci]
/-- A slice by its length and room; its elements, of k bytes each, are of no more bytes than an argument may have. -/
def Room (k : Nat) (a : Option Addr) (len cap : Nat) : Prop := len ≤ cap ∧ cap ≤ maxLen ∧ (a = none → cap = 0) ∧ len * k ≤ 140737488351232

/-- A ROW OF NODES: nine cells each, one behind another. -/
def RowN (Q : Nb → Tr → Prop) (w : World) (a : Option Addr) (len cap : Nat) (l : List Tr) : Prop :=
  l.length = len ∧ Room 136 a len cap ∧
  (l = [] ∨ ∃ b off, a = some ⟨b, off, none⟩ ∧ ∀ i (h : i < l.length), ∃ nb : Nb, (∀ j, j < 9 → w.cell? ⟨b, off + (i * 9 + j), none⟩ = nb.cells[j]?) ∧ Q nb l[i])

/-- A NODE IN MEMORY is the tree t, of a depth below d. -/
def Nd : Nat → World → Nb → Tr → Prop
  | 0, _, _, _ => False
  | d + 1, w, b, t => (b.kind = t.kind ∧ b.num = t.num ∧ b.neg = t.neg ∧ b.dig = t.dig ∧ b.exp = t.exp ∧ b.txt = t.txt) ∧
    ((Lit.int .i64 t.kind).wf = true ∧ (Lit.int .u64 t.num).wf = true ∧ (Lit.int .i64 t.exp).wf = true ∧ t.dig.size ≤ 140737488351232 ∧ t.txt.size ≤ 140737488351232) ∧
    (t.bytes.length = b.lb ∧ Room 1 b.ab b.lb b.cb ∧ Bytes w b.ab t.bytes) ∧
    RowN (Nd d w) w b.ak b.lk b.ck t.keys ∧ RowN (Nd d w) w b.ai b.li b.ci t.kids

theorem RowN.mono {Q R : Nb → Tr → Prop} {w : World} {a : Option Addr} {len cap : Nat} {l : List Tr} (h : RowN Q w a len cap l) (hq : ∀ b t, t ∈ l → Q b t → R b t) : RowN R w a len cap l := by
  obtain ⟨h0, h1, h2⟩ := h
  refine ⟨h0, h1, ?_⟩
  rcases h2 with h2 | ⟨b, off, ha, hc⟩
  · exact .inl h2
  · refine .inr ⟨b, off, ha, fun i hi => ?_⟩
    obtain ⟨nb, hn, hQ⟩ := hc i hi
    exact ⟨nb, hn, hq _ _ (List.getElem_mem hi) hQ⟩

theorem nd_succ : ∀ (d : Nat) {w : World} {b : Nb} {t : Tr}, Nd d w b t → Nd (d + 1) w b t := by
  intro d
  induction d with
  | zero => intro w b t h; exact absurd h id
  | succ d ih =>
    intro w b t h
    obtain ⟨h0, h1, h2, h3, h4⟩ := h
    exact ⟨h0, h1, h2, h3.mono fun _ _ _ q => ih q, h4.mono fun _ _ _ q => ih q⟩
theorem Nd.le {d e : Nat} {w : World} {b : Nb} {t : Tr} (h : Nd d w b t) (hle : d ≤ e) : Nd e w b t := by
  induction hle with
  | refl => exact h
  | step _ ih => exact nd_succ _ ih

theorem some_block {w : World} {b off : Nat} {v : Value} (h : w.cell? ⟨b, off, none⟩ = some v) : b < w.heap.size := by
  by_cases hb : b < w.heap.size
  · exact hb
  · exfalso
    have : w.heap[b]? = none := Array.getElem?_eq_none (by omega)
    simp [World.cell?, this] at h

/-- KEPT, as the world grows. -/
theorem RowN.kept {Q R : Nb → Tr → Prop} {w w' : World} {a : Option Addr} {len cap : Nat} {l : List Tr} (h : RowN Q w a len cap l) (hb : Below w.heap.size w w') (hq : ∀ b t, t ∈ l → Q b t → R b t) : RowN R w' a len cap l := by
  obtain ⟨h0, h1, h2⟩ := h
  refine ⟨h0, h1, ?_⟩
  rcases h2 with h2 | ⟨b, off, ha, hc⟩
  · exact .inl h2
  · refine .inr ⟨b, off, ha, fun i hi => ?_⟩
    obtain ⟨nb, hn, hQ⟩ := hc i hi
    refine ⟨nb, fun j hj => ?_, hq _ _ (List.getElem_mem hi) hQ⟩
    have h9 := hn j hj
    have hlt : b < w.heap.size := some_block (h9.trans (List.getElem?_eq_getElem (by simpa [Nb.cells] using hj)))
    rw [hb.cell (p := ⟨b, off + (i * 9 + j), none⟩) hlt]
    exact h9
theorem Nd.kept : ∀ {d : Nat} {w w' : World} {b : Nb} {t : Tr}, Nd d w b t → Below w.heap.size w w' → Nd d w' b t := by
  intro d
  induction d with
  | zero => intro w w' b t h _; exact h
  | succ d ih =>
    intro w w' b t h hb
    obtain ⟨h0, h1, ⟨h2, h2', h2''⟩, h3, h4⟩ := h
    exact ⟨h0, h1, ⟨h2, h2', h2''.kept hb⟩, h3.kept hb fun _ _ _ q => ih q hb, h4.kept hb fun _ _ _ q => ih q hb⟩

section
variable {H : Type} {enc : TypeId × Value → H} {P : Program} {w : World} {tn tk tb : TypeId}

end
end Go.Proofs.YtmlacmoembjeoaaGreatDoor
namespace Go.Proofs.YtmlacmoembjeoaaGreatDoor
end Go.Proofs.YtmlacmoembjeoaaGreatDoor
