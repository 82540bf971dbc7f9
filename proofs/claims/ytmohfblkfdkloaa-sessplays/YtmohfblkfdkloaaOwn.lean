/-
  Bytes: what a slice of bytes is; bytes that a call itself has made, appended to and written one by one.
-/
import Derived.Test.YtmohfblkfdkloaaChecked
import GoSem.PinnedTables
import GoSem.Claim
import GoSem.ClaimJoined
import GoSem.ClaimMapViews
import Derived.JoinedTies
import Derived.KernelRfl
import Derived.Lib.Hide
import Derived.WalkKit
import Derived.WalkSpells
import Derived.WalkLawsBesides
import Derived.ProofKit
import Derived.OpenShut
import Derived.ChangeOld
import Derived.Below
import Derived.Laws.AppendOwnNone
import Derived.Laws.CopyOwn
import Derived.Laws.BytesArg
namespace Go.Proofs.Ytmohfblkfdkloaa
open Go.RowKit

/-- WHAT A WALK IS TOLD OF A SLICE OF BYTES: its elements are 'zs', and lie at a. -/
def Bytes (w : World) (a : Option Addr) (zs : List Int) : Prop :=
  (∀ c ∈ zs, 0 ≤ c ∧ c < 256) ∧ zs.length ≤ maxLen ∧
  (zs = [] ∨ ∃ b off, a = some ⟨b, off, none⟩ ∧ ∀ i, i < zs.length → w.cell? ⟨b, off + i, none⟩ = some (.int .u8 (zs.getD i 0)))

/-- THE NEXT BYTE: its cell, its bounds, and what has been gone over then. -/
theorem next_byte {w : World} {b off : Nat} {zs : List Int} (hz : ∀ c ∈ zs, 0 ≤ c ∧ c < 256)
    (hc : ∀ i, i < zs.length → w.cell? ⟨b, off + i, none⟩ = some (.int .u8 (zs.getD i 0))) {k : Nat} (hk : k < zs.length) :
    ∃ c : Int, w.cell? ⟨b, off + k, none⟩ = some (.int .u8 c) ∧ 0 ≤ c ∧ c < 256 ∧ zs.take (k + 1) = zs.take k ++ [c] := by
  refine ⟨zs[k], ?_, (hz _ (List.getElem_mem hk)).1, (hz _ (List.getElem_mem hk)).2, List.take_succ_eq_append_getElem hk⟩
  rw [hc k hk, List.getD_eq_getElem?_getD, List.getElem?_eq_getElem hk]; rfl

theorem take_bytes {zs : List Int} (hz : ∀ c ∈ zs, 0 ≤ c ∧ c < 256) (k : Nat) : ∀ c ∈ zs.take k, 0 ≤ c ∧ c < 256 :=
  fun c h => hz c (List.mem_of_mem_take h)

/-- WHAT THE WALK IS TOLD OF A SLICE OF INTEGERS THAT CAME IN: it is nil; or it leads to a row of 'cap' cells, the numbers 'zs' (the first 'len' are its elements, the rest its spare room), each fitting its kind. -/
def IsRow (k : IntKind) (w : World) (a : Option Addr) (len cap : Nat) (zs : List Int) : Prop :=
  (a = none ∧ len = 0 ∧ cap = 0 ∧ zs = []) ∨
  ∃ x, a = some x ∧ len ≤ cap ∧ cap ≤ maxLen ∧ zs.length = cap ∧ (∀ i, i < zs.length → w.cell? (x.add i) = some (.int k (zs.getD i 0))) ∧ ∀ n ∈ zs, (Lit.int k n).wf = true

theorem nil_cap {w : World} {a : Option Addr} {len cap : Nat} {zs : List Int} (h : IsRow .u8 w a len cap zs) : a = none → cap = 0 := by
  rcases h with ⟨rfl, rfl, rfl, rfl⟩ | ⟨x, rfl, _⟩
  · exact fun _ => rfl
  · intro h; cases h

theorem row_le {w : World} {a : Option Addr} {len cap : Nat} {zs : List Int} (h : IsRow .u8 w a len cap zs) : len ≤ cap ∧ cap ≤ maxLen := by
  rcases h with ⟨rfl, rfl, rfl, rfl⟩ | ⟨x, rfl, hl, hm, _⟩
  · exact ⟨Nat.le_refl _, Nat.zero_le _⟩
  · exact ⟨hl, hm⟩

theorem bytes_of_row {w : World} {a : Option Addr} {len cap : Nat} {zs : List Int} (h : IsRow .u8 w a len cap zs) : (zs.take len).length = len ∧ Bytes w a (zs.take len) := by
  rcases h with ⟨rfl, rfl, rfl, rfl⟩ | ⟨x, rfl, hl, hm, hz, hcell, hwz⟩
  · exact ⟨rfl, by simp, by simp, .inl (by simp)⟩
  · have hlen : (zs.take len).length = len := by rw [List.length_take]; omega
    refine ⟨hlen, ?_, by omega, ?_⟩
    · intro c hc
      have := hwz c (List.mem_of_mem_take hc)
      simp [Lit.wf, show IntKind.u8.min = 0 from by decide, show IntKind.u8.max = 255 from by decide] at this
      omega
    · by_cases h0 : len = 0
      · left; subst h0; simp
      · right
        obtain ⟨b, off, spot⟩ := x
        have hc := hcell 0 (by omega)
        have hspot : spot = none := by simpa [Addr.add] using World.cell?_spot hc
        subst hspot
        refine ⟨b, off, rfl, fun i hi => ?_⟩
        have hi' : i < len := by omega
        have := hcell i (by omega)
        rw [List.getD_eq_getElem?_getD, List.getElem?_take, if_pos hi', ← List.getD_eq_getElem?_getD]
        by_cases h1 : i = 0
        · subst h1; simpa [Addr.add] using this
        · simpa [Addr.add, h1] using this

theorem info5 : (Try.prog.info? 5).map (fun i => (i.zero, i.size, i.bytes)) = some (some (.int .u8 0), 1, 1) := by kernel_rfl

/-- THE SLICE v LIES IN NEW MEMORY (blocks from 'base' on), AND ITS ELEMENTS ARE THE BYTES 'zs'. -/
def OwnsB (w : World) (base : Nat) (v : Value) (zs : List Int) : Prop :=
  w.ownsRow base 5 1 v zs.length (zs.map (Value.int .u8)) ∧ ∀ c ∈ zs, 0 ≤ c ∧ c < 256

theorem ownsB_nil (w : World) (base : Nat) : OwnsB w base (.slice none 0 0) [] := ⟨World.ownsRow_nil w base 5 1, by simp⟩

theorem cell_row {w : World} {g : Nat} {cur : Array Value} {t : TypeId} {m : Nat × Nat} (h : w.heap[g]? = some (.cells cur t m)) (j : Nat) : w.cell? ⟨g, j, none⟩ = cur[j]? := by
  simp [World.cell?, h]

/-- What a slice that owns its bytes looks like. -/
theorem OwnsB.shape {w : World} {base : Nat} {v : Value} {zs : List Int} (h : OwnsB w base v zs) :
    ∃ a cap, v = .slice a zs.length cap ∧ (a = none → cap = 0) ∧ (zs.length ≤ cap ∧ cap ≤ maxLen) ∧ Bytes w a zs ∧ (∀ x, a = some x → base ≤ x.block ∧ x.block < w.heap.size ∧ x.off = 0 ∧ x.spot = none) := by
  obtain ⟨⟨hl, hv⟩, hz⟩ := h
  rcases hv with ⟨rfl, hn⟩ | ⟨g, cap, cur, rfl, hb, hg, hnc, hcm, hcs, htk⟩
  · have h0 : zs = [] := List.eq_nil_of_length_eq_zero hn
    subst h0
    exact ⟨none, 0, rfl, fun _ => rfl, by simp, ⟨hz, by simp, .inl rfl⟩, fun x hx => by cases hx⟩
  · refine ⟨some ⟨g, 0, none⟩, cap, rfl, (fun hx => by cases hx), ⟨hnc, hcm⟩, ⟨hz, by omega, .inr ⟨g, 0, rfl, fun i hi => ?_⟩⟩, ?_⟩
    · rw [Nat.zero_add, cell_row hg, ← Array.getElem?_toList]
      have h1 : (cur.toList.take (zs.length * 1))[i]? = (zs.map (Value.int .u8))[i]? := by rw [htk]
      rw [List.getElem?_take, if_pos (by omega), List.getElem?_map] at h1
      rw [h1, List.getD_eq_getElem?_getD, List.getElem?_eq_getElem hi]; rfl
    · intro x hx
      cases hx
      refine ⟨hb, ?_, rfl, rfl⟩
      exact (Array.getElem?_eq_some_iff.1 hg).1

/-- The same, the length a letter of its own; what the walk must not see stands behind 'Hid'. -/
theorem OwnsB.form {w : World} {base : Nat} {v : Value} {zs : List Int} (h : OwnsB w base v zs) :
    ∃ a n cap, v = .slice a n cap ∧ Hid (zs.length = n) ∧ Hid (a = none → cap = 0) ∧ n ≤ cap ∧ cap ≤ 9223372036854775807 ∧ Hid (Bytes w a zs) := by
  obtain ⟨a, cap, hv, hn, ⟨hl, hm⟩, hb, _⟩ := h.shape
  exact ⟨a, zs.length, cap, hv, rfl, hn, hl, by simpa [maxLen] using hm, hb⟩

theorem bytes_one (zs : List Int) : ∀ u ∈ zs.map (Value.int .u8), u.oneCell' = true := by
  intro u hu
  obtain ⟨c, _, rfl⟩ := List.mem_map.1 hu
  rfl

theorem bytes_news {w : World} {x : Addr} {zs : List Int} (hb : Bytes w (some x) zs) :
    ∀ j u, (zs.map (Value.int .u8))[j]? = some u → w.cell? (x.add j) = some u := by
  intro j u hu
  rcases hb.2.2 with rfl | ⟨b, off, hx, hc⟩
  · simp at hu
  · cases hx
    have hj : j < zs.length := by
      have := (List.getElem?_eq_some_iff.1 hu).1
      simpa using this
    have h1 := hc j hj
    rw [List.getElem?_map, List.getElem?_eq_getElem hj] at hu
    simp only [Option.map_some, Option.some.injEq] at hu
    subst hu
    have e : (⟨b, off, none⟩ : Addr).add j = ⟨b, off + j, none⟩ := by
      by_cases h0 : j = 0
      · subst h0; simp [Addr.add]
      · simp [Addr.add, h0]
    rw [e, h1, List.getD_eq_getElem?_getD, List.getElem?_eq_getElem hj]; rfl

/-- 'append(v, x...)', v the call's own bytes, x any bytes. -/
theorem wpList_append_bytes {w : World} {ops : Array Oper} {rest : List Oper} {o : Oper} {a : Act} {Q : Exit → Act → World → Prop} (hgd : o.guard = none) (s x : Operand)
    (ho : o.op = .call { callee := .builtin .append, args := #[s, x], argTypes := #[35, 35] })
    (base : Nat) (v : Value) (ys zs : List Int) (hs : a.eval s = v) (hown : OwnsB w base v ys)
    (ad : Option Addr) (m c : Nat) (hx : a.eval x = .slice ad m c) (hm : zs.length = m) (hn : ad = none → c = 0) (hb : Bytes w ad zs)
    (hbytes : ys.length + zs.length ≤ 140737488355328) (hbase : base ≤ w.heap.size)
    (h : ∀ v' w', OwnsB w' base v' (ys ++ zs) → w.grownBy w' v.ownBlock → wpList Try.prog ops Q rest (a.put o.dst v') w') : wpList Try.prog ops Q (o :: rest) a w := by
  subst hm
  obtain ⟨i, hi, hz, hsz, hby⟩ := info_parts info5
  have hall : ∀ c ∈ ys ++ zs, 0 ≤ c ∧ c < 256 := fun c hc => by
    rcases List.mem_append.1 hc with h1 | h1
    · exact hown.2 c h1
    · exact hb.1 c h1
  cases ad with
  | none =>
    have h0 : zs = [] := by
      rcases hb.2.2 with h0 | ⟨_, _, h0, _⟩
      · exact h0
      · cases h0
    subst h0
    rw [hn rfl] at hx
    refine wpList_append_own_none hgd s x 35 ho base 5 i 1 Try.underlying35 hi v ys.length _ hs hown.1 hx ?_
    have := h v w (by simpa using hown) (World.grownBy.refl _ _)
    exact this
  | some ad =>
    refine wpList_append_own w hgd s x 35 ho base 5 i (.int .u8 0) 1 1 Try.underlying35 hi hz hsz hby rfl (by decide) v ys.length _ hs hown.1 ad zs.length c (zs.map (Value.int .u8)) hx (by simp) (bytes_news hb) (bytes_one zs) ?_ (by omega) hbase ?_
    · unfold maxLen; omega
    · intro v' w' ho' hg _
      refine h v' w' ⟨?_, hall⟩ hg
      rw [List.length_append, List.map_append]
      exact ho'

/-- Bytes below stay as they were. -/
theorem Bytes.below {w w' : World} {B : Nat} {a : Option Addr} {zs : List Int} (hb : Bytes w a zs) (h : Below B w w') (hB : ∀ x, a = some x → zs ≠ [] → x.block < B) : Bytes w' a zs := by
  refine ⟨hb.1, hb.2.1, ?_⟩
  rcases hb.2.2 with h0 | ⟨b, off, rfl, hc⟩
  · exact .inl h0
  · by_cases h0 : zs = []
    · exact .inl h0
    · refine .inr ⟨b, off, rfl, fun i hi => ?_⟩
      rw [h.cell (p := ⟨b, off + i, none⟩) (hB ⟨b, off, none⟩ rfl h0)]
      exact hc i hi

theorem Bytes.lt {w : World} {x : Addr} {zs : List Int} (hb : Bytes w (some x) zs) (h0 : zs ≠ []) : x.block < w.heap.size := by
  rcases hb.2.2 with h1 | ⟨b, off, h1, hc⟩
  · exact absurd h1 h0
  · cases h1
    have hp : 0 < zs.length := List.length_pos_iff.2 h0
    have := hc 0 hp
    simp only [World.cell?] at this
    show b < w.heap.size
    rcases Nat.lt_or_ge b w.heap.size with h2 | h2
    · exact h2
    · simp [Array.getElem?_eq_none h2] at this

/-- All old bytes stay as they were. -/
theorem Bytes.kept {w w' : World} {a : Option Addr} {zs : List Int} (hb : Bytes w a zs) (h : Below w.heap.size w w') : Bytes w' a zs :=
  hb.below h fun x hx h0 => by subst hx; exact hb.lt h0

theorem OwnsB.alloc {w : World} {base : Nat} {v : Value} {zs : List Int} (h : OwnsB w base v zs) (o : Obj) : OwnsB (w.alloc o) base v zs := ⟨h.1.alloc o, h.2⟩

theorem OwnsB.below {w w' : World} {base : Nat} {v : Value} {zs : List Int} (h : OwnsB w base v zs) (hb : Below w.heap.size w w') : OwnsB w' base v zs :=
  ⟨h.1.kept (row := none) ⟨hb.os, hb.tape, hb.output, hb.size, fun k hk _ => hb.block k hk⟩ (by cases hv : v.ownBlock <;> simp), h.2⟩

theorem grown_below {w w1 w2 : World} {base : Nat} {v : Value} {zs : List Int} (hb : Below base w w1) (h : OwnsB w1 base v zs) (hg : w1.grownBy w2 v.ownBlock) (hB : base ≤ w1.heap.size) : Below base w w2 :=
  hb.grown hg hB fun k hk => (h.1.lt k hk).1

theorem Bytes.drewN {w : World} {a : Option Addr} {zs : List Int} (h : Bytes w a zs) (n : Nat) : Bytes (w.drewN n) a zs := h

/-- The first bytes of bytes. -/
theorem Bytes.take {w : World} {a : Option Addr} {zs : List Int} (h : Bytes w a zs) (k : Nat) : Bytes w a (zs.take k) := by
  refine ⟨take_bytes h.1 k, Nat.le_trans (List.length_take_le' k zs) h.2.1, ?_⟩
  rcases h.2.2 with rfl | ⟨b, off, rfl, hc⟩
  · left; simp
  · right
    refine ⟨b, off, rfl, fun i hi => ?_⟩
    rw [List.length_take] at hi
    rw [hc i (by omega), List.getD_eq_getElem?_getD, List.getD_eq_getElem?_getD, List.getElem?_take, if_pos (by omega)]

/-- The bytes behind the first ones. -/
theorem Bytes.drop {w : World} {b off : Nat} {zs : List Int} (h : Bytes w (some ⟨b, off, none⟩) zs) (k : Nat) : Bytes w (some ⟨b, off + k, none⟩) (zs.drop k) := by
  refine ⟨fun c hc => h.1 c (List.mem_of_mem_drop hc), by rw [List.length_drop]; have := h.2.1; omega, ?_⟩
  rcases h.2.2 with rfl | ⟨b', off', hx, hc⟩
  · left; simp
  · right
    cases hx
    refine ⟨b, off + k, rfl, fun i hi => ?_⟩
    rw [List.length_drop] at hi
    rw [show off + k + i = off + (k + i) from by omega, hc (k + i) (by omega), List.getD_eq_getElem?_getD, List.getD_eq_getElem?_getD, List.getElem?_drop]

/-- A SLICE AT THE HEAD OF A ROW OF THE CALL's OWN: block g, the bytes 'zs'. -/
def OwnR (w : World) (base g n cap : Nat) (zs : List Int) : Prop :=
  w.ownsRow base 5 1 (.slice (some ⟨g, 0, none⟩) n cap) n (zs.map (Value.int .u8)) ∧ zs.length = n ∧ (∀ c ∈ zs, 0 ≤ c ∧ c < 256) ∧ base ≤ g

theorem OwnsB.row {w : World} {base : Nat} {v : Value} {zs : List Int} (h : OwnsB w base v zs) (h0 : 0 < zs.length) :
    ∃ g n cap, v = .slice (some ⟨g, 0, none⟩) n cap ∧ Hid (OwnR w base g n cap zs) ∧ Hid (zs.length = n) ∧ n ≤ cap ∧ cap ≤ 9223372036854775807 := by
  obtain ⟨⟨hl, hv⟩, hz⟩ := h
  rcases hv with ⟨rfl, hn⟩ | ⟨g, cap, cur, rfl, hb, hg, hnc, hcm, hcs, htk⟩
  · omega
  · exact ⟨g, zs.length, cap, rfl, ⟨⟨hl, .inr ⟨g, cap, cur, rfl, hb, hg, hnc, hcm, hcs, htk⟩⟩, rfl, hz, hb⟩, rfl, hnc, by simpa [maxLen] using hcm⟩

theorem OwnR.owns {w : World} {base g n cap : Nat} {zs : List Int} (h : OwnR w base g n cap zs) : OwnsB w base (.slice (some ⟨g, 0, none⟩) n cap) zs := by
  obtain ⟨h1, rfl, h3, _⟩ := h
  exact ⟨h1, h3⟩

theorem OwnR.cell {w : World} {base g n cap : Nat} {zs : List Int} (h : OwnR w base g n cap zs) (j : Nat) (hj : j < n) : w.cell? ⟨g, j, none⟩ = some (.int .u8 (zs.getD j 0)) := by
  obtain ⟨h1, rfl, h3, _⟩ := h
  rw [h1.cellAt j (by omega), List.getElem?_map, List.getD_eq_getElem?_getD, List.getElem?_eq_getElem hj]; rfl

theorem OwnR.frozen {w : World} {base g n cap : Nat} {zs : List Int} (h : OwnR w base g n cap zs) (j : Nat) : w.frozen? ⟨g, j, none⟩ = false := h.1.frozenAt j

theorem OwnR.store {w : World} {base g n cap : Nat} {zs : List Int} (h : OwnR w base g n cap zs) (j : Nat) (c : Int) (hc : 0 ≤ c ∧ c < 256) : OwnR (w.setCell ⟨g, j, none⟩ (.int .u8 c)) base g n cap (zs.set j c) := by
  obtain ⟨h1, h2, h3, h4⟩ := h
  refine ⟨?_, by rw [List.length_set]; exact h2, fun d hd => ?_, h4⟩
  · have := (h1.stored j (.int .u8 c)).1
    rwa [← List.map_set] at this
  · rcases List.mem_or_eq_of_mem_set hd with h5 | h5
    · exact h3 d h5
    · rw [h5]; exact hc

theorem OwnR.bytes {w : World} {base g n cap : Nat} {zs : List Int} (h : OwnR w base g n cap zs) : Bytes w (some ⟨g, 0, none⟩) zs := by
  obtain ⟨a, cap', hv, _, _, hb, _⟩ := h.owns.shape
  cases hv
  exact hb

theorem bytes_some {w : World} {a : Option Addr} {zs : List Int} (hb : Bytes w a zs) (h : 0 < zs.length) : ∃ b off, a = some ⟨b, off, none⟩ := by
  rcases hb.2.2 with rfl | ⟨b, off, h1, _⟩
  · simp at h
  · exact ⟨b, off, h1⟩

theorem one_byte (w : World) (n : Int) (h0 : 0 ≤ n) (h1 : n < 256) : Bytes (w.alloc (.cells #[.int .u8 n] 5)) (some ⟨w.heap.size, 0, none⟩) [n] := by
  refine ⟨by intro c hc; simp at hc; omega, by simp [maxLen], .inr ⟨_, _, rfl, ?_⟩⟩
  intro i hi
  rw [World.cell?_alloc_mark]
  match i, hi with
  | 0, _ => rfl

end Go.Proofs.Ytmohfblkfdkloaa
