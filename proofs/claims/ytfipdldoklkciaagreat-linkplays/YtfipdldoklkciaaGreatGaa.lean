/-
  Texts Own, Same, Plain, Turn, More, Seal, RefSeal, Read, Open, Burst.
-/
import Derived.Test.YtfipdldoklkciaaGreatChecked
import GoSem.PinnedTables
import GoSem.Claim
import GoSem.ClaimJoined
import GoSem.ClaimMapViews
import Derived.JoinedTies
import Derived.KernelRfl
import Derived.Lib.Hide
import Derived.WalkKit
import Derived.WalkSpells
import Derived.WalkLawsBesides
import Derived.ProofKit
import Derived.OpenShut
import Derived.ChangeOld
import Derived.Below
import Derived.Laws.AppendOwnNone
import Derived.Laws.CopyOwn
import Derived.Laws.BytesArg
import Derived.Laws.BitsAllLaws
import Derived.Lib.SlBytesConst
import Derived.Deep.QuietTactic
import Derived.BigQuiet
namespace Go.Proofs.YtfipdldoklkciaaGreat
open Go.RowKit

/-- WHAT A WALK IS TOLD OF A SLICE OF BYTES: its elements are 'zs', and lie at a. -/
def Bytes (w : World) (a : Option Addr) (zs : List Int) : Prop :=
  (∀ c ∈ zs, 0 ≤ c ∧ c < 256) ∧ zs.length ≤ maxLen ∧
  (zs = [] ∨ ∃ b off, a = some ⟨b, off, none⟩ ∧ ∀ i, i < zs.length → w.cell? ⟨b, off + i, none⟩ = some (.int .u8 (zs.getD i 0)))

/-- THE NEXT BYTE: its cell, its bounds, and what has been gone over then. -/
theorem next_byte {w : World} {b off : Nat} {zs : List Int} (hz : ∀ c ∈ zs, 0 ≤ c ∧ c < 256)
    (hc : ∀ i, i < zs.length → w.cell? ⟨b, off + i, none⟩ = some (.int .u8 (zs.getD i 0))) {k : Nat} (hk : k < zs.length) :
    ∃ c : Int, w.cell? ⟨b, off + k, none⟩ = some (.int .u8 c) ∧ 0 ≤ c ∧ c < 256 ∧ zs.take (k + 1) = zs.take k ++ [c] := by
  refine ⟨zs[k], ?_, (hz _ (List.getElem_mem hk)).1, (hz _ (List.getElem_mem hk)).2, List.take_succ_eq_append_getElem hk⟩
  rw [hc k hk, List.getD_eq_getElem?_getD, List.getElem?_eq_getElem hk]; rfl

theorem take_bytes {zs : List Int} (hz : ∀ c ∈ zs, 0 ≤ c ∧ c < 256) (k : Nat) : ∀ c ∈ zs.take k, 0 ≤ c ∧ c < 256 :=
  fun c h => hz c (List.mem_of_mem_take h)

/-- WHAT THE WALK IS TOLD OF A SLICE OF INTEGERS THAT CAME IN: it is nil; or it leads to a row of 'cap' cells, the numbers 'zs' (the first 'len' are its elements, the rest its spare room), each fitting its kind. -/
def IsRow (k : IntKind) (w : World) (a : Option Addr) (len cap : Nat) (zs : List Int) : Prop :=
  (a = none ∧ len = 0 ∧ cap = 0 ∧ zs = []) ∨
  ∃ x, a = some x ∧ len ≤ cap ∧ cap ≤ maxLen ∧ zs.length = cap ∧ (∀ i, i < zs.length → w.cell? (x.add i) = some (.int k (zs.getD i 0))) ∧ ∀ n ∈ zs, (Lit.int k n).wf = true

theorem nil_cap {w : World} {a : Option Addr} {len cap : Nat} {zs : List Int} (h : IsRow .u8 w a len cap zs) : a = none → cap = 0 := by
  rcases h with ⟨rfl, rfl, rfl, rfl⟩ | ⟨x, rfl, _⟩
  · exact fun _ => rfl
  · intro h; cases h

theorem row_le {w : World} {a : Option Addr} {len cap : Nat} {zs : List Int} (h : IsRow .u8 w a len cap zs) : len ≤ cap ∧ cap ≤ maxLen := by
  rcases h with ⟨rfl, rfl, rfl, rfl⟩ | ⟨x, rfl, hl, hm, _⟩
  · exact ⟨Nat.le_refl _, Nat.zero_le _⟩
  · exact ⟨hl, hm⟩

theorem bytes_of_row {w : World} {a : Option Addr} {len cap : Nat} {zs : List Int} (h : IsRow .u8 w a len cap zs) : (zs.take len).length = len ∧ Bytes w a (zs.take len) := by
  rcases h with ⟨rfl, rfl, rfl, rfl⟩ | ⟨x, rfl, hl, hm, hz, hcell, hwz⟩
  · exact ⟨rfl, by simp, by simp, .inl (by simp)⟩
  · have hlen : (zs.take len).length = len := by rw [List.length_take]; omega
    refine ⟨hlen, ?_, by omega, ?_⟩
    · intro c hc
      have := hwz c (List.mem_of_mem_take hc)
      simp [Lit.wf, show IntKind.u8.min = 0 from by decide, show IntKind.u8.max = 255 from by decide] at this
      omega
    · by_cases h0 : len = 0
      · left; subst h0; simp
      · right
        obtain ⟨b, off, spot⟩ := x
        have hc := hcell 0 (by omega)
        have hspot : spot = none := by simpa [Addr.add] using World.cell?_spot hc
        subst hspot
        refine ⟨b, off, rfl, fun i hi => ?_⟩
        have hi' : i < len := by omega
        have := hcell i (by omega)
        rw [List.getD_eq_getElem?_getD, List.getElem?_take, if_pos hi', ← List.getD_eq_getElem?_getD]
        by_cases h1 : i = 0
        · subst h1; simpa [Addr.add] using this
        · simpa [Addr.add, h1] using this

theorem info5 : (Tryz.prog.info? 5).map (fun i => (i.zero, i.size, i.bytes)) = some (some (.int .u8 0), 1, 1) := by kernel_rfl

/-- THE SLICE v LIES IN NEW MEMORY (blocks from 'base' on), AND ITS ELEMENTS ARE THE BYTES 'zs'. -/
def OwnsB (w : World) (base : Nat) (v : Value) (zs : List Int) : Prop :=
  w.ownsRow base 5 1 v zs.length (zs.map (Value.int .u8)) ∧ ∀ c ∈ zs, 0 ≤ c ∧ c < 256

theorem ownsB_nil (w : World) (base : Nat) : OwnsB w base (.slice none 0 0) [] := ⟨World.ownsRow_nil w base 5 1, by simp⟩

theorem cell_row {w : World} {g : Nat} {cur : Array Value} {t : TypeId} {m : Nat × Nat} (h : w.heap[g]? = some (.cells cur t m)) (j : Nat) : w.cell? ⟨g, j, none⟩ = cur[j]? := by
  simp [World.cell?, h]

/-- What a slice that owns its bytes looks like. -/
theorem OwnsB.shape {w : World} {base : Nat} {v : Value} {zs : List Int} (h : OwnsB w base v zs) :
    ∃ a cap, v = .slice a zs.length cap ∧ (a = none → cap = 0) ∧ (zs.length ≤ cap ∧ cap ≤ maxLen) ∧ Bytes w a zs ∧ (∀ x, a = some x → base ≤ x.block ∧ x.block < w.heap.size ∧ x.off = 0 ∧ x.spot = none) := by
  obtain ⟨⟨hl, hv⟩, hz⟩ := h
  rcases hv with ⟨rfl, hn⟩ | ⟨g, cap, cur, rfl, hb, hg, hnc, hcm, hcs, htk⟩
  · have h0 : zs = [] := List.eq_nil_of_length_eq_zero hn
    subst h0
    exact ⟨none, 0, rfl, fun _ => rfl, by simp, ⟨hz, by simp, .inl rfl⟩, fun x hx => by cases hx⟩
  · refine ⟨some ⟨g, 0, none⟩, cap, rfl, (fun hx => by cases hx), ⟨hnc, hcm⟩, ⟨hz, by omega, .inr ⟨g, 0, rfl, fun i hi => ?_⟩⟩, ?_⟩
    · rw [Nat.zero_add, cell_row hg, ← Array.getElem?_toList]
      have h1 : (cur.toList.take (zs.length * 1))[i]? = (zs.map (Value.int .u8))[i]? := by rw [htk]
      rw [List.getElem?_take, if_pos (by omega), List.getElem?_map] at h1
      rw [h1, List.getD_eq_getElem?_getD, List.getElem?_eq_getElem hi]; rfl
    · intro x hx
      cases hx
      refine ⟨hb, ?_, rfl, rfl⟩
      exact (Array.getElem?_eq_some_iff.1 hg).1

/-- The same, the length a letter of its own; what the walk must not see stands behind 'Hid'. -/
theorem OwnsB.form {w : World} {base : Nat} {v : Value} {zs : List Int} (h : OwnsB w base v zs) :
    ∃ a n cap, v = .slice a n cap ∧ Hid (zs.length = n) ∧ Hid (a = none → cap = 0) ∧ n ≤ cap ∧ cap ≤ 9223372036854775807 ∧ Hid (Bytes w a zs) := by
  obtain ⟨a, cap, hv, hn, ⟨hl, hm⟩, hb, _⟩ := h.shape
  exact ⟨a, zs.length, cap, hv, rfl, hn, hl, by simpa [maxLen] using hm, hb⟩

theorem bytes_one (zs : List Int) : ∀ u ∈ zs.map (Value.int .u8), u.oneCell' = true := by
  intro u hu
  obtain ⟨c, _, rfl⟩ := List.mem_map.1 hu
  rfl

theorem bytes_news {w : World} {x : Addr} {zs : List Int} (hb : Bytes w (some x) zs) :
    ∀ j u, (zs.map (Value.int .u8))[j]? = some u → w.cell? (x.add j) = some u := by
  intro j u hu
  rcases hb.2.2 with rfl | ⟨b, off, hx, hc⟩
  · simp at hu
  · cases hx
    have hj : j < zs.length := by
      have := (List.getElem?_eq_some_iff.1 hu).1
      simpa using this
    have h1 := hc j hj
    rw [List.getElem?_map, List.getElem?_eq_getElem hj] at hu
    simp only [Option.map_some, Option.some.injEq] at hu
    subst hu
    have e : (⟨b, off, none⟩ : Addr).add j = ⟨b, off + j, none⟩ := by
      by_cases h0 : j = 0
      · subst h0; simp [Addr.add]
      · simp [Addr.add, h0]
    rw [e, h1, List.getD_eq_getElem?_getD, List.getElem?_eq_getElem hj]; rfl

/-- 'append(v, x...)', v the call's own bytes, x any bytes. -/
theorem wpList_append_bytes {w : World} {ops : Array Oper} {rest : List Oper} {o : Oper} {a : Act} {Q : Exit → Act → World → Prop} (hgd : o.guard = none) (s x : Operand)
    (ho : o.op = .call { callee := .builtin .append, args := #[s, x], argTypes := #[42, 42] })
    (base : Nat) (v : Value) (ys zs : List Int) (hs : a.eval s = v) (hown : OwnsB w base v ys)
    (ad : Option Addr) (m c : Nat) (hx : a.eval x = .slice ad m c) (hm : zs.length = m) (hn : ad = none → c = 0) (hb : Bytes w ad zs)
    (hbytes : ys.length + zs.length ≤ 140737488355328) (hbase : base ≤ w.heap.size)
    (h : ∀ v' w', OwnsB w' base v' (ys ++ zs) → w.grownBy w' v.ownBlock → wpList Tryz.prog ops Q rest (a.put o.dst v') w') : wpList Tryz.prog ops Q (o :: rest) a w := by
  subst hm
  obtain ⟨i, hi, hz, hsz, hby⟩ := info_parts info5
  have hall : ∀ c ∈ ys ++ zs, 0 ≤ c ∧ c < 256 := fun c hc => by
    rcases List.mem_append.1 hc with h1 | h1
    · exact hown.2 c h1
    · exact hb.1 c h1
  cases ad with
  | none =>
    have h0 : zs = [] := by
      rcases hb.2.2 with h0 | ⟨_, _, h0, _⟩
      · exact h0
      · cases h0
    subst h0
    rw [hn rfl] at hx
    refine wpList_append_own_none hgd s x 42 ho base 5 i 1 Tryz.underlying42 hi v ys.length _ hs hown.1 hx ?_
    have := h v w (by simpa using hown) (World.grownBy.refl _ _)
    exact this
  | some ad =>
    refine wpList_append_own w hgd s x 42 ho base 5 i (.int .u8 0) 1 1 Tryz.underlying42 hi hz hsz hby rfl (by decide) v ys.length _ hs hown.1 ad zs.length c (zs.map (Value.int .u8)) hx (by simp) (bytes_news hb) (bytes_one zs) ?_ (by omega) hbase ?_
    · unfold maxLen; omega
    · intro v' w' ho' hg _
      refine h v' w' ⟨?_, hall⟩ hg
      rw [List.length_append, List.map_append]
      exact ho'

/-- Bytes below stay as they were. -/
theorem Bytes.below {w w' : World} {B : Nat} {a : Option Addr} {zs : List Int} (hb : Bytes w a zs) (h : Below B w w') (hB : ∀ x, a = some x → zs ≠ [] → x.block < B) : Bytes w' a zs := by
  refine ⟨hb.1, hb.2.1, ?_⟩
  rcases hb.2.2 with h0 | ⟨b, off, rfl, hc⟩
  · exact .inl h0
  · by_cases h0 : zs = []
    · exact .inl h0
    · refine .inr ⟨b, off, rfl, fun i hi => ?_⟩
      rw [h.cell (p := ⟨b, off + i, none⟩) (hB ⟨b, off, none⟩ rfl h0)]
      exact hc i hi

theorem Bytes.lt {w : World} {x : Addr} {zs : List Int} (hb : Bytes w (some x) zs) (h0 : zs ≠ []) : x.block < w.heap.size := by
  rcases hb.2.2 with h1 | ⟨b, off, h1, hc⟩
  · exact absurd h1 h0
  · cases h1
    have hp : 0 < zs.length := List.length_pos_iff.2 h0
    have := hc 0 hp
    simp only [World.cell?] at this
    show b < w.heap.size
    rcases Nat.lt_or_ge b w.heap.size with h2 | h2
    · exact h2
    · simp [Array.getElem?_eq_none h2] at this

/-- All old bytes stay as they were. -/
theorem Bytes.kept {w w' : World} {a : Option Addr} {zs : List Int} (hb : Bytes w a zs) (h : Below w.heap.size w w') : Bytes w' a zs :=
  hb.below h fun x hx h0 => by subst hx; exact hb.lt h0

theorem OwnsB.alloc {w : World} {base : Nat} {v : Value} {zs : List Int} (h : OwnsB w base v zs) (o : Obj) : OwnsB (w.alloc o) base v zs := ⟨h.1.alloc o, h.2⟩

theorem OwnsB.below {w w' : World} {base : Nat} {v : Value} {zs : List Int} (h : OwnsB w base v zs) (hb : Below w.heap.size w w') : OwnsB w' base v zs :=
  ⟨h.1.kept (row := none) ⟨hb.os, hb.tape, hb.output, hb.size, fun k hk _ => hb.block k hk⟩ (by cases hv : v.ownBlock <;> simp), h.2⟩

theorem grown_below {w w1 w2 : World} {base : Nat} {v : Value} {zs : List Int} (hb : Below base w w1) (h : OwnsB w1 base v zs) (hg : w1.grownBy w2 v.ownBlock) (hB : base ≤ w1.heap.size) : Below base w w2 :=
  hb.grown hg hB fun k hk => (h.1.lt k hk).1

theorem Bytes.drewN {w : World} {a : Option Addr} {zs : List Int} (h : Bytes w a zs) (n : Nat) : Bytes (w.drewN n) a zs := h

/-- The first bytes of bytes. -/
theorem Bytes.take {w : World} {a : Option Addr} {zs : List Int} (h : Bytes w a zs) (k : Nat) : Bytes w a (zs.take k) := by
  refine ⟨take_bytes h.1 k, Nat.le_trans (List.length_take_le' k zs) h.2.1, ?_⟩
  rcases h.2.2 with rfl | ⟨b, off, rfl, hc⟩
  · left; simp
  · right
    refine ⟨b, off, rfl, fun i hi => ?_⟩
    rw [List.length_take] at hi
    rw [hc i (by omega), List.getD_eq_getElem?_getD, List.getD_eq_getElem?_getD, List.getElem?_take, if_pos (by omega)]

/-- The bytes behind the first ones. -/
theorem Bytes.drop {w : World} {b off : Nat} {zs : List Int} (h : Bytes w (some ⟨b, off, none⟩) zs) (k : Nat) : Bytes w (some ⟨b, off + k, none⟩) (zs.drop k) := by
  refine ⟨fun c hc => h.1 c (List.mem_of_mem_drop hc), by rw [List.length_drop]; have := h.2.1; omega, ?_⟩
  rcases h.2.2 with rfl | ⟨b', off', hx, hc⟩
  · left; simp
  · right
    cases hx
    refine ⟨b, off + k, rfl, fun i hi => ?_⟩
    rw [List.length_drop] at hi
    rw [show off + k + i = off + (k + i) from by omega, hc (k + i) (by omega), List.getD_eq_getElem?_getD, List.getD_eq_getElem?_getD, List.getElem?_drop]

/-- A SLICE AT THE HEAD OF A ROW OF THE CALL's OWN: block g, the bytes 'zs'. -/
def OwnR (w : World) (base g n cap : Nat) (zs : List Int) : Prop :=
  w.ownsRow base 5 1 (.slice (some ⟨g, 0, none⟩) n cap) n (zs.map (Value.int .u8)) ∧ zs.length = n ∧ (∀ c ∈ zs, 0 ≤ c ∧ c < 256) ∧ base ≤ g

theorem OwnsB.row {w : World} {base : Nat} {v : Value} {zs : List Int} (h : OwnsB w base v zs) (h0 : 0 < zs.length) :
    ∃ g n cap, v = .slice (some ⟨g, 0, none⟩) n cap ∧ Hid (OwnR w base g n cap zs) ∧ Hid (zs.length = n) ∧ n ≤ cap ∧ cap ≤ 9223372036854775807 := by
  obtain ⟨⟨hl, hv⟩, hz⟩ := h
  rcases hv with ⟨rfl, hn⟩ | ⟨g, cap, cur, rfl, hb, hg, hnc, hcm, hcs, htk⟩
  · omega
  · exact ⟨g, zs.length, cap, rfl, ⟨⟨hl, .inr ⟨g, cap, cur, rfl, hb, hg, hnc, hcm, hcs, htk⟩⟩, rfl, hz, hb⟩, rfl, hnc, by simpa [maxLen] using hcm⟩

theorem OwnR.owns {w : World} {base g n cap : Nat} {zs : List Int} (h : OwnR w base g n cap zs) : OwnsB w base (.slice (some ⟨g, 0, none⟩) n cap) zs := by
  obtain ⟨h1, rfl, h3, _⟩ := h
  exact ⟨h1, h3⟩

theorem OwnR.cell {w : World} {base g n cap : Nat} {zs : List Int} (h : OwnR w base g n cap zs) (j : Nat) (hj : j < n) : w.cell? ⟨g, j, none⟩ = some (.int .u8 (zs.getD j 0)) := by
  obtain ⟨h1, rfl, h3, _⟩ := h
  rw [h1.cellAt j (by omega), List.getElem?_map, List.getD_eq_getElem?_getD, List.getElem?_eq_getElem hj]; rfl

theorem OwnR.frozen {w : World} {base g n cap : Nat} {zs : List Int} (h : OwnR w base g n cap zs) (j : Nat) : w.frozen? ⟨g, j, none⟩ = false := h.1.frozenAt j

theorem OwnR.store {w : World} {base g n cap : Nat} {zs : List Int} (h : OwnR w base g n cap zs) (j : Nat) (c : Int) (hc : 0 ≤ c ∧ c < 256) : OwnR (w.setCell ⟨g, j, none⟩ (.int .u8 c)) base g n cap (zs.set j c) := by
  obtain ⟨h1, h2, h3, h4⟩ := h
  refine ⟨?_, by rw [List.length_set]; exact h2, fun d hd => ?_, h4⟩
  · have := (h1.stored j (.int .u8 c)).1
    rwa [← List.map_set] at this
  · rcases List.mem_or_eq_of_mem_set hd with h5 | h5
    · exact h3 d h5
    · rw [h5]; exact hc

theorem OwnR.bytes {w : World} {base g n cap : Nat} {zs : List Int} (h : OwnR w base g n cap zs) : Bytes w (some ⟨g, 0, none⟩) zs := by
  obtain ⟨a, cap', hv, _, _, hb, _⟩ := h.owns.shape
  cases hv
  exact hb

theorem bytes_some {w : World} {a : Option Addr} {zs : List Int} (hb : Bytes w a zs) (h : 0 < zs.length) : ∃ b off, a = some ⟨b, off, none⟩ := by
  rcases hb.2.2 with rfl | ⟨b, off, h1, _⟩
  · simp at h
  · exact ⟨b, off, h1⟩

theorem one_byte (w : World) (n : Int) (h0 : 0 ≤ n) (h1 : n < 256) : Bytes (w.alloc (.cells #[.int .u8 n] 5)) (some ⟨w.heap.size, 0, none⟩) [n] := by
  refine ⟨by intro c hc; simp at hc; omega, by simp [maxLen], .inr ⟨_, _, rfl, ?_⟩⟩
  intro i hi
  rw [World.cell?_alloc_mark]
  match i, hi with
  | 0, _ => rfl

end Go.Proofs.YtfipdldoklkciaaGreat
namespace Go.Proofs.YtfipdldoklkciaaGreat
open Go.RowKit

theorem conv_str {w : World} {a : Option Addr} {zs : List Int} (hb : Bytes w a zs) (m cap : Nat) (hm : zs.length = m) :
    (convert 42 9 (.slice a m cap)).run Tryz.prog w = .ok (.string (strOfNums zs)) w := by
  subst hm
  rcases hb.2.2 with rfl | ⟨b, off, rfl, hc⟩
  · cases a with
    | none => rw [run_convert_bytes_nil w 42 5 Tryz.underlying42 Tryz.underlying5 _ cap 9 Tryz.underlying9]; rfl
    | some x =>
      rw [run_convert_bytes_string w 42 9 5 _ _ cap Tryz.underlying42 Tryz.underlying5 Tryz.underlying9]
      have hl := run_loadCells_list (P := Tryz.prog) w x [] (by simp)
      exact run_bytesToString w x 0 cap [] hl
  · exact run_convert_bytes_arg w 42 5 Tryz.underlying42 Tryz.underlying5 b off zs.length cap zs rfl hc 9 Tryz.underlying9

theorem str_inj {xs ys : List Int} (hx : ∀ c ∈ xs, 0 ≤ c ∧ c < 256) (hy : ∀ c ∈ ys, 0 ≤ c ∧ c < 256)
    (h : (xs.map fun n => UInt8.ofNat n.toNat) = ys.map fun n => UInt8.ofNat n.toNat) : xs = ys := by
  induction xs generalizing ys with
  | nil => cases ys with
    | nil => rfl
    | cons y ys => simp at h
  | cons x xs ih =>
    cases ys with
    | nil => simp at h
    | cons y ys =>
      simp only [List.map_cons, List.cons.injEq] at h
      have h1 := hx x (by simp)
      have h2 := hy y (by simp)
      have h3 : (UInt8.ofNat x.toNat).toNat = (UInt8.ofNat y.toNat).toNat := by rw [h.1]
      rw [UInt8.toNat_ofNat', UInt8.toNat_ofNat'] at h3
      have h4 : x = y := by
        rw [Nat.mod_eq_of_lt (by omega), Nat.mod_eq_of_lt (by omega)] at h3
        omega
      rw [h4, ih (fun c hc => hx c (by simp [hc])) (fun c hc => hy c (by simp [hc])) h.2]

theorem str_eq {xs ys : List Int} (hx : ∀ c ∈ xs, 0 ≤ c ∧ c < 256) (hy : ∀ c ∈ ys, 0 ≤ c ∧ c < 256) :
    ((strOfNums xs).toList == (strOfNums ys).toList) = decide (xs = ys) := by
  rw [ByteArray.toList_eq, ByteArray.toList_eq, strOfNums_data, strOfNums_data, Bool.eq_iff_iff, beq_iff_eq, decide_eq_true_iff]
  exact ⟨str_inj hx hy, fun h => by rw [h]⟩

end Go.Proofs.YtfipdldoklkciaaGreat
namespace Go.Proofs.YtfipdldoklkciaaGreat

/-- One turn: a bit to the right, and the polynomial where the bit that left was 1. -/
def bs (n : Nat) : Nat := if n % 2 = 1 then (n / 2) ^^^ 3988292384 else n / 2
/-- So many turns. -/
def bsN : Nat → Nat → Nat
  | 0, n => n
  | k + 1, n => bs (bsN k n)
/-- A byte taken in. -/
def tb (n c : Nat) : Nat := bsN 8 (n ^^^ c)
/-- Bytes taken in, one behind the other. -/
def runL (n : Nat) (l : List Int) : Nat := l.foldl (fun m c => tb m c.toNat) n
/-- The check sum with bytes behind. -/
def moreL (n : Nat) (l : List Int) : Nat := 4294967295 ^^^ runL (4294967295 ^^^ n) l

theorem xor32 {a b : Nat} (ha : a < 4294967296) (hb : b < 4294967296) : a ^^^ b < 4294967296 :=
  Nat.xor_lt_two_pow (n := 32) ha hb

theorem bs_lt {n : Nat} (h : n < 4294967296) : bs n < 4294967296 := by
  unfold bs
  split
  · exact xor32 (by omega) (by decide)
  · omega

theorem bsN_lt (k : Nat) {n : Nat} (h : n < 4294967296) : bsN k n < 4294967296 := by
  induction k with
  | zero => exact h
  | succ k ih => exact bs_lt ih

theorem tb_lt {n c : Nat} (h : n < 4294967296) (hc : c < 256) : tb n c < 4294967296 :=
  bsN_lt 8 (xor32 h (by omega))

theorem runL_snoc (n : Nat) (l : List Int) (c : Int) : runL n (l ++ [c]) = tb (runL n l) c.toNat := by
  simp [runL]

theorem runL_append (n : Nat) (l m : List Int) : runL n (l ++ m) = runL (runL n l) m := by
  simp [runL]

theorem runL_lt (l : List Int) : ∀ (n : Nat), n < 4294967296 → (∀ c ∈ l, 0 ≤ c ∧ c < 256) → runL n l < 4294967296 := by
  induction l with
  | nil => intro n h _; exact h
  | cons c l ih =>
    intro n h hl
    have hc := hl c (by simp)
    exact ih _ (tb_lt h (by omega)) fun d hd => hl d (by simp [hd])

theorem moreL_lt {n : Nat} {l : List Int} (h : n < 4294967296) (hl : ∀ c ∈ l, 0 ≤ c ∧ c < 256) : moreL n l < 4294967296 :=
  xor32 (by decide) (runL_lt l _ (xor32 (by decide) h) hl)

theorem xor_same (a b : Nat) : a ^^^ (a ^^^ b) = b := by
  rw [← Nat.xor_assoc, Nat.xor_self, Nat.zero_xor]

theorem moreL_append (n : Nat) (l m : List Int) : moreL n (l ++ m) = moreL (moreL n l) m := by
  unfold moreL
  rw [runL_append, xor_same]

/-- Nine bytes have their sum. -/
theorem nine : moreL 0 [49, 50, 51, 52, 53, 54, 55, 56, 57] = 3421780262 := by decide +kernel

end Go.Proofs.YtfipdldoklkciaaGreat
namespace Go.Proofs.YtfipdldoklkciaaGreat
open Go.RowKit

theorem low_bit (m : Nat) (hm : m < 4294967296) : bits .and .u32 (m : Int) 1 = ((m % 2 : Nat) : Int) := by
  rw [show (1 : Int) = ((1 : Nat) : Int) from rfl, u32_and_nat m 1 hm (by decide), nat_mask1]

theorem poly_in (m : Nat) (hm : m < 4294967296) : bits .xor .u32 ((m : Int) / 2) 3988292384 = (((m / 2) ^^^ 3988292384 : Nat) : Int) := by
  rw [show (m : Int) / 2 = ((m / 2 : Nat) : Int) from rfl, show (3988292384 : Int) = ((3988292384 : Nat) : Int) from rfl]
  exact u32_xor_nat _ _ (by omega) (by decide)

theorem bs_odd {m : Nat} (h : m % 2 = 1) : bs m = (m / 2) ^^^ 3988292384 := by unfold bs; rw [if_pos h]
theorem bs_even {m : Nat} (h : m % 2 = 0) : bs m = m / 2 := by unfold bs; rw [if_neg (by omega)]

set_option maxHeartbeats 400000 in
theorem turn_nat (n c : Nat) (w : World) (hn : n < 4294967296) (hc : c < 256) :
    Calls Tryz.prog 133 #[.int .u32 n, .int .u8 c] w fun e w' => e = .returned (.int .u32 (tb n c)) ∧ w' = w := by
  have hx : Hid (bits .xor .u32 (n : Int) (c : Int) = ((n ^^^ c : Nat) : Int)) := u32_xor_nat n c hn (by omega)
  go_enter Tryz.func133, Tryz.ntmps133
  go_wp2
  go_loop [0, 10] (fun s i => ∃ k : Nat, k ≤ 8 ∧ i = .int .i64 k ∧ s = .int .u32 (bsN k (n ^^^ c) : Nat)) (fun _ i => 8 - (intOf i).toNat)
  case atStart => exact ⟨0, by omega, rfl, by rw [hx.out]; rfl⟩
  case round =>
    obtain ⟨k, hk, rfl, rfl⟩ := hrel
    have hm := bsN_lt k (xor32 hn (show c < 4294967296 by omega))
    have hs : Hid (bsN (k + 1) (n ^^^ c) = bs (bsN k (n ^^^ c))) := rfl
    have hfin : Hid (k = 8 → tb n c = bsN k (n ^^^ c)) := by intro h; subst h; rfl
    clear hx
    generalize bsN k (n ^^^ c) = m at *
    by_cases hlt : k < 8
    · rcases Nat.mod_two_eq_zero_or_one m with h2 | h2
      · have hb : bits .and .u32 (m : Int) 1 = 0 := by rw [low_bit m hm, h2]; rfl
        have he : Hid _ := bs_even h2
        clear h2
        go_wp2
        go_round
        case rel => exact ⟨k + 1, by omega, by go_num, by rw [hs.out, he.out]; rfl⟩
        case measure => simp [intOf]; omega
      · have hb : bits .and .u32 (m : Int) 1 = 1 := by rw [low_bit m hm, h2]; rfl
        have hp : Hid _ := poly_in m hm
        have he : Hid _ := bs_odd h2
        clear h2
        go_wp2
        go_round
        case rel => exact ⟨k + 1, by omega, by go_num, by rw [hs.out, he.out, hp.out]⟩
        case measure => simp [intOf]; omega
    · have hz : Hid (tb n c = m) := hfin.out (by omega)
      clear hfin hs
      go_wp2
      go_ret
      exact ⟨by rw [hz.out]; rfl, rfl⟩

set_option maxHeartbeats 400000 in
theorem step_nat (n c : Nat) (w : World) (hn : n < 4294967296) (hc : c < 256) :
    Calls Tryz.prog 134 #[.int .u32 n, .int .u8 c] w fun e w' => e = .returned (.int .u32 (tb n c)) ∧ w' = w := by
  have hx : Hid (bits .xor .u32 (n : Int) (c : Int) = ((n ^^^ c : Nat) : Int)) := u32_xor_nat n c hn (by omega)
  go_enter Tryz.func134, Tryz.ntmps134
  go_wp2
  go_loop [0, 5] (fun s i => ∃ k : Nat, k ≤ 8 ∧ i = .int .i64 k ∧ s = .int .u32 (bsN k (n ^^^ c) : Nat)) (fun _ i => 8 - (intOf i).toNat)
  case atStart => exact ⟨0, by omega, rfl, by rw [hx.out]; rfl⟩
  case round =>
    obtain ⟨k, hk, rfl, rfl⟩ := hrel
    have hm := bsN_lt k (xor32 hn (show c < 4294967296 by omega))
    have hs : Hid (bsN (k + 1) (n ^^^ c) = bs (bsN k (n ^^^ c))) := rfl
    have hfin : Hid (k = 8 → tb n c = bsN k (n ^^^ c)) := by intro h; subst h; rfl
    clear hx
    generalize bsN k (n ^^^ c) = m at *
    by_cases hlt : k < 8
    · rcases Nat.mod_two_eq_zero_or_one m with h2 | h2
      · have hb : bits .and .u32 (m : Int) 1 = 0 := by rw [low_bit m hm, h2]; rfl
        have he : Hid _ := bs_even h2
        clear h2
        go_wp2
        go_round
        case rel => exact ⟨k + 1, by omega, by go_num, by rw [hs.out, he.out]; rfl⟩
        case measure => simp [intOf]; omega
      · have hb : bits .and .u32 (m : Int) 1 = 1 := by rw [low_bit m hm, h2]; rfl
        have hp : Hid _ := poly_in m hm
        have he : Hid _ := bs_odd h2
        clear h2
        go_wp2
        go_round
        case rel => exact ⟨k + 1, by omega, by go_num, by rw [hs.out, he.out, hp.out]⟩
        case measure => simp [intOf]; omega
    · have hz : Hid (tb n c = m) := hfin.out (by omega)
      clear hfin hs
      go_wp2
      go_ret
      exact ⟨by rw [hz.out]; rfl, rfl⟩

/-- The same at numbers of any make. -/
theorem turn_any (n c : Int) (w : World) (h0 : 0 ≤ n) (hn : n < 4294967296) (h1 : 0 ≤ c) (hc : c < 256) :
    Calls Tryz.prog 133 #[.int .u32 n, .int .u8 c] w fun e w' => e = .returned (.int .u32 (tb n.toNat c.toNat : Nat)) ∧ w' = w := by
  have h := turn_nat n.toNat c.toNat w (by omega) (by omega)
  rwa [Int.toNat_of_nonneg h0, Int.toNat_of_nonneg h1] at h
theorem step_any (n c : Int) (w : World) (h0 : 0 ≤ n) (hn : n < 4294967296) (h1 : 0 ≤ c) (hc : c < 256) :
    Calls Tryz.prog 134 #[.int .u32 n, .int .u8 c] w fun e w' => e = .returned (.int .u32 (tb n.toNat c.toNat : Nat)) ∧ w' = w := by
  have h := step_nat n.toNat c.toNat w (by omega) (by omega)
  rwa [Int.toNat_of_nonneg h0, Int.toNat_of_nonneg h1] at h
end Go.Proofs.YtfipdldoklkciaaGreat
namespace Go.Proofs.YtfipdldoklkciaaGreat
open Go.RowKit

theorem flip_in (m : Nat) (hm : m < 4294967296) : bits .xor .u32 IntKind.u32.max (m : Int) = ((4294967295 ^^^ m : Nat) : Int) := by
  rw [show IntKind.u32.max = ((4294967295 : Nat) : Int) from by decide]
  exact u32_xor_nat _ _ (by decide) hm

set_option maxHeartbeats 400000 in
theorem more_any (s : Nat) (hs : s < 4294967296) (a : Option Addr) (cap : Nat) (zs : List Int) (w : World) (hb : Bytes w a zs) :
    Calls Tryz.prog 130 #[.int .u32 s, .slice a zs.length cap] w fun e w' => e = .returned (.int .u32 (moreL s zs : Nat)) ∧ w' = w := by
  obtain ⟨hz, hm, ha⟩ := hb
  unfold maxLen at hm
  have hZ : Hid (∀ c ∈ zs, 0 ≤ c ∧ c < 256) := hz
  clear hz
  have hx : Hid (bits .xor .u32 IntKind.u32.max (s : Int) = ((4294967295 ^^^ s : Nat) : Int)) := flip_in s hs
  rcases ha with rfl | ⟨b, off, rfl, hc⟩
  · go_enter Tryz.func130, Tryz.ntmps130
    go_wp2
    go_loop [5, 12] (fun t i => i = .int .i64 0 ∧ t = .int .u32 (4294967295 ^^^ s : Nat)) (fun _ _ => 0)
    case atStart => exact ⟨rfl, by rw [hx.out]⟩
    case round =>
      obtain ⟨rfl, rfl⟩ := hrel
      have hf : Hid (bits .xor .u32 IntKind.u32.max ((4294967295 ^^^ s : Nat) : Int) = ((moreL s [] : Nat) : Int)) := flip_in _ (xor32 (by decide) hs)
      generalize 4294967295 ^^^ s = m at *
      go_wp2
      go_ret
      exact ⟨by rw [← hf.out]; rfl, rfl⟩
  · have hC : Hid (∀ i, i < zs.length → w.cell? ⟨b, off + i, none⟩ = some (.int .u8 (zs.getD i 0))) := hc
    clear hc
    go_enter Tryz.func130, Tryz.ntmps130
    go_wp2
    go_loop [5, 12] (fun t i => ∃ k : Nat, k ≤ zs.length ∧ i = .int .i64 k ∧ t = .int .u32 (runL (4294967295 ^^^ s) (zs.take k) : Nat)) (fun _ i => zs.length - (intOf i).toNat)
    case atStart => exact ⟨0, by omega, rfl, by rw [hx.out]; rfl⟩
    case round =>
      obtain ⟨k, hk, rfl, rfl⟩ := hrel
      have hr := runL_lt (zs.take k) _ (xor32 (show 4294967295 < 4294967296 by decide) hs) (take_bytes hZ.out k)
      by_cases hlt : k < zs.length
      · obtain ⟨c, hck, hc0, hc1, htk⟩ := next_byte hZ.out hC.out hlt
        have hs2 : Hid (runL (4294967295 ^^^ s) (zs.take (k + 1)) = tb (runL (4294967295 ^^^ s) (zs.take k)) c.toNat) := by
          show _ = _
          rw [htk, runL_snoc]
        clear htk hx
        generalize runL (4294967295 ^^^ s) (zs.take k) = m at *
        go_wp2_with (go_at_call 133; refine (turn_any _ _ _ (by omega) (by omega) (by omega) (by omega)).mono ?_; rintro e w' ⟨rfl, rfl⟩)
        go_round
        case rel => exact ⟨k + 1, by omega, by go_num, by rw [hs2.out]⟩
        case measure => simp [intOf]; omega
      · have hf : Hid (bits .xor .u32 IntKind.u32.max ((runL (4294967295 ^^^ s) (zs.take k) : Nat) : Int) = ((moreL s zs : Nat) : Int)) := by
          show _ = _
          rw [flip_in _ hr, List.take_of_length_le (by omega)]; rfl
        clear hx
        generalize runL (4294967295 ^^^ s) (zs.take k) = m at *
        go_wp2
        go_ret
        exact ⟨by rw [← hf.out]; rfl, rfl⟩

set_option maxHeartbeats 400000 in
theorem refMore_any (s : Nat) (hs : s < 4294967296) (a : Option Addr) (cap : Nat) (zs : List Int) (w : World) (hb : Bytes w a zs) :
    Calls Tryz.prog 132 #[.int .u32 s, .slice a zs.length cap] w fun e w' => e = .returned (.int .u32 (moreL s zs : Nat)) ∧ w' = w := by
  obtain ⟨hz, hm, ha⟩ := hb
  unfold maxLen at hm
  have hZ : Hid (∀ c ∈ zs, 0 ≤ c ∧ c < 256) := hz
  clear hz
  have hx : Hid (bits .xor .u32 IntKind.u32.max (s : Int) = ((4294967295 ^^^ s : Nat) : Int)) := flip_in s hs
  rcases ha with rfl | ⟨b, off, rfl, hc⟩
  · go_enter Tryz.func132, Tryz.ntmps132
    go_wp2
    go_loop [5, 6] (fun t i => i = .int .i64 0 ∧ t = .int .u32 (4294967295 ^^^ s : Nat)) (fun _ _ => 0)
    case atStart => exact ⟨rfl, by rw [hx.out]⟩
    case round =>
      obtain ⟨rfl, rfl⟩ := hrel
      have hf : Hid (bits .xor .u32 IntKind.u32.max ((4294967295 ^^^ s : Nat) : Int) = ((moreL s [] : Nat) : Int)) := flip_in _ (xor32 (by decide) hs)
      generalize 4294967295 ^^^ s = m at *
      go_wp2
      go_ret
      exact ⟨by rw [← hf.out]; rfl, rfl⟩
  · have hC : Hid (∀ i, i < zs.length → w.cell? ⟨b, off + i, none⟩ = some (.int .u8 (zs.getD i 0))) := hc
    clear hc
    go_enter Tryz.func132, Tryz.ntmps132
    go_wp2
    go_loop [5, 6] (fun t i => ∃ k : Nat, k ≤ zs.length ∧ i = .int .i64 k ∧ t = .int .u32 (runL (4294967295 ^^^ s) (zs.take k) : Nat)) (fun _ i => zs.length - (intOf i).toNat)
    case atStart => exact ⟨0, by omega, rfl, by rw [hx.out]; rfl⟩
    case round =>
      obtain ⟨k, hk, rfl, rfl⟩ := hrel
      have hr := runL_lt (zs.take k) _ (xor32 (show 4294967295 < 4294967296 by decide) hs) (take_bytes hZ.out k)
      by_cases hlt : k < zs.length
      · obtain ⟨c, hck, hc0, hc1, htk⟩ := next_byte hZ.out hC.out hlt
        have hs2 : Hid (runL (4294967295 ^^^ s) (zs.take (k + 1)) = tb (runL (4294967295 ^^^ s) (zs.take k)) c.toNat) := by
          show _ = _
          rw [htk, runL_snoc]
        clear htk hx
        generalize runL (4294967295 ^^^ s) (zs.take k) = m at *
        go_wp2_with (go_at_call 134; refine (step_any _ _ _ (by omega) (by omega) (by omega) (by omega)).mono ?_; rintro e w' ⟨rfl, rfl⟩)
        go_round
        case rel => exact ⟨k + 1, by omega, by go_num, by rw [hs2.out]⟩
        case measure => simp [intOf]; omega
      · have hf : Hid (bits .xor .u32 IntKind.u32.max ((runL (4294967295 ^^^ s) (zs.take k) : Nat) : Int) = ((moreL s zs : Nat) : Int)) := by
          show _ = _
          rw [flip_in _ hr, List.take_of_length_le (by omega)]; rfl
        clear hx
        generalize runL (4294967295 ^^^ s) (zs.take k) = m at *
        go_wp2
        go_ret
        exact ⟨by rw [← hf.out]; rfl, rfl⟩

set_option maxHeartbeats 400000 in
theorem sum_any (a : Option Addr) (cap : Nat) (zs : List Int) (w : World) (hb : Bytes w a zs) :
    Calls Tryz.prog 125 #[.slice a zs.length cap] w fun e w' => e = .returned (.int .u32 (moreL 0 zs : Nat)) ∧ w' = w := by
  go_enter Tryz.func125, Tryz.ntmps125
  go_wp2_with (go_at_call 130; refine (more_any 0 (by decide) _ _ _ _ hb).mono ?_; rintro e w' ⟨rfl, rfl⟩)
  go_ret
  exact ⟨rfl, rfl⟩

set_option maxHeartbeats 400000 in
theorem refSum_any (a : Option Addr) (cap : Nat) (zs : List Int) (w : World) (hb : Bytes w a zs) :
    Calls Tryz.prog 129 #[.slice a zs.length cap] w fun e w' => e = .returned (.int .u32 (moreL 0 zs : Nat)) ∧ w' = w := by
  go_enter Tryz.func129, Tryz.ntmps129
  go_wp2_with (go_at_call 132; refine (refMore_any 0 (by decide) _ _ _ _ hb).mono ?_; rintro e w' ⟨rfl, rfl⟩)
  go_ret
  exact ⟨rfl, rfl⟩

theorem sum_at (a : Option Addr) (m cap : Nat) (zs : List Int) (w : World) (hm : zs.length = m) (hb : Bytes w a zs) :
    Calls Tryz.prog 125 #[.slice a m cap] w fun e w' => e = .returned (.int .u32 (moreL 0 zs : Nat)) ∧ w' = w := by
  subst hm; exact sum_any a cap zs w hb

/-- 'copy' into a row of as many bytes that the call itself has made. -/
theorem copy_into {w0 w : World} {g k : Nat} {ys : List Value} (ho : w.ownsRow w0.heap.size 5 1 (.slice (some ⟨g, 0, none⟩) k k) k ys) (hb : Below w0.heap.size w0 w)
    (x : Addr) (n cap : Nat) (zs : List Int) (hbx : Bytes w (some x) zs) (hn : zs.length = n) (hk : k ≤ n) :
    ∃ w', (∀ ty, (Builtin.copy_ #[42, 42] ty #[.slice (some ⟨g, 0, none⟩) k k, .slice (some x) n cap]).run Tryz.prog w = .ok (goInt k) w') ∧
      OwnsB w' w0.heap.size (.slice (some ⟨g, 0, none⟩) k k) (zs.take k) ∧ Below w0.heap.size w0 w' := by
  obtain ⟨hl, hv⟩ := ho
  rcases hv with ⟨h1, _⟩ | ⟨g', cap', cur, hv, hbg, hg, _, hcm, hcs, _⟩
  · cases h1
  · cases hv
    have hlen : ((zs.take k).map (Value.int .u8)).length = k := by rw [List.length_map, List.length_take]; omega
    have hcl : cur.toList.length = k := by rw [Array.length_toList, hcs, Nat.mul_one]
    have hr := fun ty => run_copy_row (P := Tryz.prog) w 42 42 ty 5 g 0 k k x n cap cur 5 ((zs.take k).map (Value.int .u8)) Tryz.underlying42 (by kernel_rfl) hg (by rw [hlen]; exact (Nat.min_eq_right hk).symm) (bytes_news (hbx.take k)) (by omega) (bytes_one _)
    simp only [hlen] at hr
    refine ⟨_, hr, ⟨⟨by rw [List.length_map, Nat.mul_one], .inr ⟨g, k, _, ?_, hbg, setRow_heap w g cur _ 5 _ hg, ?_, hcm, ?_, ?_⟩⟩, (hbx.take k).1⟩, below_setRow hb hbg _⟩
    · rw [List.length_take]; congr 1; omega
    · rw [List.length_take]; omega
    · simp only [List.size_toArray, List.length_append, List.length_take, List.length_drop, hlen, hcl]; omega
    · rw [show (zs.take k).length * 1 = ((zs.take k).map (Value.int .u8)).length from by rw [List.length_map, Nat.mul_one]]
      simp

end Go.Proofs.YtfipdldoklkciaaGreat
namespace Go.Proofs.YtfipdldoklkciaaGreat
open Go.RowKit

/-- A check sum's four bytes, the lowest first. -/
def le4 (n : Nat) : List Int := [((n % 256 : Nat) : Int), ((n / 256 % 256 : Nat) : Int), ((n / 65536 % 256 : Nat) : Int), ((n / 16777216 % 256 : Nat) : Int)]

theorem le4_bytes (n : Nat) : ∀ c ∈ le4 n, 0 ≤ c ∧ c < 256 := by
  intro c hc
  simp only [le4, List.mem_cons, List.not_mem_nil, or_false] at hc
  rcases hc with rfl | rfl | rfl | rfl <;> omega

theorem four_bytes (w : World) (n : Nat) (h : n < 4294967296) :
    Bytes (w.alloc (.cells #[.int .u8 ((n : Int) % 256), .int .u8 ((n : Int) / 256 % 256), .int .u8 ((n : Int) / 65536 % 256), .int .u8 ((n : Int) / 16777216)] 5)) (some ⟨w.heap.size, 0, none⟩) (le4 n) := by
  refine ⟨le4_bytes n, by simp [le4, maxLen], .inr ⟨_, _, rfl, ?_⟩⟩
  intro i hi
  rw [World.cell?_alloc_mark]
  match i, hi with
  | 0, _ => rfl
  | 1, _ => rfl
  | 2, _ => rfl
  | 3, _ =>
    show some (Value.int .u8 ((n : Int) / 16777216)) = some (Value.int .u8 ((n / 16777216 % 256 : Nat) : Int))
    rw [show (n : Int) / 16777216 = ((n / 16777216 % 256 : Nat) : Int) from by omega]

set_option maxHeartbeats 400000 in
theorem seal_any (a : Option Addr) (cap : Nat) (zs : List Int) (w : World) (hb : Bytes w a zs) (hn : a = none → cap = 0) (hl : zs.length + 4 ≤ 140737488355328) :
    Calls Tryz.prog 122 #[.slice a zs.length cap] w fun e w' => ∃ v, e = .returned v ∧ OwnsB w' w.heap.size v (zs ++ le4 (moreL 0 zs)) ∧ Below w.heap.size w w' := by
  obtain ⟨i0, hi, hz0, hz1, hz2⟩ := info_parts info5
  have hlt := moreL_lt (n := 0) (by decide) hb.1
  have hB : Hid (Bytes w a zs) := hb
  go_enter Tryz.func122, Tryz.ntmps122
  go_wp2_with fail
  refine (sum_any _ _ _ _ hb).mono ?_
  rintro e w1 ⟨rfl, rfl⟩
  go_wp2_with (first
    | (at_make; refine wpList_make_own _ rfl _ _ 42 rfl w1.heap.size 5 i0 (.int .u8 0) 1 Tryz.underlying42 hi hz0 hz1 .i64 .i64 _ (zs.length + 4) rfl rfl (by omega) (by rw [hz2]; omega) (by unfold maxLen; omega) (Nat.le_refl _) ?_; intro w2 ho2 hg2; have hb2 : Below w1.heap.size w1 w2 := (Below.refl _ _).grown hg2 (Nat.le_refl _) (by simp); have hB2 : Hid (Bytes w2 a zs) := Bytes.kept hB.out hb2; have hs2 := hb2.size)
    | (at_builtin; refine wpList_append_bytes rfl (.tmp 11) (.tmp 12) rfl w1.heap.size (.slice (some ⟨w1.heap.size, 0, none⟩) 0 (zs.length + 4)) [] zs rfl ⟨ho2, by simp⟩ a zs.length cap rfl rfl hn hB2.out (by simp; omega) hs2 ?_; intro v3 w3 ho3 hg3; have hb3 := grown_below hb2 (zs := []) ⟨ho2, by simp⟩ hg3 hs2; simp only [List.nil_append] at ho3; clear ho2 hg2 hB2 hs2 hg3)
    | (at_builtin; refine wpList_append_bytes rfl (.tmp 14) (.tmp 26) rfl w1.heap.size v3 zs (le4 (moreL 0 zs)) rfl (ho3.alloc _) (some ⟨w3.heap.size, 0, none⟩) 4 4 rfl rfl (by simp) (four_bytes w3 _ hlt) hl (by simp; have := hb3.size; omega) ?_; intro v4 w4 ho4 hg4; have hb4 := grown_below (hb3.alloc hb3.size _) (ho3.alloc _) hg4 (by simp; have := hb3.size; omega); clear ho3 hg4))
  go_ret
  exact ⟨_, rfl, ho4, hb4⟩
end Go.Proofs.YtfipdldoklkciaaGreat
namespace Go.Proofs.YtfipdldoklkciaaGreat
open Go.RowKit

theorem last_byte (n : Nat) (h : n < 4294967296) : (le4 n).take 4 = (le4 n).take 3 ++ [(n : Int) / 16777216] := by
  rw [show (n : Int) / 16777216 = ((n / 16777216 % 256 : Nat) : Int) from by omega]
  rfl

set_option maxHeartbeats 400000 in
theorem refSeal_any (a : Option Addr) (cap : Nat) (zs : List Int) (w : World) (hb : Bytes w a zs) (hn : a = none → cap = 0) (hl : zs.length + 4 ≤ 140737488355328) :
    Calls Tryz.prog 124 #[.slice a zs.length cap] w fun e w' => ∃ v, e = .returned v ∧ OwnsB w' w.heap.size v (zs ++ le4 (moreL 0 zs)) ∧ Below w.heap.size w w' := by
  have hlt := moreL_lt (n := 0) (by decide) hb.1
  have hB : Hid (Bytes w a zs) := hb
  clear hb
  go_enter Tryz.func124, Tryz.ntmps124
  go_wp2_with fail
  refine (refSum_any _ _ _ _ hB.out).mono ?_
  rintro e w1 ⟨rfl, rfl⟩
  go_wp2_with (at_builtin; refine wpList_append_bytes rfl _ (.tmp 8) rfl w1.heap.size (.slice none 0 0) [] zs rfl (ownsB_nil _ _) a zs.length cap rfl rfl hn hB.out (by simp; omega) (Nat.le_refl _) ?_; intro v2 w2 ho2 hg2; have hb2 := grown_below (Below.refl _ _) (ownsB_nil _ _) hg2 (Nat.le_refl _); simp only [List.nil_append] at ho2; clear hg2)
  go_loopw [4, 5] (fun v i wr => ∃ k : Nat, k ≤ 4 ∧ i = .int .i64 k ∧ OwnsB wr w1.heap.size v (zs ++ (le4 (moreL 0 zs)).take k) ∧ Below w1.heap.size w1 wr) (fun _ i _ => 4 - (intOf i).toNat)
  case atStart => exact ⟨0, by omega, rfl, by simpa using ho2, hb2⟩
  case round =>
    obtain ⟨k, hk, rfl, hown, hbr⟩ := hrel
    clear ho2 hb2
    have hsz := hbr.size
    by_cases hlt4 : k < 4
    · rcases (show k = 0 ∨ k = 1 ∨ k = 2 ∨ k = 3 by omega) with rfl | rfl | rfl | rfl
      · have hlen : (zs ++ (le4 (moreL 0 zs)).take 0).length + 1 ≤ 140737488355328 := by simp [le4]; omega
        go_wp2_with (at_builtin; refine wpList_append_bytes rfl (.tmp 14) (.tmp 20) rfl w1.heap.size u4 _ [(moreL 0 zs : Int) % 256] rfl (hown.alloc _) (some ⟨wr.heap.size, 0, none⟩) 1 1 rfl rfl (by simp) (one_byte wr _ (by omega) (by omega)) hlen (by simp; omega) ?_; intro v3 w3 ho3 hg3; have hb3 := grown_below (hbr.alloc hsz _) (hown.alloc _) hg3 (by simp; omega); clear hg3 hown)
        go_roundw
        case rel => exact ⟨1, by omega, rfl, by simpa [le4] using ho3, hb3⟩
        case measure => simp [intOf]
      · have hlen : (zs ++ (le4 (moreL 0 zs)).take 1).length + 1 ≤ 140737488355328 := by simp [le4]; omega
        go_wp2_with (at_builtin; refine wpList_append_bytes rfl (.tmp 14) (.tmp 20) rfl w1.heap.size u4 _ [(moreL 0 zs : Int) / 256 % 256] rfl (hown.alloc _) (some ⟨wr.heap.size, 0, none⟩) 1 1 rfl rfl (by simp) (one_byte wr _ (by omega) (by omega)) hlen (by simp; omega) ?_; intro v3 w3 ho3 hg3; have hb3 := grown_below (hbr.alloc hsz _) (hown.alloc _) hg3 (by simp; omega); clear hg3 hown)
        go_roundw
        case rel => exact ⟨2, by omega, rfl, by simpa [le4] using ho3, hb3⟩
        case measure => simp [intOf]
      · have hlen : (zs ++ (le4 (moreL 0 zs)).take 2).length + 1 ≤ 140737488355328 := by simp [le4]; omega
        go_wp2_with (at_builtin; refine wpList_append_bytes rfl (.tmp 14) (.tmp 20) rfl w1.heap.size u4 _ [(moreL 0 zs : Int) / 65536 % 256] rfl (hown.alloc _) (some ⟨wr.heap.size, 0, none⟩) 1 1 rfl rfl (by simp) (one_byte wr _ (by omega) (by omega)) hlen (by simp; omega) ?_; intro v3 w3 ho3 hg3; have hb3 := grown_below (hbr.alloc hsz _) (hown.alloc _) hg3 (by simp; omega); clear hg3 hown)
        go_roundw
        case rel => exact ⟨3, by omega, rfl, by simpa [le4] using ho3, hb3⟩
        case measure => simp [intOf]
      · have hlen : (zs ++ (le4 (moreL 0 zs)).take 3).length + 1 ≤ 140737488355328 := by simp [le4]; omega
        go_wp2_with (at_builtin; refine wpList_append_bytes rfl (.tmp 14) (.tmp 20) rfl w1.heap.size u4 _ [(moreL 0 zs : Int) / 16777216] rfl (hown.alloc _) (some ⟨wr.heap.size, 0, none⟩) 1 1 rfl rfl (by simp) (one_byte wr _ (by omega) (by omega)) hlen (by simp; omega) ?_; intro v3 w3 ho3 hg3; have hb3 := grown_below (hbr.alloc hsz _) (hown.alloc _) hg3 (by simp; omega); clear hg3 hown)
        go_roundw
        case rel => exact ⟨4, by omega, rfl, by rw [show (le4 (moreL 0 zs)).take 4 = (le4 (moreL 0 zs)).take 3 ++ [(moreL 0 zs : Int) / 16777216] from last_byte _ hlt, ← List.append_assoc]; exact ho3, hb3⟩
        case measure => simp [intOf]
    · have h4 : Hid (k = 4) := by show _ = _; omega
      go_wp2
      go_ret
      refine ⟨_, rfl, ?_, hbr⟩
      have h5 := h4.out
      subst h5
      exact hown
end Go.Proofs.YtfipdldoklkciaaGreat
namespace Go.Proofs.YtfipdldoklkciaaGreat
open Go.RowKit

theorem or_in (a c p : Nat) (i : Nat) (hp : p = 2 ^ i) (ha : a < p) (hc : c * p < 4294967296) (hp0 : a + c * p < 4294967296) :
    bits .or .u32 (a : Int) ((c : Int) * (p : Int)) = ((a + c * p : Nat) : Int) := by
  rw [show (c : Int) * (p : Int) = ((c * p : Nat) : Int) from by rw [Int.natCast_mul], u32_or_nat a (c * p) (by omega) hc, Nat.or_comm, nat_join i (c * p) a (by rw [hp]; exact Nat.mul_mod_left _ _) (by omega), Nat.add_comm]

theorem four_in (c0 c1 c2 c3 : Nat) (h0 : c0 < 256) (h1 : c1 < 256) (h2 : c2 < 256) (h3 : c3 < 256) :
    bits .or .u32 (bits .or .u32 (bits .or .u32 (c0 : Int) ((c1 : Int) * 256)) ((c2 : Int) * 65536)) ((c3 : Int) * 16777216) = ((c0 + 256 * c1 + 65536 * c2 + 16777216 * c3 : Nat) : Int) := by
  have e1 := or_in c0 c1 256 8 (by decide) (by omega) (by omega) (by omega)
  have e2 := or_in (c0 + c1 * 256) c2 65536 16 (by decide) (by omega) (by omega) (by omega)
  have e3 := or_in (c0 + c1 * 256 + c2 * 65536) c3 16777216 24 (by decide) (by omega) (by omega) (by omega)
  rw [show ((256 : Nat) : Int) = 256 from rfl] at e1
  rw [show ((65536 : Nat) : Int) = 65536 from rfl] at e2
  rw [show ((16777216 : Nat) : Int) = 16777216 from rfl] at e3
  rw [e1, e2, e3]
  omega

set_option maxHeartbeats 400000 in
theorem read_any (b off cap : Nat) (c0 c1 c2 c3 : Nat) (w : World) (h0 : c0 < 256) (h1 : c1 < 256) (h2 : c2 < 256) (h3 : c3 < 256)
    (k0 : w.cell? ⟨b, off, none⟩ = some (.int .u8 c0)) (k1 : w.cell? ⟨b, off + 1, none⟩ = some (.int .u8 c1)) (k2 : w.cell? ⟨b, off + 2, none⟩ = some (.int .u8 c2)) (k3 : w.cell? ⟨b, off + 3, none⟩ = some (.int .u8 c3)) :
    Calls Tryz.prog 131 #[.slice (some ⟨b, off, none⟩) 4 cap] w fun e w' => e = .returned (.int .u32 (c0 + 256 * c1 + 65536 * c2 + 16777216 * c3 : Nat)) ∧ ∃ n, w' = w.drewN n := by
  have he : Hid _ := four_in c0 c1 c2 c3 h0 h1 h2 h3
  go_enter Tryz.func131, Tryz.ntmps131
  go_wp2
  go_quiet (fail)
  go_wp2
  go_ret
  exact ⟨by rw [← he.out]; rfl, nq, rfl⟩

/-- Four bytes as a number, the lowest first. -/
def rd4 (l : List Int) : Nat := (l.getD 0 0).toNat + 256 * (l.getD 1 0).toNat + 65536 * (l.getD 2 0).toNat + 16777216 * (l.getD 3 0).toNat

theorem read_at (b off cap : Nat) (l : List Int) (w : World) (hl : l.length = 4) (hb : Bytes w (some ⟨b, off, none⟩) l) :
    Calls Tryz.prog 131 #[.slice (some ⟨b, off, none⟩) 4 cap] w fun e w' => e = .returned (.int .u32 (rd4 l : Nat)) ∧ ∃ n, w' = w.drewN n := by
  match l, hl with
  | [c0, c1, c2, c3], _ =>
    obtain ⟨hz, _, ha⟩ := hb
    rcases ha with ha | ⟨b', off', hx, hc⟩
    · cases ha
    · cases hx
      have z0 := hz c0 (by simp)
      have z1 := hz c1 (by simp)
      have z2 := hz c2 (by simp)
      have z3 := hz c3 (by simp)
      have e0 : ((c0.toNat : Nat) : Int) = c0 := Int.toNat_of_nonneg z0.1
      have e1 : ((c1.toNat : Nat) : Int) = c1 := Int.toNat_of_nonneg z1.1
      have e2 : ((c2.toNat : Nat) : Int) = c2 := Int.toNat_of_nonneg z2.1
      have e3 : ((c3.toNat : Nat) : Int) = c3 := Int.toNat_of_nonneg z3.1
      exact read_any b off cap c0.toNat c1.toNat c2.toNat c3.toNat w (by omega) (by omega) (by omega) (by omega)
        (by rw [e0]; exact hc 0 (by simp)) (by rw [e1]; exact hc 1 (by simp)) (by rw [e2]; exact hc 2 (by simp)) (by rw [e3]; exact hc 3 (by simp))

theorem rd4_le4 (m : Nat) (l : List Int) (hl : l.length = 4) (hz : ∀ c ∈ l, 0 ≤ c ∧ c < 256) (hm : m < 4294967296) : m = rd4 l ↔ l = le4 m := by
  match l, hl with
  | [c0, c1, c2, c3], _ =>
    have z0 := hz c0 (by simp)
    have z1 := hz c1 (by simp)
    have z2 := hz c2 (by simp)
    have z3 := hz c3 (by simp)
    show m = c0.toNat + 256 * c1.toNat + 65536 * c2.toNat + 16777216 * c3.toNat ↔ _
    constructor
    · intro h
      simp only [le4, List.cons.injEq, and_true]
      omega
    · intro h
      simp only [le4, List.cons.injEq, and_true] at h
      omega
end Go.Proofs.YtfipdldoklkciaaGreat
namespace Go.Proofs.YtfipdldoklkciaaGreat
open Go.RowKit

set_option maxHeartbeats 400000 in
theorem open_short (a : Option Addr) (n cap : Nat) (w : World) (h : n < 4) :
    Calls Tryz.prog 128 #[.slice a n cap] w fun e w' => e = .returned (.tuple #[.slice none 0 0, .bool false]) ∧ ∃ n, w' = w.drewN n := by
  have hd : decide ((n : Int) - 4 < 0) = true := by simp; omega
  go_enter Tryz.func128, Tryz.ntmps128
  go_wp2
  go_quiet (fail)
  go_wp2
  go_ret2
  exact ⟨rfl, nq, rfl⟩

set_option maxHeartbeats 400000 in
theorem open_no (b off n cap : Nat) (zs : List Int) (w : World) (hn : Hid (zs.length = n)) (h4 : 4 ≤ n) (hcap : n ≤ cap) (hm : cap ≤ 9223372036854775807)
    (hB : Hid (Bytes w (some ⟨b, off, none⟩) zs)) (hne : moreL 0 (zs.take (n - 4)) ≠ rd4 (zs.drop (n - 4))) :
    Calls Tryz.prog 128 #[.slice (some ⟨b, off, none⟩) n cap] w fun e w' => e = .returned (.tuple #[.slice none 0 0, .bool false]) ∧ ∃ n, w' = w.drewN n := by
  have hd : decide ((n : Int) - 4 < 0) = false := by simp; omega
  have hi0 : (0 : Int) ≤ (n : Int) - 4 := by omega
  have hi1 : (n : Int) - 4 ≤ (cap : Int) := by omega
  have hi2 : (4 : Int) ≤ (n : Int) := by omega
  have hi3 : (n : Int) - 4 ≤ (n : Int) := by omega
  have hi4 : (cap = ((n : Int) - 4).toNat) = False := by simp; omega
  have hi5 : n - ((n : Int) - 4).toNat = 4 := by omega
  have hT : Hid ((zs.take (n - 4)).length = ((n : Int) - 4).toNat) := by show _ = _; rw [List.length_take, hn.out]; omega
  have hD : Hid ((zs.drop (n - 4)).length = 4) := by show _ = _; rw [List.length_drop, hn.out]; omega
  have hE : Hid (Bytes w (some ⟨b, off + ((n : Int) - 4).toNat, none⟩) (zs.drop (n - 4))) := by rw [show ((n : Int) - 4).toNat = n - 4 from by omega]; exact hB.out.drop _
  have hq : (((moreL 0 (zs.take (n - 4)) : Nat) : Int) != ((rd4 (zs.drop (n - 4)) : Nat) : Int)) = true := by rw [bne_iff_ne]; omega
  clear hne
  go_enter Tryz.func128, Tryz.ntmps128
  go_wp2
  go_quiet (first | (go_at_call 125; exact Calls.quiet_of_same (sum_at _ _ _ (zs.take (n - 4)) _ hT.out ((hB.out.take _).drewN _))) | (go_at_call 131; exact Calls.quiet_of (read_at _ _ _ (zs.drop (n - 4)) _ hD.out (hE.out.drewN _))))
  go_wp2
  go_ret2
  exact ⟨rfl, nq, rfl⟩

set_option maxHeartbeats 400000 in
theorem open_yes (b off n cap : Nat) (zs : List Int) (w : World) (hn : Hid (zs.length = n)) (h4 : 4 ≤ n) (hcap : n ≤ cap) (hm : cap ≤ 9223372036854775807) (hr : n ≤ 140737488355328)
    (hB : Hid (Bytes w (some ⟨b, off, none⟩) zs)) (heq : moreL 0 (zs.take (n - 4)) = rd4 (zs.drop (n - 4))) :
    Calls Tryz.prog 128 #[.slice (some ⟨b, off, none⟩) n cap] w fun e w' => ∃ v, e = .returned (.tuple #[v, .bool true]) ∧ OwnsB w' w.heap.size v (zs.take (n - 4)) ∧ Below w.heap.size w w' := by
  obtain ⟨i0, hi, hz0, hz1, hz2⟩ := info_parts info5
  have hd : decide ((n : Int) - 4 < 0) = false := by simp; omega
  have hi0 : (0 : Int) ≤ (n : Int) - 4 := by omega
  have hi1 : (n : Int) - 4 ≤ (cap : Int) := by omega
  have hi2 : (4 : Int) ≤ (n : Int) := by omega
  have hi3 : (n : Int) - 4 ≤ (n : Int) := by omega
  have hi4 : (cap = ((n : Int) - 4).toNat) = False := by simp; omega
  have hi5 : n - ((n : Int) - 4).toNat = 4 := by omega
  have hT : Hid ((zs.take (n - 4)).length = ((n : Int) - 4).toNat) := by show _ = _; rw [List.length_take, hn.out]; omega
  have hD : Hid ((zs.drop (n - 4)).length = 4) := by show _ = _; rw [List.length_drop, hn.out]; omega
  have hE : Hid (Bytes w (some ⟨b, off + ((n : Int) - 4).toNat, none⟩) (zs.drop (n - 4))) := by rw [show ((n : Int) - 4).toNat = n - 4 from by omega]; exact hB.out.drop _
  have hq : (((moreL 0 (zs.take (n - 4)) : Nat) : Int) != ((rd4 (zs.drop (n - 4)) : Nat) : Int)) = false := by rw [bne_eq_false_iff_eq]; omega
  clear heq
  go_enter Tryz.func128, Tryz.ntmps128
  go_wp2
  go_quiet (first | (go_at_call 125; exact Calls.quiet_of_same (sum_at _ _ _ (zs.take (n - 4)) _ hT.out ((hB.out.take _).drewN _))) | (go_at_call 131; exact Calls.quiet_of (read_at _ _ _ (zs.drop (n - 4)) _ hD.out (hE.out.drewN _))))
  clear hq hd
  go_wp2_with (at_make; refine wpList_make_full _ rfl _ _ 42 rfl w.heap.size 5 i0 (.int .u8 0) 1 Tryz.underlying42 hi hz0 hz1 .i64 .i64 _ _ (n - 4) rfl rfl (by omega) (by omega) (by rw [hz2]; omega) (by unfold maxLen; omega) (Nat.le_refl _) ?_; intro w2 ho2 hg2; have hb2 : Below w.heap.size w w2 := (below_drewN (Below.refl _ _) nq).grown hg2 (Nat.le_refl _) (by simp); obtain ⟨w3, hcp, ho3, hb3⟩ := copy_into (w0 := w) (g := w.heap.size) ho2 hb2 ⟨b, off, none⟩ n cap zs (hB.out.kept hb2) hn.out (by omega); clear ho2 hg2 hb2)
  go_ret2
  exact ⟨_, rfl, ho3, hb3⟩

/-- BYTES THAT ARE SEALED: the last four are the check sum of the others, so written. -/
def Sealed (zs : List Int) : Prop := 4 ≤ zs.length ∧ zs.drop (zs.length - 4) = le4 (moreL 0 (zs.take (zs.length - 4)))

theorem sealed_iff {zs : List Int} (hz : ∀ c ∈ zs, 0 ≤ c ∧ c < 256) (h4 : 4 ≤ zs.length) : Sealed zs ↔ moreL 0 (zs.take (zs.length - 4)) = rd4 (zs.drop (zs.length - 4)) := by
  rw [rd4_le4 _ _ (by rw [List.length_drop]; omega) (fun c hc => hz c (List.mem_of_mem_drop hc)) (moreL_lt (by decide) (take_bytes hz _))]
  exact ⟨fun h => h.2, fun h => ⟨h4, h⟩⟩

theorem opens_not (a : Option Addr) (n cap : Nat) (zs : List Int) (w : World) (hb : Bytes w a zs) (hl : zs.length = n) (hcap : n ≤ cap) (hm : cap ≤ 9223372036854775807) (hs : ¬ Sealed zs) :
    Calls Tryz.prog 128 #[.slice a n cap] w fun e w' => e = .returned (.tuple #[.slice none 0 0, .bool false]) ∧ Below w.heap.size w w' := by
  subst hl
  by_cases h4 : 4 ≤ zs.length
  · obtain ⟨b, off, rfl⟩ := bytes_some hb (by omega)
    refine (open_no b off zs.length cap zs w rfl h4 hcap hm hb fun h => hs ((sealed_iff hb.1 h4).2 h)).mono ?_
    rintro e w' ⟨rfl, n, rfl⟩
    exact ⟨rfl, below_drewN (Below.refl _ _) n⟩
  · refine (open_short a zs.length cap w (by omega)).mono ?_
    rintro e w' ⟨rfl, n, rfl⟩
    exact ⟨rfl, below_drewN (Below.refl _ _) n⟩

theorem opens (a : Option Addr) (n cap : Nat) (zs : List Int) (w : World) (hb : Bytes w a zs) (hl : zs.length = n) (hcap : n ≤ cap) (hm : cap ≤ 9223372036854775807) (hr : n ≤ 140737488355328) (hs : Sealed zs) :
    Calls Tryz.prog 128 #[.slice a n cap] w fun e w' => ∃ v, e = .returned (.tuple #[v, .bool true]) ∧ OwnsB w' w.heap.size v (zs.take (zs.length - 4)) ∧ Below w.heap.size w w' := by
  subst hl
  have h4 := hs.1
  obtain ⟨b, off, rfl⟩ := bytes_some hb (by omega)
  exact open_yes b off zs.length cap zs w rfl h4 hcap hm hr hb ((sealed_iff hb.1 h4).1 hs)

/-- What was sealed is sealed. -/
theorem sealed_seal (zs : List Int) : Sealed (zs ++ le4 (moreL 0 zs)) ∧ (zs ++ le4 (moreL 0 zs)).take ((zs ++ le4 (moreL 0 zs)).length - 4) = zs := by
  have hl : (zs ++ le4 (moreL 0 zs)).length - 4 = zs.length := by simp [le4]
  have ht : (zs ++ le4 (moreL 0 zs)).take ((zs ++ le4 (moreL 0 zs)).length - 4) = zs := by rw [hl]; exact List.take_left' rfl
  refine ⟨⟨by simp [le4], ?_⟩, ht⟩
  rw [ht, hl]
  exact List.drop_left' rfl
end Go.Proofs.YtfipdldoklkciaaGreat
namespace Go.Proofs.YtfipdldoklkciaaGreat

theorem half_high {n : Nat} (h : n < 4294967296) : (n / 2).testBit 31 = false := Nat.testBit_lt_two_pow (by omega)

theorem xor_cancel {a b c : Nat} (h : a ^^^ c = b ^^^ c) : a = b := by
  have := congrArg (· ^^^ c) h
  simpa [Nat.xor_assoc] using this

/-- A turn can be undone. -/
theorem bs_inj {a b : Nat} (ha : a < 4294967296) (hb : b < 4294967296) (h : bs a = bs b) : a = b := by
  unfold bs at h
  have e1 : (3988292384 : Nat).testBit 31 = true := by decide
  have ta : (a / 2 ^^^ 3988292384).testBit 31 = true := by rw [Nat.testBit_xor, half_high ha, e1]; rfl
  have tb' : (b / 2 ^^^ 3988292384).testBit 31 = true := by rw [Nat.testBit_xor, half_high hb, e1]; rfl
  by_cases pa : a % 2 = 1 <;> by_cases pb : b % 2 = 1
  · rw [if_pos pa, if_pos pb] at h
    have := xor_cancel h
    omega
  · rw [if_pos pa, if_neg pb] at h
    rw [h, half_high hb] at ta
    cases ta
  · rw [if_neg pa, if_pos pb] at h
    rw [← h, half_high ha] at tb'
    cases tb'
  · rw [if_neg pa, if_neg pb] at h
    omega

theorem bsN_inj (k : Nat) {a b : Nat} (ha : a < 4294967296) (hb : b < 4294967296) (h : bsN k a = bsN k b) : a = b := by
  induction k with
  | zero => exact h
  | succ k ih => exact ih (bs_inj (bsN_lt k ha) (bsN_lt k hb) h)

theorem runL_inj (l : List Int) : ∀ {a b : Nat}, a < 4294967296 → b < 4294967296 → (∀ c ∈ l, 0 ≤ c ∧ c < 256) → runL a l = runL b l → a = b := by
  induction l with
  | nil => intro a b _ _ _ h; exact h
  | cons c l ih =>
    intro a b ha hb hl h
    have hc := hl c (by simp)
    have h1 : tb a c.toNat = tb b c.toNat := ih (tb_lt ha (by omega)) (tb_lt hb (by omega)) (fun d hd => hl d (by simp [hd])) h
    exact xor_cancel (bsN_inj 8 (xor32 ha (by omega)) (xor32 hb (by omega)) h1)

theorem bs_shift (x z : Nat) : bs (x ^^^ 2 * z) = bs x ^^^ z := by
  have h1 : (x ^^^ 2 * z) % 2 = x % 2 := by
    have h := Nat.xor_mod_two_pow (a := x) (b := 2 * z) (n := 1)
    rw [show (2 : Nat) ^ 1 = 2 from rfl, Nat.mul_mod_right, Nat.xor_zero] at h
    exact h
  have h2 : (x ^^^ 2 * z) / 2 = x / 2 ^^^ z := by
    rw [Nat.xor_div_two, Nat.mul_div_cancel_left z (by decide)]
  unfold bs
  rw [h1, h2]
  split
  · rw [Nat.xor_assoc, Nat.xor_comm z, ← Nat.xor_assoc]
  · rfl

theorem bsN_shift (k : Nat) : ∀ (x z : Nat), bsN k (x ^^^ 2 ^ k * z) = bsN k x ^^^ z := by
  induction k with
  | zero => intro x z; simp [bsN]
  | succ k ih =>
    intro x z
    show bs (bsN k (x ^^^ 2 ^ (k + 1) * z)) = bs (bsN k x) ^^^ z
    rw [show 2 ^ (k + 1) * z = 2 ^ k * (2 * z) from by rw [Nat.pow_succ, Nat.mul_assoc], ih, bs_shift]

theorem bsN_add (j k n : Nat) : bsN (j + k) n = bsN j (bsN k n) := by
  induction j with
  | zero => rw [Nat.zero_add]; rfl
  | succ j ih => rw [show j + 1 + k = (j + k) + 1 from by omega]; show bs _ = bs _; rw [ih]

/-- Four bytes as a number, the lowest first. -/
def wd (c0 c1 c2 c3 : Int) : Nat := c0.toNat + 256 * c1.toNat + 65536 * c2.toNat + 16777216 * c3.toNat

theorem add_xor8 (a z : Nat) (h : a < 256) : a + 256 * z = a ^^^ 2 ^ 8 * z := by
  have e := Nat.two_pow_add_eq_or_of_lt (i := 8) (b := a) h z
  rw [show (256 : Nat) = 2 ^ 8 from rfl, Nat.add_comm, e]
  apply Nat.eq_of_testBit_eq
  intro i
  rw [Nat.testBit_or, Nat.testBit_xor]
  by_cases hi : i < 8
  · rw [Nat.testBit_two_pow_mul, decide_eq_false (by omega)]; simp
  · rw [Nat.testBit_lt_two_pow (x := a) (i := i) (Nat.lt_of_lt_of_le h (Nat.pow_le_pow_right (n := 2) (i := 8) (j := i) (by decide) (by omega)))]; simp

/-- Four bytes taken in are one word taken in. -/
theorem run_four (n : Nat) (c0 c1 c2 c3 : Int) (h0 : 0 ≤ c0 ∧ c0 < 256) (h1 : 0 ≤ c1 ∧ c1 < 256) (h2 : 0 ≤ c2 ∧ c2 < 256) (_h3 : 0 ≤ c3 ∧ c3 < 256) :
    runL n [c0, c1, c2, c3] = bsN 32 (n ^^^ wd c0 c1 c2 c3) := by
  have a3 : wd c0 c1 c2 c3 = c0.toNat ^^^ 2 ^ 8 * (c1.toNat ^^^ 2 ^ 8 * (c2.toNat ^^^ 2 ^ 8 * c3.toNat)) := by
    rw [← add_xor8 c2.toNat _ (by omega), ← add_xor8 c1.toNat _ (by omega), ← add_xor8 c0.toNat _ (by omega)]
    unfold wd
    omega
  rw [a3, ← Nat.xor_assoc, show (32 : Nat) = 24 + 8 from rfl, bsN_add, bsN_shift, ← Nat.xor_assoc, show (24 : Nat) = 16 + 8 from rfl, bsN_add, bsN_shift, ← Nat.xor_assoc, show (16 : Nat) = 8 + 8 from rfl, bsN_add, bsN_shift]
  rfl

theorem wd_lt (c0 c1 c2 c3 : Int) (h0 : 0 ≤ c0 ∧ c0 < 256) (h1 : 0 ≤ c1 ∧ c1 < 256) (h2 : 0 ≤ c2 ∧ c2 < 256) (h3 : 0 ≤ c3 ∧ c3 < 256) : wd c0 c1 c2 c3 < 4294967296 := by
  unfold wd; omega

theorem wd_inj {c0 c1 c2 c3 d0 d1 d2 d3 : Int} (h0 : 0 ≤ c0 ∧ c0 < 256) (h1 : 0 ≤ c1 ∧ c1 < 256) (h2 : 0 ≤ c2 ∧ c2 < 256) (h3 : 0 ≤ c3 ∧ c3 < 256)
    (k0 : 0 ≤ d0 ∧ d0 < 256) (k1 : 0 ≤ d1 ∧ d1 < 256) (k2 : 0 ≤ d2 ∧ d2 < 256) (k3 : 0 ≤ d3 ∧ d3 < 256) (h : wd c0 c1 c2 c3 = wd d0 d1 d2 d3) : c0 = d0 ∧ c1 = d1 ∧ c2 = d2 ∧ c3 = d3 := by
  unfold wd at h; omega

/-- WHERE FOUR BYTES THAT STAND TOGETHER DIFFER, AND NOTHING ELSE DOES, THE END DIFFERS. -/
theorem burst (n : Nat) (p r : List Int) (c0 c1 c2 c3 d0 d1 d2 d3 : Int) (hn : n < 4294967296) (hp : ∀ c ∈ p, 0 ≤ c ∧ c < 256) (hr : ∀ c ∈ r, 0 ≤ c ∧ c < 256)
    (h0 : 0 ≤ c0 ∧ c0 < 256) (h1 : 0 ≤ c1 ∧ c1 < 256) (h2 : 0 ≤ c2 ∧ c2 < 256) (h3 : 0 ≤ c3 ∧ c3 < 256)
    (k0 : 0 ≤ d0 ∧ d0 < 256) (k1 : 0 ≤ d1 ∧ d1 < 256) (k2 : 0 ≤ d2 ∧ d2 < 256) (k3 : 0 ≤ d3 ∧ d3 < 256)
    (h : runL n (p ++ ([c0, c1, c2, c3] ++ r)) = runL n (p ++ ([d0, d1, d2, d3] ++ r))) : c0 = d0 ∧ c1 = d1 ∧ c2 = d2 ∧ c3 = d3 := by
  have hm := runL_lt p n hn hp
  have wc := wd_lt c0 c1 c2 c3 h0 h1 h2 h3
  have wdd := wd_lt d0 d1 d2 d3 k0 k1 k2 k3
  rw [runL_append, runL_append, runL_append, runL_append, run_four _ _ _ _ _ h0 h1 h2 h3, run_four _ _ _ _ _ k0 k1 k2 k3] at h
  have e1 := runL_inj r (bsN_lt 32 (xor32 hm wc)) (bsN_lt 32 (xor32 hm wdd)) hr h
  have e2 := bsN_inj 32 (xor32 hm wc) (xor32 hm wdd) e1
  rw [Nat.xor_comm, Nat.xor_comm (runL n p)] at e2
  exact wd_inj h0 h1 h2 h3 k0 k1 k2 k3 (xor_cancel e2)

end Go.Proofs.YtfipdldoklkciaaGreat
