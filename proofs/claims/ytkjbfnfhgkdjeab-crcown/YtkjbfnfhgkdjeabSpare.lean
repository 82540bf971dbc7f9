/-
  A row of bytes that a call itself has made, known to its last place, the room behind the elements too.
-/
import Derived.Test.YtkjbfnfhgkdjeabRow
namespace Go.Proofs.Ytkjbfnfhgkdjeab
open Go.RowKit

/-- BLOCK g HOLDS JUST THE BYTES 'full'. -/
def Block (w : World) (g : Nat) (full : List Int) : Prop := w.heap[g]? = some (.cells (full.map (Value.int .u8)).toArray 5 (0, 0))

theorem Block.below {w w' : World} {B g : Nat} {full : List Int} (h : Block w g full) (hb : Below B w w') (hg : g < B) : Block w' g full := by
  unfold Block
  rw [hb.block g hg]
  exact h

theorem Block.lt {w : World} {g : Nat} {full : List Int} (h : Block w g full) : g < w.heap.size := (Array.getElem?_eq_some_iff.1 h).1

theorem Block.cell {w : World} {g : Nat} {full : List Int} (h : Block w g full) (j : Nat) (hj : j < full.length) : w.cell? ⟨g, j, none⟩ = some (.int .u8 (full.getD j 0)) := by
  rw [cell_row h, List.getElem?_toArray, List.getElem?_map, List.getD_eq_getElem?_getD, List.getElem?_eq_getElem hj]; rfl

/-- Its first bytes, as a slice. -/
theorem Block.bytes {w : World} {g : Nat} {zs more : List Int} (h : Block w g (zs ++ more)) (hz : ∀ c ∈ zs, 0 ≤ c ∧ c < 256) (hm : zs.length ≤ maxLen) : Bytes w (some ⟨g, 0, none⟩) zs := by
  refine ⟨hz, hm, .inr ⟨g, 0, rfl, fun i hi => ?_⟩⟩
  rw [Nat.zero_add, h.cell i (by rw [List.length_append]; omega), List.getD_eq_getElem?_getD, List.getD_eq_getElem?_getD, List.getElem?_append_left hi]

/-- 'make([]byte, 0, n)'. -/
theorem wpList_make_block {w : World} {ops : Array Oper} {rest : List Oper} {o : Oper} {a : Act} {Q : Exit → Act → World → Prop} (hg : o.guard = none) (l c : Operand) (hop : o.op = Op.makeSlice 22 l c)
    (C : Int) (n : Nat) (hl : a.eval l = .int .i64 0) (hc : a.eval c = .int .i64 C) (hC : C = (n : Int)) (b2 : n ≤ 281474976710656)
    (hK : ∀ w', Block w' w.heap.size (List.replicate n 0) → Below w.heap.size w w' → wpList Try.prog ops Q rest (a.put o.dst (.slice (some ⟨w.heap.size, 0, none⟩) 0 n)) w') :
    wpList Try.prog ops Q (o :: rest) a w := by
  refine wpList_plain hg fun K hK' => ?_
  obtain ⟨i, hi, hz, hsz, hby⟩ := info_parts info5
  subst hC
  have hrun := run_make (P := Try.prog) w 22 5 i (.int .u8 0) Try.underlying22 hi hz .i64 .i64 0 n (Int.le_refl _) (by omega) (by rw [hby]; omega) (by omega)
  simp only [Int.toNat_zero, Int.toNat_natCast, hsz, Nat.mul_one] at hrun
  unfold Oper.wp
  simp [execOp, hop, hl, hc, hrun, Result.andThen]
  refine hK' _ _ (hK _ ?_ ((Below.refl _ _).alloc (Nat.le_refl _) _))
  unfold Block
  rw [heap_alloc_new]
  congr 2
  apply Array.toList_inj.1
  rw [show (Value.int .u8 0).cells = #[Value.int .u8 0] from rfl, toList_madeCells_one]
  simp

/-- 'append(v, x...)', v such a row's empty slice, x any bytes for which there is room. -/
theorem wpList_append_block {w : World} {ops : Array Oper} {rest : List Oper} {o : Oper} {a : Act} {Q : Exit → Act → World → Prop} (hgd : o.guard = none) (s x : Operand)
    (ho : o.op = .call { callee := .builtin .append, args := #[s, x], argTypes := #[22, 22] })
    (g cap : Nat) (full zs : List Int) (hs : a.eval s = .slice (some ⟨g, 0, none⟩) 0 cap) (hf : Block w g full) (hfl : full.length = cap) (hcm : cap ≤ maxLen)
    (ad : Option Addr) (m c : Nat) (hx : a.eval x = .slice ad m c) (hm : zs.length = m) (hn : ad = none → c = 0) (hb : Bytes w ad zs) (hroom : m ≤ cap)
    (w0 : World) (hbel : Below w0.heap.size w0 w) (hg0 : w0.heap.size ≤ g)
    (h : ∀ w', Block w' g (zs ++ full.drop m) → Below w0.heap.size w0 w' → wpList Try.prog ops Q rest (a.put o.dst (.slice (some ⟨g, 0, none⟩) m cap)) w') : wpList Try.prog ops Q (o :: rest) a w := by
  subst hm
  obtain ⟨i, hi, hz, hsz, hby⟩ := info_parts info5
  cases ad with
  | none =>
    have h0 : zs = [] := by
      rcases hb.2.2 with h0 | ⟨_, _, h0, _⟩
      · exact h0
      · cases h0
    subst h0
    rw [hn rfl] at hx
    have hown : w.ownsRow w0.heap.size 5 1 (.slice (some ⟨g, 0, none⟩) 0 cap) 0 [] :=
      ⟨by simp, .inr ⟨g, cap, _, rfl, hg0, hf, Nat.zero_le _, hcm, by simp [hfl], by simp⟩⟩
    refine wpList_append_own_none hgd s x 22 ho w0.heap.size 5 i 1 Try.underlying22 hi _ 0 _ hs hown hx ?_
    exact h w (by simpa using hf) hbel
  | some ad =>
    have hr := run_append_room (P := Try.prog) w 22 o.type 5 i Try.underlying22 hi g 0 cap _ hf ad zs.length c (zs.map (Value.int .u8)) (by rw [hsz]; simp) (bytes_news hb) (bytes_one zs) (by omega) (by rw [hsz]; simp; omega)
    refine wpList_plain hgd fun K hK' => ?_
    unfold Oper.wp
    simp only [Nat.zero_add] at hr
    simp [execOp, ho, resolve, invoke, builtin, hs, hx, hr, Result.andThen]
    refine hK' _ _ (h _ ?_ (below_setRow hbel hg0 _))
    unfold Block
    rw [setRow_heap w g _ _ 5 _ hf]
    simp
end Go.Proofs.Ytkjbfnfhgkdjeab
