/-
  What jlex.stringAt has in memory.
-/
import Derived.Test.YtfkoghmbkgbgbaaDoorJtk
import Derived.Test.YtfkoghmbkgbgbaaDoorJbf
import Derived.Lib.OthersKept
namespace Go.Proofs.YtfkoghmbkgbgbaaDoor
open Go.RowKit
set_option linter.unusedVariables false

theorem dig_txt (s : RS) (d : Nat) : (digR s d).txt.length ≤ s.txt.length + 4 := by
  unfold digR
  repeat' split
  all_goals
    dsimp only
    try rw [List.length_append]
    first | omega | (have := (enc_len (65536 + (s.fst - 55296) * 1024 + (s.num * 16 + d) - 56320)).2; omega) | (have := (enc_len (s.num * 16 + d)).2; omega)
theorem put_txt (s : RS) (r : Nat) : (putR s r).txt.length ≤ s.txt.length + 4 := by
  unfold putR
  dsimp only
  rw [List.length_append]
  have := (enc_len r).2
  omega
theorem take_txt (s : RS) (r : Nat) : (takeR s r).txt.length ≤ s.txt.length + 4 := by
  unfold takeR
  repeat' split
  all_goals first | exact dig_txt _ _ | exact put_txt _ _ | (dsimp only; omega) | omega
theorem own_heap {w w' : World} {B : Nat} {v : Value} {zs : List Int} (h : OwnsB w B v zs) (hh : ∀ j, B ≤ j → w'.heap[j]? = w.heap[j]?) : OwnsB w' B v zs := by
  obtain ⟨⟨h1, h2⟩, h3⟩ := h
  refine ⟨⟨h1, ?_⟩, h3⟩
  rcases h2 with h2 | ⟨g, cap, cur, hv, hg, hc, r⟩
  · exact .inl h2
  · exact .inr ⟨g, cap, cur, hv, hg, by rw [hh g hg]; exact hc, r⟩
/-- What stringAt has in memory: its fault, the reader, the place in the text. -/
structure SM (w wr : World) (t : ByteArray) (pos : Nat) (S : RS) : Prop where
  rd : RdS wr (w.heap.size + 1) (w.heap.size + 3) S
  flt : Blk wr w.heap.size #[.int .i64 0, .int .i64 0] 26
  itr : wr.heap[w.heap.size + 2]? = some (.stringIter t pos)
  bel : Below w.heap.size w wr
theorem SM.next {w wr : World} {t : ByteArray} {pos : Nat} {S : RS} (h : SM w wr t pos S) (pos' : Nat) : SM w (wr.iterAt (w.heap.size + 2) t pos') t pos' S := by
  obtain ⟨⟨p, v, hb⟩, hf, hi, hw⟩ := h
  refine ⟨⟨p, v, ?_⟩, ?_, Lib.iterAt_heap wr _ t pos pos' hi, Lib.below_iterAt hw (by omega) t pos'⟩
  · refine ⟨?_, hb.ptr, hb.own, hb.buf, hb.lies, own_heap hb.row (fun j hj => Lib.iterAt_other wr _ j t pos' (by omega)), hb.low, by rw [Lib.iterAt_size]; exact hb.top⟩
    exact (Lib.iterAt_other wr _ _ t pos' (by omega)).trans hb.blk
  · exact (Lib.iterAt_other wr _ _ t pos' (by omega)).trans hf
theorem SM.take {w wr w' : World} {t : ByteArray} {pos : Nat} {S S' : RS} (h : SM w wr t pos S) (hr : RdS w' (w.heap.size + 1) (w.heap.size + 3) S') (hk : Kq (w.heap.size + 1) (w.heap.size + 3) wr w') : SM w w' t pos S' :=
  ⟨hr, h.flt.kq hk (by omega) (by omega), (hk.block _ (by omega) (by omega)).trans h.itr, h.bel.trans ((hk.below (by omega)).mono (by omega))⟩
theorem SM.pos {w wr : World} {t : ByteArray} {pos : Nat} {S : RS} (h : SM w wr t pos S) : wr.iterPos (w.heap.size + 2) = pos := by
  unfold World.iterPos
  rw [h.itr]
theorem sm0 (w : World) (t : ByteArray) : SM w (((w.alloc (.cells #[.int .i64 0, .int .i64 0] 26)).alloc (.cells #[.int .i64 0, .pointer none, .slice none 0 0, .int .i32 0, .int .i64 0, .int .i32 0] 73)).iter t 0) t 0 r0 := by
  have a1 := alloc_below w (.cells #[.int .i64 0, .int .i64 0] 26)
  have h1 := blk_new w #[.int .i64 0, .int .i64 0] 26
  generalize hw1 : w.alloc (.cells #[.int .i64 0, .int .i64 0] 26) = w1 at *
  have s1 : w1.heap.size = w.heap.size + 1 := by rw [← hw1]; simp
  have a2 := alloc_below w1 (.cells #[.int .i64 0, .pointer none, .slice none 0 0, .int .i32 0, .int .i64 0, .int .i32 0] 73)
  have h2 := blk_new w1 #[.int .i64 0, .pointer none, .slice none 0 0, .int .i32 0, .int .i64 0, .int .i32 0] 73
  generalize hw2 : w1.alloc (.cells #[.int .i64 0, .pointer none, .slice none 0 0, .int .i32 0, .int .i64 0, .int .i32 0] 73) = w2 at *
  have s2 : w2.heap.size = w.heap.size + 2 := by rw [← hw2]; simp; omega
  have a3 := iter_below w2 t 0
  have s3 : (w2.iter t 0).heap.size = w.heap.size + 3 := by unfold World.iter; simp; omega
  refine ⟨⟨none, .slice none 0 0, ?_, rfl, .inl rfl, rfl, ?_, ownsB_nil _ _, by omega, by omega⟩, (h1.kept a2 (by omega)).kept a3 (by omega), ?_, a1.trans ((a2.mono (by omega)).trans (a3.mono (by omega)))⟩
  · rw [← s1]; exact h2.kept a3 (by omega)
  · have hsz : (rdc ((r0.q : Nat) : Int) none (.slice none 0 0) ((r0.num : Nat) : Int) ((r0.dig : Nat) : Int) ((r0.fst : Nat) : Int)).size = 6 := rfl
    rw [hsz]; exact lies_rd
  · rw [← s2]; exact heap_alloc_new w2 _
theorem decode_rune (t : ByteArray) (pos : Nat) : Utf8.decode t pos = (runeB ((bs t).drop pos), if goodB ((bs t).drop pos) = true then lenB ((bs t).drop pos) else 1) := by
  have hz := bs_bytes t
  conv => lhs; rw [← str_bs t]
  unfold runeB
  by_cases hg : Good ((bs t).drop pos)
  · rw [goodB_yes hg, if_pos rfl, if_pos rfl, decode_good hz hg]
  · rw [goodB_no hg, if_neg (by simp), if_neg (by simp), decode_bad hz hg]
end Go.Proofs.YtfkoghmbkgbgbaaDoor
