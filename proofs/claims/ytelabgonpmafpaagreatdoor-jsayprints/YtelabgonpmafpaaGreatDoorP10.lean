/-
  A text as a string: jlex.Escape.
  Rows of strings: read, made, appended to.
  A number's text: dec.Text.
  Nodes appended to nodes of the call's own: the row stays where it is, or lies in a new block.
  When two trees are the same: tree.same, with slices.EqualFunc.
  Trees in new memory: what they are; tree.cloneAll.
  The library's calls, as this program bears them: told of in Lib.
  Nodes of which all is zero; stores into blocks.
  A tree in new memory: tree.clone.
  The fault of one node, as plain data: gt tells which bytes are a text, ri which digits are a number, rd which numbers may a Dec have.
-/
import Derived.Test.YtelabgonpmafpaaGreatDoorP7
import Derived.Test.YtelabgonpmafpaaGreatDoorP9
import Derived.Test.YtelabgonpmafpaaGreatDoorP4
import Derived.Test.YtelabgonpmafpaaGreatDoorP2
import Derived.Test.YtelabgonpmafpaaGreatDoorP3
import Derived.Deep.DeepAppendWide
import Derived.Lib.AppendStr
import Derived.Deep.RegionHeld3
import Derived.Shelf.Abstract
namespace Go.Proofs.YtelabgonpmafpaaGreatDoor
open Go.RowKit
set_option linter.unusedVariables false

def escAll (l : List Nat) : List Int := (l.map escR).flatten
theorem escAll_nil : escAll [] = [] := rfl
theorem escAll_cons (r : Nat) (l : List Nat) : escAll (r :: l) = escR r ++ escAll l := by simp [escAll]
/-- How a text is written as a string; nothing where it is no text. -/
def escA (b : List Int) : List Int := if (runesL b).2 = none then [34] ++ escAll (runesL b).1 ++ [34] else []
theorem lies_bb : liesAt Tryz.prog Tryz.prog.depth 100 (2 / Tryz.prog.cellsOf 100) 0 100 1 = true := by kernel_rfl
set_option maxRecDepth 100000 in
theorem bb_new (w : World) : BB (w.alloc (.cells #[.pointer none, .slice none 0 0] 100)) w.heap.size (w.heap.size + 1) [] :=
  ⟨_, none, .slice none 0 0, blk_new w #[.pointer none, .slice none 0 0] 100, rfl, .inl rfl, rfl, lies_bb, ownsB_nil _ _, Nat.lt_succ_self _, by simp⟩
theorem own_but {w w' : World} {B it p : Nat} {t : ByteArray} {v : Value} {zs : List Int} (h : OwnsB w B v zs) (hi : w.heap[it]? = some (Obj.stringIter t p)) (hh : ∀ j, j ≠ it → w'.heap[j]? = w.heap[j]?) : OwnsB w' B v zs := by
  obtain ⟨⟨h1, h2⟩, h3⟩ := h
  refine ⟨⟨h1, ?_⟩, h3⟩
  rcases h2 with h2 | ⟨g, cap, cur, hv, hg, hc, r⟩
  · exact .inl h2
  · refine .inr ⟨g, cap, cur, hv, hg, ?_, r⟩
    rw [hh g (by rintro rfl; rw [hi] at hc; cases hc)]
    exact hc
theorem BB.iter {w : World} {g B it p : Nat} {t : ByteArray} {zs : List Int} (h : BB w g B zs) (hi : w.heap[it]? = some (Obj.stringIter t p)) (p' : Nat) : BB (w.iterAt it t p') g B zs := by
  obtain ⟨cs, q, v, hb⟩ := h
  have hne : g ≠ it := by
    rintro rfl
    have := hb.blk
    unfold Blk at this
    rw [hi] at this
    cases this
  refine ⟨cs, q, v, ?_, hb.ptr, hb.own, hb.buf, hb.lies, own_but hb.row hi (fun j hj => Lib.iterAt_other w _ j t p' hj), hb.low, by rw [Lib.iterAt_size]; exact hb.top⟩
  exact (Lib.iterAt_other w _ _ t p' hne).trans hb.blk
theorem field_why (x y : Value) (w : World) : Sem.run Tryz.prog (Instr.field 36 (.agg #[x, y]) 0) w = .ok x w := by
  have t1 := Tryz.underlying36
  simp [Instr.field, run_underlying t1, asAgg, part, go_sem, Tryz.isAgg27, Tryz.sizeOf27]
/-- Where the walk stands. -/
structure ES (w wr : World) (g it : Nat) (t : ByteArray) (pos : Nat) (zs : List Int) : Prop where
  bb : BB wr g (g + 1) zs
  itr : wr.heap[it]? = some (Obj.stringIter t pos)
  bel : Below w.heap.size w wr
  lo : w.heap.size ≤ g
  hi : g < it
theorem ES.next {w wr : World} {g it pos : Nat} {t : ByteArray} {zs : List Int} (h : ES w wr g it t pos zs) (p' : Nat) : ES w (wr.iterAt it t p') g it t p' zs :=
  ⟨h.bb.iter h.itr p', Lib.iterAt_heap wr _ t pos p' h.itr, Lib.below_iterAt h.bel (by have := h.lo; have := h.hi; omega) t p', h.lo, h.hi⟩
theorem ES.put {w wr w' : World} {g it pos : Nat} {t : ByteArray} {zs zs' : List Int} (h : ES w wr g it t pos zs) (hb : BB w' g (g + 1) zs') (hk : KI g (g + 1) wr w') : ES w w' g it t pos zs' :=
  ⟨hb, hk.2 _ _ _ h.itr, h.bel.trans ((hk.1.below (by omega)).mono h.lo), h.lo, h.hi⟩
theorem ES.pos {w wr : World} {g it pos : Nat} {t : ByteArray} {zs : List Int} (h : ES w wr g it t pos zs) : wr.iterPos it = pos := by
  unfold World.iterPos
  rw [h.itr]
theorem es0 {w w2 w3 : World} (t : ByteArray) {zs : List Int} (h2 : Below w.heap.size w w2) (hb : BB w3 w2.heap.size (w2.heap.size + 1) zs) (hk : KI w2.heap.size (w2.heap.size + 1) (w2.alloc (.cells #[.pointer none, .slice none 0 0] 100)) w3) : ES w (w3.iter t 0) w2.heap.size w3.heap.size t 0 zs := by
  have hA := alloc_below w2 (.cells #[.pointer none, .slice none 0 0] 100)
  have b3 : Below w.heap.size w w3 := (h2.trans (hA.mono h2.size)).trans ((hk.1.below (Nat.le_succ _)).mono h2.size)
  refine ⟨hb.on (iter_below w3 t 0), heap_alloc_new w3 _, b3.trans ((iter_below w3 t 0).mono b3.size), h2.size, ?_⟩
  have := hb.top
  omega
set_option maxHeartbeats 4000000 in
set_option maxRecDepth 100000 in
/-- jlex.Escape. -/
theorem escape_any (s : ByteArray) (w : World) (hs : s.size ≤ 10000000) :
    Calls Tryz.prog 50 #[.string s] w fun e w' => e = .returned (.string (strOfNums (escA (bs s)))) ∧ Below w.heap.size w w' := by
  obtain ⟨gC, nC, cC, W, hcv, BC, kC⟩ := check_str s w hs
  have hs' : Hid (s.size ≤ 10000000) := hs
  by_cases hn : (runesL (bs s)).2 = none
  · have e1 : escA (bs s) = [34] ++ escAll (runesL (bs s)).1 ++ [34] := by unfold escA; rw [if_pos hn]
    rw [e1, (why_none hn).1] at *
    obtain ⟨F, hF⟩ : ∃ F, [34] ++ escAll (runesL (bs s)).1 = F := ⟨_, rfl⟩
    rw [hF]
    have hF' : Hid ([34] ++ escAll (runesL ((bs s).drop 0)).1 = F) := by rw [List.drop_zero]; exact hF
    have hn' : Hid ((runesL ((bs s).drop 0)).2 = none) := by rw [List.drop_zero]; exact hn
    have BC' : Hid (Below w.heap.size w W) := BC
    generalize atL (bs s) = AT at *
    have kC' : Calls Tryz.prog 68 #[.slice (some ⟨gC, 0, none⟩) nC cC] W fun e w' => e = .returned (.agg #[.int .i64 0, .int .i64 (AT : Nat)]) ∧ Below W.heap.size W w' := kC
    have hfw : ∀ (x y : Value) (w : World), Sem.run Tryz.prog (Instr.field 36 (.agg #[x, y]) 0) w = .ok x w := field_why
    clear hs hF hn e1 BC kC
    go_enter Tryz.func50, Tryz.ntmps50
    go_wp2_with (first
      | (go_at_call 68; refine kC'.mono ?_; rintro e w2 ⟨rfl, hb2⟩; clear kC'; have B2 : Hid (Below w.heap.size w w2) := BC'.out.trans (hb2.mono BC'.out.size); have b2 : Hid (BB (w2.alloc (.cells #[.pointer none, .slice none 0 0] 100)) w2.heap.size (w2.heap.size + 1) []) := bb_new w2)
      | (go_at_call 81; refine (wb_bb 34 (by decide) (by decide) b2.out (by decide)).mono ?_; rintro e w3 ⟨rfl, h3, q3⟩; have E3 : Hid (ES w (w3.iter s 0) w2.heap.size w3.heap.size s 0 [34]) := es0 s B2.out h3 q3; clear h3 q3))
    go_loopw [] (fun wr => ∃ (pos : Nat) (zs : List Int), pos ≤ s.size ∧ Hid (ES w wr w2.heap.size w3.heap.size s pos zs) ∧ Hid (zs.length ≤ 1 + 6 * pos) ∧ Hid ((runesL ((bs s).drop pos)).2 = none) ∧ Hid (zs ++ escAll (runesL ((bs s).drop pos)).1 = F)) (fun wr => s.size - wr.iterPos w3.heap.size)
    case atStart => exact ⟨0, [34], Nat.zero_le _, E3, by show _ ≤ _; simp, hn', hF'⟩
    case round =>
      clear E3 hn' hF'
      obtain ⟨pos, zs, hpos, hE, hL, hN, hZ⟩ := hrel
      by_cases hlt : pos < s.size
      · have h0 : (bs s).drop pos ≠ [] := by intro h; have := congrArg List.length h; rw [List.length_drop, bs_len] at this; simp at this; omega
        have hg : Good ((bs s).drop pos) := by
          rcases Classical.em (Good ((bs s).drop pos)) with h | h
          · exact h
          · have := hN.out; rw [runes_bad h0 h] at this; cases this
        have hnx0 := fun ty => Lib.run_next_any_at (P := Tryz.prog) wr w3.heap.size s pos ty hE.out.itr hlt
        have hgl := good_ne hg h0
        rw [List.length_drop, bs_len] at hgl
        have hrv : runeB ((bs s).drop pos) = valB ((bs s).drop pos) := by unfold runeB; rw [goodB_yes hg, if_pos rfl]
        rw [decode_rune, goodB_yes hg, if_pos rfl, hrv] at hnx0
        have hRt := good_right hg
        have hrs := runes_good h0 hg
        have hN2 : Hid ((runesL ((bs s).drop (pos + lenB ((bs s).drop pos)))).2 = none) := by
          have := hN.out
          rw [hrs] at this
          rw [List.drop_drop] at this
          show _ = _
          simpa using this
        have hZ2 : Hid ((zs ++ escR (valB ((bs s).drop pos))) ++ escAll (runesL ((bs s).drop (pos + lenB ((bs s).drop pos)))).1 = F) := by
          have := hZ.out
          rw [hrs, escAll_cons, List.drop_drop] at this
          show _ = _
          rw [List.append_assoc]; exact this
        have hL1 := hgl.1
        have hL2 : pos + lenB ((bs s).drop pos) ≤ s.size := by omega
        generalize valB ((bs s).drop pos) = V at *
        generalize lenB ((bs s).drop pos) = LN at *
        have hnx : ∀ ty, (Instr.next (.pointer (some ⟨w3.heap.size, 0, none⟩)) true ty).run Tryz.prog wr = .ok (.tuple #[.bool true, .int .i64 pos, .int .i32 (V : Nat)]) (wr.iterAt w3.heap.size s (pos + LN)) := hnx0
        have hM := hE.out.next (pos + LN)
        have hpo := hE.out.pos
        generalize wr.iterAt w3.heap.size s (pos + LN) = wi at *
        have kR := escr_any V hRt hM.bb (by have := hL.out; have := hs'.out; omega)
        have hM' : Hid (ES w wi w2.heap.size w3.heap.size s (pos + LN) zs) := hM
        have kR' : Calls Tryz.prog 82 #[.pointer (some ⟨w2.heap.size, 0, none⟩), .int .i32 (V : Int)] wi fun e w' => e = .returned (.tuple #[]) ∧ ES w w' w2.heap.size w3.heap.size s (pos + LN) (zs ++ escR V) := kR.mono fun e w' ⟨h1, h2, h3⟩ => ⟨h1, hM'.out.put h2 h3⟩
        have hL3 : Hid ((zs ++ escR V).length ≤ 1 + 6 * (pos + LN)) := by have := hL.out; have := escR_len V; show _ ≤ _; rw [List.length_append]; omega
        clear hnx0 h0 hg hgl hrv hRt hrs hN hZ hE hL hM kR
        go_wp2_with (go_at_call 82; refine kR'.mono ?_; rintro e w4 ⟨rfl, M4⟩; clear kR'; have H4 : Hid (ES w w4 w2.heap.size w3.heap.size s (pos + LN) (zs ++ escR V)) := M4; clear M4)
        go_roundw
        case rel => exact ⟨pos + LN, zs ++ escR V, hL2, H4, hL3, hN2, hZ2⟩
        case measure => rw [H4.out.pos, hpo]; omega
      · obtain rfl : pos = s.size := by omega
        have hnx : ∀ ty, (Instr.next (.pointer (some ⟨w3.heap.size, 0, none⟩)) true ty).run Tryz.prog wr = _ := fun ty => Lib.run_next_end_at wr w3.heap.size s s.size ty hE.out.itr (by omega)
        have hFF : F = zs := by
          rw [← hZ.out, List.drop_of_length_le (by rw [bs_len]; omega), runes_nil, escAll_nil, List.append_nil]
        subst hFF
        clear hN hZ
        go_wp2_with (first
          | (go_at_call 81; refine (wb_bb 34 (by decide) (by decide) hE.out.bb (by have := hL.out; have := hs'.out; omega)).mono ?_; rintro e w5 ⟨rfl, h5, q5⟩; have kS := st_bb h5; have H5 : Hid (ES w w5 w2.heap.size w3.heap.size s s.size (F ++ [34])) := hE.out.put h5 q5; clear h5 q5)
          | (go_at_call 78; refine kS.mono ?_; rintro e w6 ⟨rfl, hb6⟩; clear kS))
        go_ret
        exact ⟨rfl, H5.out.bel.trans (hb6.mono (by have := H5.out.lo; omega))⟩
  · obtain ⟨p, hp⟩ := Option.ne_none_iff_exists'.1 hn
    have e1 : escA (bs s) = [] := by unfold escA; rw [if_neg hn]
    rw [e1, (why_some hp).1] at *
    have BC' : Hid (Below w.heap.size w W) := BC
    generalize atL (bs s) = AT at *
    have kC' : Calls Tryz.prog 68 #[.slice (some ⟨gC, 0, none⟩) nC cC] W fun e w' => e = .returned (.agg #[.int .i64 6, .int .i64 (AT : Nat)]) ∧ Below W.heap.size W w' := kC
    have hfw : ∀ (x y : Value) (w : World), Sem.run Tryz.prog (Instr.field 36 (.agg #[x, y]) 0) w = .ok x w := field_why
    clear hs hn hp e1 BC kC
    go_enter Tryz.func50, Tryz.ntmps50
    go_wp2_with (go_at_call 68; refine kC'.mono ?_; rintro e w2 ⟨rfl, hb2⟩; clear kC'; have B2 : Hid (Below w.heap.size w w2) := BC'.out.trans (hb2.mono BC'.out.size))
    go_ret
    exact ⟨rfl, B2.out⟩
end Go.Proofs.YtelabgonpmafpaaGreatDoor
namespace Go.Proofs.YtelabgonpmafpaaGreatDoor
open Go.RowKit
set_option linter.unusedVariables false
/-- The strings l lie at a. -/
def Strs (w : World) (a : Option Addr) (l : List ByteArray) : Prop :=
  l.length ≤ maxLen ∧ (l = [] ∨ ∃ b off, a = some ⟨b, off, none⟩ ∧ ∀ i, i < l.length → w.cell? ⟨b, off + i, none⟩ = some (.string (l.getD i ⟨#[]⟩)))
/-- Strings in new memory. -/
def OwnsZ (w : World) (base : Nat) (v : Value) (l : List ByteArray) : Prop := w.ownsRow base 9 1 v l.length (l.map Value.string)
theorem info9 : (Tryz.prog.info? 9).map (fun i => (i.zero, i.size, i.bytes)) = some (some (.string ⟨#[]⟩), 1, 16) := by kernel_rfl

theorem ownsZ_nil (w : World) (base : Nat) : OwnsZ w base (.slice none 0 0) [] := World.ownsRow_nil w base 9 1
theorem OwnsZ.shape {w : World} {base : Nat} {v : Value} {l : List ByteArray} (h : OwnsZ w base v l) :
    ∃ a cap, v = .slice a l.length cap ∧ (a = none → cap = 0) ∧ (l.length ≤ cap ∧ cap ≤ maxLen) ∧ Strs w a l ∧ (∀ x, a = some x → base ≤ x.block ∧ x.block < w.heap.size ∧ x.off = 0 ∧ x.spot = none) := by
  obtain ⟨hl, hv⟩ := h
  rcases hv with ⟨rfl, hn⟩ | ⟨g, cap, cur, rfl, hb, hg, hnc, hcm, hcs, htk⟩
  · have h0 : l = [] := List.eq_nil_of_length_eq_zero hn
    subst h0
    exact ⟨none, 0, rfl, fun _ => rfl, by simp, ⟨by simp, .inl rfl⟩, fun x hx => by cases hx⟩
  · refine ⟨some ⟨g, 0, none⟩, cap, rfl, (fun hx => by cases hx), ⟨hnc, hcm⟩, ⟨by omega, .inr ⟨g, 0, rfl, fun i hi => ?_⟩⟩, ?_⟩
    · rw [Nat.zero_add, cell_row hg, ← Array.getElem?_toList]
      have h1 : (cur.toList.take (l.length * 1))[i]? = (l.map Value.string)[i]? := by rw [htk]
      rw [List.getElem?_take, if_pos (by omega), List.getElem?_map] at h1
      rw [h1, List.getD_eq_getElem?_getD, List.getElem?_eq_getElem hi]; rfl
    · intro x hx
      cases hx
      exact ⟨hb, (Array.getElem?_eq_some_iff.1 hg).1, rfl, rfl⟩
theorem OwnsZ.form {w : World} {base : Nat} {v : Value} {l : List ByteArray} (h : OwnsZ w base v l) :
    ∃ a n cap, v = .slice a n cap ∧ Hid (l.length = n) ∧ Hid (a = none → cap = 0) ∧ n ≤ cap ∧ cap ≤ 9223372036854775807 ∧ Hid (Strs w a l) := by
  obtain ⟨a, cap, hv, hn, ⟨hl, hm⟩, hb, _⟩ := h.shape
  exact ⟨a, l.length, cap, hv, rfl, hn, hl, by simpa [maxLen] using hm, hb⟩
theorem OwnsZ.below {w w' : World} {base : Nat} {v : Value} {l : List ByteArray} (h : OwnsZ w base v l) (hb : Below w.heap.size w w') : OwnsZ w' base v l :=
  World.ownsRow.kept (row := none) h ⟨hb.os, hb.tape, hb.output, hb.size, fun k hk _ => hb.block k hk⟩ (by cases hv : v.ownBlock <;> simp)
theorem OwnsZ.alloc {w : World} {base : Nat} {v : Value} {l : List ByteArray} (h : OwnsZ w base v l) (o : Obj) : OwnsZ (w.alloc o) base v l := h.below ((Below.refl _ _).alloc (Nat.le_refl _) o)
/-- Where blocks below stay it stays. -/
theorem OwnsZ.low {w : World} {base : Nat} {v : Value} {l : List ByteArray} (h : OwnsZ w base v l) {a : Addr} (ha : a.block < base) (u : Value) : OwnsZ (w.setCell a u) base v l := ownsRow_setCell_below h ha u
theorem OwnsZ.base {w : World} {base base' : Nat} {v : Value} {l : List ByteArray} (h : OwnsZ w base v l) (hB : base' ≤ base) : OwnsZ w base' v l := by
  obtain ⟨hl, hv⟩ := h
  refine ⟨hl, ?_⟩
  rcases hv with ⟨rfl, hn⟩ | ⟨g, cap, cur, rfl, hb, hr⟩
  · exact .inl ⟨rfl, hn⟩
  · exact .inr ⟨g, cap, cur, rfl, by omega, hr⟩
theorem grownZ_below {w w1 w2 : World} {base : Nat} {v : Value} {l : List ByteArray} (hb : Below base w w1) (h : OwnsZ w1 base v l) (hg : w1.grownBy w2 v.ownBlock) (hB : base ≤ w1.heap.size) : Below base w w2 :=
  hb.grown hg hB fun k hk => (World.ownsRow.lt h k hk).1

theorem Strs.lt {w : World} {x : Addr} {l : List ByteArray} (hb : Strs w (some x) l) (h0 : l ≠ []) : x.block < w.heap.size := by
  rcases hb.2 with h1 | ⟨b, off, h1, hc⟩
  · exact absurd h1 h0
  · cases h1
    have hp : 0 < l.length := List.length_pos_iff.2 h0
    have := hc 0 hp
    simp only [World.cell?] at this
    show b < w.heap.size
    rcases Nat.lt_or_ge b w.heap.size with h2 | h2
    · exact h2
    · simp [Array.getElem?_eq_none h2] at this
theorem Strs.kept {w w' : World} {a : Option Addr} {l : List ByteArray} (hb : Strs w a l) (h : Below w.heap.size w w') : Strs w' a l := by
  refine ⟨hb.1, ?_⟩
  rcases hb.2 with h0 | ⟨b, off, rfl, hc⟩
  · exact .inl h0
  · by_cases h0 : l = []
    · exact .inl h0
    · refine .inr ⟨b, off, rfl, fun i hi => ?_⟩
      rw [h.cell (p := ⟨b, off + i, none⟩) (hb.lt h0)]
      exact hc i hi
theorem strs_some {w : World} {a : Option Addr} {l : List ByteArray} (hb : Strs w a l) (h : 0 < l.length) : ∃ b off, a = some ⟨b, off, none⟩ := by
  rcases hb.2 with rfl | ⟨b, off, h1, _⟩
  · simp at h
  · exact ⟨b, off, h1⟩
theorem Strs.cell {w : World} {b off : Nat} {l : List ByteArray} (hb : Strs w (some ⟨b, off, none⟩) l) {i : Nat} (hi : i < l.length) : w.cell? ⟨b, off + i, none⟩ = some (.string (l.getD i ⟨#[]⟩)) := by
  rcases hb.2 with h | ⟨b', off', h, hc⟩
  · subst h; simp at hi
  · cases h
    exact hc i hi
theorem strs_news {w : World} {x : Addr} {l : List ByteArray} (hb : Strs w (some x) l) : ∀ j u, (l.map Value.string)[j]? = some u → w.cell? (x.add j) = some u := by
  intro j u hu
  rcases hb.2 with rfl | ⟨b, off, hx, hc⟩
  · simp at hu
  · cases hx
    have hj : j < l.length := by
      have := (List.getElem?_eq_some_iff.1 hu).1
      simpa using this
    have h1 := hc j hj
    rw [List.getElem?_map, List.getElem?_eq_getElem hj] at hu
    simp only [Option.map_some, Option.some.injEq] at hu
    subst hu
    have e : (⟨b, off, none⟩ : Addr).add j = ⟨b, off + j, none⟩ := by
      by_cases h0 : j = 0
      · subst h0; simp [Addr.add]
      · simp [Addr.add, h0]
    rw [e, h1, List.getD_eq_getElem?_getD, List.getElem?_eq_getElem hj]; rfl
theorem strs_one (l : List ByteArray) : ∀ u ∈ l.map Value.string, u.oneCell' = true := by
  intro u hu
  obtain ⟨c, _, rfl⟩ := List.mem_map.1 hu
  rfl
theorem one_str (w : World) (n : ByteArray) : Strs (w.alloc (.cells #[.string n] 9)) (some ⟨w.heap.size, 0, none⟩) [n] := by
  refine ⟨by simp [maxLen], .inr ⟨_, _, rfl, ?_⟩⟩
  intro i hi
  rw [World.cell?_alloc_mark]
  match i, hi with
  | 0, _ => rfl

/-- 'append(v, x...)', v the call's own runes, x any runes. -/
theorem wpList_append_strs {w : World} {ops : Array Oper} {rest : List Oper} {o : Oper} {a : Act} {Q : Exit → Act → World → Prop} (hgd : o.guard = none) (s x : Operand)
    (ho : o.op = .call { callee := .builtin .append, args := #[s, x], argTypes := #[77, 77] })
    (base : Nat) (v : Value) (ys zs : List ByteArray) (hs : a.eval s = v) (hown : OwnsZ w base v ys)
    (ad : Option Addr) (m c : Nat) (hx : a.eval x = .slice ad m c) (hm : zs.length = m) (hn : ad = none → c = 0) (hb : Strs w ad zs)
    (hbytes : ys.length + zs.length ≤ 1000000000) (hbase : base ≤ w.heap.size)
    (h : ∀ v' w', OwnsZ w' base v' (ys ++ zs) → w.grownBy w' v.ownBlock → wpList Tryz.prog ops Q rest (a.put o.dst v') w') : wpList Tryz.prog ops Q (o :: rest) a w := by
  subst hm
  obtain ⟨i, hi, hz, hsz, hby⟩ := info_parts info9
  cases ad with
  | none =>
    have h0 : zs = [] := by
      rcases hb.2 with h0 | ⟨_, _, h0, _⟩
      · exact h0
      · cases h0
    subst h0
    rw [hn rfl] at hx
    refine wpList_append_own_none hgd s x 77 ho base 9 i 1 Tryz.underlying77 hi v ys.length _ hs hown hx ?_
    have := h v w (by simpa using hown) (World.grownBy.refl _ _)
    exact this
  | some ad =>
    refine wpList_append_own_wide w hgd s x 77 ho base 9 i (.string ⟨#[]⟩) 1 16 Tryz.underlying77 hi hz hsz hby rfl (by decide) v ys.length _ hs hown ad zs.length c (zs.map Value.string) hx (by simp) (strs_news hb) (strs_one zs) ?_ (by omega) hbase ?_
    · unfold maxLen; omega
    · intro v' w' ho' hg _
      refine h v' w' ?_ hg
      unfold OwnsZ
      rw [List.length_append, List.map_append]
      exact ho'

theorem strs_row (w : World) (l : List ByteArray) (hl : l.length ≤ maxLen) : Strs (w.alloc (.cells (l.map Value.string).toArray 9)) (some ⟨w.heap.size, 0, none⟩) l := by
  refine ⟨hl, .inr ⟨_, _, rfl, ?_⟩⟩
  intro i hi
  rw [World.cell?_alloc_mark, Nat.zero_add]
  simp [List.getD_eq_getElem?_getD, List.getElem?_eq_getElem hi]
end Go.Proofs.YtelabgonpmafpaaGreatDoor
namespace Go.Proofs.YtelabgonpmafpaaGreatDoor
open Go.RowKit

/-- A number's text, as bytes. -/
def textL (n : Bool) (s : List Int) (x : Int) : List Int := (if n = true then [45] else []) ++ s ++ (if x = 0 then [] else 101 :: itoaL x)
def textA (n : Bool) (s : ByteArray) (x : Int) : ByteArray := if rtN n s x = true then strOfNums (textL n (bs s) x) else noS
theorem Tab.up {B B' : Nat} {w : World} (h : Tab B w) (hB : B ≤ B') : Tab B' w := fun w' hb => h w' (hb.mono hB)
/-- The same as a step of a region that draws its order, x bytes at an address. -/
theorem step_append_bytes {w : World} {ops : Array Oper} {o : Oper} {a : Act} {K : Act → World → Prop} {Q : Exit → Act → World → Prop} {E : Prop} (hgd : o.guard = none) (s x : Operand)
    (ho : o.op = .call { callee := .builtin .append, args := #[s, x], argTypes := #[23, 23] })
    (base : Nat) (v : Value) (ys zs : List Int) (hs : a.eval s = v) (hown : OwnsB w base v ys)
    (ad : Addr) (m c : Nat) (hx : a.eval x = .slice (some ad) m c) (hm : zs.length = m) (hb : Bytes w (some ad) zs)
    (hbytes : ys.length + zs.length ≤ 140737488355328) (hbase : base ≤ w.heap.size)
    (h : ∀ v' w', OwnsB w' base v' (ys ++ zs) → w.grownBy w' v.ownBlock → K (a.put o.dst v') w') :
    if Region.wanted o (yielded ops a.tmps) = true then Oper.wp Tryz.prog o a w K Q else E := by
  have hw : Region.wanted o (yielded ops a.tmps) = true := by simp [Region.wanted, hgd]
  rw [if_pos hw]
  subst hm
  obtain ⟨i, hi, hz, hsz, hby⟩ := info_parts info5
  refine wp_append_own w s x 23 ho base 5 i (.int .u8 0) 1 1 Tryz.underlying23 hi hz hsz hby rfl (by decide) v ys.length _ hs hown.1 ad zs.length c (zs.map (Value.int .u8)) hx (by simp) (bytes_news hb) (bytes_one zs) ?_ (by omega) hbase ?_
  · unfold maxLen; omega
  · intro v' w' ho' hg _
    refine h v' w' ⟨?_, fun c hc => ?_⟩ hg
    · rw [List.length_append, List.map_append]
      exact ho'
    · rcases List.mem_append.1 hc with h1 | h1
      · exact hown.2 c h1
      · exact hb.1 c h1
set_option maxHeartbeats 2000000 in
set_option maxRecDepth 100000 in
theorem text_a (s : ByteArray) (x : Int) (w : World) (hT : Tab w.heap.size w) (hr : rtN true s x = true) (h0 : x = 0) : Calls Tryz.prog 49 #[.agg #[.bool true, .string s, .int .i64 x]] w fun e w' => e = .returned (.string (textA true s x)) ∧ Below w.heap.size w w' := by
  have hR : Hid (textA true s x = strOfNums ([45] ++ bs s)) := by show _ = _; unfold textA; rw [hr]; simp [textL, h0]
  have hB := box_at w true s x 53
  have kR := dright_any true s x
  rw [hr] at kR
  have hsz := (rt_size (rtN_rt hr)).2
  have hx := rtN_exp hr
  clear hr
  generalize textA true s x = R at *
  have hT' : Hid (Tab w.heap.size w) := hT
  clear hT
  subst h0
  clear hx
  obtain ⟨b0, b1, b2⟩ := id hB
  go_enter Tryz.func49, Tryz.ntmps49
  go_wp2_with (first
    | (go_at_call 79; refine (kR _).mono ?_; rintro e w1 ⟨rfl, hb⟩; obtain ⟨c0, c1, c2⟩ := hB.kept hb (alloc_lt _ _); have hB1 : Hid (NmAt w1 w.heap.size true s 0) := hB.kept hb (alloc_lt _ _); have b1 : Hid (Below w.heap.size w w1) := box_below hb; have s1 : w.heap.size + 1 ≤ w1.heap.size := (by have := hb.size; simpa using this))
    | (at_builtin; refine wpList_append_bytes rfl _ (.tmp 10) rfl (w.heap.size + 1) (.slice none 0 0) [] [45] rfl (ownsB_nil _ _) (some ⟨w1.heap.size, 0, none⟩) 1 1 rfl rfl (by simp) (one_byte w1 45 (by decide) (by decide)) (by simp) (by simp; omega) ?_; intro v2 w2 ho2 hg2; have b2' : Below (w.heap.size + 1) w1 w2 := grown_below ((Below.refl (w.heap.size + 1) w1).alloc (by omega) _) (ownsB_nil _ _) hg2 (by simp; omega); have b2 : Hid (Below w.heap.size w w2) := b1.out.trans (b2'.mono (by omega)); have s2 : w.heap.size + 1 ≤ w2.heap.size := Nat.le_trans s1 b2'.size; have hB2 : Hid (NmAt w2 w.heap.size true s 0) := hB1.out.kept b2' (by omega); obtain ⟨d0, d1, d2⟩ := hB2.out; have hO2 : Hid (OwnsB w2 (w.heap.size + 1) v2 [45]) := ho2; clear ho2 hg2; clear b2')
    | (at_builtin; refine wpList_append_text rfl _ (.tmp 14) rfl (w.heap.size + 1) v2 [45] rfl hO2.out s rfl (by simp; omega) (by omega) ?_; intro v3 w3 ho3 hg3; have b3' : Below (w.heap.size + 1) w2 w3 := grown_below (Below.refl _ _) hO2.out hg3 (by omega); have b3 : Hid (Below w.heap.size w w3) := b2.out.trans (b3'.mono (by omega)); have s3 : w.heap.size + 1 ≤ w3.heap.size := Nat.le_trans s2 b3'.size; have hB3 : Hid (NmAt w3 w.heap.size true s 0) := hB2.out.kept b3' (by omega); obtain ⟨g0, g1, g2⟩ := hB3.out; have hO3 : Hid (OwnsB w3 (w.heap.size + 1) v3 ([45] ++ bs s)) := ho3; clear ho3 hg3; clear b3'; obtain ⟨a3, n3, p3, rfl, l3, -, -, -, y3⟩ := hO3.out.form; have cv := conv_str y3.out n3 p3 l3.out))
  go_ret
  exact ⟨by rw [hR.out]; rfl, b3.out⟩
set_option maxHeartbeats 2000000 in
set_option maxRecDepth 100000 in
theorem text_b (s : ByteArray) (x : Int) (w : World) (hT : Tab w.heap.size w) (hr : rtN true s x = true) (h0 : x ≠ 0) : Calls Tryz.prog 49 #[.agg #[.bool true, .string s, .int .i64 x]] w fun e w' => e = .returned (.string (textA true s x)) ∧ Below w.heap.size w w' := by
  have hR : Hid (textA true s x = strOfNums ([45] ++ bs s ++ 101 :: itoaL x)) := by show _ = _; unfold textA; rw [hr]; simp [textL, h0]
  have hB := box_at w true s x 53
  have kR := dright_any true s x
  rw [hr] at kR
  have hsz := (rt_size (rtN_rt hr)).2
  have hx := rtN_exp hr
  clear hr
  generalize textA true s x = R at *
  have hT' : Hid (Tab w.heap.size w) := hT
  clear hT
  have hx0 : -9223372036854775808 ≤ x := by omega
  have hx1 : x ≤ 9223372036854775807 := by omega
  have d0 : (x != 0) = true := by simpa using h0
  clear hx h0
  obtain ⟨b0, b1, b2⟩ := id hB
  go_enter Tryz.func49, Tryz.ntmps49
  go_wp2_with (first
    | (go_at_call 79; refine (kR _).mono ?_; rintro e w1 ⟨rfl, hb⟩; obtain ⟨c0, c1, c2⟩ := hB.kept hb (alloc_lt _ _); have hB1 : Hid (NmAt w1 w.heap.size true s x) := hB.kept hb (alloc_lt _ _); have b1 : Hid (Below w.heap.size w w1) := box_below hb; have s1 : w.heap.size + 1 ≤ w1.heap.size := (by have := hb.size; simpa using this))
    | (at_builtin; refine wpList_append_bytes rfl _ (.tmp 10) rfl (w.heap.size + 1) (.slice none 0 0) [] [45] rfl (ownsB_nil _ _) (some ⟨w1.heap.size, 0, none⟩) 1 1 rfl rfl (by simp) (one_byte w1 45 (by decide) (by decide)) (by simp) (by simp; omega) ?_; intro v2 w2 ho2 hg2; have b2' : Below (w.heap.size + 1) w1 w2 := grown_below ((Below.refl (w.heap.size + 1) w1).alloc (by omega) _) (ownsB_nil _ _) hg2 (by simp; omega); have b2 : Hid (Below w.heap.size w w2) := b1.out.trans (b2'.mono (by omega)); have s2 : w.heap.size + 1 ≤ w2.heap.size := Nat.le_trans s1 b2'.size; have hB2 : Hid (NmAt w2 w.heap.size true s x) := hB1.out.kept b2' (by omega); obtain ⟨d0, d1, d2⟩ := hB2.out; have hO2 : Hid (OwnsB w2 (w.heap.size + 1) v2 [45]) := ho2; clear ho2 hg2; clear b2')
    | (at_builtin; refine wpList_append_text rfl _ (.tmp 14) rfl (w.heap.size + 1) v2 [45] rfl hO2.out s rfl (by simp; omega) (by omega) ?_; intro v3 w3 ho3 hg3; have b3' : Below (w.heap.size + 1) w2 w3 := grown_below (Below.refl _ _) hO2.out hg3 (by omega); have b3 : Hid (Below w.heap.size w w3) := b2.out.trans (b3'.mono (by omega)); have s3 : w.heap.size + 1 ≤ w3.heap.size := Nat.le_trans s2 b3'.size; have hB3 : Hid (NmAt w3 w.heap.size true s x) := hB2.out.kept b3' (by omega); obtain ⟨g0, g1, g2⟩ := hB3.out; have hO3 : Hid (OwnsB w3 (w.heap.size + 1) v3 ([45] ++ bs s)) := ho3; clear ho3 hg3; clear b3'; obtain ⟨a3, n3, p3, rfl, l3, -, -, -, y3⟩ := hO3.out.form))
  have hby : Hid (Bytes (w3.alloc (.cells #[.int .u8 101] 5)) (some ⟨w3.heap.size, 0, none⟩) [101]) := one_byte w3 101 (by decide) (by decide)
  have hlen : Hid (([45] ++ bs s).length ≤ 1000) := by show _ ≤ _; rw [List.length_append, bs_len]; simp; omega
  go_region_held3 (fun wx => wx.cell? ⟨w.heap.size, 2, none⟩ = some (.int .i64 x)) (first | exact g2 | exact q4.out.2.2 | exact q5.out.2.2 | exact (hB3.out.kept ((Below.refl w3.heap.size w3).alloc (Nat.le_refl _) _) (by omega)).2.2 | exact (NmAt.kept (w := w3.drew) hB3.out ((Below.refl w3.heap.size w3.drew).alloc (Nat.le_refl _) _) (by show _ < w3.heap.size; omega)).2.2) (first
    | (refine step_append_bytes (by rfl) _ _ (by rfl) (w.heap.size + 1) (.slice a3 n3 p3) ([45] ++ bs s) [101] (by rfl) (by exact hO3.out.alloc _) ⟨w3.heap.size, 0, none⟩ 1 1 (by rfl) rfl (by exact hby.out) (by have := hlen.out; rw [List.length_singleton]; omega) (by simp; omega) ?_; intro v4 w4 ho4 hg4; have b4' : Below (w.heap.size + 1) w3 w4 := (by first | exact grown_below ((Below.refl (w.heap.size + 1) w3).alloc (by omega) _) (hO3.out.alloc _) hg4 (by simp; omega) | exact grown_below (((Below.refl (w.heap.size + 1) w3).drew).alloc (by show _ ≤ w3.heap.size; omega) _) (by exact hO3.out.alloc _) hg4 (by simp; omega)); have b4 : Hid (Below w.heap.size w w4) := b3.out.trans (b4'.mono (by omega)); have s4 : w.heap.size + 1 ≤ w4.heap.size := Nat.le_trans s3 b4'.size; have q4 : Hid (NmAt w4 w.heap.size true s x) := hB3.out.kept b4' (by omega); have hO4 : Hid (OwnsB w4 (w.heap.size + 1) v4 ([45] ++ bs s ++ [101])) := ho4; clear ho4 hg4; clear b4'; have t4 : Hid (Tab (w.heap.size + 1) w4) := (hT'.out.on b4.out).up (by omega); have hl4 : Hid (([45] ++ bs s ++ [101]).length + 21 ≤ 140737488355328) := (by have := hlen.out; show _ ≤ _; rw [List.length_append, List.length_singleton]; omega))
    | (go_at_call 80; refine (appi_any (w.heap.size + 1) v4 ([45] ++ bs s ++ [101]) x hx0 hx1 w4 hO4.out s4 hl4.out t4.out).mono ?_; rintro e w5 ⟨v5, rfl, ho5, hb5⟩; have q5 : Hid (NmAt w5 w.heap.size true s x) := q4.out.kept hb5 (by omega)))
  have b5 : Hid (Below w.heap.size w w5) := b4.out.trans (hb5.mono (by omega))
  obtain ⟨a5, n5, p5, rfl, l5, -, -, -, y5⟩ := ho5.form
  have cv := conv_str y5.out n5 p5 l5.out
  clear hB3 q4 q5 hb5 ho5 hO4 t4 hl4 hlen hby
  go_wp2
  go_ret
  exact ⟨by rw [hR.out]; rfl, b5.out⟩
set_option maxHeartbeats 2000000 in
set_option maxRecDepth 100000 in
theorem text_c (s : ByteArray) (x : Int) (w : World) (hT : Tab w.heap.size w) (hr : rtN false s x = true) (h0 : x = 0) : Calls Tryz.prog 49 #[.agg #[.bool false, .string s, .int .i64 x]] w fun e w' => e = .returned (.string (textA false s x)) ∧ Below w.heap.size w w' := by
  have hR : Hid (textA false s x = strOfNums ([] ++ bs s)) := by show _ = _; unfold textA; rw [hr]; simp [textL, h0]
  have hB := box_at w false s x 53
  have kR := dright_any false s x
  rw [hr] at kR
  have hsz := (rt_size (rtN_rt hr)).2
  have hx := rtN_exp hr
  clear hr
  generalize textA false s x = R at *
  have hT' : Hid (Tab w.heap.size w) := hT
  clear hT
  subst h0
  clear hx
  obtain ⟨b0, b1, b2⟩ := id hB
  go_enter Tryz.func49, Tryz.ntmps49
  go_wp2_with (first
    | (go_at_call 79; refine (kR _).mono ?_; rintro e w1 ⟨rfl, hb⟩; obtain ⟨c0, c1, c2⟩ := hB.kept hb (alloc_lt _ _); have hB1 : Hid (NmAt w1 w.heap.size false s 0) := hB.kept hb (alloc_lt _ _); have b1 : Hid (Below w.heap.size w w1) := box_below hb; have s1 : w.heap.size + 1 ≤ w1.heap.size := (by have := hb.size; simpa using this))
    | (at_builtin; refine wpList_append_text rfl _ (.tmp 14) rfl (w.heap.size + 1) (.slice none 0 0) [] rfl (ownsB_nil _ _) s rfl (by simp; omega) (by omega) ?_; intro v3 w3 ho3 hg3; have b3' : Below (w.heap.size + 1) w1 w3 := grown_below (Below.refl _ _) (ownsB_nil _ _) hg3 (by omega); have b3 : Hid (Below w.heap.size w w3) := b1.out.trans (b3'.mono (by omega)); have s3 : w.heap.size + 1 ≤ w3.heap.size := Nat.le_trans s1 b3'.size; have hB3 : Hid (NmAt w3 w.heap.size false s 0) := hB1.out.kept b3' (by omega); obtain ⟨g0, g1, g2⟩ := hB3.out; have hO3 : Hid (OwnsB w3 (w.heap.size + 1) v3 ([] ++ bs s)) := ho3; clear ho3 hg3; clear b3'; obtain ⟨a3, n3, p3, rfl, l3, -, -, -, y3⟩ := hO3.out.form; have cv := conv_str y3.out n3 p3 l3.out))
  go_ret
  exact ⟨by rw [hR.out]; rfl, b3.out⟩
set_option maxHeartbeats 2000000 in
set_option maxRecDepth 100000 in
theorem text_d (s : ByteArray) (x : Int) (w : World) (hT : Tab w.heap.size w) (hr : rtN false s x = true) (h0 : x ≠ 0) : Calls Tryz.prog 49 #[.agg #[.bool false, .string s, .int .i64 x]] w fun e w' => e = .returned (.string (textA false s x)) ∧ Below w.heap.size w w' := by
  have hR : Hid (textA false s x = strOfNums ([] ++ bs s ++ 101 :: itoaL x)) := by show _ = _; unfold textA; rw [hr]; simp [textL, h0]
  have hB := box_at w false s x 53
  have kR := dright_any false s x
  rw [hr] at kR
  have hsz := (rt_size (rtN_rt hr)).2
  have hx := rtN_exp hr
  clear hr
  generalize textA false s x = R at *
  have hT' : Hid (Tab w.heap.size w) := hT
  clear hT
  have hx0 : -9223372036854775808 ≤ x := by omega
  have hx1 : x ≤ 9223372036854775807 := by omega
  have d0 : (x != 0) = true := by simpa using h0
  clear hx h0
  obtain ⟨b0, b1, b2⟩ := id hB
  go_enter Tryz.func49, Tryz.ntmps49
  go_wp2_with (first
    | (go_at_call 79; refine (kR _).mono ?_; rintro e w1 ⟨rfl, hb⟩; obtain ⟨c0, c1, c2⟩ := hB.kept hb (alloc_lt _ _); have hB1 : Hid (NmAt w1 w.heap.size false s x) := hB.kept hb (alloc_lt _ _); have b1 : Hid (Below w.heap.size w w1) := box_below hb; have s1 : w.heap.size + 1 ≤ w1.heap.size := (by have := hb.size; simpa using this))
    | (at_builtin; refine wpList_append_text rfl _ (.tmp 14) rfl (w.heap.size + 1) (.slice none 0 0) [] rfl (ownsB_nil _ _) s rfl (by simp; omega) (by omega) ?_; intro v3 w3 ho3 hg3; have b3' : Below (w.heap.size + 1) w1 w3 := grown_below (Below.refl _ _) (ownsB_nil _ _) hg3 (by omega); have b3 : Hid (Below w.heap.size w w3) := b1.out.trans (b3'.mono (by omega)); have s3 : w.heap.size + 1 ≤ w3.heap.size := Nat.le_trans s1 b3'.size; have hB3 : Hid (NmAt w3 w.heap.size false s x) := hB1.out.kept b3' (by omega); obtain ⟨g0, g1, g2⟩ := hB3.out; have hO3 : Hid (OwnsB w3 (w.heap.size + 1) v3 ([] ++ bs s)) := ho3; clear ho3 hg3; clear b3'; obtain ⟨a3, n3, p3, rfl, l3, -, -, -, y3⟩ := hO3.out.form))
  have hby : Hid (Bytes (w3.alloc (.cells #[.int .u8 101] 5)) (some ⟨w3.heap.size, 0, none⟩) [101]) := one_byte w3 101 (by decide) (by decide)
  have hlen : Hid (([] ++ bs s).length ≤ 1000) := by show _ ≤ _; rw [List.length_append, bs_len]; simp; omega
  go_region_held3 (fun wx => wx.cell? ⟨w.heap.size, 2, none⟩ = some (.int .i64 x)) (first | exact g2 | exact q4.out.2.2 | exact q5.out.2.2 | exact (hB3.out.kept ((Below.refl w3.heap.size w3).alloc (Nat.le_refl _) _) (by omega)).2.2 | exact (NmAt.kept (w := w3.drew) hB3.out ((Below.refl w3.heap.size w3.drew).alloc (Nat.le_refl _) _) (by show _ < w3.heap.size; omega)).2.2) (first
    | (refine step_append_bytes (by rfl) _ _ (by rfl) (w.heap.size + 1) (.slice a3 n3 p3) ([] ++ bs s) [101] (by rfl) (by exact hO3.out.alloc _) ⟨w3.heap.size, 0, none⟩ 1 1 (by rfl) rfl (by exact hby.out) (by have := hlen.out; rw [List.length_singleton]; omega) (by simp; omega) ?_; intro v4 w4 ho4 hg4; have b4' : Below (w.heap.size + 1) w3 w4 := (by first | exact grown_below ((Below.refl (w.heap.size + 1) w3).alloc (by omega) _) (hO3.out.alloc _) hg4 (by simp; omega) | exact grown_below (((Below.refl (w.heap.size + 1) w3).drew).alloc (by show _ ≤ w3.heap.size; omega) _) (by exact hO3.out.alloc _) hg4 (by simp; omega)); have b4 : Hid (Below w.heap.size w w4) := b3.out.trans (b4'.mono (by omega)); have s4 : w.heap.size + 1 ≤ w4.heap.size := Nat.le_trans s3 b4'.size; have q4 : Hid (NmAt w4 w.heap.size false s x) := hB3.out.kept b4' (by omega); have hO4 : Hid (OwnsB w4 (w.heap.size + 1) v4 ([] ++ bs s ++ [101])) := ho4; clear ho4 hg4; clear b4'; have t4 : Hid (Tab (w.heap.size + 1) w4) := (hT'.out.on b4.out).up (by omega); have hl4 : Hid (([] ++ bs s ++ [101]).length + 21 ≤ 140737488355328) := (by have := hlen.out; show _ ≤ _; rw [List.length_append, List.length_singleton]; omega))
    | (go_at_call 80; refine (appi_any (w.heap.size + 1) v4 ([] ++ bs s ++ [101]) x hx0 hx1 w4 hO4.out s4 hl4.out t4.out).mono ?_; rintro e w5 ⟨v5, rfl, ho5, hb5⟩; have q5 : Hid (NmAt w5 w.heap.size false s x) := q4.out.kept hb5 (by omega)))
  have b5 : Hid (Below w.heap.size w w5) := b4.out.trans (hb5.mono (by omega))
  obtain ⟨a5, n5, p5, rfl, l5, -, -, -, y5⟩ := ho5.form
  have cv := conv_str y5.out n5 p5 l5.out
  clear hB3 q4 q5 hb5 ho5 hO4 t4 hl4 hlen hby
  go_wp2
  go_ret
  exact ⟨by rw [hR.out]; rfl, b5.out⟩
set_option maxHeartbeats 1000000 in
theorem text_any (n : Bool) (s : ByteArray) (x : Int) (w : World) (hT : Tab w.heap.size w) : Calls Tryz.prog 49 #[.agg #[.bool n, .string s, .int .i64 x]] w fun e w' => e = .returned (.string (textA n s x)) ∧ Below w.heap.size w w' := by
  cases hr : rtN n s x with
  | false =>
    have hB := box_at w n s x 53
    have kR := dright_any n s x
    rw [hr] at kR
    have hR : textA n s x = noS := by unfold textA; rw [hr]; rfl
    rw [hR]
    clear hR hr hT
    unfold noS
    obtain ⟨b0, b1, b2⟩ := hB
    go_enter Tryz.func49, Tryz.ntmps49
    go_wp2_with (go_at_call 79; refine (kR _).mono ?_; rintro e w1 ⟨rfl, hb⟩)
    go_ret
    exact ⟨rfl, box_below hb⟩
  | true =>
    by_cases h0 : x = 0
    · cases n with
      | true => exact text_a s x w hT hr h0
      | false => exact text_c s x w hT hr h0
    · cases n with
      | true => exact text_b s x w hT hr h0
      | false => exact text_d s x w hT hr h0
end Go.Proofs.YtelabgonpmafpaaGreatDoor
namespace Go.Proofs.YtelabgonpmafpaaGreatDoor
open Go.RowKit
set_option linter.unusedVariables false

section
variable {tn : TypeId}
end
end Go.Proofs.YtelabgonpmafpaaGreatDoor
namespace Go.Proofs.YtelabgonpmafpaaGreatDoor
open Go.RowKit
set_option linter.unusedVariables false

/-- bytes.Equal. -/
theorem beq_any (a b : Option Addr) (n m ca cb : Nat) (x y : List Int) (w : World) (hx : x.length = n) (hy : y.length = m) (ha : Bytes w a x) (hb : Bytes w b y) (v : Bool) (hv : v = true ↔ x = y) :
    Calls Tryz.prog 110 #[.slice a n ca, .slice b m cb] w fun e w' => e = .returned (.bool v) ∧ w' = w := by
  have c1 := conv_str ha n ca hx
  have c2 := conv_str hb m cb hy
  have hE : ((strOfNums x).toList == (strOfNums y).toList) = v := by
    rw [Bool.eq_iff_iff, hv, str_eq ha.1 hb.1, decide_eq_true_iff]
  clear hx hy ha hb hv
  generalize strOfNums x = p at *
  generalize strOfNums y = q at *
  go_enter Tryz.func110, Tryz.ntmps110
  go_wp2
  go_ret
  exact ⟨rfl, rfl⟩

/-- tree.same, at trees of a depth. -/
def SameAt (D : Nat) : Prop := ∀ (t u : Tr) (a b : Nb) (w : World) (v : Bool), Nd D w a t → Nd D w b u → (v = true ↔ t = u) → Calls Tryz.prog 72 #[.agg a.arr, .agg b.arr] w fun e w' => e = .returned (.bool v) ∧ Below w.heap.size w w'

/-- The element at i of a row, as the world has grown. -/
theorem row_el {D : Nat} {w w' : World} {a : Option Addr} {len cap : Nat} {l : List Tr} (h : RowN (Nd D w) w a len cap l) (hb : Below w.heap.size w w') {i : Nat} (hi : i < l.length) :
    ∃ (bk off : Nat) (nb : Nb), a = some ⟨bk, off, none⟩ ∧ (∀ j, j < 9 → w'.cell? ⟨bk, off + (i * 9 + j), none⟩ = nb.cells[j]?) ∧ Nd D w' nb l[i] ∧ bk < w.heap.size := by
  have hk := h.kept (R := Nd D w') hb (fun _ _ _ q => q.kept hb)
  obtain ⟨_, _, h2⟩ := h
  obtain ⟨_, _, h2'⟩ := hk
  rcases h2 with rfl | ⟨b, off, ha, hc⟩
  · cases hi
  · rcases h2' with rfl | ⟨b', off', ha', hc'⟩
    · cases hi
    · obtain ⟨nb, hn, hQ⟩ := hc' i hi
      rw [ha] at ha'
      cases ha'
      obtain ⟨nb0, hn0, _⟩ := hc i hi
      exact ⟨b, off, nb, ha, hn, hQ, some_block ((hn0 0 (by omega)).trans (List.getElem?_eq_getElem (by simp [Nb.cells])))⟩

set_option maxHeartbeats 4000000 in
set_option maxRecDepth 100000 in
theorem eqf_any {D : Nat} (ih : SameAt D) (a b : Option Addr) (n m ca cb : Nat) (x y : List Tr) (w : World) (ha : RowN (Nd D w) w a n ca x) (hb : RowN (Nd D w) w b m cb y) (v : Bool) (hv : v = true ↔ x = y) :
    Calls Tryz.prog 111 #[.slice a n ca, .slice b m cb, .func (.func 72) #[] #[]] w fun e w' => e = .returned (.bool v) ∧ Below w.heap.size w w' := by
  have e36 : ∀ args w, (callFunc 72 args).run Tryz.prog w = .ok (.enter 72 args) w := enters_of Tryz.func72 (by kernel_rfl) rfl
  have hx : Hid (x.length = n) := ha.1
  have hy : Hid (y.length = m) := hb.1
  have mk := ha.2.1.1
  have mk' := ha.2.1.2.1
  have mi := hb.2.1.1
  have mi' := hb.2.1.2.1
  unfold maxLen at mk' mi'
  have hA : Hid (RowN (Nd D w) w a n ca x) := ha
  have hB : Hid (RowN (Nd D w) w b m cb y) := hb
  have hV : Hid (v = true ↔ x = y) := hv
  clear ha hb hv
  by_cases hnm : n = m
  · subst hnm
    go_enter Tryz.func111, Tryz.ntmps111
    go_wp2
    go_loopw [7, 8, 9, 17] (fun _ _ _ s17 wr => ∃ (i : Nat), i ≤ n ∧ s17 = .int .i64 i ∧ Hid (Below w.heap.size w wr) ∧ Hid (x.take i = y.take i)) (fun _ _ _ i _ => n - (intOf i).toNat)
    case atStart => exact ⟨0, Nat.zero_le _, rfl, Below.refl _ _, rfl⟩
    case round =>
      obtain ⟨i, him, rfl, hbl, hT⟩ := hrel
      by_cases hlt : i < n
      · have hz : (i : Int) < (n : Int) := by omega
        have hix : i < x.length := by rw [hx.out]; exact hlt
        have hiy : i < y.length := by rw [hy.out]; exact hlt
        obtain ⟨bk, ok, nk, rfl, hck, hNk, hbk⟩ := row_el hA.out hbl.out hix
        obtain ⟨bi, oi, ni, rfl, hci, hNi, hbi⟩ := row_el hB.out hbl.out hiy
        obtain ⟨f0, f1, f2, f3, f4, f5, f6, f7, f8⟩ := elem_fields hck
        obtain ⟨p0, p1, p2, p3, p4, p5, p6, p7, p8⟩ := elem_fields hci
        have hw : Hid (w.heap.size ≤ wr.heap.size) := hbl.out.size
        have lk : bk < wr.heap.size := Nat.lt_of_lt_of_le hbk hbl.out.size
        have li : bi < wr.heap.size := Nat.lt_of_lt_of_le hbi hbl.out.size
        have b1 := alloc_below wr (.cells nk.arr 26)
        have b2 := alloc_below (wr.alloc (.cells nk.arr 26)) (.cells ni.arr 26)
        have b12 : Hid (Below wr.heap.size wr ((wr.alloc (.cells nk.arr 26)).alloc (.cells ni.arr 26))) := b1.trans (b2.mono b1.size)
        have kk := fun v' => ih x[i] y[i] nk ni ((wr.alloc (.cells nk.arr 26)).alloc (.cells ni.arr 26)) v' ((hNk.kept b1).kept b2) ((hNi.kept b1).kept b2)
        have wi : IntKind.i64.wrap ((i : Int) + 1) = (i : Int) + 1 := by rw [IntKind.wrap_i64]; omega
        by_cases hE : x[i] = y[i]
        · have k1 := kk true (by simp [hE])
          have hT' : Hid (x.take (i + 1) = y.take (i + 1)) := by
            show _ = _
            rw [List.take_succ_eq_append_getElem hix, List.take_succ_eq_append_getElem hiy, hT.out, hE]
          clear hck hci hNk hNi kk hE b1 b2 hbk hbi ih
          go_wp2_with (go_at_fn 72; refine k1.mono ?_; rintro e w1 ⟨rfl, hb1⟩)
          go_roundw
          case rel => exact ⟨i + 1, by omega, by go_num, (hbl.out.trans (b12.out.mono hw.out)).trans (hb1.mono (Nat.le_trans hw.out b12.out.size)), hT'⟩
          case measure => simp [intOf]; omega
        · have k1 := kk false (by simp [hE])
          have hv : v = false := by
            cases hv : v with
            | false => rfl
            | true =>
              exfalso
              have := hV.out.1 hv
              subst this
              exact hE rfl
          subst hv
          clear hck hci hNk hNi kk hE b1 b2 hbk hbi ih
          go_wp2_with (go_at_fn 72; refine k1.mono ?_; rintro e w1 ⟨rfl, hb1⟩)
          go_ret
          exact ⟨rfl, (hbl.out.trans (b12.out.mono hw.out)).trans (hb1.mono (Nat.le_trans hw.out b12.out.size))⟩
      · have hz : ¬ (i : Int) < (n : Int) := by omega
        have hv : v = true := hV.out.2 (by
          have h1 := hT.out
          rwa [List.take_of_length_le (by rw [hx.out]; omega), List.take_of_length_le (by rw [hy.out]; omega)] at h1)
        subst hv
        clear ih
        go_wp2
        go_ret
        exact ⟨rfl, hbl.out⟩
  · have hv : v = false := by
      cases hv : v with
      | false => rfl
      | true =>
        exfalso
        have h1 := hV.out.1 hv
        apply hnm
        rw [← hx.out, ← hy.out, h1]
    subst hv
    have hz : (n : Int) ≠ (m : Int) := by omega
    clear ih
    go_enter Tryz.func111, Tryz.ntmps111
    go_wp2
    go_ret
    exact ⟨rfl, Below.refl _ _⟩
end Go.Proofs.YtelabgonpmafpaaGreatDoor
namespace Go.Proofs.YtelabgonpmafpaaGreatDoor
open Go.RowKit
set_option linter.unusedVariables false

/-- A ROW OF TREES IN NEW MEMORY, each in blocks of its own: its blocks are f. -/
def FreshR (B D : Nat) (w : World) (a : Option Addr) (n c : Nat) (l : List Tr) (f : List Nat) : Prop :=
  RowN (NdS (· ∈ f) D w) w a n c l ∧ In (· ∈ f) a n ∧ FrR 26 (FrD 26 D w) w a n f ∧ f.Nodup ∧ ∀ k ∈ f, B ≤ k ∧ k < w.heap.size
/-- A TREE IN NEW MEMORY. -/
def Fresh (B D : Nat) (w : World) (b : Nb) (t : Tr) (f : List Nat) : Prop :=
  NdS (· ∈ f) D w b t ∧ FrD 26 D w b f ∧ f.Nodup ∧ ∀ k ∈ f, B ≤ k ∧ k < w.heap.size
theorem Fresh.kept {B D : Nat} {w w' : World} {b : Nb} {t : Tr} {f : List Nat} (h : Fresh B D w b t f) (hb : Below w.heap.size w w') : Fresh B D w' b t f :=
  ⟨h.1.below hb fun k hk => (h.2.2.2 k hk).2, h.2.1.stays fun k hk => hb.block k (h.2.2.2 k hk).2, h.2.2.1, fun k hk => ⟨(h.2.2.2 k hk).1, Nat.lt_of_lt_of_le (h.2.2.2 k hk).2 hb.size⟩⟩
theorem FreshR.kept {B D : Nat} {w w' : World} {a : Option Addr} {n c : Nat} {l : List Tr} {f : List Nat} (h : FreshR B D w a n c l f) (hb : Below w.heap.size w w') : FreshR B D w' a n c l f :=
  ⟨h.1.stays h.2.1 (fun k hk => hb.block k (h.2.2.2.2 k hk).2) fun _ _ _ q => q.below hb fun k hk => (h.2.2.2.2 k hk).2, h.2.1, h.2.2.1.stays (fun k hk => hb.block k (h.2.2.2.2 k hk).2) fun _ e he q => q.stays fun k hk => hb.block k (h.2.2.2.2 k (he k hk)).2, h.2.2.2.1, fun k hk => ⟨(h.2.2.2.2 k hk).1, Nat.lt_of_lt_of_le (h.2.2.2.2 k hk).2 hb.size⟩⟩

/-- What has been cloned so far. -/
def ClSt (B D : Nat) (w : World) (v : Value) (l : List Tr) (bs : List Nb) (fs : List (List Nat)) : Prop :=
  OwnsN 26 w B v bs ∧ bs.length = fs.length ∧ bs.length = l.length ∧ (∀ j (h : j < bs.length) (h2 : j < fs.length) (h3 : j < l.length), NdS (· ∈ fs[j]) D w bs[j] l[j] ∧ FrD 26 D w bs[j] fs[j]) ∧ fs.flatten.Nodup ∧ ∀ k ∈ fs.flatten, B ≤ k ∧ k < w.heap.size ∧ v.ownBlock ≠ some k
theorem ClSt.next {B D B2 : Nat} {w w2 w3 w4 : World} {v v' : Value} {l : List Tr} {bs : List Nb} {fs : List (List Nat)} {x : Tr} {nb : Nb} {f : List Nat} (h : ClSt B D w v l bs fs) (hw2 : Below w.heap.size w w2) (hF : Fresh B2 D w2 nb x f) (hB : B ≤ w.heap.size) (hB2 : w.heap.size ≤ B2)
    (hw3 : Below w2.heap.size w2 w3) (ho : OwnsN 26 w4 B v' (bs ++ [nb])) (hg : w3.grownBy w4 v.ownBlock) (hn : ∀ g, v'.ownBlock = some g → v.ownBlock = some g ∨ w3.heap.size ≤ g) : ClSt B D w4 v' (l ++ [x]) (bs ++ [nb]) (fs ++ [f]) := by
  obtain ⟨h0, h1, h2, h3, h4, h5⟩ := h
  have hlt := fun g => World.ownsRow.lt h0 g
  have old : ∀ k, k < w.heap.size → v.ownBlock ≠ some k → w4.heap[k]? = w.heap[k]? := fun k hk hne => by
    rw [hg.block k (Nat.lt_of_lt_of_le hk (Nat.le_trans hw2.size hw3.size)) (fun e => hne e.symm), hw3.block k (Nat.lt_of_lt_of_le hk hw2.size), hw2.block k hk]
  have new : ∀ k, k ∈ f → w4.heap[k]? = w2.heap[k]? := fun k hk => by
    have hk' := hF.2.2.2 k hk
    rw [hg.block k (Nat.lt_of_lt_of_le hk'.2 hw3.size) (fun e => by have := (hlt k e.symm).2; omega), hw3.block k hk'.2]
  have hsz : w2.heap.size ≤ w4.heap.size := Nat.le_trans hw3.size hg.size
  refine ⟨ho, by simp [h1], by simp [h2], fun j hj hj2 hj3 => ?_, ?_, fun k hk => ?_⟩
  · by_cases hjl : j < bs.length
    · rw [List.getElem_append_left hjl, List.getElem_append_left (by omega), List.getElem_append_left (by omega)]
      have hq := h3 j hjl (by omega) (by omega)
      have hm : ∀ k, k ∈ fs[j]'(by omega) → k ∈ fs.flatten := fun k hk => List.mem_flatten.2 ⟨_, List.getElem_mem _, hk⟩
      exact ⟨hq.1.stays fun k hk => old k (h5 k (hm k hk)).2.1 (h5 k (hm k hk)).2.2, hq.2.stays fun k hk => old k (h5 k (hm k hk)).2.1 (h5 k (hm k hk)).2.2⟩
    · have e : j = bs.length := by simp at hj; omega
      subst e
      rw [List.getElem_append_right (Nat.le_refl _), List.getElem_append_right (by omega), List.getElem_append_right (by omega)]
      simp only [h1, h2 ▸ h1, Nat.sub_self]
      simp only [List.getElem_cons_zero]
      exact ⟨hF.1.stays new, hF.2.1.stays new⟩
  · rw [List.flatten_append, List.flatten_cons, List.flatten_nil, List.append_nil]
    refine List.nodup_append.2 ⟨h4, hF.2.2.1, fun x hx y hy e => ?_⟩
    subst e
    have := (h5 x hx).2.1
    have := (hF.2.2.2 x hy).1
    omega
  · rw [List.flatten_append, List.flatten_cons, List.flatten_nil, List.append_nil, List.mem_append] at hk
    rcases hk with hk | hk
    · have h6 := h5 k hk
      refine ⟨h6.1, by have := hw2.size; omega, fun e => ?_⟩
      rcases hn k e with e | e
      · exact h6.2.2 e
      · have := hw3.size; have := hw2.size; omega
    · have h6 := hF.2.2.2 k hk
      refine ⟨by omega, by omega, fun e => ?_⟩
      rcases hn k e with e | e
      · have := (hlt k e).2; omega
      · have := hw3.size; omega
end Go.Proofs.YtelabgonpmafpaaGreatDoor
namespace Go.Proofs.YtelabgonpmafpaaGreatDoor
end Go.Proofs.YtelabgonpmafpaaGreatDoor
namespace Go.Proofs.YtelabgonpmafpaaGreatDoor
open Go.RowKit
set_option linter.unusedVariables false
/-- A node of which all is zero. -/
def zN : Nb := ⟨0, 0, false, ⟨#[]⟩, 0, ⟨#[]⟩, none, 0, 0, none, 0, 0, none, 0, 0⟩
def zT : Tr := ⟨0, 0, false, ⟨#[]⟩, 0, ⟨#[]⟩, [], [], []⟩
theorem setk {w : World} {g j k : Nat} (h : k ≠ g) (v : Value) : (w.setCell ⟨g, j, none⟩ v).heap[k]? = w.heap[k]? := Below.heap_setCell w ⟨g, j, none⟩ v k h
end Go.Proofs.YtelabgonpmafpaaGreatDoor
namespace Go.Proofs.YtelabgonpmafpaaGreatDoor
open Go.RowKit
set_option linter.unusedVariables false

/-- Two boxes, and a world in which only they have turned. -/
structure Bx (W w : World) (g1 g2 : Nat) (b c : Nb) : Prop where
  one : NBox w g1 b
  two : NBox w g2 c
  kp : Kp (fun k => k = g1 ∨ k = g2) W w
theorem Bx.call {W w w' : World} {g1 g2 : Nat} {b c : Nb} (h : Bx W w g1 g2 b c) (hb : Below w.heap.size w w') : Bx W w' g1 g2 b c :=
  ⟨h.one.kept hb h.one.lt, h.two.kept hb h.two.lt, h.kp.trans (Kp.of hb)⟩
theorem Bx.grown {W w w' : World} {g1 g2 : Nat} {b c : Nb} (h : Bx W w g1 g2 b c) (hb : w.grownBy w' none) : Bx W w' g1 g2 b c :=
  h.call ⟨hb.os, hb.tape, hb.output, hb.size, fun k hk => hb.block k hk (fun e => by cases e)⟩
theorem nbox_setc {w : World} {g : Nat} {b b' : Nb} (h : NBox w g b) (j : Nat) (v : Value) (hv : b'.arr = b.arr.setIfInBounds j v) : NBox (w.setCell ⟨g, j, none⟩ v) g b' := by
  unfold NBox
  rw [heap_setCell_same w g j b.arr 26 v h, hv]
theorem Bx.set {W w : World} {g1 g2 : Nat} {b c : Nb} (h : Bx W w g1 g2 b c) (hne : g1 ≠ g2) (b' : Nb) (j : Nat) (v : Value) (hv : b'.arr = b.arr.setIfInBounds j v) : Bx W (w.setCell ⟨g1, j, none⟩ v) g1 g2 b' c :=
  ⟨nbox_setc h.one j v hv, h.two.same (setk (Ne.symm hne) v), h.kp.trans ⟨rfl, rfl, rfl, by simp [World.setCell], fun k _ hc => setk (fun e => hc (.inl e)) v⟩⟩
theorem Bx.set2 {W w : World} {g1 g2 : Nat} {b c : Nb} (h : Bx W w g1 g2 b c) (hne : g1 ≠ g2) (c' : Nb) (j : Nat) (v : Value) (hv : c'.arr = c.arr.setIfInBounds j v) : Bx W (w.setCell ⟨g2, j, none⟩ v) g1 g2 b c' :=
  ⟨h.one.same (setk hne v), nbox_setc h.two j v hv, h.kp.trans ⟨rfl, rfl, rfl, by simp [World.setCell], fun k _ hc => setk (fun e => hc (.inr e)) v⟩⟩
/-- A node written whole into a box. -/
theorem Bx.put {W w : World} {g1 g2 : Nat} {b c : Nb} (h : Bx W w g1 g2 b c) (hne : g1 ≠ g2) (x : Nb) :
    Bx W (((((((((w.setCell ⟨g2, 0, none⟩ (.int .i64 x.kind)).setCell ⟨g2, 1, none⟩ (.int .u64 x.num)).setCell ⟨g2, 2, none⟩ (.bool x.neg)).setCell ⟨g2, 3, none⟩ (.string x.dig)).setCell ⟨g2, 4, none⟩ (.int .i64 x.exp)).setCell ⟨g2, 5, none⟩ (.string x.txt)).setCell ⟨g2, 6, none⟩ (.slice x.ab x.lb x.cb)).setCell ⟨g2, 7, none⟩ (.slice x.ak x.lk x.ck)).setCell ⟨g2, 8, none⟩ (.slice x.ai x.li x.ci)) g1 g2 b x := by
  obtain ⟨x0, x1, x2, x3, x4, x5, xa, xb, xc, xd, xe, xf, xg, xh, xi⟩ := x
  obtain ⟨c0, c1, c2, c3, c4, c5, ca, cb, cc, cd, ce, cf, cg, ch, ci⟩ := c
  exact ((((((((h.set2 hne ⟨x0, c1, c2, c3, c4, c5, ca, cb, cc, cd, ce, cf, cg, ch, ci⟩ 0 _ rfl).set2 hne ⟨x0, x1, c2, c3, c4, c5, ca, cb, cc, cd, ce, cf, cg, ch, ci⟩ 1 _ rfl).set2 hne ⟨x0, x1, x2, c3, c4, c5, ca, cb, cc, cd, ce, cf, cg, ch, ci⟩ 2 _ rfl).set2 hne ⟨x0, x1, x2, x3, c4, c5, ca, cb, cc, cd, ce, cf, cg, ch, ci⟩ 3 _ rfl).set2 hne ⟨x0, x1, x2, x3, x4, c5, ca, cb, cc, cd, ce, cf, cg, ch, ci⟩ 4 _ rfl).set2 hne ⟨x0, x1, x2, x3, x4, x5, ca, cb, cc, cd, ce, cf, cg, ch, ci⟩ 5 _ rfl).set2 hne ⟨x0, x1, x2, x3, x4, x5, xa, xb, xc, cd, ce, cf, cg, ch, ci⟩ 6 _ rfl).set2 hne ⟨x0, x1, x2, x3, x4, x5, xa, xb, xc, xd, xe, xf, cg, ch, ci⟩ 7 _ rfl).set2 hne ⟨x0, x1, x2, x3, x4, x5, xa, xb, xc, xd, xe, xf, xg, xh, xi⟩ 8 _ rfl
theorem FreshR.kp {C : Nat → Prop} {B D : Nat} {w w' : World} {a : Option Addr} {n c : Nat} {l : List Tr} {f : List Nat} (h : FreshR B D w a n c l f) (hk : Kp C w w') (hC : ∀ k, C k → k < B) : FreshR B D w' a n c l f := by
  have hs : ∀ k, k ∈ f → w'.heap[k]? = w.heap[k]? := fun k hk' => hk.block k (h.2.2.2.2 k hk').2 (fun hc => by have := hC k hc; have := (h.2.2.2.2 k hk').1; omega)
  exact ⟨h.1.stays h.2.1 hs fun _ _ _ q => q.stays hs, h.2.1, h.2.2.1.stays hs fun _ e he q => q.stays fun k hk' => hs k (he k hk'), h.2.2.2.1, fun k hk' => ⟨(h.2.2.2.2 k hk').1, Nat.lt_of_lt_of_le (h.2.2.2.2 k hk').2 hk.size⟩⟩
/-- Bytes of one's own, in a block of their own. -/
theorem OwnsB.fr {w : World} {base : Nat} {a : Option Addr} {n c : Nat} {zs : List Int} (h : OwnsB w base (.slice a n c) zs) : ∃ f0, FrB w a n f0 ∧ In (· ∈ f0) a n ∧ f0.Nodup ∧ ∀ k ∈ f0, base ≤ k ∧ k < w.heap.size := by
  obtain ⟨⟨hl, hv⟩, hz⟩ := h
  rcases hv with ⟨e, hn⟩ | ⟨g, cap, cur, e, hb, hg, hnc, hcm, hcs, htk⟩
  · cases e
    exact ⟨[], .inl ⟨rfl, rfl⟩, (fun h => by cases h), by simp, fun k hk => by cases hk⟩
  · cases e
    by_cases h0 : zs.length = 0
    · exact ⟨[], .inl ⟨h0, rfl⟩, fun h => by omega, by simp, fun k hk => by cases hk⟩
    · refine ⟨[g], .inr ⟨g, cur, rfl, rfl, hg, by rw [hcs]; omega, fun i hi => ?_⟩, fun _ x hx => by cases hx; exact List.mem_singleton.2 rfl, by simp, fun k hk => ?_⟩
      · have h1 : (cur.toList.take (zs.length * 1))[i]? = (zs.map (Value.int .u8))[i]? := by rw [htk]
        rw [List.getElem?_take, if_pos (by omega), List.getElem?_map, List.getElem?_eq_getElem hi] at h1
        exact ⟨zs[i], by rw [← Array.getElem?_toList]; exact h1, hz _ (List.getElem_mem hi)⟩
      · rw [List.mem_singleton] at hk
        subst hk
        exact ⟨hb, (Array.getElem?_eq_some_iff.1 hg).1⟩
theorem FrB.kp {C : Nat → Prop} {w w' : World} {a : Option Addr} {n : Nat} {f : List Nat} (h : FrB w a n f) (hk : Kp C w w') (hf : ∀ k ∈ f, k < w.heap.size ∧ ¬ C k) : FrB w' a n f := h.stays fun k hk' => hk.block k (hf k hk').1 (hf k hk').2
theorem Bytes.kp {C : Nat → Prop} {w w' : World} {a : Option Addr} {zs : List Int} {f : List Nat} (h : Bytes w a zs) (hi : In (· ∈ f) a zs.length) (hk : Kp C w w') (hf : ∀ k ∈ f, k < w.heap.size ∧ ¬ C k) : Bytes w' a zs := h.stays hi fun k hk' => hk.block k (hf k hk').1 (hf k hk').2

end Go.Proofs.YtelabgonpmafpaaGreatDoor
namespace Go.Proofs.YtelabgonpmafpaaGreatDoor
set_option linter.unusedVariables false

theorem none_size {s : ByteArray} (h : s.size = 0) : s = ⟨#[]⟩ := by
  cases s with
  | mk d =>
    have : d = #[] := Array.eq_empty_of_size_eq_zero h
    rw [this]

namespace Tr
/-- A node with what its Kind has; all else is zero. -/
def bare (t : Tr) : Tr :=
  { kind := t.kind
    num := if t.kind = 1 ∨ t.kind = 4 ∨ t.kind = 9 ∨ t.kind = 10 then t.num else 0
    neg := if t.kind = 2 ∨ t.kind = 3 then t.neg else false
    dig := if t.kind = 2 ∨ t.kind = 3 then t.dig else ⟨#[]⟩
    exp := if t.kind = 3 then t.exp else 0
    txt := if t.kind = 5 then t.txt else ⟨#[]⟩
    bytes := if t.kind = 6 then t.bytes else []
    keys := if t.kind = 8 then t.keys else []
    kids := if t.kind = 7 ∨ t.kind = 8 ∨ t.kind = 9 then t.kids else [] }
/-- Is all else zero? -/
def clean (t : Tr) : Bool :=
  (decide (t.kind = 1 ∨ t.kind = 4 ∨ t.kind = 9 ∨ t.kind = 10) || decide (t.num = 0)) &&
  (decide (t.kind = 2 ∨ t.kind = 3) || (!t.neg && decide (t.dig.size = 0))) &&
  (decide (t.kind = 3) || decide (t.exp = 0)) &&
  (decide (t.kind = 5) || decide (t.txt.size = 0)) &&
  (decide (t.kind = 6) || decide (t.bytes.length = 0)) &&
  (decide (t.kind = 8) || decide (t.keys.length = 0)) &&
  (decide (t.kind = 7 ∨ t.kind = 8 ∨ t.kind = 9) || decide (t.kids.length = 0))
theorem mk_eq {t u : Tr} (h0 : t.kind = u.kind) (h1 : t.num = u.num) (h2 : t.neg = u.neg) (h3 : t.dig = u.dig) (h4 : t.exp = u.exp) (h5 : t.txt = u.txt) (h6 : t.bytes = u.bytes) (h7 : t.keys = u.keys) (h8 : t.kids = u.kids) : t = u := by
  cases t; cases u
  simp only at *
  subst h0 h1 h2 h3 h4 h5 h6 h7 h8
  rfl
theorem ite_self' {α : Type} {p : Prop} [Decidable p] {a z : α} : (if p then a else z) = a ↔ (p ∨ a = z) := by
  by_cases h : p
  · simp [h]
  · simp only [h, false_or]
    exact ⟨fun e => e.symm, fun e => e.symm⟩
theorem clean_iff (t : Tr) : t.clean = true ↔ t.bare = t := by
  have e3 : t.dig.size = 0 ↔ t.dig = ⟨#[]⟩ := ⟨none_size, fun h => by rw [h]; rfl⟩
  have e5 : t.txt.size = 0 ↔ t.txt = ⟨#[]⟩ := ⟨none_size, fun h => by rw [h]; rfl⟩
  unfold clean
  simp only [Bool.and_eq_true, Bool.or_eq_true, decide_eq_true_eq, Bool.not_eq_true', List.length_eq_zero_iff, e3, e5]
  constructor
  · rintro ⟨⟨⟨⟨⟨⟨a, b⟩, c⟩, d⟩, e⟩, f⟩, g⟩
    refine mk_eq rfl (ite_self'.2 a) (ite_self'.2 ?_) (ite_self'.2 ?_) (ite_self'.2 c) (ite_self'.2 d) (ite_self'.2 e) (ite_self'.2 f) (ite_self'.2 g)
    · rcases b with b | b
      · exact .inl b
      · exact .inr b.1
    · rcases b with b | b
      · exact .inl b
      · exact .inr b.2
  · intro h
    have p1 := ite_self'.1 (congrArg num h)
    have p2 := ite_self'.1 (congrArg neg h)
    have p3 := ite_self'.1 (congrArg dig h)
    have p4 := ite_self'.1 (congrArg exp h)
    have p5 := ite_self'.1 (congrArg txt h)
    have p6 := ite_self'.1 (congrArg bytes h)
    have p7 := ite_self'.1 (congrArg keys h)
    have p8 := ite_self'.1 (congrArg kids h)
    refine ⟨⟨⟨⟨⟨⟨p1, ?_⟩, p4⟩, p5⟩, p6⟩, p7⟩, p8⟩
    rcases p2 with p2 | p2
    · exact .inl p2
    · rcases p3 with p3 | p3
      · exact .inl p3
      · exact .inr ⟨p2, p3⟩

/-- May a Simple have this number? -/
def smp (n : Int) : Bool := decide (n < 20) || decide (n = 23) || (decide (32 ≤ n) && decide (n < 256))
/-- Is a node not of its Kind's form, numbers and texts aside? -/
def odd (t : Tr) : Bool :=
  decide (t.kind < 0) || decide (10 < t.kind) || !t.clean || (decide (t.kind = 1) && decide (1 < t.num)) || (decide (t.kind = 8) && decide (t.keys.length ≠ t.kids.length)) || (decide (t.kind = 9) && decide (t.kids.length ≠ 1)) || (decide (t.kind = 10) && !smp t.num)
/-- THE FAULT OF A NODE, what is in it aside. -/
def alo (gt ri : ByteArray → Bool) (rd : Bool → ByteArray → Int → Bool) (t : Tr) : Int :=
  if (t.kind = 5 ∧ 4096 < t.txt.size) ∨ (t.kind = 6 ∧ 4096 < t.bytes.length) then 8
  else if t.kind = 5 ∧ gt t.txt = false then 6
  else if t.kind = 2 ∧ (ri t.dig = false ∨ (t.neg = true ∧ t.dig = ⟨#[48]⟩)) then 11
  else if t.kind = 3 ∧ rd t.neg t.dig t.exp = false then 11
  else if t.odd = true then 12 else 0
theorem alo_odd {gt ri : ByteArray → Bool} {rd : Bool → ByteArray → Int → Bool} {t : Tr} (h : t.alo gt ri rd = 0) : t.odd = false := by
  unfold alo at h
  split at h
  · cases h
  · split at h
    · cases h
    · split at h
      · cases h
      · split at h
        · cases h
        · split at h
          · cases h
          · rename_i h5; simpa using h5
theorem alo_shaped (gt ri : ByteArray → Bool) (rd : Bool → ByteArray → Int → Bool) : Shaped (alo gt ri rd) := by
  intro t h
  have ho := alo_odd h
  unfold odd at ho
  simp only [Bool.or_eq_false_iff, Bool.and_eq_false_imp, decide_eq_true_eq, decide_eq_false_iff_not, Bool.not_eq_false', Classical.not_not] at ho
  obtain ⟨⟨⟨⟨⟨⟨_, _⟩, hc⟩, _⟩, hm⟩, _⟩, _⟩ := ho
  refine ⟨fun h8 => by simpa using hm h8, fun h8 => ?_⟩
  have := congrArg keys ((clean_iff t).1 hc)
  simp only [bare, if_neg h8] at this
  exact this.symm
end Tr
end Go.Proofs.YtelabgonpmafpaaGreatDoor
