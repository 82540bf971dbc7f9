/-
  A text as a string: jlex.Escape.
-/
import Derived.Test.YtfkoghmbkgbgbaaDoorJes
import Derived.Test.YtfkoghmbkgbgbaaDoorJsm
import Derived.Test.YtfkoghmbkgbgbaaDoorJbf
namespace Go.Proofs.YtfkoghmbkgbgbaaDoor
open Go.RowKit
set_option linter.unusedVariables false

def escAll (l : List Nat) : List Int := (l.map escR).flatten
theorem escAll_nil : escAll [] = [] := rfl
theorem escAll_cons (r : Nat) (l : List Nat) : escAll (r :: l) = escR r ++ escAll l := by simp [escAll]
/-- How a text is written as a string; nothing where it is no text. -/
def escA (b : List Int) : List Int := if (runesL b).2 = none then [34] ++ escAll (runesL b).1 ++ [34] else []
theorem lies_bb : liesAt Tryd.prog Tryd.prog.depth 58 (2 / Tryd.prog.cellsOf 58) 0 58 1 = true := by kernel_rfl
set_option maxRecDepth 100000 in
theorem bb_new (w : World) : BB (w.alloc (.cells #[.pointer none, .slice none 0 0] 58)) w.heap.size (w.heap.size + 1) [] :=
  ⟨_, none, .slice none 0 0, blk_new w #[.pointer none, .slice none 0 0] 58, rfl, .inl rfl, rfl, lies_bb, ownsB_nil _ _, Nat.lt_succ_self _, by simp⟩
theorem own_but {w w' : World} {B it p : Nat} {t : ByteArray} {v : Value} {zs : List Int} (h : OwnsB w B v zs) (hi : w.heap[it]? = some (Obj.stringIter t p)) (hh : ∀ j, j ≠ it → w'.heap[j]? = w.heap[j]?) : OwnsB w' B v zs := by
  obtain ⟨⟨h1, h2⟩, h3⟩ := h
  refine ⟨⟨h1, ?_⟩, h3⟩
  rcases h2 with h2 | ⟨g, cap, cur, hv, hg, hc, r⟩
  · exact .inl h2
  · refine .inr ⟨g, cap, cur, hv, hg, ?_, r⟩
    rw [hh g (by rintro rfl; rw [hi] at hc; cases hc)]
    exact hc
theorem BB.iter {w : World} {g B it p : Nat} {t : ByteArray} {zs : List Int} (h : BB w g B zs) (hi : w.heap[it]? = some (Obj.stringIter t p)) (p' : Nat) : BB (w.iterAt it t p') g B zs := by
  obtain ⟨cs, q, v, hb⟩ := h
  have hne : g ≠ it := by
    rintro rfl
    have := hb.blk
    unfold Blk at this
    rw [hi] at this
    cases this
  refine ⟨cs, q, v, ?_, hb.ptr, hb.own, hb.buf, hb.lies, own_but hb.row hi (fun j hj => Lib.iterAt_other w _ j t p' hj), hb.low, by rw [Lib.iterAt_size]; exact hb.top⟩
  exact (Lib.iterAt_other w _ _ t p' hne).trans hb.blk
theorem field_why (x y : Value) (w : World) : Sem.run Tryd.prog (Instr.field 26 (.agg #[x, y]) 0) w = .ok x w := by
  have t1 := Tryd.underlying26
  simp [Instr.field, run_underlying t1, asAgg, part, go_sem, Tryd.isAgg24, Tryd.sizeOf24]
/-- Where the walk stands. -/
structure ES (w wr : World) (g it : Nat) (t : ByteArray) (pos : Nat) (zs : List Int) : Prop where
  bb : BB wr g (g + 1) zs
  itr : wr.heap[it]? = some (Obj.stringIter t pos)
  bel : Below w.heap.size w wr
  lo : w.heap.size ≤ g
  hi : g < it
theorem ES.next {w wr : World} {g it pos : Nat} {t : ByteArray} {zs : List Int} (h : ES w wr g it t pos zs) (p' : Nat) : ES w (wr.iterAt it t p') g it t p' zs :=
  ⟨h.bb.iter h.itr p', Lib.iterAt_heap wr _ t pos p' h.itr, Lib.below_iterAt h.bel (by have := h.lo; have := h.hi; omega) t p', h.lo, h.hi⟩
theorem ES.put {w wr w' : World} {g it pos : Nat} {t : ByteArray} {zs zs' : List Int} (h : ES w wr g it t pos zs) (hb : BB w' g (g + 1) zs') (hk : KI g (g + 1) wr w') : ES w w' g it t pos zs' :=
  ⟨hb, hk.2 _ _ _ h.itr, h.bel.trans ((hk.1.below (by omega)).mono h.lo), h.lo, h.hi⟩
theorem ES.pos {w wr : World} {g it pos : Nat} {t : ByteArray} {zs : List Int} (h : ES w wr g it t pos zs) : wr.iterPos it = pos := by
  unfold World.iterPos
  rw [h.itr]
theorem es0 {w w2 w3 : World} (t : ByteArray) {zs : List Int} (h2 : Below w.heap.size w w2) (hb : BB w3 w2.heap.size (w2.heap.size + 1) zs) (hk : KI w2.heap.size (w2.heap.size + 1) (w2.alloc (.cells #[.pointer none, .slice none 0 0] 58)) w3) : ES w (w3.iter t 0) w2.heap.size w3.heap.size t 0 zs := by
  have hA := alloc_below w2 (.cells #[.pointer none, .slice none 0 0] 58)
  have b3 : Below w.heap.size w w3 := (h2.trans (hA.mono h2.size)).trans ((hk.1.below (Nat.le_succ _)).mono h2.size)
  refine ⟨hb.on (iter_below w3 t 0), heap_alloc_new w3 _, b3.trans ((iter_below w3 t 0).mono b3.size), h2.size, ?_⟩
  have := hb.top
  omega
set_option maxHeartbeats 4000000 in
set_option maxRecDepth 100000 in
/-- jlex.Escape. -/
theorem escape_any (s : ByteArray) (w : World) (hs : s.size ≤ 10000000) :
    Calls Tryd.prog 15 #[.string s] w fun e w' => e = .returned (.string (strOfNums (escA (bs s)))) ∧ Below w.heap.size w w' := by
  obtain ⟨gC, nC, cC, W, hcv, BC, kC⟩ := check_str s w hs
  have hs' : Hid (s.size ≤ 10000000) := hs
  by_cases hn : (runesL (bs s)).2 = none
  · have e1 : escA (bs s) = [34] ++ escAll (runesL (bs s)).1 ++ [34] := by unfold escA; rw [if_pos hn]
    rw [e1, (why_none hn).1] at *
    obtain ⟨F, hF⟩ : ∃ F, [34] ++ escAll (runesL (bs s)).1 = F := ⟨_, rfl⟩
    rw [hF]
    have hF' : Hid ([34] ++ escAll (runesL ((bs s).drop 0)).1 = F) := by rw [List.drop_zero]; exact hF
    have hn' : Hid ((runesL ((bs s).drop 0)).2 = none) := by rw [List.drop_zero]; exact hn
    have BC' : Hid (Below w.heap.size w W) := BC
    generalize atL (bs s) = AT at *
    have kC' : Calls Tryd.prog 27 #[.slice (some ⟨gC, 0, none⟩) nC cC] W fun e w' => e = .returned (.agg #[.int .i64 0, .int .i64 (AT : Nat)]) ∧ Below W.heap.size W w' := kC
    have hfw : ∀ (x y : Value) (w : World), Sem.run Tryd.prog (Instr.field 26 (.agg #[x, y]) 0) w = .ok x w := field_why
    clear hs hF hn e1 BC kC
    go_enter Tryd.func15, Tryd.ntmps15
    go_wp2_with (first
      | (go_at_call 27; refine kC'.mono ?_; rintro e w2 ⟨rfl, hb2⟩; clear kC'; have B2 : Hid (Below w.heap.size w w2) := BC'.out.trans (hb2.mono BC'.out.size); have b2 : Hid (BB (w2.alloc (.cells #[.pointer none, .slice none 0 0] 58)) w2.heap.size (w2.heap.size + 1) []) := bb_new w2)
      | (go_at_call 28; refine (wb_bb 34 (by decide) (by decide) b2.out (by decide)).mono ?_; rintro e w3 ⟨rfl, h3, q3⟩; have E3 : Hid (ES w (w3.iter s 0) w2.heap.size w3.heap.size s 0 [34]) := es0 s B2.out h3 q3; clear h3 q3))
    go_loopw [] (fun wr => ∃ (pos : Nat) (zs : List Int), pos ≤ s.size ∧ Hid (ES w wr w2.heap.size w3.heap.size s pos zs) ∧ Hid (zs.length ≤ 1 + 6 * pos) ∧ Hid ((runesL ((bs s).drop pos)).2 = none) ∧ Hid (zs ++ escAll (runesL ((bs s).drop pos)).1 = F)) (fun wr => s.size - wr.iterPos w3.heap.size)
    case atStart => exact ⟨0, [34], Nat.zero_le _, E3, by show _ ≤ _; simp, hn', hF'⟩
    case round =>
      clear E3 hn' hF'
      obtain ⟨pos, zs, hpos, hE, hL, hN, hZ⟩ := hrel
      by_cases hlt : pos < s.size
      · have h0 : (bs s).drop pos ≠ [] := by intro h; have := congrArg List.length h; rw [List.length_drop, bs_len] at this; simp at this; omega
        have hg : Good ((bs s).drop pos) := by
          rcases Classical.em (Good ((bs s).drop pos)) with h | h
          · exact h
          · have := hN.out; rw [runes_bad h0 h] at this; cases this
        have hnx0 := fun ty => Lib.run_next_any_at (P := Tryd.prog) wr w3.heap.size s pos ty hE.out.itr hlt
        have hgl := good_ne hg h0
        rw [List.length_drop, bs_len] at hgl
        have hrv : runeB ((bs s).drop pos) = valB ((bs s).drop pos) := by unfold runeB; rw [goodB_yes hg, if_pos rfl]
        rw [decode_rune, goodB_yes hg, if_pos rfl, hrv] at hnx0
        have hRt := good_right hg
        have hrs := runes_good h0 hg
        have hN2 : Hid ((runesL ((bs s).drop (pos + lenB ((bs s).drop pos)))).2 = none) := by
          have := hN.out
          rw [hrs] at this
          rw [List.drop_drop] at this
          show _ = _
          simpa using this
        have hZ2 : Hid ((zs ++ escR (valB ((bs s).drop pos))) ++ escAll (runesL ((bs s).drop (pos + lenB ((bs s).drop pos)))).1 = F) := by
          have := hZ.out
          rw [hrs, escAll_cons, List.drop_drop] at this
          show _ = _
          rw [List.append_assoc]; exact this
        have hL1 := hgl.1
        have hL2 : pos + lenB ((bs s).drop pos) ≤ s.size := by omega
        generalize valB ((bs s).drop pos) = V at *
        generalize lenB ((bs s).drop pos) = LN at *
        have hnx : ∀ ty, (Instr.next (.pointer (some ⟨w3.heap.size, 0, none⟩)) true ty).run Tryd.prog wr = .ok (.tuple #[.bool true, .int .i64 pos, .int .i32 (V : Nat)]) (wr.iterAt w3.heap.size s (pos + LN)) := hnx0
        have hM := hE.out.next (pos + LN)
        have hpo := hE.out.pos
        generalize wr.iterAt w3.heap.size s (pos + LN) = wi at *
        have kR := escr_any V hRt hM.bb (by have := hL.out; have := hs'.out; omega)
        have hM' : Hid (ES w wi w2.heap.size w3.heap.size s (pos + LN) zs) := hM
        have kR' : Calls Tryd.prog 29 #[.pointer (some ⟨w2.heap.size, 0, none⟩), .int .i32 (V : Int)] wi fun e w' => e = .returned (.tuple #[]) ∧ ES w w' w2.heap.size w3.heap.size s (pos + LN) (zs ++ escR V) := kR.mono fun e w' ⟨h1, h2, h3⟩ => ⟨h1, hM'.out.put h2 h3⟩
        have hL3 : Hid ((zs ++ escR V).length ≤ 1 + 6 * (pos + LN)) := by have := hL.out; have := escR_len V; show _ ≤ _; rw [List.length_append]; omega
        clear hnx0 h0 hg hgl hrv hRt hrs hN hZ hE hL hM kR
        go_wp2_with (go_at_call 29; refine kR'.mono ?_; rintro e w4 ⟨rfl, M4⟩; clear kR'; have H4 : Hid (ES w w4 w2.heap.size w3.heap.size s (pos + LN) (zs ++ escR V)) := M4; clear M4)
        go_roundw
        case rel => exact ⟨pos + LN, zs ++ escR V, hL2, H4, hL3, hN2, hZ2⟩
        case measure => rw [H4.out.pos, hpo]; omega
      · obtain rfl : pos = s.size := by omega
        have hnx : ∀ ty, (Instr.next (.pointer (some ⟨w3.heap.size, 0, none⟩)) true ty).run Tryd.prog wr = _ := fun ty => Lib.run_next_end_at wr w3.heap.size s s.size ty hE.out.itr (by omega)
        have hFF : F = zs := by
          rw [← hZ.out, List.drop_of_length_le (by rw [bs_len]; omega), runes_nil, escAll_nil, List.append_nil]
        subst hFF
        clear hN hZ
        go_wp2_with (first
          | (go_at_call 28; refine (wb_bb 34 (by decide) (by decide) hE.out.bb (by have := hL.out; have := hs'.out; omega)).mono ?_; rintro e w5 ⟨rfl, h5, q5⟩; have kS := st_bb h5; have H5 : Hid (ES w w5 w2.heap.size w3.heap.size s s.size (F ++ [34])) := hE.out.put h5 q5; clear h5 q5)
          | (go_at_call 30; refine kS.mono ?_; rintro e w6 ⟨rfl, hb6⟩; clear kS))
        go_ret
        exact ⟨rfl, H5.out.bel.trans (hb6.mono (by have := H5.out.lo; omega))⟩
  · obtain ⟨p, hp⟩ := Option.ne_none_iff_exists'.1 hn
    have e1 : escA (bs s) = [] := by unfold escA; rw [if_neg hn]
    rw [e1, (why_some hp).1] at *
    have BC' : Hid (Below w.heap.size w W) := BC
    generalize atL (bs s) = AT at *
    have kC' : Calls Tryd.prog 27 #[.slice (some ⟨gC, 0, none⟩) nC cC] W fun e w' => e = .returned (.agg #[.int .i64 6, .int .i64 (AT : Nat)]) ∧ Below W.heap.size W w' := kC
    have hfw : ∀ (x y : Value) (w : World), Sem.run Tryd.prog (Instr.field 26 (.agg #[x, y]) 0) w = .ok x w := field_why
    clear hs hn hp e1 BC kC
    go_enter Tryd.func15, Tryd.ntmps15
    go_wp2_with (go_at_call 27; refine kC'.mono ?_; rintro e w2 ⟨rfl, hb2⟩; clear kC'; have B2 : Hid (Below w.heap.size w w2) := BC'.out.trans (hb2.mono BC'.out.size))
    go_ret
    exact ⟨rfl, B2.out⟩
end Go.Proofs.YtfkoghmbkgbgbaaDoor
