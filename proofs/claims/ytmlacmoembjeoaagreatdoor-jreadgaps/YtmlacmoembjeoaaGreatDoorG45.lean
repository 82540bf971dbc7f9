/-
  The document's Lex: the tokens, and whether there is a fault.
  A value with tokens behind it; the document's Lex for any bytes.
  Two values in brackets, with a comma, are an Array of both: the walk.
  Gaps between tokens: the walk.
-/
import Derived.Test.YtmlacmoembjeoaaGreatDoorG44
import Derived.Test.YtmlacmoembjeoaaGreatDoorG21
import Derived.Test.YtmlacmoembjeoaaGreatDoorG24
import Derived.Test.YtmlacmoembjeoaaGreatDoorG39
import Derived.Test.YtmlacmoembjeoaaGreatDoorG25
import Derived.Test.YtmlacmoembjeoaaGreatDoorG22
import Derived.Deep.RegionHeld3
namespace Go.Proofs.YtmlacmoembjeoaaGreatDoor
open Go.RowKit
set_option linter.unusedVariables false
theorem lx_gap {zs : List Int} {k : Nat} (h : k < zs.length) (hg : isGap (zs.getD k 0) = true) : lexA (zs.drop k) k = lexA (zs.drop (k + 1)) (k + 1) := by
  rw [dr_cons h]
  exact lex_gaps [zs.getD k 0] (zs.drop (k + 1)) k (fun c hc => by simp at hc; rw [hc]; exact hg)
theorem lx_no {zs : List Int} {k : Nat} (h : k < zs.length) (hg : isGap (zs.getD k 0) = false) : gapN (zs.drop k) = 0 := by
  rw [dr_cons h, gapN, if_neg (by rw [hg]; decide)]
set_option maxHeartbeats 4000000 in
set_option maxRecDepth 100000 in
theorem vlex_any (a : Option Addr) (n cap : Nat) (zs : List Int) (w : World) (hl : zs.length = n) (hb : Bytes w a zs) (hc : n ≤ cap) (hm : cap ≤ 140737488351232) (hn : n ≤ 4096) :
    Calls Tryz.prog 16 #[.slice a n cap] w fun e w' => ∃ v Y A, e = .returned (.tuple #[v, .agg #[.int .i64 Y, .int .i64 A]]) ∧ OwnsT w' (w.heap.size + 1) v (lexA zs 0).1 ∧ (Y = 0 ↔ (lexA zs 0).2.1 = 0) ∧ Below w.heap.size w w' := by
  have K0 : Hid (Blk (w.alloc (.cells #[.int .i64 0, .int .i64 0] 29)) w.heap.size #[.int .i64 0, .int .i64 0] 29) := blk_new w _ _
  have B0 : Hid (Below w.heap.size w (w.alloc (.cells #[.int .i64 0, .int .i64 0] 29))) := alloc_below w _
  have HB : Hid (Bytes w a zs) := hb
  have HL : Hid (zs.length = n) := hl
  obtain ⟨⟨LR, YR, AR⟩, hR⟩ : ∃ R, lexA zs 0 = R := ⟨_, rfl⟩
  rw [hR]
  have hR' : Hid (([] : List Tk) ++ (lexA (zs.drop 0) 0).1 = LR ∧ (lexA (zs.drop 0) 0).2.1 = YR) := by
    rw [List.drop_zero, hR]; exact ⟨rfl, rfl⟩
  have a1 : decide ((4096 : Int) < (n : Int)) = false := by simp; omega
  have S1' : Hid (w.heap.size + 1 ≤ (w.alloc (.cells #[.int .i64 0, .int .i64 0] 29)).heap.size) := by show _ ≤ _; simp
  clear hR hl hb
  go_enter Tryz.func16, Tryz.ntmps16
  go_wp2
  go_loopw [4, 5] (fun v u wr => ∃ (k : Nat) (L : List Tk), k ≤ n ∧ u = .int .i64 k ∧ Hid (L.length ≤ k) ∧ Hid (OwnsT wr (w.heap.size + 1) v L) ∧ Hid (Blk wr w.heap.size #[.int .i64 0, .int .i64 0] 29) ∧ Hid (Below w.heap.size w wr) ∧ Hid (w.heap.size + 1 ≤ wr.heap.size) ∧ Hid (L ++ (lexA (zs.drop k) k).1 = LR ∧ (lexA (zs.drop k) k).2.1 = YR)) (fun _ u _ => n - (intOf u).toNat)
  case atStart => exact ⟨0, [], Nat.zero_le _, rfl, Nat.zero_le _, ownsT_nil _ _, K0, B0, S1', hR'⟩
  case round =>
    clear hR'
    obtain ⟨k, L, hk, rfl, hLk, hO, hK, hB, hS, hE⟩ := hrel
    obtain ⟨av, nv, cv, rfl, hnv, hcv1, hcv2⟩ := hO.out.form
    by_cases hlt : k < n
    · have hzl : (k : Int) < (n : Int) := by omega
      obtain ⟨x0, off, rfl, c0, hz0, hz1⟩ := byte_at (HB.out.kept hB.out) (p := k) (by rw [HL.out]; exact hlt)
      obtain ⟨C, hC⟩ : ∃ C : Nat, zs.getD k 0 = (C : Int) := ⟨(zs.getD k 0).toNat, by omega⟩
      rw [hC] at c0
      by_cases hg : isGap (C : Int) = true
      · have kV := vgap_yes hg
        have E1 : Hid (L ++ (lexA (zs.drop (k + 1)) (k + 1)).1 = LR ∧ (lexA (zs.drop (k + 1)) (k + 1)).2.1 = YR) := by
          have := hE.out
          rw [lx_gap (by rw [HL.out]; exact hlt) (by rw [hC]; exact hg)] at this
          exact this
        have hL2 : Hid (L.length ≤ k + 1) := Nat.le_succ_of_le hLk.out
        have wk : IntKind.i64.wrap ((k : Int) + 1) = (k : Int) + 1 := by rw [IntKind.wrap_i64]; omega
        clear hC hz0 hz1 hg hE
        go_wp2_with (go_at_call 25; refine (kV _).mono ?_; rintro e w5 ⟨rfl, hw5⟩; subst hw5; clear kV)
        go_roundw
        case rel => exact ⟨k + 1, L, by omega, by go_num, hL2, hO, hK, hB, hS, E1⟩
        case measure => simp [intOf]; omega
      · have hg' : isGap (C : Int) = false := by simpa using hg
        have kV := vgap_no hg'
        have kT := vtoken_any (some ⟨x0, off, none⟩) n cap zs k wr HL.out (HB.out.kept hB.out) hc hm hn hlt
        have e0 := lx_no (zs := zs) (k := k) (by rw [HL.out]; exact hlt) (by rw [hC]; exact hg')
        have e2 : zs.drop k ≠ [] := by rw [dr_cons (by rw [HL.out]; exact hlt)]; simp
        have hbd := tok_bounds e2 k
        have hlx1 := lex_bad (b := zs.drop k) (p := k) (by rw [e0]; exact e2)
        have hlx2 := lex_tok (b := zs.drop k) (p := k) (by rw [e0]; exact e2)
        rw [e0, List.drop_zero, Nat.add_zero] at hlx1 hlx2
        obtain ⟨⟨⟨K, F, T, X⟩, Y, A⟩, hTK⟩ : ∃ R, tokR (zs.drop k) k = R := ⟨_, rfl⟩
        rw [hTK] at kT hbd hlx1 hlx2
        by_cases hY : Y = 0
        · have hlx := hlx2 hY
          obtain ⟨q1, q2, q3, q4, q5⟩ := hbd.1 hY
          simp only at q1 q2 q3 hlx
          rw [List.length_drop, HL.out] at q3
          have hT : T ≤ n := by omega
          have hRR := hE.out
          rw [hlx, List.drop_drop, show k + (T - k) = T by omega] at hRR
          have E1 : Hid ((L ++ [⟨K, F, T, X⟩]) ++ (lexA (zs.drop T) T).1 = LR ∧ (lexA (zs.drop T) T).2.1 = YR) := ⟨by rw [← hRR.1]; simp, hRR.2⟩
          have hL2 : Hid ((L ++ [(⟨K, F, T, X⟩ : Tk)]).length ≤ T) := by show _ ≤ _; have := hLk.out; simp; omega
          have hL9 : Hid (L.length ≤ 100000) := by show _ ≤ _; have := hLk.out; omega
          have hdec : Hid (n - T < n - k) := by show _ < _; omega
          clear hRR hlx hlx1 hlx2 hE hTK hbd e0 e2 hC hz0 hz1 hg hg' q1 q2 q3 q4 q5
          have kT' : Calls Tryz.prog 26 #[.slice (some ⟨x0, off, none⟩) n cap, .int .i64 (k : Nat)] wr fun e w' => e = .returned (.tuple #[.agg #[.int .i64 (K : Nat), .int .i64 (F : Nat), .int .i64 (T : Nat), .string (strOfNums X)], .agg #[.int .i64 0, .int .i64 0]]) ∧ Below wr.heap.size wr w' := kT.mono fun e w' ⟨⟨k1, f1, t1, x1, y1, a1, h1, h2⟩, h3⟩ => by
            rcases h2.out with ⟨_, rfl, rfl, rfl, rfl, rfl, rfl⟩ | ⟨h, _⟩
            · exact ⟨h1, h3⟩
            · exact absurd hY h
          clear kT hY
          go_wp2_with (first
            | (go_at_call 25; refine (kV _).mono ?_; rintro e w5 ⟨rfl, hw5⟩; subst hw5; clear kV)
            | (go_at_call 26; refine kT'.mono ?_; rintro e w2 ⟨rfl, hb2⟩; clear kT'; have O2 : Hid (OwnsT w2 (w.heap.size + 1) (.slice av nv cv) L) := hO.out.kept hb2; have B2 : Hid (Below w.heap.size w w2) := hB.out.trans (hb2.mono hB.out.size); have S2 : Hid (w.heap.size + 1 ≤ w2.heap.size) := Nat.le_trans hS.out hb2.size; have K2 : Hid (Blk w2 w.heap.size #[.int .i64 0, .int .i64 0] 29) := hK.out.kept hb2 hK.out.lt)
            | (at_builtin; go_loud (refine wpList_append_tok rfl _ _ rfl (w.heap.size + 1) (.slice av nv cv) L ⟨K, F, T, X⟩ rfl O2.out.thrice (w2.heap.size + 1 + 1) rfl (fun j _ => (tok_cells w2 _ _ j).trans Array.getElem?_toList.symm) hL9.out (by have := S2.out; simp; omega) ?_; intro v4 w4 hO4 hg4; obtain ⟨bk4, ks4, bl4, sz4⟩ := tok_append O2.out S2.out hg4; have O4 : Hid (OwnsT w4 (w.heap.size + 1) v4 (L ++ [⟨K, F, T, X⟩])) := hO4; have B4 : Hid (Below w.heap.size w w4) := bl4 w B2.out; have K4 : Hid (Blk w4 w.heap.size #[.int .i64 0, .int .i64 0] 29) := ks4 _ _ K2.out; have S4 : Hid (w.heap.size + 1 ≤ w4.heap.size) := sz4; have d2 : w4.cell? ⟨w2.heap.size, 2, none⟩ = some (.int .i64 (T : Nat)) := bk4.cell 2; have e2 := bk4.fz 2; clear bk4 ks4 bl4 sz4 hO4 hg4)))
          go_roundw
          case rel => exact ⟨T, L ++ [⟨K, F, T, X⟩], hT, rfl, hL2, O4, K4, B4, S4, E1⟩
          case measure => simp [intOf]; exact hdec.out
        · have hlx := hlx1 hY
          obtain ⟨hL1, hL2⟩ := hE.out
          rw [hlx] at hL1 hL2
          rw [List.append_nil] at hL1
          simp only at hL2
          subst hL1
          have NE : Hid (YR ≠ 0) := by show _ ≠ _; rw [← hL2]; exact hY
          have kT' : Calls Tryz.prog 26 #[.slice (some ⟨x0, off, none⟩) n cap, .int .i64 (k : Nat)] wr fun e w' => (∃ k1 f1 t1 x1 y1 a1, e = .returned (.tuple #[.agg #[.int .i64 k1, .int .i64 f1, .int .i64 t1, .string x1], .agg #[.int .i64 y1, .int .i64 a1]]) ∧ Hid (y1 ≠ 0)) ∧ Below wr.heap.size wr w' := kT.mono fun e w' ⟨⟨k1, f1, t1, x1, y1, a1, h1, h2⟩, h3⟩ => by
            rcases h2.out with ⟨h, _⟩ | ⟨_, h⟩
            · exact absurd h hY
            · exact ⟨⟨k1, f1, t1, x1, y1, a1, h1, h⟩, h3⟩
          have N0 : Hid (∀ w2, Below wr.heap.size wr w2 → w.heap.size < w2.heap.size) := fun w2 h2 => by have := hS.out; have := h2.size; omega
          clear kT hL2 hlx hlx1 hlx2 hE hTK hbd e0 e2 hC hz0 hz1 hg hg' hY
          go_wp2_with (first
            | (go_at_call 25; refine (kV _).mono ?_; rintro e w5 ⟨rfl, hw5⟩; subst hw5; clear kV)
            | (go_at_call 26; refine kT'.mono ?_; rintro e w2 ⟨⟨k1, g1, t1, x1, y1, a2, rfl, hy1⟩, hb2⟩; clear kT'; have K2 := hK.out.kept hb2 hK.out.lt; have c0 : w2.cell? ⟨w.heap.size, 0, none⟩ = some (.int .i64 0) := K2.cell 0; have c1 : w2.cell? ⟨w.heap.size, 1, none⟩ = some (.int .i64 0) := K2.cell 1; have f0 := K2.fz 0; have f1 := K2.fz 1; have N2 := N0.out w2 hb2; have O2 : Hid (OwnsT w2 (w.heap.size + 1) (.slice av nv cv) L) := hO.out.kept hb2; have B2 : Hid (Below w.heap.size w w2) := hB.out.trans (hb2.mono hB.out.size); have aY : (y1 != 0) = true := by simp; exact hy1.out
               clear K2))
          go_region
          all_goals
            go_wp2
            have h4 : Below w.heap.size w ((w2.setCell ⟨w.heap.size, 0, none⟩ (.int .i64 y1)).setCell ⟨w.heap.size, 1, none⟩ (.int .i64 a2)) := by
              refine Below.setCell (Below.setCell B2.out ?_ _) ?_ _ <;> simp
            have hh : ∀ j, w.heap.size + 1 ≤ j → ((w2.setCell ⟨w.heap.size, 0, none⟩ (.int .i64 y1)).setCell ⟨w.heap.size, 1, none⟩ (.int .i64 a2)).heap[j]? = w2.heap[j]? := fun j hj => ((Kq.set w.heap.size (j + 1) _ 1 _).block j (by omega) (by omega)).trans ((Kq.set w.heap.size (j + 1) _ 0 _).block j (by omega) (by omega))
            have h5 := (O2.out.move fun j hj _ => hh j hj)
            have h6 := (alloc_below ((w2.setCell ⟨w.heap.size, 0, none⟩ (.int .i64 y1)).setCell ⟨w.heap.size, 1, none⟩ (.int .i64 a2)) (.cells #[.int .i64 k1, .int .i64 g1, .int .i64 t1, .string x1] 40))
            have h7 := alloc_below (((w2.setCell ⟨w.heap.size, 0, none⟩ (.int .i64 y1)).setCell ⟨w.heap.size, 1, none⟩ (.int .i64 a2)).alloc (.cells #[.int .i64 k1, .int .i64 g1, .int .i64 t1, .string x1] 40)) (.cells #[.int .i64 y1, .int .i64 a2] 29)
            refine bodyPost_ret (v := .tuple #[.slice av nv cv, .agg #[.int .i64 y1, .int .i64 a2]]) (by simp [results, Tryz.results16, go_sem, *]) rfl ⟨.slice av nv cv, y1, a2, rfl, ?_, ⟨fun h => absurd h hy1.out, fun h => absurd h NE.out⟩, ?_⟩
            · exact (((h5.kept h6).kept h7) : OwnsT ((((w2.setCell ⟨w.heap.size, 0, none⟩ (.int .i64 y1)).setCell ⟨w.heap.size, 1, none⟩ (.int .i64 a2)).alloc (.cells #[.int .i64 k1, .int .i64 g1, .int .i64 t1, .string x1] 40)).alloc (.cells #[.int .i64 y1, .int .i64 a2] 29)) _ _ _).move fun j _ _ => rfl
            · exact (((h4.alloc h4.size _).alloc (h4.alloc h4.size _).size _)).drew
    · have hzl : ¬ (k : Int) < (n : Int) := by omega
      obtain ⟨hL1, hL2⟩ := hE.out
      rw [List.drop_eq_nil_of_le (by rw [HL.out]; omega), lex_end (b := []) rfl] at hL1 hL2
      rw [List.append_nil] at hL1
      subst hL1
      have YE : Hid (YR = 0) := hL2.symm
      have c0 : wr.cell? ⟨w.heap.size, 0, none⟩ = some (.int .i64 0) := hK.out.cell 0
      have c1 : wr.cell? ⟨w.heap.size, 1, none⟩ = some (.int .i64 0) := hK.out.cell 1
      have f0 := hK.out.fz 0
      have f1 := hK.out.fz 1
      clear hE hL2
      go_wp2
      refine bodyPost_ret (v := .tuple #[.slice av nv cv, .agg #[.int .i64 0, .int .i64 0]]) (by simp [results, Tryz.results16, go_sem, *]) rfl ⟨.slice av nv cv, 0, ⟨0, rfl⟩, ?_, ⟨fun _ => YE.out, fun _ => rfl⟩, ?_⟩
      · have hh : ∀ j, w.heap.size + 1 ≤ j → ((wr.setCell ⟨w.heap.size, 0, none⟩ (.int .i64 0)).setCell ⟨w.heap.size, 1, none⟩ (.int .i64 0)).heap[j]? = wr.heap[j]? := fun j hj => ((Kq.set w.heap.size (j + 1) _ 1 _).block j (by omega) (by omega)).trans ((Kq.set w.heap.size (j + 1) _ 0 _).block j (by omega) (by omega))
        exact hO.out.move fun j hj _ => hh j hj
      · refine Below.setCell (Below.setCell hB.out ?_ _) ?_ _ <;> simp
end Go.Proofs.YtmlacmoembjeoaaGreatDoor
namespace Go.Proofs.YtmlacmoembjeoaaGreatDoor
open Go.RowKit
set_option linter.unusedVariables false
set_option maxHeartbeats 2000000 in
set_option maxRecDepth 100000 in
theorem vlex_many (a : Option Addr) (n cap : Nat) (w : World) (hn : 4096 < n) :
    Calls Tryz.prog 16 #[.slice a n cap] w fun e w' => e = .returned (.tuple #[.slice none 0 0, .agg #[.int .i64 8, .int .i64 0]]) ∧ Below w.heap.size w w' := by
  have a1 : decide ((4096 : Int) < (n : Int)) = true := by simp; omega
  have hA : Hid (Below w.heap.size w (w.alloc (.cells #[.int .i64 8, .int .i64 0] 29))) := alloc_below w _
  clear hn
  go_enter Tryz.func16, Tryz.ntmps16
  go_wp2
  refine bodyPost_ret (v := .tuple #[.slice none 0 0, .agg #[.int .i64 8, .int .i64 0]]) (by simp [results, Tryz.results16, go_sem, *]) rfl ⟨rfl, hA.out⟩
theorem vlex_full (a : Option Addr) (n cap : Nat) (zs : List Int) (w : World) (hl : zs.length = n) (hb : Bytes w a zs) (hc : n ≤ cap) (hm : cap ≤ 140737488351232) :
    Calls Tryz.prog 16 #[.slice a n cap] w fun e w' => ∃ v Y A, e = .returned (.tuple #[v, .agg #[.int .i64 Y, .int .i64 A]]) ∧ OwnsT w' (w.heap.size + 1) v (lexW zs).1 ∧ (Y = 0 ↔ (lexW zs).2.1 = 0) ∧ Below w.heap.size w w' := by
  unfold lexW
  by_cases h : n ≤ 4096
  · rw [if_pos (by omega)]; exact vlex_any a n cap zs w hl hb hc hm h
  · rw [if_neg (by omega)]
    exact (vlex_many a n cap w (by omega)).mono fun e w' ⟨h1, h2⟩ => ⟨_, _, _, h1, ownsT_nil _ _, by decide, h2⟩
end Go.Proofs.YtmlacmoembjeoaaGreatDoor
namespace Go.Proofs.YtmlacmoembjeoaaGreatDoor
open Go.RowKit
set_option linter.unusedVariables false
/-- What a call of Parse has left in two new places. -/
structure PS (w W : World) (p : Nat) (b : Nb) (t : Tr) (x y : Int) : Prop where
  bel : Below w.heap.size w W
  lo : w.heap.size ≤ p
  lt : p + 1 < W.heap.size
  box : NBox W p b
  flt : Blk W (p + 1) #[.int .i64 x, .int .i64 y] 29
  nd : ∃ D, Nd D W b t
theorem ps_new {w w1 : World} {b : Nb} {t : Tr} {D : Nat} {x y : Int} (hB : Below w.heap.size w w1) (hN : Nd D w1 b t) : PS w ((w1.alloc (.cells b.arr 26)).alloc (.cells #[.int .i64 x, .int .i64 y] 29)) w1.heap.size b t x y := by
  have A1 := alloc_below w1 (.cells b.arr 26)
  have A2 := alloc_below (w1.alloc (.cells b.arr 26)) (.cells #[.int .i64 x, .int .i64 y] 29)
  have s1 : (w1.alloc (.cells b.arr 26)).heap.size = w1.heap.size + 1 := by simp
  have s2 : ((w1.alloc (.cells b.arr 26)).alloc (.cells #[.int .i64 x, .int .i64 y] 29)).heap.size = w1.heap.size + 2 := by simp
  have A3 := A1.trans (A2.mono (by omega))
  refine ⟨hB.trans (A3.mono hB.size), hB.size, by omega, (nbox_new w1 b).kept A2 (by omega), ?_, D, hN.kept A3⟩
  have := blk_new (w1.alloc (.cells b.arr 26)) #[.int .i64 x, .int .i64 y] 29
  rwa [s1] at this
theorem PS.kept {w W W' : World} {p : Nat} {b : Nb} {t : Tr} {x y : Int} (h : PS w W p b t x y) (hb : Below W.heap.size W W') : PS w W' p b t x y := by
  obtain ⟨D, hN⟩ := h.nd
  exact ⟨h.bel.trans (hb.mono h.bel.size), h.lo, Nat.lt_of_lt_of_le h.lt hb.size, h.box.kept hb (by have := h.lt; omega), (hb.block _ h.lt).trans h.flt, D, hN.kept hb⟩
end Go.Proofs.YtmlacmoembjeoaaGreatDoor
namespace Go.Proofs.YtmlacmoembjeoaaGreatDoor
open Go.RowKit
set_option linter.unusedVariables false
/-- A place among n, of any number. -/
theorem place_of (A : Int) (n : Nat) (h : 0 < n) : ∃ j : Nat, j < n ∧ (A.tmod n + n).tmod n = (j : Int) := by
  have h1 := Int.tmod_lt_of_pos A (b := (n : Int)) (by omega)
  have h2 : -(n : Int) < A.tmod n := by
    have := Int.lt_tmod_of_pos A (b := (n : Int)) (by omega)
    exact this
  have h3 : 0 ≤ (A.tmod n + n).tmod n := Int.tmod_nonneg _ (by omega)
  have h4 := Int.tmod_lt_of_pos (A.tmod n + n) (b := (n : Int)) (by omega)
  exact ⟨((A.tmod n + n).tmod n).toNat, by omega, by omega⟩
theorem gap_of (h : Int) (h0 : 0 ≤ h) : h.tmod 4 = 0 ∨ h.tmod 4 = 1 ∨ h.tmod 4 = 2 ∨ h.tmod 4 = 3 := by
  rw [Int.tmod_eq_emod_of_nonneg h0]
  omega
theorem gap_lt {zs : List Int} {A : List Tk} {c : Tk} {B : List Tk} (hp : (parA zs).2.1 = 0) (hL : (lexW zs).1 = A ++ c :: B) (hl : zs.length < 4096) : c.frm < zs.length := by
  obtain ⟨n, h1, f1, _⟩ := par_ok hp
  have ex := lex_zero f1 (by omega)
  rw [ex] at hL f1
  obtain ⟨_, i2, i3, i4, i5⟩ := lex_cut zs 0 A c B hL f1
  rcases Nat.lt_or_ge c.frm zs.length with h | h
  · exact h
  · rw [List.drop_eq_nil_of_le (by omega), lex_end rfl] at i5
    have := congrArg (fun x => x.1) i5
    simp at this
set_option maxHeartbeats 2000000 in
set_option maxRecDepth 100000 in
theorem wgaps (a0 : Option Addr) (n0 c0 : Nat) (zs : List Int) (P H : Int) (w : World) (hl0 : zs.length = n0) (hb0 : Bytes w a0 zs) (hc0 : n0 ≤ c0) (hm0 : c0 ≤ 140737488351232) (hn0 : a0 = none → c0 = 0) (hP : -9223372036854775808 ≤ P ∧ P ≤ 9223372036854775807) (hH : 0 ≤ H ∧ H ≤ 255) :
    Calls Tryz.prog 6 #[.slice a0 n0 c0, .int .i64 P, .int .u8 H] w fun e w' => e = .returned (.bool true) ∧ Below w.heap.size w w' := by
  have k1 := rparse_any a0 n0 c0 zs w hl0 hb0 hc0 (by omega)
  have k2 : Hid (∀ w', Below w.heap.size w w' → Calls Tryz.prog 16 #[.slice a0 n0 c0] w' fun e w'' => ∃ v Y A, e = .returned (.tuple #[v, .agg #[.int .i64 Y, .int .i64 A]]) ∧ OwnsT w'' (w'.heap.size + 1) v (lexW zs).1 ∧ (Y = 0 ↔ (lexW zs).2.1 = 0) ∧ Below w'.heap.size w' w'') := fun w' h => vlex_full a0 n0 c0 zs w' hl0 (hb0.kept h) hc0 hm0
  have k3 : Hid (∀ y w' a n c, y.length = n → Bytes w' a y → n ≤ c → n ≤ 140737488351232 → Calls Tryz.prog 9 #[.slice a n c] w' fun e w'' => ∃ D b, e = .returned (.tuple #[.agg b.arr, .agg #[.int .i64 (parA y).2.1, .int .i64 ((parA y).2.2 : Nat)]]) ∧ Nd D w'' b (parA y).1 ∧ Below w'.heap.size w' w'') := fun y w' a n c h1 h2 h3 h4 => rparse_any a n c _ w' h1 h2 h3 h4
  have HL : Hid (zs.length = n0 ∧ n0 ≤ c0) := ⟨hl0, hc0⟩
  have HB0 : Hid (Bytes w a0 zs ∧ (a0 = none → c0 = 0)) := ⟨hb0, hn0⟩
  have hPB : Hid (∀ A c B g, (parA zs).2.1 = 0 → (lexW zs).1 = A ++ c :: B → n0 < 4096 → (g = 32 ∨ g = 9 ∨ g = 10 ∨ g = 13) → c.frm < n0 ∧ parA (zs.take c.frm ++ g :: zs.drop c.frm) = ((parA zs).1, 0, 0)) := fun A c B g h1 h2 h3 h4 => ⟨by have := gap_lt h1 h2 (by omega); omega, (par_gaps h1 h2 (by omega) h4).2⟩
  have HF : Hid ((lexW zs).1.length ≤ 4096) := lexW_few zs
  have hE0 : Hid ((parA zs).2.1 = 0 → (parA zs).2.2 = 0 ∧ (parA zs).1.size ≤ 1024) := fun h => ⟨(par_right h).1, (par_right h).2.1.1⟩
  obtain ⟨⟨T1, X1, Y1⟩, hP1⟩ : ∃ R, parA zs = R := ⟨_, rfl⟩
  rw [hP1] at k1 hPB hE0
  obtain ⟨L, hL⟩ : ∃ L, (lexW zs).1 = L := ⟨_, rfl⟩
  rw [hL] at k2 hPB HF
  simp only at k1
  have HP : Hid ((-9223372036854775808 ≤ P ∧ P ≤ 9223372036854775807) ∧ (0 ≤ H ∧ H ≤ 255)) := ⟨hP, hH⟩
  clear hP1 hL hl0 hb0 hc0 hn0 hP hH
  go_enter Tryz.func6, Tryz.ntmps6
  go_wp2_with (go_at_call 9; refine k1.mono ?_; rintro e w1 ⟨D1, b1, he, hN, hB⟩; rw [Nb.arr] at he; subst he; clear k1; have G1 : Hid (PS w ((w1.alloc (.cells #[.int .i64 b1.kind, .int .u64 b1.num, .bool b1.neg, .string b1.dig, .int .i64 b1.exp, .string b1.txt, .slice b1.ab b1.lb b1.cb, .slice b1.ak b1.lk b1.ck, .slice b1.ai b1.li b1.ci] 26)).alloc (.cells #[.int .i64 X1, .int .i64 (Y1 : Nat)] 29)) w1.heap.size b1 T1 X1 (Y1 : Nat)) := ps_new hB hN; clear hN hB)
  generalize ((w1.alloc (.cells #[.int .i64 b1.kind, .int .u64 b1.num, .bool b1.neg, .string b1.dig, .int .i64 b1.exp, .string b1.txt, .slice b1.ab b1.lb b1.cb, .slice b1.ak b1.lk b1.ck, .slice b1.ai b1.li b1.ci] 26)).alloc (.cells #[.int .i64 X1, .int .i64 (Y1 : Nat)] 29)) = W1 at *
  generalize w1.heap.size = p1 at *
  refine (k2.out W1 G1.out.bel).mono ?_
  rintro e w2 ⟨v, Y, A, rfl, hO, _, hB2⟩
  clear k2
  have hA2 := alloc_below w2 (.cells #[.int .i64 Y, .int .i64 A] 29)
  have hB3 := hB2.trans (hA2.mono hB2.size)
  have B2 : Hid (Below w.heap.size w (w2.alloc (.cells #[.int .i64 Y, .int .i64 A] 29))) := G1.out.bel.trans (hB3.mono G1.out.bel.size)
  have K2 := G1.out.flt.kept hB3 G1.out.lt
  have z0 := K2.cell 0
  have z1 := K2.cell 1
  obtain ⟨av, cv, rfl, hcv, hcm, hTA⟩ := (hO.kept hA2).at
  have HT : Hid (TokAt (w2.alloc (.cells #[.int .i64 Y, .int .i64 A] 29)) av L) := hTA
  have G2 : Hid (PS w (w2.alloc (.cells #[.int .i64 Y, .int .i64 A] 29)) p1 b1 T1 X1 (Y1 : Nat)) := G1.out.kept hB3
  clear hO hB2 hB3 hA2 G1 hTA K2
  by_cases hX : X1 = 0
  · obtain rfl := hX
    obtain ⟨rfl, hsz⟩ := hE0.out rfl
    by_cases hL0 : L = []
    · subst hL0
      clear hE0 hPB k3
      go_wp2_with fail
      refine (alive_any _).mono ?_
      rintro e w3 ⟨rfl, hB3⟩
      go_wp2_with fail
      go_ret
      exact ⟨rfl, B2.out.trans (hB3.mono B2.out.size)⟩
    · have hLl : 1 ≤ L.length := by cases L with | nil => exact absurd rfl hL0 | cons c Y => simp
      have g0 : ((L.length : Int) == 0) = false := by simp; omega
      by_cases hS : n0 < 4096
      · have v3 : decide ((4096 : Int) ≤ (n0 : Int)) = false := by simp; omega
        have v4 : decide (4096 ≤ n0) = false := by simp; omega
        obtain ⟨J, hJ, eJ⟩ := place_of P L.length (by omega)
        have hF' := HF.out
        have m1 := Int.tmod_lt_of_pos P (b := (L.length : Int)) (by omega)
        have m2 : -(L.length : Int) < P.tmod L.length := Int.lt_tmod_of_pos P (by omega)
        have hwr : wrap64 (P.tmod L.length + L.length) = P.tmod L.length + L.length := by unfold wrap64; omega
        obtain ⟨tg, rfl, htg, hTk⟩ := HT.out hL0
        have hct := (hTk (J * 4 + 1) (by omega)).trans (tkCs_get L J 1 hJ (by omega))
        have hLs : Hid (L = L.take J ++ L[J] :: L.drop (J + 1)) := by show _ = _; rw [List.getElem_cons_drop, List.take_append_drop]
        have hcz : (w2.alloc (.cells #[.int .i64 Y, .int .i64 A] 29)).cell? ⟨tg, J * 4 + 1, none⟩ = some (.int .i64 (L[J]).frm) := hct
        clear hct hTk m1 m2
        generalize L[J] = c at *
        obtain ⟨G, k, hk, eH, hG, hc4⟩ : ∃ (G : Int) (k : Nat), k < 4 ∧ H.tmod 4 = (k : Int) ∧ Hid ((G = 32 ∨ G = 9 ∨ G = 10 ∨ G = 13) ∧ ([.int .u8 32, .int .u8 9, .int .u8 10, .int .u8 13] : List Value)[k]? = some (.int .u8 G)) ∧ ∀ W : World, (W.alloc (.cells #[.int .u8 32, .int .u8 9, .int .u8 10, .int .u8 13] 5)).cell? ⟨W.heap.size, k, none⟩ = some (.int .u8 G) := by
          rcases gap_of H HP.out.2.1 with e | e | e | e
          · exact ⟨32, 0, by omega, e, ⟨.inl rfl, rfl⟩, fun W => (blk_new W _ _).cell 0⟩
          · exact ⟨9, 1, by omega, e, ⟨.inr (.inl rfl), rfl⟩, fun W => (blk_new W _ _).cell 1⟩
          · exact ⟨10, 2, by omega, e, ⟨.inr (.inr (.inl rfl)), rfl⟩, fun W => (blk_new W _ _).cell 2⟩
          · exact ⟨13, 3, by omega, e, ⟨.inr (.inr (.inr rfl)), rfl⟩, fun W => (blk_new W _ _).cell 3⟩
        obtain ⟨hcl, hcp⟩ := hPB.out (L.take J) c (L.drop (J + 1)) G rfl hLs.out hS hG.out.1
        obtain ⟨bb, oo, rfl⟩ := bytes_some HB0.out.1 (by have := HL.out.1; omega)
        have hGC : Hid (∀ W u0, Below w.heap.size w W → u0 0 = .slice (some ⟨bb, oo, none⟩) n0 c0 → u0 1 = .int .i64 c.frm → u0 11 = .int .u8 G → GC W u0 bb oo n0 c0 c.frm G zs T1) := fun W u0 hb e0 e1 e11 => ⟨e0, e1, e11, HB0.out.1.kept hb, HL.out.1, hcl, hS, HL.out.2, hm0, by have := hG.out.1; omega, by rw [List.append_assoc]; exact hcp⟩
        have hA4 := alloc_below (w2.alloc (.cells #[.int .i64 Y, .int .i64 A] 29)) (.cells #[.int .u8 32, .int .u8 9, .int .u8 10, .int .u8 13] 5)
        have G4 : Hid (PS w ((w2.alloc (.cells #[.int .i64 Y, .int .i64 A] 29)).alloc (.cells #[.int .u8 32, .int .u8 9, .int .u8 10, .int .u8 13] 5)) p1 b1 T1 0 (0 : Nat)) := G2.out.kept hA4
        clear hcl hcp hPB hE0 G2 hA4 HB0 HL k3 B2 HT
        go_upto_region 7 with fail
        generalize ((w2.alloc (.cells #[.int .i64 Y, .int .i64 A] 29)).alloc (.cells #[.int .u8 32, .int .u8 9, .int .u8 10, .int .u8 13] 5)) = W4 at *
        have e11 : ([.int .u8 32, .int .u8 9, .int .u8 10, .int .u8 13] : List Value)[k] = .int .u8 G := by
          have := hG.out.2
          rw [List.getElem?_eq_getElem (by simpa using hk)] at this
          exact Option.some.inj this
        rw [e11]
        go_cut [12, 13] (fun s12 s13 wx => ∃ p12 p13 D b, s12 = .pointer (some ⟨p12, 0, none⟩) ∧ s13 = .pointer (some ⟨p13, 0, none⟩) ∧ Hid (PS w wx p1 b1 T1 0 (0 : Nat)) ∧ Hid (NBox wx p12 b) ∧ Hid (Nd D wx b T1) ∧ Hid (Blk wx p13 #[.int .i64 0, .int .i64 0] 29))
        case first =>
          refine wp_region_any (by kernel_rfl) ?_
          rw [frm_of (Act.mk _ _)]
          refine gap_region (bb := bb) (oo := oo) (n0 := n0) (c0 := c0) (q := c.frm) (g := G) (zs := zs) (T := T1) ?gc [] _ ?gq
          case gc => exact hGC.out _ _ G4.out.bel.drew rfl rfl rfl
          case gq =>
            intro u w5 p12 p13 D b hold e12 e13 hbel hbox hnd hblk
            have h0 : u 0 = .slice (some ⟨bb, oo, none⟩) n0 c0 := hold 0 (by omega)
            have h1 : u 1 = .int .i64 c.frm := hold 1 (by omega)
            have h2 : u 2 = .int .u8 H := hold 2 (by omega)
            have h3 : u 3 = undef := hold 3 (by omega)
            have h4 : u 4 = undef := hold 4 (by omega)
            have h5 : u 5 = undef := hold 5 (by omega)
            have h6 : u 6 = .bool false := hold 6 (by omega)
            have h7 : u 7 = .pointer (some ⟨p1, 0, none⟩) := hold 7 (by omega)
            have h8 : u 8 = .pointer (some ⟨p1 + 1, 0, none⟩) := hold 8 (by omega)
            have h9 : u 9 = .slice (some ⟨tg, 0, none⟩) L.length cv := hold 9 (by omega)
            have h11 : u 11 = .int .u8 G := hold 11 (by omega)
            rw [show frm 83 u [] = Act.mk (List.toArray (u 0 :: u 1 :: u 2 :: u 3 :: u 4 :: u 5 :: u 6 :: u 7 :: u 8 :: u 9 :: u 10 :: u 11 :: u 12 :: u 13 :: u 14 :: u 15 :: u 16 :: u 17 :: u 18 :: u 19 :: u 20 :: u 21 :: u 22 :: u 23 :: u 24 :: u 25 :: u 26 :: u 27 :: u 28 :: u 29 :: u 30 :: u 31 :: u 32 :: u 33 :: u 34 :: u 35 :: u 36 :: u 37 :: u 38 :: u 39 :: u 40 :: u 41 :: u 42 :: u 43 :: u 44 :: u 45 :: u 46 :: u 47 :: u 48 :: u 49 :: u 50 :: u 51 :: u 52 :: u 53 :: u 54 :: u 55 :: u 56 :: u 57 :: u 58 :: u 59 :: u 60 :: u 61 :: u 62 :: u 63 :: u 64 :: u 65 :: u 66 :: u 67 :: u 68 :: u 69 :: u 70 :: u 71 :: u 72 :: u 73 :: u 74 :: u 75 :: u 76 :: u 77 :: u 78 :: u 79 :: u 80 :: u 81 :: u 82 :: [])) [] from rfl, h0, h1, h2, h3, h4, h5, h6, h7, h8, h9, h11, e12, e13]
            unfold Exit.then
            dsimp only
            go_step
            go_meet
            case rel => exact ⟨p12, p13, D, b, rfl, rfl, G4.out.kept ((Below.refl _ W4).drew.trans hbel), hbox, hnd, hblk⟩
        case rest =>
          obtain ⟨p12, p13, D, b, rfl, rfl, hPS, hbx, hnd, hbk⟩ := hcut
          have q0 := hbk.out.cell 0
          have q1 := hbk.out.cell 1
          obtain ⟨a0, a1, a2, a3, a4, a5, a6, a7, a8⟩ := hPS.out.box.fields
          obtain ⟨d0, d1, d2, d3, d4, d5, d6, d7, d8⟩ := hbx.out.fields
          obtain ⟨D9, hN9⟩ := hPS.out.nd
          have kS := esame_any (v := true) hN9 hnd.out (by simp [hsz])
          have BW : Hid (Below w.heap.size w wc) := hPS.out.bel
          clear hN9 hPS hbx hnd hbk hG hGC G4 e11
          go_wp2_with (first
            | (go_at_call 11; refine kS.mono ?_; rintro e w7 ⟨rfl, hB7⟩; clear kS; have B7 : Hid (Below w.heap.size w w7) := BW.out.trans (hB7.mono BW.out.size); have kA := alive_any w7; clear hB7)
            | (go_at_call 12; refine kA.mono ?_; rintro e w8 ⟨rfl, hB8⟩; clear kA))
          go_ret
          exact ⟨rfl, B7.out.trans (hB8.mono B7.out.size)⟩
      · have v3 : decide ((4096 : Int) ≤ (n0 : Int)) = true := by simp; omega
        have v4 : decide (4096 ≤ n0) = true := by simp; omega
        clear hE0 hPB k3 hL0
        go_wp2_with fail
        refine (alive_any _).mono ?_
        rintro e w3 ⟨rfl, hB3⟩
        go_wp2_with fail
        go_ret
        exact ⟨rfl, B2.out.trans (hB3.mono B2.out.size)⟩
  · have x1 : (X1 == 0) = false := by simpa using hX
    clear hE0 hPB k3 hX
    go_wp2_with fail
    refine (alive_any _).mono ?_
    rintro e w3 ⟨rfl, hB3⟩
    go_wp2_with fail
    go_ret
    exact ⟨rfl, B2.out.trans (hB3.mono B2.out.size)⟩
end Go.Proofs.YtmlacmoembjeoaaGreatDoor
