/-
  Parts of the proof.
-/
import Derived.Test.YtmlacmoembjeoaaGreatDoorV39
import Derived.Test.YtmlacmoembjeoaaGreatDoorV23
import Derived.Test.YtmlacmoembjeoaaGreatDoorV27
namespace Go.Proofs.YtmlacmoembjeoaaGreatDoor
open Go.RowKit
set_option linter.unusedVariables false
theorem lx_gap {zs : List Int} {k : Nat} (h : k < zs.length) (hg : isGap (zs.getD k 0) = true) : lexA (zs.drop k) k = lexA (zs.drop (k + 1)) (k + 1) := by
  rw [dr_cons h]
  exact lex_gaps [zs.getD k 0] (zs.drop (k + 1)) k (fun c hc => by simp at hc; rw [hc]; exact hg)
theorem lx_no {zs : List Int} {k : Nat} (h : k < zs.length) (hg : isGap (zs.getD k 0) = false) : gapN (zs.drop k) = 0 := by
  rw [dr_cons h, gapN, if_neg (by rw [hg]; decide)]
set_option maxHeartbeats 4000000 in
set_option maxRecDepth 100000 in
theorem vlex_any (a : Option Addr) (n cap : Nat) (zs : List Int) (w : World) (hl : zs.length = n) (hb : Bytes w a zs) (hc : n ≤ cap) (hm : cap ≤ 140737488351232) (hn : n ≤ 4096) :
    Calls Tryz.prog 16 #[.slice a n cap] w fun e w' => ∃ v Y A, e = .returned (.tuple #[v, .agg #[.int .i64 Y, .int .i64 A]]) ∧ OwnsT w' (w.heap.size + 1) v (lexA zs 0).1 ∧ (Y = 0 ↔ (lexA zs 0).2.1 = 0) ∧ Below w.heap.size w w' := by
  have K0 : Hid (Blk (w.alloc (.cells #[.int .i64 0, .int .i64 0] 29)) w.heap.size #[.int .i64 0, .int .i64 0] 29) := blk_new w _ _
  have B0 : Hid (Below w.heap.size w (w.alloc (.cells #[.int .i64 0, .int .i64 0] 29))) := alloc_below w _
  have HB : Hid (Bytes w a zs) := hb
  have HL : Hid (zs.length = n) := hl
  obtain ⟨⟨LR, YR, AR⟩, hR⟩ : ∃ R, lexA zs 0 = R := ⟨_, rfl⟩
  rw [hR]
  have hR' : Hid (([] : List Tk) ++ (lexA (zs.drop 0) 0).1 = LR ∧ (lexA (zs.drop 0) 0).2.1 = YR) := by
    rw [List.drop_zero, hR]; exact ⟨rfl, rfl⟩
  have a1 : decide ((4096 : Int) < (n : Int)) = false := by simp; omega
  have S1' : Hid (w.heap.size + 1 ≤ (w.alloc (.cells #[.int .i64 0, .int .i64 0] 29)).heap.size) := by show _ ≤ _; simp
  clear hR hl hb
  go_enter Tryz.func16, Tryz.ntmps16
  go_wp2
  go_loopw [4, 5] (fun v u wr => ∃ (k : Nat) (L : List Tk), k ≤ n ∧ u = .int .i64 k ∧ Hid (L.length ≤ k) ∧ Hid (OwnsT wr (w.heap.size + 1) v L) ∧ Hid (Blk wr w.heap.size #[.int .i64 0, .int .i64 0] 29) ∧ Hid (Below w.heap.size w wr) ∧ Hid (w.heap.size + 1 ≤ wr.heap.size) ∧ Hid (L ++ (lexA (zs.drop k) k).1 = LR ∧ (lexA (zs.drop k) k).2.1 = YR)) (fun _ u _ => n - (intOf u).toNat)
  case atStart => exact ⟨0, [], Nat.zero_le _, rfl, Nat.zero_le _, ownsT_nil _ _, K0, B0, S1', hR'⟩
  case round =>
    clear hR'
    obtain ⟨k, L, hk, rfl, hLk, hO, hK, hB, hS, hE⟩ := hrel
    obtain ⟨av, nv, cv, rfl, hnv, hcv1, hcv2⟩ := hO.out.form
    by_cases hlt : k < n
    · have hzl : (k : Int) < (n : Int) := by omega
      obtain ⟨x0, off, rfl, c0, hz0, hz1⟩ := byte_at (HB.out.kept hB.out) (p := k) (by rw [HL.out]; exact hlt)
      obtain ⟨C, hC⟩ : ∃ C : Nat, zs.getD k 0 = (C : Int) := ⟨(zs.getD k 0).toNat, by omega⟩
      rw [hC] at c0
      by_cases hg : isGap (C : Int) = true
      · have kV := vgap_yes hg
        have E1 : Hid (L ++ (lexA (zs.drop (k + 1)) (k + 1)).1 = LR ∧ (lexA (zs.drop (k + 1)) (k + 1)).2.1 = YR) := by
          have := hE.out
          rw [lx_gap (by rw [HL.out]; exact hlt) (by rw [hC]; exact hg)] at this
          exact this
        have hL2 : Hid (L.length ≤ k + 1) := Nat.le_succ_of_le hLk.out
        have wk : IntKind.i64.wrap ((k : Int) + 1) = (k : Int) + 1 := by rw [IntKind.wrap_i64]; omega
        clear hC hz0 hz1 hg hE
        go_wp2_with (go_at_call 25; refine (kV _).mono ?_; rintro e w5 ⟨rfl, hw5⟩; subst hw5; clear kV)
        go_roundw
        case rel => exact ⟨k + 1, L, by omega, by go_num, hL2, hO, hK, hB, hS, E1⟩
        case measure => simp [intOf]; omega
      · have hg' : isGap (C : Int) = false := by simpa using hg
        have kV := vgap_no hg'
        have kT := vtoken_any (some ⟨x0, off, none⟩) n cap zs k wr HL.out (HB.out.kept hB.out) hc hm hn hlt
        have e0 := lx_no (zs := zs) (k := k) (by rw [HL.out]; exact hlt) (by rw [hC]; exact hg')
        have e2 : zs.drop k ≠ [] := by rw [dr_cons (by rw [HL.out]; exact hlt)]; simp
        have hbd := tok_bounds e2 k
        have hlx1 := lex_bad (b := zs.drop k) (p := k) (by rw [e0]; exact e2)
        have hlx2 := lex_tok (b := zs.drop k) (p := k) (by rw [e0]; exact e2)
        rw [e0, List.drop_zero, Nat.add_zero] at hlx1 hlx2
        obtain ⟨⟨⟨K, F, T, X⟩, Y, A⟩, hTK⟩ : ∃ R, tokR (zs.drop k) k = R := ⟨_, rfl⟩
        rw [hTK] at kT hbd hlx1 hlx2
        by_cases hY : Y = 0
        · have hlx := hlx2 hY
          obtain ⟨q1, q2, q3, q4, q5⟩ := hbd.1 hY
          simp only at q1 q2 q3 hlx
          rw [List.length_drop, HL.out] at q3
          have hT : T ≤ n := by omega
          have hRR := hE.out
          rw [hlx, List.drop_drop, show k + (T - k) = T by omega] at hRR
          have E1 : Hid ((L ++ [⟨K, F, T, X⟩]) ++ (lexA (zs.drop T) T).1 = LR ∧ (lexA (zs.drop T) T).2.1 = YR) := ⟨by rw [← hRR.1]; simp, hRR.2⟩
          have hL2 : Hid ((L ++ [(⟨K, F, T, X⟩ : Tk)]).length ≤ T) := by show _ ≤ _; have := hLk.out; simp; omega
          have hL9 : Hid (L.length ≤ 100000) := by show _ ≤ _; have := hLk.out; omega
          have hdec : Hid (n - T < n - k) := by show _ < _; omega
          clear hRR hlx hlx1 hlx2 hE hTK hbd e0 e2 hC hz0 hz1 hg hg' q1 q2 q3 q4 q5
          have kT' : Calls Tryz.prog 26 #[.slice (some ⟨x0, off, none⟩) n cap, .int .i64 (k : Nat)] wr fun e w' => e = .returned (.tuple #[.agg #[.int .i64 (K : Nat), .int .i64 (F : Nat), .int .i64 (T : Nat), .string (strOfNums X)], .agg #[.int .i64 0, .int .i64 0]]) ∧ Below wr.heap.size wr w' := kT.mono fun e w' ⟨⟨k1, f1, t1, x1, y1, a1, h1, h2⟩, h3⟩ => by
            rcases h2.out with ⟨_, rfl, rfl, rfl, rfl, rfl, rfl⟩ | ⟨h, _⟩
            · exact ⟨h1, h3⟩
            · exact absurd hY h
          clear kT hY
          go_wp2_with (first
            | (go_at_call 25; refine (kV _).mono ?_; rintro e w5 ⟨rfl, hw5⟩; subst hw5; clear kV)
            | (go_at_call 26; refine kT'.mono ?_; rintro e w2 ⟨rfl, hb2⟩; clear kT'; have O2 : Hid (OwnsT w2 (w.heap.size + 1) (.slice av nv cv) L) := hO.out.kept hb2; have B2 : Hid (Below w.heap.size w w2) := hB.out.trans (hb2.mono hB.out.size); have S2 : Hid (w.heap.size + 1 ≤ w2.heap.size) := Nat.le_trans hS.out hb2.size; have K2 : Hid (Blk w2 w.heap.size #[.int .i64 0, .int .i64 0] 29) := hK.out.kept hb2 hK.out.lt)
            | (at_builtin; go_loud (refine wpList_append_tok rfl _ _ rfl (w.heap.size + 1) (.slice av nv cv) L ⟨K, F, T, X⟩ rfl O2.out.thrice (w2.heap.size + 1 + 1) rfl (fun j _ => (tok_cells w2 _ _ j).trans Array.getElem?_toList.symm) hL9.out (by have := S2.out; simp; omega) ?_; intro v4 w4 hO4 hg4; obtain ⟨bk4, ks4, bl4, sz4⟩ := tok_append O2.out S2.out hg4; have O4 : Hid (OwnsT w4 (w.heap.size + 1) v4 (L ++ [⟨K, F, T, X⟩])) := hO4; have B4 : Hid (Below w.heap.size w w4) := bl4 w B2.out; have K4 : Hid (Blk w4 w.heap.size #[.int .i64 0, .int .i64 0] 29) := ks4 _ _ K2.out; have S4 : Hid (w.heap.size + 1 ≤ w4.heap.size) := sz4; have d2 : w4.cell? ⟨w2.heap.size, 2, none⟩ = some (.int .i64 (T : Nat)) := bk4.cell 2; have e2 := bk4.fz 2; clear bk4 ks4 bl4 sz4 hO4 hg4)))
          go_roundw
          case rel => exact ⟨T, L ++ [⟨K, F, T, X⟩], hT, rfl, hL2, O4, K4, B4, S4, E1⟩
          case measure => simp [intOf]; exact hdec.out
        · have hlx := hlx1 hY
          obtain ⟨hL1, hL2⟩ := hE.out
          rw [hlx] at hL1 hL2
          rw [List.append_nil] at hL1
          simp only at hL2
          subst hL1
          have NE : Hid (YR ≠ 0) := by show _ ≠ _; rw [← hL2]; exact hY
          have kT' : Calls Tryz.prog 26 #[.slice (some ⟨x0, off, none⟩) n cap, .int .i64 (k : Nat)] wr fun e w' => (∃ k1 f1 t1 x1 y1 a1, e = .returned (.tuple #[.agg #[.int .i64 k1, .int .i64 f1, .int .i64 t1, .string x1], .agg #[.int .i64 y1, .int .i64 a1]]) ∧ Hid (y1 ≠ 0)) ∧ Below wr.heap.size wr w' := kT.mono fun e w' ⟨⟨k1, f1, t1, x1, y1, a1, h1, h2⟩, h3⟩ => by
            rcases h2.out with ⟨h, _⟩ | ⟨_, h⟩
            · exact absurd h hY
            · exact ⟨⟨k1, f1, t1, x1, y1, a1, h1, h⟩, h3⟩
          have N0 : Hid (∀ w2, Below wr.heap.size wr w2 → w.heap.size < w2.heap.size) := fun w2 h2 => by have := hS.out; have := h2.size; omega
          clear kT hL2 hlx hlx1 hlx2 hE hTK hbd e0 e2 hC hz0 hz1 hg hg' hY
          go_wp2_with (first
            | (go_at_call 25; refine (kV _).mono ?_; rintro e w5 ⟨rfl, hw5⟩; subst hw5; clear kV)
            | (go_at_call 26; refine kT'.mono ?_; rintro e w2 ⟨⟨k1, g1, t1, x1, y1, a2, rfl, hy1⟩, hb2⟩; clear kT'; have K2 := hK.out.kept hb2 hK.out.lt; have c0 : w2.cell? ⟨w.heap.size, 0, none⟩ = some (.int .i64 0) := K2.cell 0; have c1 : w2.cell? ⟨w.heap.size, 1, none⟩ = some (.int .i64 0) := K2.cell 1; have f0 := K2.fz 0; have f1 := K2.fz 1; have N2 := N0.out w2 hb2; have O2 : Hid (OwnsT w2 (w.heap.size + 1) (.slice av nv cv) L) := hO.out.kept hb2; have B2 : Hid (Below w.heap.size w w2) := hB.out.trans (hb2.mono hB.out.size); have aY : (y1 != 0) = true := by simp; exact hy1.out
               clear K2))
          go_region
          all_goals
            go_wp2
            have h4 : Below w.heap.size w ((w2.setCell ⟨w.heap.size, 0, none⟩ (.int .i64 y1)).setCell ⟨w.heap.size, 1, none⟩ (.int .i64 a2)) := by
              refine Below.setCell (Below.setCell B2.out ?_ _) ?_ _ <;> simp
            have hh : ∀ j, w.heap.size + 1 ≤ j → ((w2.setCell ⟨w.heap.size, 0, none⟩ (.int .i64 y1)).setCell ⟨w.heap.size, 1, none⟩ (.int .i64 a2)).heap[j]? = w2.heap[j]? := fun j hj => ((Kq.set w.heap.size (j + 1) _ 1 _).block j (by omega) (by omega)).trans ((Kq.set w.heap.size (j + 1) _ 0 _).block j (by omega) (by omega))
            have h5 := (O2.out.move fun j hj _ => hh j hj)
            have h6 := (alloc_below ((w2.setCell ⟨w.heap.size, 0, none⟩ (.int .i64 y1)).setCell ⟨w.heap.size, 1, none⟩ (.int .i64 a2)) (.cells #[.int .i64 k1, .int .i64 g1, .int .i64 t1, .string x1] 40))
            have h7 := alloc_below (((w2.setCell ⟨w.heap.size, 0, none⟩ (.int .i64 y1)).setCell ⟨w.heap.size, 1, none⟩ (.int .i64 a2)).alloc (.cells #[.int .i64 k1, .int .i64 g1, .int .i64 t1, .string x1] 40)) (.cells #[.int .i64 y1, .int .i64 a2] 29)
            refine bodyPost_ret (v := .tuple #[.slice av nv cv, .agg #[.int .i64 y1, .int .i64 a2]]) (by simp [results, Tryz.results16, go_sem, *]) rfl ⟨.slice av nv cv, y1, a2, rfl, ?_, ⟨fun h => absurd h hy1.out, fun h => absurd h NE.out⟩, ?_⟩
            · exact (((h5.kept h6).kept h7) : OwnsT ((((w2.setCell ⟨w.heap.size, 0, none⟩ (.int .i64 y1)).setCell ⟨w.heap.size, 1, none⟩ (.int .i64 a2)).alloc (.cells #[.int .i64 k1, .int .i64 g1, .int .i64 t1, .string x1] 40)).alloc (.cells #[.int .i64 y1, .int .i64 a2] 29)) _ _ _).move fun j _ _ => rfl
            · exact (((h4.alloc h4.size _).alloc (h4.alloc h4.size _).size _)).drew
    · have hzl : ¬ (k : Int) < (n : Int) := by omega
      obtain ⟨hL1, hL2⟩ := hE.out
      rw [List.drop_eq_nil_of_le (by rw [HL.out]; omega), lex_end (b := []) rfl] at hL1 hL2
      rw [List.append_nil] at hL1
      subst hL1
      have YE : Hid (YR = 0) := hL2.symm
      have c0 : wr.cell? ⟨w.heap.size, 0, none⟩ = some (.int .i64 0) := hK.out.cell 0
      have c1 : wr.cell? ⟨w.heap.size, 1, none⟩ = some (.int .i64 0) := hK.out.cell 1
      have f0 := hK.out.fz 0
      have f1 := hK.out.fz 1
      clear hE hL2
      go_wp2
      refine bodyPost_ret (v := .tuple #[.slice av nv cv, .agg #[.int .i64 0, .int .i64 0]]) (by simp [results, Tryz.results16, go_sem, *]) rfl ⟨.slice av nv cv, 0, ⟨0, rfl⟩, ?_, ⟨fun _ => YE.out, fun _ => rfl⟩, ?_⟩
      · have hh : ∀ j, w.heap.size + 1 ≤ j → ((wr.setCell ⟨w.heap.size, 0, none⟩ (.int .i64 0)).setCell ⟨w.heap.size, 1, none⟩ (.int .i64 0)).heap[j]? = wr.heap[j]? := fun j hj => ((Kq.set w.heap.size (j + 1) _ 1 _).block j (by omega) (by omega)).trans ((Kq.set w.heap.size (j + 1) _ 0 _).block j (by omega) (by omega))
        exact hO.out.move fun j hj _ => hh j hj
      · refine Below.setCell (Below.setCell hB.out ?_ _) ?_ _ <;> simp
end Go.Proofs.YtmlacmoembjeoaaGreatDoor
namespace Go.Proofs.YtmlacmoembjeoaaGreatDoor
open Go.RowKit
set_option linter.unusedVariables false
set_option maxHeartbeats 2000000 in
set_option maxRecDepth 100000 in
theorem vlex_many (a : Option Addr) (n cap : Nat) (w : World) (hn : 4096 < n) :
    Calls Tryz.prog 16 #[.slice a n cap] w fun e w' => e = .returned (.tuple #[.slice none 0 0, .agg #[.int .i64 8, .int .i64 0]]) ∧ Below w.heap.size w w' := by
  have a1 : decide ((4096 : Int) < (n : Int)) = true := by simp; omega
  have hA : Hid (Below w.heap.size w (w.alloc (.cells #[.int .i64 8, .int .i64 0] 29))) := alloc_below w _
  clear hn
  go_enter Tryz.func16, Tryz.ntmps16
  go_wp2
  refine bodyPost_ret (v := .tuple #[.slice none 0 0, .agg #[.int .i64 8, .int .i64 0]]) (by simp [results, Tryz.results16, go_sem, *]) rfl ⟨rfl, hA.out⟩
theorem vlex_full (a : Option Addr) (n cap : Nat) (zs : List Int) (w : World) (hl : zs.length = n) (hb : Bytes w a zs) (hc : n ≤ cap) (hm : cap ≤ 140737488351232) :
    Calls Tryz.prog 16 #[.slice a n cap] w fun e w' => ∃ v Y A, e = .returned (.tuple #[v, .agg #[.int .i64 Y, .int .i64 A]]) ∧ OwnsT w' (w.heap.size + 1) v (lexW zs).1 ∧ (Y = 0 ↔ (lexW zs).2.1 = 0) ∧ Below w.heap.size w w' := by
  unfold lexW
  by_cases h : n ≤ 4096
  · rw [if_pos (by omega)]; exact vlex_any a n cap zs w hl hb hc hm h
  · rw [if_neg (by omega)]
    exact (vlex_many a n cap w (by omega)).mono fun e w' ⟨h1, h2⟩ => ⟨_, _, _, h1, ownsT_nil _ _, by decide, h2⟩
end Go.Proofs.YtmlacmoembjeoaaGreatDoor
