/-
  A string's characters, one behind the other: jlex.stringAt.
-/
import Derived.Test.YtfkoghmbkgbgbaaDoorJsm
namespace Go.Proofs.YtfkoghmbkgbgbaaDoor
open Go.RowKit
set_option linter.unusedVariables false

/-- What stringAt answers. -/
def strV (R : List Int × Nat × Nat × Nat) : Value := .tuple #[.string (strOfNums R.1), .int .i64 (R.2.1 : Nat), .agg #[.int .i64 (R.2.2.1 : Nat), .int .i64 (R.2.2.2 : Nat)]]
set_option maxHeartbeats 8000000 in
set_option maxRecDepth 100000 in
/-- jlex.stringAt. -/
theorem strat_any (s : ByteArray) (p : Nat) (w : World) (hp : p < s.size) (hs : s.size ≤ 10000000) :
    Calls Tryd.prog 22 #[.string s, .int .i64 (p : Int)] w fun e w' => e = .returned (strV (strL ((bs s).drop (p + 1)) (p + 1) r0)) ∧ Below w.heap.size w w' := by
  obtain ⟨A, hA⟩ : ∃ A, A = p + 1 := ⟨_, rfl⟩
  rw [← hA]
  have hAs : A ≤ s.size := by omega
  have W1 : IntKind.i64.wrap ((p : Int) + 1) = ((A : Nat) : Int) := by rw [IntKind.wrap_i64]; omega
  have z0 : (0 : Int) ≤ ((A : Nat) : Int) := by omega
  have z1 : ((A : Nat) : Int) ≤ ((s.size : Nat) : Int) := by omega
  obtain ⟨t, ht⟩ : ∃ t, s.extract A s.size = t := ⟨_, rfl⟩
  have hbt : Hid (bs t = (bs s).drop A) := by show _ = _; rw [← ht, bs_from]
  have hts : t.size = s.size - A := by rw [← ht, ext_size hAs]
  have hts' : Hid (t.size + A = s.size) := by show _ = _; omega
  obtain ⟨R, hR⟩ : ∃ R, strL ((bs s).drop A) A r0 = R := ⟨_, rfl⟩
  rw [hR]
  have hR' : Hid (strL ((bs t).drop 0) (A + 0) r0 = R) := by show _ = _; rw [List.drop_zero, hbt.out, Nat.add_zero]; exact hR
  have hM := sm0 w t
  clear hA hp hR hts
  go_enter Tryd.func22, Tryd.ntmps22
  go_wp2
  go_loopw [] (fun wr => ∃ (pos : Nat) (S : RS), pos ≤ t.size ∧ Hid (SM w wr t pos S) ∧ Hid (S.q ≤ 4 ∧ InvR S ∧ S.txt.length ≤ 4 * pos) ∧ Hid (strL ((bs t).drop pos) (A + pos) S = R)) (fun wr => t.size - wr.iterPos (w.heap.size + 2))
  case atStart => exact ⟨0, r0, Nat.zero_le _, hM, ⟨r0_q, inv_r0, by decide⟩, hR'⟩
  case round =>
    clear hM hR'
    obtain ⟨pos, S, hpos, hSM, hI, hE⟩ := hrel
    by_cases hlt : pos < t.size
    · obtain ⟨T, hT⟩ : ∃ T, T = A + pos := ⟨_, rfl⟩
      have hTs : T < s.size := by have := hts'.out; omega
      have W2 : IntKind.i64.wrap (((A : Nat) : Int) + (pos : Int)) = ((T : Nat) : Int) := by rw [IntKind.wrap_i64]; omega
      have y0 : (0 : Int) ≤ ((T : Nat) : Int) := by omega
      have y1 : ((T : Nat) : Int) ≤ ((s.size : Nat) : Int) := by omega
      have hbT : (bs t).drop pos = (bs s).drop T := by rw [hbt.out, List.drop_drop, hT]
      have h0 : (bs s).drop T ≠ [] := by intro h; have := congrArg List.length h; rw [List.length_drop, bs_len] at this; simp at this; omega
      have hnx0 := fun ty => Lib.run_next_any_at (P := Tryd.prog) wr (w.heap.size + 2) t pos ty hSM.out.itr hlt
      rw [decode_rune, hbT] at hnx0
      have kB := fun w' => broken_any (s.extract T s.size) (by rw [bs_from]; exact h0) w'
      rw [bs_from] at kB
      by_cases hg : Good ((bs s).drop T)
      · have hgl := good_ne hg h0
        have hlen : ((bs s).drop T).length = s.size - T := by rw [List.length_drop, bs_len]
        rw [goodB_yes hg, if_pos rfl] at hnx0
        rw [goodB_yes hg] at kB
        have hrv : runeB ((bs s).drop T) = valB ((bs s).drop T) := by unfold runeB; rw [goodB_yes hg, if_pos rfl]
        rw [hrv] at hnx0 kB
        have hRt := good_right hg
        have hE1 : Hid (strL ((bs s).drop T) T S = R) := by show _ = _; rw [← hE.out, hbT, hT]
        have hle : pos + lenB ((bs s).drop T) ≤ t.size := by have := hts'.out; rw [hlen] at hgl; omega
        have hdr : Hid (((bs s).drop T).drop (lenB ((bs s).drop T)) = (bs t).drop (pos + lenB ((bs s).drop T)) ∧ T + lenB ((bs s).drop T) = A + (pos + lenB ((bs s).drop T))) := ⟨by rw [← hbT, List.drop_drop], by omega⟩
        have hAll : Hid ((takeR S (valB ((bs s).drop T))).q = 5 → R = ((takeR S (valB ((bs s).drop T))).txt, T + 1, 0, 0)) := fun h5 => by rw [← hE1.out, str_all h0 hg h5]
        have hWr : Hid ((takeR S (valB ((bs s).drop T))).q = 6 → R = ([], 0, 5, T)) := fun h6 => by rw [← hE1.out, str_wrong h0 hg h6]
        have hOn : Hid ((takeR S (valB ((bs s).drop T))).q ≠ 5 → (takeR S (valB ((bs s).drop T))).q ≠ 6 → strL ((bs t).drop (pos + lenB ((bs s).drop T))) (A + (pos + lenB ((bs s).drop T))) (takeR S (valB ((bs s).drop T))) = R) := fun h5 h6 => by rw [← hdr.out.1, ← hdr.out.2, ← hE1.out, str_on h0 hg h5 h6]
        have hL1 := hgl.1
        generalize valB ((bs s).drop T) = V at *
        generalize lenB ((bs s).drop T) = L at *
        have hN := hSM.out.next (pos + L)
        have kT := take_rd (w := wr.iterAt (w.heap.size + 2) t (pos + L)) V hRt hN.rd hI.out.1 hI.out.2.1 (by have := hI.out.2.2; omega)
        have hnx : ∀ ty, (Instr.next (.pointer (some ⟨w.heap.size + 2, 0, none⟩)) true ty).run Tryd.prog wr = .ok (.tuple #[.bool true, .int .i64 pos, .int .i32 (V : Nat)]) (wr.iterAt (w.heap.size + 2) t (pos + L)) := hnx0
        have hN' : Hid (SM w (wr.iterAt (w.heap.size + 2) t (pos + L)) t (pos + L) S) := hN
        have htx : Hid ((takeR S V).txt.length ≤ 4 * (pos + L)) := by have := take_txt S V; have := hI.out.2.2; show _ ≤ _; omega
        have hin : Hid ((takeR S V).q ≠ 6 → InvR (takeR S V)) := fun h => inv_take hI.out.2.1 h
        have hq4 : Hid ((takeR S V).q ≠ 5 → (takeR S V).q ≠ 6 → (takeR S V).q ≤ 4) := fun h5 h6 => take_on hI.out.1 h5 h6
        have W3 : IntKind.i64.wrap (((T : Nat) : Int) + 1) = ((T + 1 : Nat) : Int) := by rw [IntKind.wrap_i64]; omega
        have hpo := hSM.out.pos
        simp only [Bool.not_true] at kB
        clear hnx0 hbT h0 hg hgl hlen hrv hE hE1 hdr hN hI hSM hRt hT
        generalize takeR S V = S2 at *
        generalize wr.iterAt (w.heap.size + 2) t (pos + L) = wi at *
        by_cases h5 : S2.q = 5
        · have hRR := hAll.out h5
          have a5 : ((S2.q : Nat) : Int) = 5 := by omega
          have kT' : Calls Tryd.prog 40 #[.pointer (some ⟨w.heap.size + 1, 0, none⟩), .int .i32 (V : Int)] wi fun e w' => e = .returned (.tuple #[]) ∧ SM w w' t (pos + L) S2 := kT.mono fun e w' ⟨h1, h2, h3⟩ => ⟨h1, hN'.out.take h2 h3⟩
          subst hRR
          clear kT hAll hWr hOn hq4 hin htx h5
          have a5' : Hid (((S2.q : Nat) : Int) = 5) := a5
          clear a5
          go_wp2_with (first
            | (go_at_call 38; refine (kB _).mono ?_; rintro e w1 ⟨rfl, hw1⟩; subst hw1; clear kB)
            | (go_at_call 40; refine kT'.mono ?_; rintro e w2 ⟨rfl, M2⟩; clear kT'; have d0 : w2.cell? ⟨w.heap.size + 1, 0, none⟩ = some (.int .i64 5) := (by (rw [M2.rd.c0, a5'.out])); obtain ⟨p2, v2, hb2⟩ := M2.rd; have kS := bstr_any hb2; have H2 : Hid (SM w w2 t (pos + L) S2) := M2; clear M2 hb2)
            | (go_at_call 30; refine kS.mono ?_; rintro e w3 ⟨rfl, hb3⟩; clear kS; have K := H2.out.flt.kept hb3 (by omega); have c0 : w3.cell? ⟨w.heap.size, 0, none⟩ = some (.int .i64 0) := K.cell 0; have c1 : w3.cell? ⟨w.heap.size, 1, none⟩ = some (.int .i64 0) := K.cell 1; have f0 := K.fz 0; have f1 := K.fz 1; have hB : Hid (Below w.heap.size w w3) := H2.out.bel.trans (hb3.mono (by omega))))
          refine bodyPost_ret (v := .tuple #[.string (strOfNums S2.txt), .int .i64 ((T + 1 : Nat) : Int), .agg #[.int .i64 0, .int .i64 0]]) (by simp [results, Tryd.results22, go_sem, *]) rfl ⟨rfl, ?_⟩
          refine Below.setCell (Below.setCell hB.out ?_ _) ?_ _ <;> simp
        · by_cases h6 : S2.q = 6
          · have hRR := hWr.out h6
            have a6 : ((S2.q : Nat) : Int) = 6 := by omega
            have kT' : Calls Tryd.prog 40 #[.pointer (some ⟨w.heap.size + 1, 0, none⟩), .int .i32 (V : Int)] wi fun e w' => e = .returned (.tuple #[]) ∧ SM w w' t (pos + L) S2 := kT.mono fun e w' ⟨h1, h2, h3⟩ => ⟨h1, hN'.out.take h2 h3⟩
            subst hRR
            have a6' : Hid (((S2.q : Nat) : Int) = 6) := a6
            clear kT hAll hWr hOn hq4 hin htx h5 h6 a6
            go_wp2_with (first
              | (go_at_call 38; refine (kB _).mono ?_; rintro e w1 ⟨rfl, hw1⟩; subst hw1; clear kB)
              | (go_at_call 40; refine kT'.mono ?_; rintro e w2 ⟨rfl, M2⟩; clear kT'; have d0 : w2.cell? ⟨w.heap.size + 1, 0, none⟩ = some (.int .i64 6) := (by (rw [M2.rd.c0, a6'.out])); have K := M2.flt; have c0 : w2.cell? ⟨w.heap.size, 0, none⟩ = some (.int .i64 0) := K.cell 0; have c1 : w2.cell? ⟨w.heap.size, 1, none⟩ = some (.int .i64 0) := K.cell 1; have f0 := K.fz 0; have f1 := K.fz 1; have hB : Hid (Below w.heap.size w w2) := M2.bel; clear M2 K))
            refine bodyPost_ret (v := .tuple #[.string (strOfNums []), .int .i64 0, .agg #[.int .i64 5, .int .i64 (T : Nat)]]) (by simp [results, Tryd.results22, go_sem, *]; rfl) rfl ⟨rfl, ?_⟩
            refine Below.setCell (Below.setCell hB.out ?_ _) ?_ _ <;> simp
          · have hOn' : Hid _ := hOn.out h5 h6
            have hInv : Hid (S2.q ≤ 4 ∧ InvR S2 ∧ S2.txt.length ≤ 4 * (pos + L)) := ⟨hq4.out h5 h6, hin.out h6, htx.out⟩
            have a5 : (((S2.q : Nat) : Int) == 5) = false := by simp; omega
            have a6 : (((S2.q : Nat) : Int) == 6) = false := by simp; omega
            have kT' : Calls Tryd.prog 40 #[.pointer (some ⟨w.heap.size + 1, 0, none⟩), .int .i32 (V : Int)] wi fun e w' => e = .returned (.tuple #[]) ∧ SM w w' t (pos + L) S2 := kT.mono fun e w' ⟨h1, h2, h3⟩ => ⟨h1, hN'.out.take h2 h3⟩
            clear kT hAll hWr hOn hq4 hin htx h5 h6
            go_wp2_with (first
              | (go_at_call 38; refine (kB _).mono ?_; rintro e w1 ⟨rfl, hw1⟩; subst hw1; clear kB)
              | (go_at_call 40; refine kT'.mono ?_; rintro e w2 ⟨rfl, M2⟩; clear kT'; have d0 : w2.cell? ⟨w.heap.size + 1, 0, none⟩ = some (.int .i64 (S2.q : Nat)) := M2.rd.c0; have H2 : Hid (SM w w2 t (pos + L) S2) := M2; clear M2))
            go_roundw
            case rel => exact ⟨pos + L, S2, by omega, H2, hInv, hOn'⟩
            case measure => rw [H2.out.pos, hpo]; omega
      · rw [goodB_no hg, if_neg (by simp)] at hnx0
        rw [goodB_no hg] at kB
        have hrv : runeB ((bs s).drop T) = 65533 := by unfold runeB; rw [goodB_no hg, if_neg (by simp)]
        rw [hrv] at hnx0 kB
        have hRR : R = ([], 0, brkR ((bs s).drop T) T (S.q == 0)) := by rw [← hE.out, hbT, ← hT, str_bad h0 hg]
        have hnx : ∀ ty, (Instr.next (.pointer (some ⟨w.heap.size + 2, 0, none⟩)) true ty).run Tryd.prog wr = .ok (.tuple #[.bool true, .int .i64 pos, .int .i32 65533]) (wr.iterAt (w.heap.size + 2) t (pos + 1)) := hnx0
        have hN := hSM.out.next (pos + 1)
        have kF := fun f w' => brkf_any s T f w' hTs hs hg
        have d0 : (wr.iterAt (w.heap.size + 2) t (pos + 1)).cell? ⟨w.heap.size + 1, 0, none⟩ = some (.int .i64 (S.q : Nat)) := hN.rd.c0
        have hN' : Hid (SM w (wr.iterAt (w.heap.size + 2) t (pos + 1)) t (pos + 1) S) := hN
        have a0 : (((S.q : Nat) : Int) == 0) = (S.q == 0) := by rw [Bool.eq_iff_iff]; simp
        simp only [Bool.not_false] at kB
        have kF' := kF (S.q == 0)
        clear kF
        obtain ⟨F, hF⟩ : ∃ F, brkR ((bs s).drop T) T (S.q == 0) = F := ⟨_, rfl⟩
        rw [hF] at hRR kF'
        clear hF
        subst hRR
        have kB' : ∀ (w' : World), Calls Tryd.prog 38 #[.string (s.extract T s.size), .int .i32 65533] w' fun e w'' => e = .returned (.bool true) ∧ w'' = w' := kB
        clear hnx0 hbT h0 hg hrv hE hN hI hSM hT kB
        generalize wr.iterAt (w.heap.size + 2) t (pos + 1) = wi at *
        generalize (S.q == 0) = Fq at *
        go_wp2_with (first
          | (go_at_call 38; refine (kB' _).mono ?_; rintro e w1 ⟨rfl, hw1⟩; subst hw1; clear kB')
          | (go_at_call 39; refine (kF' _).mono ?_; rintro e w2 ⟨rfl, hb2⟩; have K := hN'.out.flt.kept hb2 hN'.out.flt.lt; have c0 : w2.cell? ⟨w.heap.size, 0, none⟩ = some (.int .i64 0) := K.cell 0; have c1 : w2.cell? ⟨w.heap.size, 1, none⟩ = some (.int .i64 0) := K.cell 1; have f0 := K.fz 0; have f1 := K.fz 1; have hB : Hid (Below w.heap.size w w2) := hN'.out.bel.trans (hb2.mono hN'.out.bel.size); clear K))
        refine bodyPost_ret (v := .tuple #[.string (strOfNums []), .int .i64 0, .agg #[.int .i64 (F.1 : Nat), .int .i64 (F.2 : Nat)]]) (by simp [results, Tryd.results22, go_sem, *]; rfl) rfl ⟨rfl, ?_⟩
        refine Below.setCell (Below.setCell hB.out ?_ _) ?_ _ <;> simp
    · obtain rfl : pos = t.size := by omega
      have hnx : ∀ ty, (Instr.next (.pointer (some ⟨w.heap.size + 2, 0, none⟩)) true ty).run Tryd.prog wr = _ := fun ty => Lib.run_next_end_at wr (w.heap.size + 2) t t.size ty hSM.out.itr (by omega)
      have hRR : R = ([], 0, 3, s.size) := by
        rw [← hE.out, List.drop_of_length_le (by rw [bs_len]; omega), str_nil, Nat.add_comm, hts'.out]
      subst hRR
      have K := hSM.out.flt
      have c0 : wr.cell? ⟨w.heap.size, 0, none⟩ = some (.int .i64 0) := K.cell 0
      have c1 : wr.cell? ⟨w.heap.size, 1, none⟩ = some (.int .i64 0) := K.cell 1
      have f0 := K.fz 0
      have f1 := K.fz 1
      have hB : Hid (Below w.heap.size w wr) := hSM.out.bel
      clear hE hSM hI K
      go_wp2
      refine bodyPost_ret (v := .tuple #[.string (strOfNums []), .int .i64 0, .agg #[.int .i64 3, .int .i64 (s.size : Nat)]]) (by simp [results, Tryd.results22, go_sem, *]; rfl) rfl ⟨rfl, ?_⟩
      refine Below.setCell (Below.setCell hB.out ?_ _) ?_ _ <;> simp
end Go.Proofs.YtfkoghmbkgbgbaaDoor
