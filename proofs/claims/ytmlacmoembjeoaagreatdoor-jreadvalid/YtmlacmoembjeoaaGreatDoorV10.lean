/-
  A string's characters, one behind the other: jlex.stringAt.
  A number is made: dec.Make.
  What was read of a text, in memory: the method take, the method exp.
  The exponent of what was read.
-/
import Derived.Test.YtmlacmoembjeoaaGreatDoorV9
import Derived.Test.YtmlacmoembjeoaaGreatDoorV4
import Derived.Lib.MinMax
import Derived.BigQuiet
namespace Go.Proofs.YtmlacmoembjeoaaGreatDoor
open Go.RowKit
set_option linter.unusedVariables false

/-- What stringAt answers. -/
def strV (R : List Int × Nat × Nat × Nat) : Value := .tuple #[.string (strOfNums R.1), .int .i64 (R.2.1 : Nat), .agg #[.int .i64 (R.2.2.1 : Nat), .int .i64 (R.2.2.2 : Nat)]]
set_option maxHeartbeats 8000000 in
set_option maxRecDepth 100000 in
/-- jlex.stringAt. -/
theorem strat_any (s : ByteArray) (p : Nat) (w : World) (hp : p < s.size) (hs : s.size ≤ 10000000) :
    Calls Tryz.prog 72 #[.string s, .int .i64 (p : Int)] w fun e w' => e = .returned (strV (strL ((bs s).drop (p + 1)) (p + 1) r0)) ∧ Below w.heap.size w w' := by
  obtain ⟨A, hA⟩ : ∃ A, A = p + 1 := ⟨_, rfl⟩
  rw [← hA]
  have hAs : A ≤ s.size := by omega
  have W1 : IntKind.i64.wrap ((p : Int) + 1) = ((A : Nat) : Int) := by rw [IntKind.wrap_i64]; omega
  have z0 : (0 : Int) ≤ ((A : Nat) : Int) := by omega
  have z1 : ((A : Nat) : Int) ≤ ((s.size : Nat) : Int) := by omega
  obtain ⟨t, ht⟩ : ∃ t, s.extract A s.size = t := ⟨_, rfl⟩
  have hbt : Hid (bs t = (bs s).drop A) := by show _ = _; rw [← ht, bs_from]
  have hts : t.size = s.size - A := by rw [← ht, ext_size hAs]
  have hts' : Hid (t.size + A = s.size) := by show _ = _; omega
  obtain ⟨R, hR⟩ : ∃ R, strL ((bs s).drop A) A r0 = R := ⟨_, rfl⟩
  rw [hR]
  have hR' : Hid (strL ((bs t).drop 0) (A + 0) r0 = R) := by show _ = _; rw [List.drop_zero, hbt.out, Nat.add_zero]; exact hR
  have hM := sm0 w t
  clear hA hp hR hts
  go_enter Tryz.func72, Tryz.ntmps72
  go_wp2
  go_loopw [] (fun wr => ∃ (pos : Nat) (S : RS), pos ≤ t.size ∧ Hid (SM w wr t pos S) ∧ Hid (S.q ≤ 4 ∧ InvR S ∧ S.txt.length ≤ 4 * pos) ∧ Hid (strL ((bs t).drop pos) (A + pos) S = R)) (fun wr => t.size - wr.iterPos (w.heap.size + 2))
  case atStart => exact ⟨0, r0, Nat.zero_le _, hM, ⟨r0_q, inv_r0, by decide⟩, hR'⟩
  case round =>
    clear hM hR'
    obtain ⟨pos, S, hpos, hSM, hI, hE⟩ := hrel
    by_cases hlt : pos < t.size
    · obtain ⟨T, hT⟩ : ∃ T, T = A + pos := ⟨_, rfl⟩
      have hTs : T < s.size := by have := hts'.out; omega
      have W2 : IntKind.i64.wrap (((A : Nat) : Int) + (pos : Int)) = ((T : Nat) : Int) := by rw [IntKind.wrap_i64]; omega
      have y0 : (0 : Int) ≤ ((T : Nat) : Int) := by omega
      have y1 : ((T : Nat) : Int) ≤ ((s.size : Nat) : Int) := by omega
      have hbT : (bs t).drop pos = (bs s).drop T := by rw [hbt.out, List.drop_drop, hT]
      have h0 : (bs s).drop T ≠ [] := by intro h; have := congrArg List.length h; rw [List.length_drop, bs_len] at this; simp at this; omega
      have hnx0 := fun ty => Lib.run_next_any_at (P := Tryz.prog) wr (w.heap.size + 2) t pos ty hSM.out.itr hlt
      rw [decode_rune, hbT] at hnx0
      have kB := fun w' => broken_any (s.extract T s.size) (by rw [bs_from]; exact h0) w'
      rw [bs_from] at kB
      by_cases hg : Good ((bs s).drop T)
      · have hgl := good_ne hg h0
        have hlen : ((bs s).drop T).length = s.size - T := by rw [List.length_drop, bs_len]
        rw [goodB_yes hg, if_pos rfl] at hnx0
        rw [goodB_yes hg] at kB
        have hrv : runeB ((bs s).drop T) = valB ((bs s).drop T) := by unfold runeB; rw [goodB_yes hg, if_pos rfl]
        rw [hrv] at hnx0 kB
        have hRt := good_right hg
        have hE1 : Hid (strL ((bs s).drop T) T S = R) := by show _ = _; rw [← hE.out, hbT, hT]
        have hle : pos + lenB ((bs s).drop T) ≤ t.size := by have := hts'.out; rw [hlen] at hgl; omega
        have hdr : Hid (((bs s).drop T).drop (lenB ((bs s).drop T)) = (bs t).drop (pos + lenB ((bs s).drop T)) ∧ T + lenB ((bs s).drop T) = A + (pos + lenB ((bs s).drop T))) := ⟨by rw [← hbT, List.drop_drop], by omega⟩
        have hAll : Hid ((takeR S (valB ((bs s).drop T))).q = 5 → R = ((takeR S (valB ((bs s).drop T))).txt, T + 1, 0, 0)) := fun h5 => by rw [← hE1.out, str_all h0 hg h5]
        have hWr : Hid ((takeR S (valB ((bs s).drop T))).q = 6 → R = ([], 0, 5, T)) := fun h6 => by rw [← hE1.out, str_wrong h0 hg h6]
        have hOn : Hid ((takeR S (valB ((bs s).drop T))).q ≠ 5 → (takeR S (valB ((bs s).drop T))).q ≠ 6 → strL ((bs t).drop (pos + lenB ((bs s).drop T))) (A + (pos + lenB ((bs s).drop T))) (takeR S (valB ((bs s).drop T))) = R) := fun h5 h6 => by rw [← hdr.out.1, ← hdr.out.2, ← hE1.out, str_on h0 hg h5 h6]
        have hL1 := hgl.1
        generalize valB ((bs s).drop T) = V at *
        generalize lenB ((bs s).drop T) = L at *
        have hN := hSM.out.next (pos + L)
        have kT := take_rd (w := wr.iterAt (w.heap.size + 2) t (pos + L)) V hRt hN.rd hI.out.1 hI.out.2.1 (by have := hI.out.2.2; omega)
        have hnx : ∀ ty, (Instr.next (.pointer (some ⟨w.heap.size + 2, 0, none⟩)) true ty).run Tryz.prog wr = .ok (.tuple #[.bool true, .int .i64 pos, .int .i32 (V : Nat)]) (wr.iterAt (w.heap.size + 2) t (pos + L)) := hnx0
        have hN' : Hid (SM w (wr.iterAt (w.heap.size + 2) t (pos + L)) t (pos + L) S) := hN
        have htx : Hid ((takeR S V).txt.length ≤ 4 * (pos + L)) := by have := take_txt S V; have := hI.out.2.2; show _ ≤ _; omega
        have hin : Hid ((takeR S V).q ≠ 6 → InvR (takeR S V)) := fun h => inv_take hI.out.2.1 h
        have hq4 : Hid ((takeR S V).q ≠ 5 → (takeR S V).q ≠ 6 → (takeR S V).q ≤ 4) := fun h5 h6 => take_on hI.out.1 h5 h6
        have W3 : IntKind.i64.wrap (((T : Nat) : Int) + 1) = ((T + 1 : Nat) : Int) := by rw [IntKind.wrap_i64]; omega
        have hpo := hSM.out.pos
        simp only [Bool.not_true] at kB
        clear hnx0 hbT h0 hg hgl hlen hrv hE hE1 hdr hN hI hSM hRt hT
        generalize takeR S V = S2 at *
        generalize wr.iterAt (w.heap.size + 2) t (pos + L) = wi at *
        by_cases h5 : S2.q = 5
        · have hRR := hAll.out h5
          have a5 : ((S2.q : Nat) : Int) = 5 := by omega
          have kT' : Calls Tryz.prog 91 #[.pointer (some ⟨w.heap.size + 1, 0, none⟩), .int .i32 (V : Int)] wi fun e w' => e = .returned (.tuple #[]) ∧ SM w w' t (pos + L) S2 := kT.mono fun e w' ⟨h1, h2, h3⟩ => ⟨h1, hN'.out.take h2 h3⟩
          subst hRR
          clear kT hAll hWr hOn hq4 hin htx h5
          have a5' : Hid (((S2.q : Nat) : Int) = 5) := a5
          clear a5
          go_wp2_with (first
            | (go_at_call 89; refine (kB _).mono ?_; rintro e w1 ⟨rfl, hw1⟩; subst hw1; clear kB)
            | (go_at_call 91; refine kT'.mono ?_; rintro e w2 ⟨rfl, M2⟩; clear kT'; have d0 : w2.cell? ⟨w.heap.size + 1, 0, none⟩ = some (.int .i64 5) := (by (rw [M2.rd.c0, a5'.out])); obtain ⟨p2, v2, hb2⟩ := M2.rd; have kS := bstr_any hb2; have H2 : Hid (SM w w2 t (pos + L) S2) := M2; clear M2 hb2)
            | (go_at_call 92; refine kS.mono ?_; rintro e w3 ⟨rfl, hb3⟩; clear kS; have K := H2.out.flt.kept hb3 (by omega); have c0 : w3.cell? ⟨w.heap.size, 0, none⟩ = some (.int .i64 0) := K.cell 0; have c1 : w3.cell? ⟨w.heap.size, 1, none⟩ = some (.int .i64 0) := K.cell 1; have f0 := K.fz 0; have f1 := K.fz 1; have hB : Hid (Below w.heap.size w w3) := H2.out.bel.trans (hb3.mono (by omega))))
          refine bodyPost_ret (v := .tuple #[.string (strOfNums S2.txt), .int .i64 ((T + 1 : Nat) : Int), .agg #[.int .i64 0, .int .i64 0]]) (by simp [results, Tryz.results72, go_sem, *]) rfl ⟨rfl, ?_⟩
          refine Below.setCell (Below.setCell hB.out ?_ _) ?_ _ <;> simp
        · by_cases h6 : S2.q = 6
          · have hRR := hWr.out h6
            have a6 : ((S2.q : Nat) : Int) = 6 := by omega
            have kT' : Calls Tryz.prog 91 #[.pointer (some ⟨w.heap.size + 1, 0, none⟩), .int .i32 (V : Int)] wi fun e w' => e = .returned (.tuple #[]) ∧ SM w w' t (pos + L) S2 := kT.mono fun e w' ⟨h1, h2, h3⟩ => ⟨h1, hN'.out.take h2 h3⟩
            subst hRR
            have a6' : Hid (((S2.q : Nat) : Int) = 6) := a6
            clear kT hAll hWr hOn hq4 hin htx h5 h6 a6
            go_wp2_with (first
              | (go_at_call 89; refine (kB _).mono ?_; rintro e w1 ⟨rfl, hw1⟩; subst hw1; clear kB)
              | (go_at_call 91; refine kT'.mono ?_; rintro e w2 ⟨rfl, M2⟩; clear kT'; have d0 : w2.cell? ⟨w.heap.size + 1, 0, none⟩ = some (.int .i64 6) := (by (rw [M2.rd.c0, a6'.out])); have K := M2.flt; have c0 : w2.cell? ⟨w.heap.size, 0, none⟩ = some (.int .i64 0) := K.cell 0; have c1 : w2.cell? ⟨w.heap.size, 1, none⟩ = some (.int .i64 0) := K.cell 1; have f0 := K.fz 0; have f1 := K.fz 1; have hB : Hid (Below w.heap.size w w2) := M2.bel; clear M2 K))
            refine bodyPost_ret (v := .tuple #[.string (strOfNums []), .int .i64 0, .agg #[.int .i64 5, .int .i64 (T : Nat)]]) (by simp [results, Tryz.results72, go_sem, *]; rfl) rfl ⟨rfl, ?_⟩
            refine Below.setCell (Below.setCell hB.out ?_ _) ?_ _ <;> simp
          · have hOn' : Hid _ := hOn.out h5 h6
            have hInv : Hid (S2.q ≤ 4 ∧ InvR S2 ∧ S2.txt.length ≤ 4 * (pos + L)) := ⟨hq4.out h5 h6, hin.out h6, htx.out⟩
            have a5 : (((S2.q : Nat) : Int) == 5) = false := by simp; omega
            have a6 : (((S2.q : Nat) : Int) == 6) = false := by simp; omega
            have kT' : Calls Tryz.prog 91 #[.pointer (some ⟨w.heap.size + 1, 0, none⟩), .int .i32 (V : Int)] wi fun e w' => e = .returned (.tuple #[]) ∧ SM w w' t (pos + L) S2 := kT.mono fun e w' ⟨h1, h2, h3⟩ => ⟨h1, hN'.out.take h2 h3⟩
            clear kT hAll hWr hOn hq4 hin htx h5 h6
            go_wp2_with (first
              | (go_at_call 89; refine (kB _).mono ?_; rintro e w1 ⟨rfl, hw1⟩; subst hw1; clear kB)
              | (go_at_call 91; refine kT'.mono ?_; rintro e w2 ⟨rfl, M2⟩; clear kT'; have d0 : w2.cell? ⟨w.heap.size + 1, 0, none⟩ = some (.int .i64 (S2.q : Nat)) := M2.rd.c0; have H2 : Hid (SM w w2 t (pos + L) S2) := M2; clear M2))
            go_roundw
            case rel => exact ⟨pos + L, S2, by omega, H2, hInv, hOn'⟩
            case measure => rw [H2.out.pos, hpo]; omega
      · rw [goodB_no hg, if_neg (by simp)] at hnx0
        rw [goodB_no hg] at kB
        have hrv : runeB ((bs s).drop T) = 65533 := by unfold runeB; rw [goodB_no hg, if_neg (by simp)]
        rw [hrv] at hnx0 kB
        have hRR : R = ([], 0, brkR ((bs s).drop T) T (S.q == 0)) := by rw [← hE.out, hbT, ← hT, str_bad h0 hg]
        have hnx : ∀ ty, (Instr.next (.pointer (some ⟨w.heap.size + 2, 0, none⟩)) true ty).run Tryz.prog wr = .ok (.tuple #[.bool true, .int .i64 pos, .int .i32 65533]) (wr.iterAt (w.heap.size + 2) t (pos + 1)) := hnx0
        have hN := hSM.out.next (pos + 1)
        have kF := fun f w' => brkf_any s T f w' hTs hs hg
        have d0 : (wr.iterAt (w.heap.size + 2) t (pos + 1)).cell? ⟨w.heap.size + 1, 0, none⟩ = some (.int .i64 (S.q : Nat)) := hN.rd.c0
        have hN' : Hid (SM w (wr.iterAt (w.heap.size + 2) t (pos + 1)) t (pos + 1) S) := hN
        have a0 : (((S.q : Nat) : Int) == 0) = (S.q == 0) := by rw [Bool.eq_iff_iff]; simp
        simp only [Bool.not_false] at kB
        have kF' := kF (S.q == 0)
        clear kF
        obtain ⟨F, hF⟩ : ∃ F, brkR ((bs s).drop T) T (S.q == 0) = F := ⟨_, rfl⟩
        rw [hF] at hRR kF'
        clear hF
        subst hRR
        have kB' : ∀ (w' : World), Calls Tryz.prog 89 #[.string (s.extract T s.size), .int .i32 65533] w' fun e w'' => e = .returned (.bool true) ∧ w'' = w' := kB
        clear hnx0 hbT h0 hg hrv hE hN hI hSM hT kB
        generalize wr.iterAt (w.heap.size + 2) t (pos + 1) = wi at *
        generalize (S.q == 0) = Fq at *
        go_wp2_with (first
          | (go_at_call 89; refine (kB' _).mono ?_; rintro e w1 ⟨rfl, hw1⟩; subst hw1; clear kB')
          | (go_at_call 90; refine (kF' _).mono ?_; rintro e w2 ⟨rfl, hb2⟩; have K := hN'.out.flt.kept hb2 hN'.out.flt.lt; have c0 : w2.cell? ⟨w.heap.size, 0, none⟩ = some (.int .i64 0) := K.cell 0; have c1 : w2.cell? ⟨w.heap.size, 1, none⟩ = some (.int .i64 0) := K.cell 1; have f0 := K.fz 0; have f1 := K.fz 1; have hB : Hid (Below w.heap.size w w2) := hN'.out.bel.trans (hb2.mono hN'.out.bel.size); clear K))
        refine bodyPost_ret (v := .tuple #[.string (strOfNums []), .int .i64 0, .agg #[.int .i64 (F.1 : Nat), .int .i64 (F.2 : Nat)]]) (by simp [results, Tryz.results72, go_sem, *]; rfl) rfl ⟨rfl, ?_⟩
        refine Below.setCell (Below.setCell hB.out ?_ _) ?_ _ <;> simp
    · obtain rfl : pos = t.size := by omega
      have hnx : ∀ ty, (Instr.next (.pointer (some ⟨w.heap.size + 2, 0, none⟩)) true ty).run Tryz.prog wr = _ := fun ty => Lib.run_next_end_at wr (w.heap.size + 2) t t.size ty hSM.out.itr (by omega)
      have hRR : R = ([], 0, 3, s.size) := by
        rw [← hE.out, List.drop_of_length_le (by rw [bs_len]; omega), str_nil, Nat.add_comm, hts'.out]
      subst hRR
      have K := hSM.out.flt
      have c0 : wr.cell? ⟨w.heap.size, 0, none⟩ = some (.int .i64 0) := K.cell 0
      have c1 : wr.cell? ⟨w.heap.size, 1, none⟩ = some (.int .i64 0) := K.cell 1
      have f0 := K.fz 0
      have f1 := K.fz 1
      have hB : Hid (Below w.heap.size w wr) := hSM.out.bel
      clear hE hSM hI K
      go_wp2
      refine bodyPost_ret (v := .tuple #[.string (strOfNums []), .int .i64 0, .agg #[.int .i64 3, .int .i64 (s.size : Nat)]]) (by simp [results, Tryz.results72, go_sem, *]; rfl) rfl ⟨rfl, ?_⟩
      refine Below.setCell (Below.setCell hB.out ?_ _) ?_ _ <;> simp
end Go.Proofs.YtmlacmoembjeoaaGreatDoor
namespace Go.Proofs.YtmlacmoembjeoaaGreatDoor
open Go.RowKit

theorem allD_stop {l : List Int} {k : Nat} (hk : k < l.length) (h : isD (l.getD k 0) = false) : allD l = false := by
  cases h1 : allD l with
  | false => rfl
  | true =>
    have h2 := (allD_iff l).1 h1
    rw [List.getD_eq_getElem?_getD, List.getElem?_eq_getElem hk] at h
    have h3 := h2 _ (List.getElem_mem hk)
    rw [Option.getD_some] at h
    rw [isD_iff.2 h3] at h
    cases h
theorem alld_any (s : ByteArray) (hsz : s.size ≤ 4096) (w : World) : Calls Tryz.prog 128 #[.string s] w fun e w' => e = .returned (.bool (allD (bs s))) ∧ w' = w := by
  have kD := isdigit_any
  have hall : Hid (∀ k, k < s.size → isD ((bs s).getD k 0) = false → allD (bs s) = false) := fun k hk h => allD_stop (by rw [bs_len]; exact hk) h
  have hend : Hid ((∀ c ∈ (bs s).take s.size, 48 ≤ c ∧ c ≤ 57) → allD (bs s) = true) := fun h => by
    rw [List.take_of_length_le (by rw [bs_len]; exact Nat.le_refl _)] at h
    exact (allD_iff _).2 h
  generalize allD (bs s) = R at *
  go_enter Tryz.func128, Tryz.ntmps128
  go_wp2
  go_loop [6] (fun v => ∃ k : Nat, k ≤ s.size ∧ v = .int .i64 k ∧ Hid (∀ c ∈ (bs s).take k, 48 ≤ c ∧ c ≤ 57)) (fun v => s.size - (intOf v).toNat)
  case atStart => exact ⟨0, Nat.zero_le _, rfl, (by intro c hc; simp at hc)⟩
  case round =>
    obtain ⟨k, hk, rfl, hd⟩ := hrel
    by_cases hlt : k < s.size
    · have bk := bs_at s hlt
      have hN := hall.out k hlt
      have k1 := kD (((s[k]'hlt).toNat : Nat) : Int) w
      rw [← bk] at k1
      cases hA : isD ((bs s).getD k 0) with
      | false =>
        obtain rfl := hN hA
        rw [hA, bk] at k1
        clear bk hA hN
        go_wp2_with (go_at_call 143; refine k1.mono ?_; rintro e w1 ⟨rfl, hw⟩; obtain rfl : w = w1 := hw.symm)
        go_ret
        exact ⟨rfl, rfl⟩
      | true =>
        have hC : Hid (∀ c ∈ (bs s).take (k + 1), 48 ≤ c ∧ c ≤ 57) := take_digs hd.out (by rw [bs_len]; exact hlt) (isD_iff.1 hA)
        rw [hA, bk] at k1
        clear bk hA hN
        go_wp2_with (go_at_call 143; refine k1.mono ?_; rintro e w1 ⟨rfl, hw⟩; obtain rfl : w = w1 := hw.symm)
        go_round
        case rel => exact ⟨k + 1, by omega, by go_num, hC⟩
        case measure => simp [intOf]; omega
    · obtain rfl : k = s.size := by omega
      obtain rfl := hend.out hd.out
      go_wp2
      go_ret
      exact ⟨rfl, rfl⟩
theorem bs_nil {t : ByteArray} (h : bs t = []) : t = noS := by
  apply bs_inj
  rw [h]
  rfl
set_option maxHeartbeats 1000000 in
theorem make_any (n : Bool) (s : ByteArray) (x : Int) (w : World) : Calls Tryz.prog 109 #[.bool n, .string s, .int .i64 x] w fun e w' => e = .returned (.tuple #[.agg #[.bool (makeA n s x).1.1, .string (makeA n s x).1.2.1, .int .i64 (makeA n s x).1.2.2], .int .i64 (makeA n s x).2]) ∧ Below w.heap.size w w' := by
  by_cases h0 : s.size = 0
  · have hR : makeA n s x = (noN, 1) := by unfold makeA; rw [if_pos (.inl h0)]
    rw [hR]
    obtain rfl := empty_size h0
    clear h0 hR
    unfold noN noS
    go_enter Tryz.func109, Tryz.ntmps109
    go_wp2
    refine bodyPost_ret (v := .tuple #[.agg #[.bool false, .string ⟨#[]⟩, .int .i64 0], .int .i64 1]) (by simp [results, Tryz.results109, go_sem]) rfl ⟨rfl, ?_⟩
    exact alloc_below _ _
  have he := not_empty (s := s) (by omega)
  by_cases h1 : 4096 < s.size
  · have hR : makeA n s x = (noN, 1) := by unfold makeA; rw [if_pos (.inr (.inl h1))]
    rw [hR]
    have d1 : decide (4096 < ((s.size : Nat) : Int)) = true := by simp; omega
    clear h0 h1 hR
    unfold noN noS
    go_enter Tryz.func109, Tryz.ntmps109
    go_wp2
    refine bodyPost_ret (v := .tuple #[.agg #[.bool false, .string ⟨#[]⟩, .int .i64 0], .int .i64 1]) (by simp [results, Tryz.results109, go_sem]) rfl ⟨rfl, ?_⟩
    exact alloc_below _ _
  have d1 : decide (4096 < ((s.size : Nat) : Int)) = false := by simp; omega
  have kA := alld_any s (by omega)
  cases hA : allD (bs s) with
  | false =>
    have hR : makeA n s x = (noN, 1) := by unfold makeA; rw [if_pos (.inr (.inr hA))]
    rw [hR]
    rw [hA] at kA
    clear h0 h1 hR hA
    unfold noN noS
    go_enter Tryz.func109, Tryz.ntmps109
    go_wp2_with (go_at_call 128; refine (kA _).mono ?_; rintro e w1 ⟨rfl, hw⟩; rw [hw]; clear hw)
    refine bodyPost_ret (v := .tuple #[.agg #[.bool false, .string ⟨#[]⟩, .int .i64 0], .int .i64 1]) (by simp [results, Tryz.results109, go_sem]) rfl ⟨rfl, ?_⟩
    exact alloc_below _ _
  | true =>
    rw [hA] at kA
    have hM : makeA n s x = if longL (bs s) = [] then (zeroN, 0)
        else if 800 < (shortL (longL (bs s))).length ∨ x < -2000 - (((longL (bs s)).length - (shortL (longL (bs s))).length : Nat) : Int) ∨ 2000 - (((longL (bs s)).length - (shortL (longL (bs s))).length : Nat) : Int) < x then (noN, 11)
        else ((n, strOfNums (shortL (longL (bs s))), x + (((longL (bs s)).length - (shortL (longL (bs s))).length : Nat) : Int)), 0) := by
      unfold makeA
      rw [if_neg (by rintro (h | h | h) <;> simp_all)]
    rw [hM]
    have kL := triml_any s
    have hl := long_len (bs s)
    have hsl := short_len (longL (bs s))
    rw [bs_len] at hl
    have hd : Digs (shortL (longL (bs s))) := fun c hc => (allD_iff _).1 hA c (mem_short hc)
    clear hM hA
    obtain ⟨L, hLe⟩ : ∃ L, longL (bs s) = L := ⟨_, rfl⟩
    rw [hLe] at kL hl hsl hd ⊢
    by_cases hL : L = []
    · rw [if_pos hL]
      subst hL
      clear hLe
      have kL' : ∀ w, Calls Tryz.prog 129 #[.string s, .string zS] w fun e w' => e = .returned (.string ⟨#[]⟩) ∧ w' = w := fun w => by
        refine (kL w).mono ?_
        rintro e w' ⟨⟨t, rfl, ht⟩, hw⟩
        obtain rfl := bs_nil ht
        exact ⟨rfl, hw⟩
      have kZ := zero_any
      clear kL hl hsl hd h0 h1
      unfold zeroN zS at *
      have hr := row_new w false ⟨#[]⟩ 0
      go_enter Tryz.func109, Tryz.ntmps109
      go_wp2_with (first
        | (go_at_call 128; refine (kA _).mono ?_; rintro e w1 ⟨rfl, hw⟩; rw [hw]; clear hw)
        | (go_at_call 129; refine (kL' _).mono ?_; rintro e w1 ⟨rfl, hw⟩; rw [hw]; clear hw)
        | (go_at_call 130; refine (kZ _).mono ?_; rintro e w1 ⟨rfl, hb⟩; obtain ⟨c0, c1, c2⟩ := (hr.kept hb).at; have f0 := (hr.kept hb).fz 0; have f1 := (hr.kept hb).fz 1; have f2 := (hr.kept hb).fz 2))
      refine bodyPost_ret (v := .tuple #[.agg #[.bool false, .string ⟨#[48]⟩, .int .i64 0], .int .i64 0]) (by simp [results, Tryz.results109, go_sem, *]) rfl ⟨rfl, ?_⟩
      exact (((box_below hb).setCell (Nat.le_refl _) _).setCell (Nat.le_refl _) _).setCell (Nat.le_refl _) _
    rw [if_neg hL]
    obtain ⟨T, hT, hT0, hTl⟩ : ∃ T, bs T = L ∧ 0 < T.size ∧ T.size = L.length := by
      obtain ⟨T, hT⟩ : ∃ T, bs T = L := ⟨⟨(Lib.trimLeftB s.data.toList 48).toArray⟩, by rw [bs_trimL]; exact hLe⟩
      have h2 := bs_len T
      rw [hT] at h2
      exact ⟨T, hT, by rw [← h2]; exact List.length_pos_iff.2 hL, h2.symm⟩
    have kL' : ∀ w, Calls Tryz.prog 129 #[.string s, .string zS] w fun e w' => e = .returned (.string T) ∧ w' = w := fun w => by
      refine (kL w).mono ?_
      rintro e w' ⟨⟨t, rfl, ht⟩, hw⟩
      obtain rfl := bs_inj (ht.trans hT.symm)
      exact ⟨rfl, hw⟩
    obtain ⟨U, hU, hUl⟩ : ∃ U, bs U = shortL L ∧ U.size = (shortL L).length := by
      have h1 := bs_trimR T
      rw [hT] at h1
      have h2 := bs_len ⟨(Lib.trimRightB T.data.toList 48).toArray⟩
      rw [h1] at h2
      exact ⟨_, h1, h2.symm⟩
    have kR : ∀ w, Calls Tryz.prog 131 #[.string T, .string zS] w fun e w' => e = .returned (.string U) ∧ w' = w := fun w => by
      refine (trimr_any T w (by omega)).mono ?_
      rintro e w' ⟨⟨t, rfl, ht⟩, hw⟩
      rw [hT] at ht
      obtain rfl := bs_inj (ht.trans hU.symm)
      exact ⟨rfl, hw⟩
    have hTe := not_empty hT0
    have eU : strOfNums (shortL L) = U := by rw [← hU, str_bs]
    rw [eU, ← hTl, ← hUl]
    rw [← hTl] at hl
    rw [← hTl, ← hUl] at hsl
    have kC := clone_any U (hs := by omega)
    have w1 : IntKind.i64.wrap ((T.size : Int) - (U.size : Int)) = ((T.size - U.size : Nat) : Int) := by rw [IntKind.wrap_i64] <;> omega
    obtain ⟨G, hG⟩ : ∃ k, T.size - U.size = k := ⟨_, rfl⟩
    have hG4 : G ≤ 4096 := by omega
    rw [hG] at w1 ⊢
    have w2 : IntKind.i64.wrap (-2000 - (G : Int)) = -2000 - (G : Int) := by rw [IntKind.wrap_i64] <;> omega
    have w3 : IntKind.i64.wrap (2000 - (G : Int)) = 2000 - (G : Int) := by rw [IntKind.wrap_i64] <;> omega
    clear hG hsl hl h0 h1 hT hU eU kL hLe hL hd hTl hUl hT0
    have hr := row_new w false ⟨#[]⟩ 0
    unfold zS at *
    by_cases g1 : 800 < U.size
    · rw [if_pos (.inl g1)]
      have e1 : decide (800 < ((U.size : Nat) : Int)) = true := by simp; omega
      clear g1 hG4 w2 w3
      unfold noN noS
      go_enter Tryz.func109, Tryz.ntmps109
      go_wp2_with (first
        | (go_at_call 128; refine (kA _).mono ?_; rintro e w1 ⟨rfl, hw⟩; rw [hw]; clear hw)
        | (go_at_call 129; refine (kL' _).mono ?_; rintro e w1 ⟨rfl, hw⟩; rw [hw]; clear hw)
        | (go_at_call 131; refine (kR _).mono ?_; rintro e w1 ⟨rfl, hw⟩; rw [hw]; clear hw)
        | (go_at_call 93; refine (kC _).mono ?_; rintro e w1 ⟨rfl, hb⟩; obtain ⟨c0, c1, c2⟩ := (hr.kept hb).at; have f0 := (hr.kept hb).fz 0; have f1 := (hr.kept hb).fz 1; have f2 := (hr.kept hb).fz 2))
      refine bodyPost_ret (v := .tuple #[.agg #[.bool false, .string ⟨#[]⟩, .int .i64 0], .int .i64 11]) (by simp [results, Tryz.results109, go_sem, *]) rfl ⟨rfl, ?_⟩
      exact alloc_below _ _
    have e1 : decide (800 < ((U.size : Nat) : Int)) = false := by simp; omega
    by_cases g2 : x < -2000 - (G : Int)
    · rw [if_pos (.inr (.inl g2))]
      have e2 : decide (x < -2000 - (G : Int)) = true := by simpa using g2
      clear g1 g2 hG4
      unfold noN noS
      go_enter Tryz.func109, Tryz.ntmps109
      go_wp2_with (first
        | (go_at_call 128; refine (kA _).mono ?_; rintro e w1 ⟨rfl, hw⟩; rw [hw]; clear hw)
        | (go_at_call 129; refine (kL' _).mono ?_; rintro e w1 ⟨rfl, hw⟩; rw [hw]; clear hw)
        | (go_at_call 131; refine (kR _).mono ?_; rintro e w1 ⟨rfl, hw⟩; rw [hw]; clear hw)
        | (go_at_call 93; refine (kC _).mono ?_; rintro e w1 ⟨rfl, hb⟩; obtain ⟨c0, c1, c2⟩ := (hr.kept hb).at; have f0 := (hr.kept hb).fz 0; have f1 := (hr.kept hb).fz 1; have f2 := (hr.kept hb).fz 2))
      refine bodyPost_ret (v := .tuple #[.agg #[.bool false, .string ⟨#[]⟩, .int .i64 0], .int .i64 11]) (by simp [results, Tryz.results109, go_sem, *]) rfl ⟨rfl, ?_⟩
      exact alloc_below _ _
    have e2 : decide (x < -2000 - (G : Int)) = false := by simpa using g2
    by_cases g3 : 2000 - (G : Int) < x
    · rw [if_pos (.inr (.inr g3))]
      have e3 : decide (2000 - (G : Int) < x) = true := by simpa using g3
      clear g1 g2 g3 hG4
      unfold noN noS
      go_enter Tryz.func109, Tryz.ntmps109
      go_wp2_with (first
        | (go_at_call 128; refine (kA _).mono ?_; rintro e w1 ⟨rfl, hw⟩; rw [hw]; clear hw)
        | (go_at_call 129; refine (kL' _).mono ?_; rintro e w1 ⟨rfl, hw⟩; rw [hw]; clear hw)
        | (go_at_call 131; refine (kR _).mono ?_; rintro e w1 ⟨rfl, hw⟩; rw [hw]; clear hw)
        | (go_at_call 93; refine (kC _).mono ?_; rintro e w1 ⟨rfl, hb⟩; obtain ⟨c0, c1, c2⟩ := (hr.kept hb).at; have f0 := (hr.kept hb).fz 0; have f1 := (hr.kept hb).fz 1; have f2 := (hr.kept hb).fz 2))
      refine bodyPost_ret (v := .tuple #[.agg #[.bool false, .string ⟨#[]⟩, .int .i64 0], .int .i64 11]) (by simp [results, Tryz.results109, go_sem, *]) rfl ⟨rfl, ?_⟩
      exact alloc_below _ _
    have e3 : decide (2000 - (G : Int) < x) = false := by simpa using g3
    rw [if_neg (by rintro (h | h | h) <;> contradiction)]
    obtain ⟨Z, hZ⟩ : ∃ Z, x + (G : Int) = Z := ⟨_, rfl⟩
    have w4 : IntKind.i64.wrap (x + (G : Int)) = Z := by rw [IntKind.wrap_i64] <;> omega
    dsimp only
    rw [hZ]
    clear g1 g2 g3 hG4 hZ
    go_enter Tryz.func109, Tryz.ntmps109
    go_wp2_with (first
      | (go_at_call 128; refine (kA _).mono ?_; rintro e w1 ⟨rfl, hw⟩; rw [hw]; clear hw)
      | (go_at_call 129; refine (kL' _).mono ?_; rintro e w1 ⟨rfl, hw⟩; rw [hw]; clear hw)
      | (go_at_call 131; refine (kR _).mono ?_; rintro e w1 ⟨rfl, hw⟩; rw [hw]; clear hw)
      | (go_at_call 93; refine (kC _).mono ?_; rintro e w1 ⟨rfl, hb⟩; obtain ⟨c0, c1, c2⟩ := (hr.kept hb).at; have f0 := (hr.kept hb).fz 0; have f1 := (hr.kept hb).fz 1; have f2 := (hr.kept hb).fz 2))
    refine bodyPost_ret (v := .tuple #[.agg #[.bool n, .string U, .int .i64 Z], .int .i64 0]) (by simp [results, Tryz.results109, go_sem, *]) rfl ⟨rfl, ?_⟩
    exact (((box_below hb).setCell (Nat.le_refl _) _).setCell (Nat.le_refl _) _).setCell (Nat.le_refl _) _
end Go.Proofs.YtmlacmoembjeoaaGreatDoor
namespace Go.Proofs.YtmlacmoembjeoaaGreatDoor
open Go.RowKit

theorem but_setCell {a w : World} {g : Nat} (h : a.grownBy w (some g)) (j : Nat) (u : Value) : a.grownBy (w.setCell ⟨g, j, none⟩ u) (some g) :=
  ⟨h.os, h.tape, h.output, Nat.le_trans h.size (by simp [World.setCell]), fun k hk hne => (Below.heap_setCell w ⟨g, j, none⟩ u k (fun e => hne (by rw [e]))).trans (h.block k hk hne)⟩
theorem own_above {w : World} {base : Nat} {v : Value} {zs : List Int} (h : OwnsB w base v zs) : ∀ k, v.ownBlock = some k → base ≤ k ∧ k < w.heap.size := fun k hk => World.ownsRow.lt h.1 k hk
theorem OwnsB.other {w w' : World} {base : Nat} {v : Value} {zs : List Int} (h : OwnsB w base v zs) {r : Option Nat} (hg : w.grownBy w' r) (hr : ∀ k, r = some k → k < base) : OwnsB w' base v zs := by
  refine ⟨World.ownsRow.kept h.1 hg ?_, h.2⟩
  cases hv : v.ownBlock with
  | none => exact .inl rfl
  | some k =>
    refine .inr ?_
    intro e
    have h1 := own_above h k hv
    have h2 := hr k e.symm
    omega
/-- What was read, in block g. -/
def PAt (w : World) (g : Nat) (n : Bool) (v : Value) (k : Nat) (l : Bool) (m : Nat) : Prop := w.heap[g]? = some (.cells #[.bool n, v, .int .i64 k, .bool l, .int .i64 m] 129 (0, 0))
theorem PAt.lt {w : World} {g : Nat} {n : Bool} {v : Value} {k : Nat} {l : Bool} {m : Nat} (h : PAt w g n v k l m) : g < w.heap.size := (Array.getElem?_eq_some_iff.1 h).1
theorem PAt.c0 {w : World} {g : Nat} {n : Bool} {v : Value} {k : Nat} {l : Bool} {m : Nat} (h : PAt w g n v k l m) : w.cell? ⟨g, 0, none⟩ = some (.bool n) := by rw [cell_row h]; rfl
theorem PAt.c1 {w : World} {g : Nat} {n : Bool} {v : Value} {k : Nat} {l : Bool} {m : Nat} (h : PAt w g n v k l m) : w.cell? ⟨g, 1, none⟩ = some v := by rw [cell_row h]; rfl
theorem PAt.c2 {w : World} {g : Nat} {n : Bool} {v : Value} {k : Nat} {l : Bool} {m : Nat} (h : PAt w g n v k l m) : w.cell? ⟨g, 2, none⟩ = some (.int .i64 k) := by rw [cell_row h]; rfl
theorem PAt.c3 {w : World} {g : Nat} {n : Bool} {v : Value} {k : Nat} {l : Bool} {m : Nat} (h : PAt w g n v k l m) : w.cell? ⟨g, 3, none⟩ = some (.bool l) := by rw [cell_row h]; rfl
theorem PAt.c4 {w : World} {g : Nat} {n : Bool} {v : Value} {k : Nat} {l : Bool} {m : Nat} (h : PAt w g n v k l m) : w.cell? ⟨g, 4, none⟩ = some (.int .i64 m) := by rw [cell_row h]; rfl
theorem PAt.fz {w : World} {g : Nat} {n : Bool} {v : Value} {k : Nat} {l : Bool} {m : Nat} (h : PAt w g n v k l m) (j : Nat) : w.frozen? ⟨g, j, none⟩ = false := by
  unfold PAt at h
  simp [World.frozen?, h]
theorem PAt.kept {w w' : World} {B g : Nat} {n : Bool} {v : Value} {k : Nat} {l : Bool} {m : Nat} (h : PAt w g n v k l m) (hb : Below B w w') (hg : g < B) : PAt w' g n v k l m := by
  unfold PAt
  rw [hb.block g hg]
  exact h
theorem PAt.set0 {w : World} {g : Nat} {n : Bool} {v : Value} {k : Nat} {l : Bool} {m : Nat} (h : PAt w g n v k l m) (n' : Bool) : PAt (w.setCell ⟨g, 0, none⟩ (.bool n')) g n' v k l m := by
  unfold PAt at *
  rw [heap_setCell_same _ g 0 _ 129 _ h]
  rfl
theorem PAt.set1 {w : World} {g : Nat} {n : Bool} {v : Value} {k : Nat} {l : Bool} {m : Nat} (h : PAt w g n v k l m) (v' : Value) : PAt (w.setCell ⟨g, 1, none⟩ v') g n v' k l m := by
  unfold PAt at *
  rw [heap_setCell_same _ g 1 _ 129 _ h]
  rfl
theorem PAt.set2 {w : World} {g : Nat} {n : Bool} {v : Value} {k : Nat} {l : Bool} {m : Nat} (h : PAt w g n v k l m) (k' : Nat) : PAt (w.setCell ⟨g, 2, none⟩ (.int .i64 k')) g n v k' l m := by
  unfold PAt at *
  rw [heap_setCell_same _ g 2 _ 129 _ h]
  rfl
theorem PAt.set3 {w : World} {g : Nat} {n : Bool} {v : Value} {k : Nat} {l : Bool} {m : Nat} (h : PAt w g n v k l m) (l' : Bool) : PAt (w.setCell ⟨g, 3, none⟩ (.bool l')) g n v k l' m := by
  unfold PAt at *
  rw [heap_setCell_same _ g 3 _ 129 _ h]
  rfl
theorem PAt.set4 {w : World} {g : Nat} {n : Bool} {v : Value} {k : Nat} {l : Bool} {m : Nat} (h : PAt w g n v k l m) (m' : Nat) : PAt (w.setCell ⟨g, 4, none⟩ (.int .i64 m')) g n v k l m' := by
  unfold PAt at *
  rw [heap_setCell_same _ g 4 _ 129 _ h]
  rfl
theorem own_set {w : World} {g : Nat} {v : Value} {zs : List Int} (h : OwnsB w (g + 1) v zs) (j : Nat) (u : Value) : OwnsB (w.setCell ⟨g, j, none⟩ u) (g + 1) v zs :=
  h.other (but_setCell (World.grownBy.refl _ _) j u) (fun k hk => by cases hk; omega)
theorem bset {a w : World} {g : Nat} (h : Below g a w) (j : Nat) (u : Value) : Below g a (w.setCell ⟨g, j, none⟩ u) := h.setCell (p := ⟨g, j, none⟩) (Nat.le_refl _) u
/-- What was read, with its digits. -/
def Prt (w : World) (g : Nat) (p : Pd) : Prop := ∃ v, PAt w g p.1 v p.2.2.1 p.2.2.2.1 p.2.2.2.2 ∧ OwnsB w (g + 1) v p.2.1
set_option maxHeartbeats 1000000 in
theorem take_some (g : Nat) (p : Pd) (q : Nat) (c : Int) (w : World) (h : Prt w g p) (hk : p.2.1.length ≤ 4096 ∧ p.2.2.1 ≤ 4096 ∧ p.2.2.2.2 ≤ 10000) (hc : 0 ≤ c ∧ c < 256) (hd : q = 8 → 48 ≤ c) (hq : q ≤ 8) :
    Calls Tryz.prog 107 #[.pointer (some ⟨g, 0, none⟩), .int .i64 ((q : Nat) : Int), .int .u8 c] w fun e w' => (∃ u, e = .returned u) ∧ Prt w' g (takeS p q c) ∧ Below g w w' := by
  obtain ⟨n, ds, k, l, m⟩ := p
  obtain ⟨v, hp, ho⟩ := h
  dsimp only at hp ho hk
  have hP : Hid (PAt w g n v k l m) := hp
  have hO : Hid (OwnsB w (g + 1) v ds) := ho
  have hlt := hp.lt
  have c0 := hp.c0
  have c1 := hp.c1
  have c2 := hp.c2
  have c3 := hp.c3
  have c4 := hp.c4
  have f0 := hp.fz 0
  have f1 := hp.fz 1
  have f2 := hp.fz 2
  have f3 := hp.fz 3
  have f4 := hp.fz 4
  clear hp ho
  match q, hq with
  | 0, _ | 4, _ | 6, _ =>
    go_enter Tryz.func107, Tryz.ntmps107
    go_wp2
    refine bodyPost_end (results_none rfl _ _ _) rfl ?_
    exact ⟨⟨_, rfl⟩, ⟨v, hP.out, hO.out⟩, Below.refl _ _⟩
  | 1, _ =>
    go_enter Tryz.func107, Tryz.ntmps107
    go_wp2
    refine bodyPost_end (results_none rfl _ _ _) rfl ?_
    exact ⟨⟨_, rfl⟩, ⟨v, hP.out.set0 true, own_set hO.out 0 _⟩, bset (Below.refl _ _) _ _⟩
  | 7, _ =>
    go_enter Tryz.func107, Tryz.ntmps107
    go_wp2
    refine bodyPost_end (results_none rfl _ _ _) rfl ?_
    exact ⟨⟨_, rfl⟩, ⟨v, hP.out.set3 _, own_set hO.out 3 _⟩, bset (Below.refl _ _) _ _⟩
  | 8, _ =>
    obtain ⟨d, rfl⟩ : ∃ d : Nat, c = ((48 + d : Nat) : Int) := ⟨(c - 48).toNat, by have := hd rfl; omega⟩
    have hd4 : d < 208 := by omega
    have hm : m ≤ 10000 := hk.2.2
    have e1 : IntKind.u8.wrap (((48 + d : Nat) : Int) - 48) = ((d : Nat) : Int) := by
      simp [IntKind.wrap, IntKind.bits, IntKind.signed]; omega
    have e2 : IntKind.i64.wrap ((m : Int) * 10) = ((m * 10 : Nat) : Int) := by rw [IntKind.wrap_i64] <;> omega
    have e3 : IntKind.i64.wrap (((m * 10 : Nat) : Int) + ((d : Nat) : Int)) = ((m * 10 + d : Nat) : Int) := by rw [IntKind.wrap_i64] <;> omega
    have e6 : IntKind.i64.wrap ((d : Nat) : Int) = ((d : Nat) : Int) := by rw [IntKind.wrap_i64] <;> omega
    have e4 : min (((m * 10 + d : Nat) : Int)) 10000 = ((min (m * 10 + d) 10000 : Nat) : Int) := by omega
    have e5 : takeS (n, ds, k, l, m) 8 ((48 + d : Nat) : Int) = (n, ds, k, l, min (m * 10 + d) 10000) := by
      have h6 : (((48 + d : Nat) : Int) - 48).toNat = d := by omega
      simp [takeS]
      omega
    rw [e5]
    clear e5 hk hd hc hm hd4
    generalize ((48 + d : Nat) : Int) = C at *
    generalize hM : min (m * 10 + d) 10000 = M at *
    clear hM
    generalize ((m * 10 + d : Nat) : Int) = X at *
    generalize ((m * 10 : Nat) : Int) = Y at *
    go_enter Tryz.func107, Tryz.ntmps107
    go_wp2
    refine bodyPost_end (results_none rfl _ _ _) rfl ?_
    exact ⟨⟨_, rfl⟩, ⟨v, hP.out.set4 M, own_set hO.out 4 _⟩, bset (Below.refl _ _) _ _⟩
  | 2, _ | 3, _ =>
    have hB1 : Hid (Bytes (w.alloc (.cells #[.int .u8 c] 5)) (some ⟨w.heap.size, 0, none⟩) [c]) := one_byte w c hc.1 hc.2
    have hlen : ds.length ≤ 4096 := hk.1
    clear hk hd hc
    go_enter Tryz.func107, Tryz.ntmps107
    go_wp2_with (at_builtin; refine wpList_append_bytes rfl _ (.tmp 21) rfl (g + 1) v ds [c] rfl (hO.out.alloc _) (some ⟨w.heap.size, 0, none⟩) 1 1 rfl rfl (by simp) hB1.out (by simp; omega) (by simp; omega) ?_; intro v4 w4 ho4' hg4; have hb4 : Hid (Below (g + 1) w w4) := grown_below ((Below.refl (g + 1) w).alloc (by omega) _) (hO.out.alloc _) hg4 (by simp; omega); have hP4 : Hid (PAt w4 g n v k l m) := hP.out.kept hb4.out (by omega); have cc1 := hP4.out.c1; have ff1 := hP4.out.fz 1; have ho4 : Hid (OwnsB w4 (g + 1) v4 (ds ++ [c])) := ho4'; clear ho4'; obtain ⟨a4, n4, cp4, rfl, -, -, -, -, -⟩ := ho4.out.form)
    refine bodyPost_end (results_none rfl _ _ _) rfl ?_
    exact ⟨⟨_, rfl⟩, ⟨_, hP4.out.set1 _, own_set ho4.out 1 _⟩, bset (hb4.out.mono (by omega)) _ _⟩
  | 5, _ =>
    have hB1 : Hid (Bytes (w.alloc (.cells #[.int .u8 c] 5)) (some ⟨w.heap.size, 0, none⟩) [c]) := one_byte w c hc.1 hc.2
    have hlen : ds.length ≤ 4096 := hk.1
    have e2 : IntKind.i64.wrap ((k : Int) + 1) = ((k + 1 : Nat) : Int) := by have := hk.2.1; rw [IntKind.wrap_i64] <;> omega
    have e5 : takeS (n, ds, k, l, m) 5 c = (n, ds ++ [c], k + 1, l, m) := by simp [takeS]
    rw [e5]
    clear hk hd hc e5
    generalize k + 1 = K at *
    go_enter Tryz.func107, Tryz.ntmps107
    go_wp2_with (at_builtin; refine wpList_append_bytes rfl _ (.tmp 33) rfl (g + 1) v ds [c] rfl (hO.out.alloc _) (some ⟨w.heap.size, 0, none⟩) 1 1 rfl rfl (by simp) hB1.out (by simp; omega) (by simp; omega) ?_; intro v4 w4 ho4' hg4; have hb4 : Hid (Below (g + 1) w w4) := grown_below ((Below.refl (g + 1) w).alloc (by omega) _) (hO.out.alloc _) hg4 (by simp; omega); have hP4 : Hid (PAt w4 g n v k l m) := hP.out.kept hb4.out (by omega); have cc1 := hP4.out.c1; have ff1 := hP4.out.fz 1; have cc2 := hP4.out.c2; have ff2 := hP4.out.fz 2; have ho4 : Hid (OwnsB w4 (g + 1) v4 (ds ++ [c])) := ho4'; clear ho4'; obtain ⟨a4, n4, cp4, rfl, -, -, -, -, -⟩ := ho4.out.form)
    refine bodyPost_end (results_none rfl _ _ _) rfl ?_
    exact ⟨⟨_, rfl⟩, ⟨_, (hP4.out.set1 _).set2 K, own_set (own_set ho4.out 1 _) 2 _⟩, bset (bset (hb4.out.mono (by omega)) _ _) _ _⟩
end Go.Proofs.YtmlacmoembjeoaaGreatDoor
namespace Go.Proofs.YtmlacmoembjeoaaGreatDoor
open Go.RowKit

set_option maxHeartbeats 1000000 in
theorem exp_any (g : Nat) (n : Bool) (v : Value) (k : Nat) (l : Bool) (m : Nat) (ds : List Int) (w : World) (hp : PAt w g n v k l m) (hk : k ≤ 4096) (hm : m ≤ 10000) :
    Calls Tryz.prog 110 #[.pointer (some ⟨g, 0, none⟩)] w fun e w' => e = .returned (.int .i64 (expS (n, ds, k, l, m))) ∧ Below w.heap.size w w' := by
  have c2 := hp.c2
  have c3 := hp.c3
  have c4 := hp.c4
  clear hp
  cases l with
  | true =>
    have e1 : expS (n, ds, k, true, m) = -((m : Nat) : Int) - ((k : Nat) : Int) := by unfold expS; rw [if_pos rfl]
    have e2 : IntKind.i64.wrap (-((m : Nat) : Int)) = -((m : Nat) : Int) := by rw [IntKind.wrap_i64] <;> omega
    have e3 : IntKind.i64.wrap (-((m : Nat) : Int) - ((k : Nat) : Int)) = -((m : Nat) : Int) - ((k : Nat) : Int) := by rw [IntKind.wrap_i64] <;> omega
    rw [e1]
    clear e1 hk hm
    go_enter Tryz.func110, Tryz.ntmps110
    go_wp2
    go_quiet (fail)
    go_wp2
    go_ret
    exact ⟨rfl, ⟨rfl, rfl, rfl, Nat.le_refl _, fun _ _ => rfl⟩⟩
  | false =>
    have e1 : expS (n, ds, k, false, m) = ((m : Nat) : Int) - ((k : Nat) : Int) := by unfold expS; rw [if_neg (by simp)]
    have e3 : IntKind.i64.wrap (((m : Nat) : Int) - ((k : Nat) : Int)) = ((m : Nat) : Int) - ((k : Nat) : Int) := by rw [IntKind.wrap_i64] <;> omega
    rw [e1]
    clear e1 hk hm
    go_enter Tryz.func110, Tryz.ntmps110
    go_wp2
    go_quiet (fail)
    go_wp2
    go_ret
    exact ⟨rfl, ⟨rfl, rfl, rfl, Nat.le_refl _, fun _ _ => rfl⟩⟩
end Go.Proofs.YtmlacmoembjeoaaGreatDoor
