/-
  Parts of the proof.
-/
import Derived.Test.YtmlacmoembjeoaaGreatDoorV14
import Derived.Test.YtmlacmoembjeoaaGreatDoorV10
import Derived.Test.YtmlacmoembjeoaaGreatDoorV42
import Derived.BigQuiet
import Derived.Lib.MinMax
namespace Go.Proofs.YtmlacmoembjeoaaGreatDoor
open Go.RowKit

theorem long_skip {l : List Int} {j : Nat} (hj : j < l.length) (h : l.getD j 0 = 48) : longL (l.drop j) = longL (l.drop (j + 1)) := by
  rw [List.getD_eq_getElem?_getD, List.getElem?_eq_getElem hj, Option.getD_some] at h
  rw [List.drop_eq_getElem_cons hj, h]
  rfl
theorem long_stop {l : List Int} {j : Nat} (hj : j < l.length) (h : l.getD j 0 ≠ 48) : longL (l.drop j) = l.drop j := by
  rw [List.getD_eq_getElem?_getD, List.getElem?_eq_getElem hj, Option.getD_some] at h
  rw [List.drop_eq_getElem_cons hj]
  unfold longL
  rw [List.dropWhile_cons_of_neg (by simpa using h)]
theorem short_snoc (q : List Int) (c : Int) : shortL (q ++ [c]) = if c = 48 then shortL q else q ++ [c] := by
  unfold shortL
  rw [List.reverse_append, List.reverse_singleton, List.singleton_append]
  by_cases h : c = 48
  · rw [if_pos h, List.dropWhile_cons_of_pos (by simp [h])]
  · rw [if_neg h, List.dropWhile_cons_of_neg (by simp [h]), List.reverse_cons, List.reverse_reverse]
def midL (l : List Int) (j t : Nat) : List Int := (l.drop j).take (t - j)
theorem mid_snoc {l : List Int} {j u : Nat} (hj : j ≤ u) (hu : u < l.length) : midL l j (u + 1) = midL l j u ++ [l.getD u 0] := by
  unfold midL
  have e : u + 1 - j = (u - j) + 1 := by omega
  have h1 : u - j < (l.drop j).length := by rw [List.length_drop]; omega
  rw [e, List.take_succ_eq_append_getElem h1, List.getElem_drop, List.getD_eq_getElem?_getD, List.getElem?_eq_getElem hu, Option.getD_some]
  congr 2
  congr 1
  omega
theorem mid_whole (l : List Int) (j : Nat) : midL l j l.length = l.drop j := by
  unfold midL
  rw [List.take_of_length_le (by rw [List.length_drop]; exact Nat.le_refl _)]
theorem bs_extract (s : ByteArray) (j t : Nat) : bs (s.extract j t) = midL (bs s) j t := by
  have e : s.extract j t = ⟨((s.data.toList.drop j).take (t - j)).toArray⟩ := Lib.extract_eq s j t
  rw [e, bs_mk]
  unfold numsU midL bs
  rw [List.map_take, List.map_drop]
theorem make_far {n : Bool} {s : ByteArray} {x : Int} (h1 : 0 < s.size) (h2 : s.size ≤ 4096) (hA : allD (bs s) = true) (hL : longL (bs s) ≠ []) (hx : x < -100000 ∨ 100000 < x) : makeA n s x = (noN, 11) := by
  have h3 := long_len (bs s)
  rw [bs_len] at h3
  unfold makeA
  rw [if_neg (by rintro (h | h | h) <;> first | omega | (rw [hA] at h; cases h)), if_neg hL, if_pos (by omega)]
theorem make_near {n : Bool} {s U : ByteArray} {x : Int} {k : Nat} (h1 : 0 < s.size) (h2 : s.size ≤ 4096) (hA : allD (bs s) = true) (hL : longL (bs s) ≠ []) (hU : bs U = shortL (longL (bs s))) (hk : (longL (bs s)).length - (shortL (longL (bs s))).length = k) :
    makeA n s x = if rtN n U (x + (k : Int)) = true then ((n, U, x + (k : Int)), 0) else (noN, 11) := by
  unfold makeA
  rw [if_neg (by rintro (h | h | h) <;> first | omega | (rw [hA] at h; cases h)), if_neg hL, hk]
  have hn := short_nil hL
  have hh := short_head hL
  have hl := short_last hn
  have hd : Digs (shortL (longL (bs s))) := fun c hc => (allD_iff _).1 hA c (mem_short hc)
  have hz : shortL (longL (bs s)) ≠ [48] := fun h4 => by rw [h4] at hh; exact hh rfl
  have eU : strOfNums (shortL (longL (bs s))) = U := by rw [← hU, str_bs]
  by_cases hb : 800 < (shortL (longL (bs s))).length ∨ x < -2000 - (k : Int) ∨ 2000 - (k : Int) < x
  · rw [if_pos hb, if_neg]
    intro h
    have h3 := (rtN_iff _ _ _).1 h
    rw [hU] at h3
    have h4 := h3.1.2
    have h5 := h3.2.2 hz
    omega
  · rw [if_neg hb, eU, if_pos]
    rw [rtN_iff, hU]
    exact ⟨⟨⟨hn, hd, fun h4 => absurd h4 hh⟩, by omega⟩, fun h4 => absurd h4 hz, fun _ => ⟨hl, by omega, by omega⟩⟩
theorem two_rows (w : World) (n : Bool) (U : ByteArray) (Z : Int) : NRow ((w.alloc (.cells #[.bool false, .string ⟨#[]⟩, .int .i64 0] 84)).alloc (.cells #[.bool n, .string U, .int .i64 Z] 84)) w.heap.size false ⟨#[]⟩ 0 ∧ NmAt ((w.alloc (.cells #[.bool false, .string ⟨#[]⟩, .int .i64 0] 84)).alloc (.cells #[.bool n, .string U, .int .i64 Z] 84)) (w.heap.size + 1) n U Z := by
  refine ⟨(row_new w false ⟨#[]⟩ 0).kept (alloc_below _ _), ?_⟩
  have h := box_at (w.alloc (.cells #[.bool false, .string ⟨#[]⟩, .int .i64 0] 84)) n U Z 84
  have e : (w.alloc (.cells #[.bool false, .string ⟨#[]⟩, .int .i64 0] 84)).heap.size = w.heap.size + 1 := by simp
  rw [e] at h
  exact h
set_option maxRecDepth 100000 in
set_option maxHeartbeats 2000000 in
theorem ymake_any (n : Bool) (s : ByteArray) (x : Int) (w : World) : Calls Tryz.prog 101 #[.bool n, .string s, .int .i64 x] w fun e w' => e = .returned (.tuple #[.agg #[.bool (makeA n s x).1.1, .string (makeA n s x).1.2.1, .int .i64 (makeA n s x).1.2.2], .int .i64 (makeA n s x).2]) ∧ Below w.heap.size w w' := by
  by_cases h0 : s.size = 0
  · have hR : makeA n s x = (noN, 1) := by unfold makeA; rw [if_pos (.inl h0)]
    rw [hR]
    obtain rfl := empty_size h0
    clear h0 hR
    unfold noN noS
    go_enter Tryz.func101, Tryz.ntmps101
    go_wp2
    refine bodyPost_ret (v := .tuple #[.agg #[.bool false, .string ⟨#[]⟩, .int .i64 0], .int .i64 1]) (by simp [results, Tryz.results101, go_sem]) rfl ⟨rfl, ?_⟩
    exact alloc_below _ _
  have he := not_empty (s := s) (by omega)
  by_cases h1 : 4096 < s.size
  · have hR : makeA n s x = (noN, 1) := by unfold makeA; rw [if_pos (.inr (.inl h1))]
    rw [hR]
    have d1 : decide (4096 < ((s.size : Nat) : Int)) = true := by simp; omega
    clear h0 h1 hR
    unfold noN noS
    go_enter Tryz.func101, Tryz.ntmps101
    go_wp2
    refine bodyPost_ret (v := .tuple #[.agg #[.bool false, .string ⟨#[]⟩, .int .i64 0], .int .i64 1]) (by simp [results, Tryz.results101, go_sem]) rfl ⟨rfl, ?_⟩
    exact alloc_below _ _
  have d1 : decide (4096 < ((s.size : Nat) : Int)) = false := by simp; omega
  have hsz : s.size ≤ 4096 := by omega
  have hp : 0 < s.size := by omega
  have kD := ydigit_any
  clear h0 h1
  cases hA : allD (bs s) with
  | false =>
    have hR : makeA n s x = (noN, 1) := by unfold makeA; rw [if_pos (.inr (.inr hA))]
    rw [hR]
    have hend : Hid (¬ ∀ c ∈ (bs s).take s.size, 48 ≤ c ∧ c ≤ 57) := fun h => by
      rw [List.take_of_length_le (by rw [bs_len]; exact Nat.le_refl _)] at h
      rw [(allD_iff _).2 h] at hA
      cases hA
    clear hR hA
    unfold noN noS
    go_enter Tryz.func101, Tryz.ntmps101
    go_wp2
    go_loop [8] (fun v => ∃ k : Nat, k ≤ s.size ∧ v = .int .i64 k ∧ Hid (∀ c ∈ (bs s).take k, 48 ≤ c ∧ c ≤ 57)) (fun v => s.size - (intOf v).toNat)
    case atStart => exact ⟨0, Nat.zero_le _, rfl, (by intro c hc; simp at hc)⟩
    case round =>
      obtain ⟨k, hk, rfl, hd⟩ := hrel
      by_cases hlt : k < s.size
      · have bk := bs_at s hlt
        have k1 := kD (((s[k]'hlt).toNat : Nat) : Int)
        rw [← bk] at k1
        cases hB : isD ((bs s).getD k 0) with
        | false =>
          rw [hB, bk] at k1
          clear bk hB
          go_wp2_with (go_at_call 123; refine (k1 _).mono ?_; rintro e w1 ⟨rfl, hw⟩; rw [hw]; clear hw)
          refine bodyPost_ret (v := .tuple #[.agg #[.bool false, .string ⟨#[]⟩, .int .i64 0], .int .i64 1]) (by simp [results, Tryz.results101, go_sem]) rfl ⟨rfl, ?_⟩
          exact alloc_below _ _
        | true =>
          have hC : Hid (∀ c ∈ (bs s).take (k + 1), 48 ≤ c ∧ c ≤ 57) := take_digs hd.out (by rw [bs_len]; exact hlt) (isD_iff.1 hB)
          rw [hB, bk] at k1
          clear bk hB
          go_wp2_with (go_at_call 123; refine (k1 _).mono ?_; rintro e w1 ⟨rfl, hw⟩; rw [hw]; clear hw)
          go_round
          case rel => exact ⟨k + 1, by omega, by go_num, hC⟩
          case measure => simp [intOf]; omega
      · obtain rfl : k = s.size := by omega
        exact absurd hd.out hend.out
  | true =>
    have hlen := bs_len s
    have hdig : Hid (∀ k, k < s.size → isD ((bs s).getD k 0) = true) := fun k hk => by
      have h := (allD_iff _).1 hA
      rw [isD_iff, List.getD_eq_getElem?_getD, List.getElem?_eq_getElem (by rw [hlen]; exact hk)]
      exact h _ (List.getElem_mem _)
    have hzero : Hid (longL (bs s) = [] → makeA n s x = (zeroN, 0)) := fun h => by
      unfold makeA
      rw [if_neg (by rintro (h | h | h) <;> first | omega | (rw [hA] at h; cases h)), if_pos h]
    have hfar : Hid (longL (bs s) ≠ [] → x < -100000 ∨ 100000 < x → makeA n s x = (noN, 11)) := fun h1 h2 => make_far hp hsz hA h1 h2
    have hnear : Hid (∀ (U : ByteArray) (k : Nat), longL (bs s) ≠ [] → bs U = shortL (longL (bs s)) → (longL (bs s)).length - (shortL (longL (bs s))).length = k → makeA n s x = if rtN n U (x + (k : Int)) = true then ((n, U, x + (k : Int)), 0) else (noN, 11)) := fun U k h1 h2 h3 => make_near hp hsz hA h1 h2 h3
    have kY := yright_any
    clear hA
    generalize makeA n s x = P at *
    go_enter Tryz.func101, Tryz.ntmps101
    go_wp2
    go_loop [8] (fun v => ∃ k : Nat, k ≤ s.size ∧ v = .int .i64 k) (fun v => s.size - (intOf v).toNat)
    case atStart => exact ⟨0, Nat.zero_le _, rfl⟩
    case round =>
      obtain ⟨k, hk, rfl⟩ := hrel
      by_cases hlt : k < s.size
      · have bk := bs_at s hlt
        have k1 := kD (((s[k]'hlt).toNat : Nat) : Int)
        rw [← bk, hdig.out k hlt, bk] at k1
        clear bk
        go_wp2_with (go_at_call 123; refine (k1 _).mono ?_; rintro e w1 ⟨rfl, hw⟩; rw [hw]; clear hw)
        go_round
        case rel => exact ⟨k + 1, by omega, by go_num⟩
        case measure => simp [intOf]; omega
      · obtain rfl : k = s.size := by omega
        clear hlt kD hdig
        go_wp2
        go_loop [9] (fun v => ∃ j : Nat, j ≤ s.size ∧ v = .int .i64 j ∧ Hid (longL (bs s) = longL ((bs s).drop j))) (fun v => s.size - (intOf v).toNat)
        case atStart => exact ⟨0, Nat.zero_le _, rfl, (by show _ = _; rw [List.drop_zero])⟩
        case round =>
          obtain ⟨j, hj, rfl, hL⟩ := hrel
          by_cases hlt : j < s.size
          · have bk := bs_at s hlt
            by_cases h48 : (bs s).getD j 0 = 48
            · have hL' : Hid (longL (bs s) = longL ((bs s).drop (j + 1))) := hL.out.trans (long_skip (by rw [hlen]; exact hlt) h48)
              have e0 : ((((s[j]'hlt).toNat : Nat) : Int) == 48) = true := by rw [← bk, h48]; rfl
              clear bk h48 hL
              go_wp2
              go_round
              case rel => exact ⟨j + 1, by omega, by go_num, hL'⟩
              case measure => simp [intOf]; omega
            · have hL2 := hL.out.trans (long_stop (by rw [hlen]; exact hlt) h48)
              have e0 : ((((s[j]'hlt).toNat : Nat) : Int) == 48) = false := by rw [← bk]; simpa using h48
              have hne : longL (bs s) ≠ [] := by
                rw [hL2]
                intro h
                have := congrArg List.length h
                rw [List.length_drop, hlen, List.length_nil] at this
                omega
              have hshort : Hid (shortL (longL (bs s)) = shortL (midL (bs s) j s.size)) := by
                show _ = _
                rw [hL2, ← hlen, mid_whole]
              have hll : Hid ((longL (bs s)).length = s.size - j) := by show _ = _; rw [hL2, List.length_drop, hlen]
              have h48' : Hid ((bs s).getD j 0 ≠ 48) := h48
              have hne' : Hid (longL (bs s) ≠ []) := hne
              have ej : (((j : Nat) : Int) == ((s.size : Nat) : Int)) = false := by simp; omega
              clear bk h48 hL hL2 hne hzero
              go_wp2
              go_loop [10] (fun v => ∃ t : Nat, j < t ∧ t ≤ s.size ∧ v = .int .i64 t ∧ Hid (shortL (longL (bs s)) = shortL (midL (bs s) j t))) (fun v => (intOf v).toNat)
              case atStart => exact ⟨s.size, hlt, Nat.le_refl _, rfl, hshort⟩
              case round =>
                obtain ⟨t, hjt, hts, rfl, hS⟩ := hrel
                clear hshort
                obtain ⟨u, hu⟩ : ∃ u, t - 1 = u := ⟨_, rfl⟩
                have hus : u < s.size := by omega
                have hju : j ≤ u := by omega
                have htu : t = u + 1 := by omega
                have bu := bs_at s hus
                have wu : IntKind.i64.wrap (((t : Nat) : Int) - 1) = ((u : Nat) : Int) := by rw [IntKind.wrap_i64] <;> omega
                have hm := mid_snoc (l := bs s) hju (by rw [hlen]; exact hus)
                by_cases hu48 : (bs s).getD u 0 = 48
                · have hju' : j < u := by
                    rcases Nat.lt_or_ge j u with h | h
                    · exact h
                    · exfalso
                      obtain rfl : j = u := by omega
                      exact h48'.out hu48
                  have hS' : Hid (shortL (longL (bs s)) = shortL (midL (bs s) j u)) := by
                    show _ = _
                    rw [hS.out, htu, hm, short_snoc, if_pos hu48]
                  have e1 : ((((s[u]'hus).toNat : Nat) : Int) == 48) = true := by rw [← bu, hu48]; rfl
                  have hut : u < t := by omega
                  clear bu hu48 hm hS hu htu hju
                  go_wp2
                  go_round
                  case rel => exact ⟨u, hju', by omega, rfl, hS'⟩
                  case measure => simp [intOf]; omega
                · have hS' : shortL (longL (bs s)) = midL (bs s) j t := by
                    rw [hS.out, htu, hm, short_snoc, if_neg hu48]
                  have e1 : ((((s[u]'hus).toNat : Nat) : Int) == 48) = false := by rw [← bu]; simpa using hu48
                  have hml : (midL (bs s) j t).length = t - j := by
                    unfold midL
                    rw [List.length_take, List.length_drop, hlen]
                    omega
                  have hP := hnear.out (s.extract j t) (s.size - t) hne'.out (by rw [bs_extract, hS']) (by rw [hll.out, hS', hml]; omega)
                  have hPf := hfar.out hne'.out
                  clear hS hS' hm hml hu htu bu hu48 hfar hnear hll
                  by_cases g1 : x < -100000
                  · obtain rfl := hPf (.inl g1)
                    have d2 : decide (x < -100000) = true := by simpa using g1
                    clear hP hPf g1
                    go_wp2
                    refine bodyPost_ret (v := .tuple #[.agg #[.bool false, .string ⟨#[]⟩, .int .i64 0], .int .i64 11]) (by simp [results, Tryz.results101, go_sem]) rfl ⟨rfl, ?_⟩
                    exact alloc_below _ _
                  have d2 : decide (x < -100000) = false := by simpa using g1
                  by_cases g2 : 100000 < x
                  · obtain rfl := hPf (.inr g2)
                    have d3 : decide (100000 < x) = true := by simpa using g2
                    clear hP hPf g1 g2
                    go_wp2
                    refine bodyPost_ret (v := .tuple #[.agg #[.bool false, .string ⟨#[]⟩, .int .i64 0], .int .i64 11]) (by simp [results, Tryz.results101, go_sem]) rfl ⟨rfl, ?_⟩
                    exact alloc_below _ _
                  have d3 : decide (100000 < x) = false := by simpa using g2
                  obtain ⟨Y, hY⟩ : ∃ Y, x + ((s.size : Nat) : Int) = Y := ⟨_, rfl⟩
                  obtain ⟨Z, hZ⟩ : ∃ Z, x + ((s.size - t : Nat) : Int) = Z := ⟨_, rfl⟩
                  have wY : IntKind.i64.wrap (x + ((s.size : Nat) : Int)) = Y := by rw [IntKind.wrap_i64] <;> omega
                  have wZ : IntKind.i64.wrap (Y - ((t : Nat) : Int)) = Z := by rw [IntKind.wrap_i64] <;> omega
                  rw [hZ] at hP
                  have i1 : ((j : Nat) : Int) ≤ ((t : Nat) : Int) := by omega
                  have i2 : ((t : Nat) : Int) ≤ ((s.size : Nat) : Int) := by omega
                  clear hPf g1 g2 hY hZ
                  generalize hUU : s.extract j t = U at hP
                  have k1 := kY n U Z
                  have hT0 := two_rows w n U Z
                  have hr0 : Hid (NRow ((w.alloc (.cells #[.bool false, .string ⟨#[]⟩, .int .i64 0] 84)).alloc (.cells #[.bool n, .string U, .int .i64 Z] 84)) w.heap.size false ⟨#[]⟩ 0) := hT0.1
                  have hr1 : Hid (NmAt ((w.alloc (.cells #[.bool false, .string ⟨#[]⟩, .int .i64 0] 84)).alloc (.cells #[.bool n, .string U, .int .i64 Z] 84)) (w.heap.size + 1) n U Z) := hT0.2
                  have hbb : Hid (Below w.heap.size w ((w.alloc (.cells #[.bool false, .string ⟨#[]⟩, .int .i64 0] 84)).alloc (.cells #[.bool n, .string U, .int .i64 Z] 84))) := ((Below.refl _ _).alloc (Nat.le_refl _) _).alloc (by simp) _
                  clear hT0 kY
                  cases hr : rtN n U Z with
                  | true =>
                    rw [hr, if_pos rfl] at hP
                    rw [hr] at k1
                    subst hP
                    clear hr
                    go_wp2_with (go_at_call 56; refine (k1 _).mono ?_; rintro e w1 ⟨rfl, hb⟩; obtain ⟨c0, c1, c2⟩ := (hr0.out.kept hb).at; have f0 := (hr0.out.kept hb).fz 0; have f1 := (hr0.out.kept hb).fz 1; have f2 := (hr0.out.kept hb).fz 2; obtain ⟨m0, m1, m2⟩ := hr1.out.kept hb (by simp); have hb1 : Hid (Below w.heap.size w w1) := hbb.out.trans (hb.mono hbb.out.size))
                    refine bodyPost_ret (v := .tuple #[.agg #[.bool n, .string U, .int .i64 Z], .int .i64 0]) (by simp [results, Tryz.results101, go_sem, *]) rfl ⟨rfl, ?_⟩
                    exact ((hb1.out.setCell (Nat.le_refl _) _).setCell (Nat.le_refl _) _).setCell (Nat.le_refl _) _
                  | false =>
                    rw [hr, if_neg (by simp)] at hP
                    rw [hr] at k1
                    subst hP
                    clear hr
                    go_wp2_with (go_at_call 56; refine (k1 _).mono ?_; rintro e w1 ⟨rfl, hb⟩; obtain ⟨c0, c1, c2⟩ := (hr0.out.kept hb).at; have f0 := (hr0.out.kept hb).fz 0; have f1 := (hr0.out.kept hb).fz 1; have f2 := (hr0.out.kept hb).fz 2; obtain ⟨m0, m1, m2⟩ := hr1.out.kept hb (by simp); have hb1 : Hid (Below w.heap.size w w1) := hbb.out.trans (hb.mono hbb.out.size))
                    refine bodyPost_ret (v := .tuple #[.agg #[.bool false, .string ⟨#[]⟩, .int .i64 0], .int .i64 11]) (by simp [results, Tryz.results101, go_sem, *]) rfl ⟨rfl, ?_⟩
                    exact ((hb1.out.setCell (Nat.le_refl _) _).setCell (Nat.le_refl _) _).setCell (Nat.le_refl _) _
          · obtain rfl : j = s.size := by omega
            have hL0 : longL (bs s) = [] := by rw [hL.out, List.drop_of_length_le (by rw [hlen]; exact Nat.le_refl _)]; rfl
            have hP := hzero.out hL0
            subst hP
            clear hL hL0 hzero hfar hnear hlt kY
            go_wp2
            refine bodyPost_ret (v := .tuple #[.agg #[.bool false, .string ⟨#[48]⟩, .int .i64 0], .int .i64 0]) (by simp [results, Tryz.results101, go_sem]) rfl ⟨rfl, ?_⟩
            exact alloc_below _ _
end Go.Proofs.YtmlacmoembjeoaaGreatDoor
namespace Go.Proofs.YtmlacmoembjeoaaGreatDoor
open Go.RowKit

def RAt (w : World) (g : Nat) (s : ByteArray) (st : St) : Prop := w.heap[g]? = some (.cells #[.string s, .int .i64 ((st.1 : Nat) : Int), .int .i64 st.2.1, .int .i64 st.2.2] 122 (0, 0))
theorem RAt.c0 {w : World} {g : Nat} {s : ByteArray} {st : St} (h : RAt w g s st) : w.cell? ⟨g, 0, none⟩ = some (.string s) := by rw [cell_row h]; rfl
theorem RAt.c1 {w : World} {g : Nat} {s : ByteArray} {st : St} (h : RAt w g s st) : w.cell? ⟨g, 1, none⟩ = some (.int .i64 ((st.1 : Nat) : Int)) := by rw [cell_row h]; rfl
theorem RAt.c2 {w : World} {g : Nat} {s : ByteArray} {st : St} (h : RAt w g s st) : w.cell? ⟨g, 2, none⟩ = some (.int .i64 st.2.1) := by rw [cell_row h]; rfl
theorem RAt.c3 {w : World} {g : Nat} {s : ByteArray} {st : St} (h : RAt w g s st) : w.cell? ⟨g, 3, none⟩ = some (.int .i64 st.2.2) := by rw [cell_row h]; rfl
theorem RAt.fz {w : World} {g : Nat} {s : ByteArray} {st : St} (h : RAt w g s st) (j : Nat) : w.frozen? ⟨g, j, none⟩ = false := by
  unfold RAt at h
  simp [World.frozen?, h]
theorem RAt.goes {w : World} {g : Nat} {s : ByteArray} {k : Nat} {y f : Int} (h : RAt w g s (k, y, f)) (k' : Nat) : RAt (w.setCell ⟨g, 1, none⟩ (.int .i64 ((k' : Nat) : Int))) g s (k', y, f) := by
  unfold RAt at *
  rw [heap_setCell_same _ g 1 _ 122 _ h]
  rfl
theorem RAt.fails {w : World} {g : Nat} {s : ByteArray} {k : Nat} {y f : Int} (h : RAt w g s (k, y, f)) (y' f' : Int) : RAt ((w.setCell ⟨g, 2, none⟩ (.int .i64 y')).setCell ⟨g, 3, none⟩ (.int .i64 f')) g s (k, y', f') := by
  unfold RAt at *
  rw [heap_setCell_same _ g 3 _ 122 _ (heap_setCell_same _ g 2 _ 122 _ h)]
  rfl
theorem bdrew {B : Nat} {a w : World} (h : Below B a w) (q : Nat) : Below B a (w.drewN q) := h.trans ⟨rfl, rfl, rfl, Nat.le_refl _, fun _ _ => rfl⟩
theorem yok_any (g : Nat) (s : ByteArray) (st : St) (w : World) (h : RAt w g s st) : Calls Tryz.prog 100 #[.pointer (some ⟨g, 0, none⟩)] w fun e w' => e = .returned (.bool (st.2.1 == 0)) ∧ w' = w := by
  have c2 := h.c2
  clear h
  go_enter Tryz.func100, Tryz.ntmps100
  go_wp2
  go_ret
  exact ⟨rfl, rfl⟩
set_option maxHeartbeats 1000000 in
theorem yis_any (g : Nat) (s : ByteArray) (k : Nat) (y f : Int) (c : Int) (w : World) (h : RAt w g s (k, y, f)) : Calls Tryz.prog 97 #[.pointer (some ⟨g, 0, none⟩), .int .u8 c] w fun e w' => e = .returned (.bool (isR (bs s) (k, y, f) c)) ∧ ∃ q, w' = w.drewN q := by
  have hO : Hid (∀ q, Calls Tryz.prog 100 #[.pointer (some ⟨g, 0, none⟩)] (w.drewN q) fun e w' => e = .returned (.bool (y == 0)) ∧ w' = w.drewN q) := fun q => yok_any g s (k, y, f) (w.drewN q) h
  have c0 := h.c0
  have c1 := h.c1
  dsimp only at c1
  have hlen := bs_len s
  unfold isR
  dsimp only
  rw [hlen]
  clear h
  cases hy : (y == 0) with
  | false =>
    rw [hy] at hO
    go_enter Tryz.func97, Tryz.ntmps97
    go_wp2
    go_quiet (first | (go_at_call 100; exact Calls.quiet_of_same (hO.out _)))
    go_wp2
    go_ret
    exact ⟨rfl, _, rfl⟩
  | true =>
    rw [hy] at hO
    by_cases hk : k < s.size
    · have bk := bs_at s hk
      have hd : decide (k < s.size) = true := by simpa using hk
      rw [hd, bk]
      have dk : decide (((k : Nat) : Int) < ((s.size : Nat) : Int)) = true := by simp; omega
      clear bk hd
      cases hc : ((((s[k]'hk).toNat : Nat) : Int) == c) with
      | true =>
        go_enter Tryz.func97, Tryz.ntmps97
        go_wp2
        go_quiet (first | (go_at_call 100; exact Calls.quiet_of_same (hO.out _)))
        go_wp2
        go_ret
        exact ⟨rfl, _, rfl⟩
      | false =>
        go_enter Tryz.func97, Tryz.ntmps97
        go_wp2
        go_quiet (first | (go_at_call 100; exact Calls.quiet_of_same (hO.out _)))
        go_wp2
        go_ret
        exact ⟨rfl, _, rfl⟩
    · have hd : decide (k < s.size) = false := by simpa using hk
      rw [hd]
      have dk : decide (((k : Nat) : Int) < ((s.size : Nat) : Int)) = false := by simp; omega
      clear hd
      have hk' : ¬ ((k : Nat) : Int) < ((s.size : Nat) : Int) := by omega
      go_enter Tryz.func97, Tryz.ntmps97
      go_wp2
      go_quiet (first | (go_at_call 100; exact Calls.quiet_of_same (hO.out _)))
      go_wp2
      go_ret
      exact ⟨rfl, _, rfl⟩
set_option maxHeartbeats 1000000 in
theorem ymay_any (g : Nat) (s : ByteArray) (k : Nat) (y f : Int) (c : Int) (w : World) (h : RAt w g s (k, y, f)) (hk : k ≤ 4096) : Calls Tryz.prog 95 #[.pointer (some ⟨g, 0, none⟩), .int .u8 c] w fun e w' => e = .returned (.bool (isR (bs s) (k, y, f) c)) ∧ RAt w' g s (mayR (bs s) (k, y, f) c) ∧ Below g w w' := by
  have kI := yis_any g s k y f c w h
  have hH : Hid (RAt w g s (k, y, f)) := h
  have c1 := h.c1
  have f1 := h.fz 1
  dsimp only at c1
  clear h
  have wk : IntKind.i64.wrap (((k : Nat) : Int) + 1) = ((k + 1 : Nat) : Int) := by rw [IntKind.wrap_i64] <;> omega
  unfold mayR onR
  dsimp only
  generalize isR (bs s) (k, y, f) c = B at *
  generalize hk1 : k + 1 = K at *
  clear hk1 hk
  cases B with
  | true =>
    rw [if_pos rfl]
    go_enter Tryz.func95, Tryz.ntmps95
    go_wp2_with (go_at_call 97; refine kI.mono ?_; rintro e w1 ⟨rfl, q, hw⟩; rw [hw]; clear hw)
    go_ret
    exact ⟨rfl, RAt.goes (w := w.drewN q) hH.out K, bset (bdrew (Below.refl g w) q) 1 _⟩
  | false =>
    rw [if_neg (by simp)]
    go_enter Tryz.func95, Tryz.ntmps95
    go_wp2_with (go_at_call 97; refine kI.mono ?_; rintro e w1 ⟨rfl, q, hw⟩; rw [hw]; clear hw)
    go_ret
    exact ⟨rfl, hH.out, ⟨rfl, rfl, rfl, Nat.le_refl _, fun _ _ => rfl⟩⟩
set_option maxHeartbeats 1000000 in
theorem ywrong_any (g : Nat) (s : ByteArray) (k : Nat) (y f : Int) (w : World) (h : RAt w g s (k, y, f)) : Calls Tryz.prog 99 #[.pointer (some ⟨g, 0, none⟩)] w fun e w' => (∃ u, e = .returned u) ∧ RAt w' g s (wrongR (bs s) (k, y, f)) ∧ Below g w w' := by
  have kO := yok_any g s (k, y, f) w h
  have hH : Hid (RAt w g s (k, y, f)) := h
  have c0 := h.c0
  have c1 := h.c1
  have c2 := h.c2
  have c3 := h.c3
  have f2 := h.fz 2
  have f3 := h.fz 3
  dsimp only at c1 c2 c3 kO
  have hlen := bs_len s
  clear h
  unfold wrongR
  dsimp only
  rw [hlen]
  by_cases hy : y = 0
  · rw [if_pos hy]
    subst hy
    have kO' : Calls Tryz.prog 100 #[.pointer (some ⟨g, 0, none⟩)] w fun e w' => e = .returned (.bool true) ∧ w' = w := kO
    clear kO
    by_cases hk : s.size ≤ k
    · rw [if_pos hk]
      have dk : decide (((s.size : Nat) : Int) ≤ ((k : Nat) : Int)) = true := by simp; omega
      have hk' : ((s.size : Nat) : Int) ≤ ((k : Nat) : Int) := by omega
      go_enter Tryz.func99, Tryz.ntmps99
      go_wp2_with (go_at_call 100; refine kO'.mono ?_; rintro e w1 ⟨rfl, hw⟩; obtain rfl : w = w1 := hw.symm)
      go_quiet (fail)
      go_wp2
      refine bodyPost_end (results_none rfl _ _ _) rfl ?_
      exact ⟨⟨_, rfl⟩, RAt.fails (w := ((w.setCell ⟨g, 2, none⟩ (.int .i64 5)).setCell ⟨g, 3, none⟩ (.int .i64 ((k : Nat) : Int))).drewN nq) (hH.out.fails 5 ((k : Nat) : Int)) 3 ((s.size : Nat) : Int), bset (bset (bdrew (bset (bset (Below.refl g w) 2 _) 3 _) nq) 2 _) 3 _⟩
    · rw [if_neg hk]
      have dk : decide (((s.size : Nat) : Int) ≤ ((k : Nat) : Int)) = false := by simp; omega
      have hk' : ¬ ((s.size : Nat) : Int) ≤ ((k : Nat) : Int) := by omega
      go_enter Tryz.func99, Tryz.ntmps99
      go_wp2_with (go_at_call 100; refine kO'.mono ?_; rintro e w1 ⟨rfl, hw⟩; obtain rfl : w = w1 := hw.symm)
      go_quiet (fail)
      go_wp2
      refine bodyPost_end (results_none rfl _ _ _) rfl ?_
      exact ⟨⟨_, rfl⟩, hH.out.fails 5 ((k : Nat) : Int), bdrew (bset (bset (Below.refl g w) 2 _) 3 _) nq⟩
  · rw [if_neg hy]
    have hy' : (y == 0) = false := by simpa using hy
    rw [hy'] at kO
    clear hy
    go_enter Tryz.func99, Tryz.ntmps99
    go_wp2_with (go_at_call 100; refine kO.mono ?_; rintro e w1 ⟨rfl, hw⟩; obtain rfl : w = w1 := hw.symm)
    refine bodyPost_ret (results_none rfl _ _ _) rfl ?_
    exact ⟨⟨_, rfl⟩, hH.out, Below.refl _ _⟩
end Go.Proofs.YtmlacmoembjeoaaGreatDoor
namespace Go.Proofs.YtmlacmoembjeoaaGreatDoor
open Go.RowKit

theorem take_span (l : List Int) (k : Nat) : midL l k (k + ((l.drop k).takeWhile isD).length) = (l.drop k).takeWhile isD := by
  unfold midL
  rw [Nat.add_sub_cancel_left]
  have h := List.takeWhile_append_dropWhile (p := isD) (l := l.drop k)
  conv => lhs; arg 2; rw [← h]
  rw [List.take_left]
theorem span_str (s : ByteArray) (k : Nat) : strOfNums (((bs s).drop k).takeWhile isD) = s.extract k (k + (((bs s).drop k).takeWhile isD).length) := by
  rw [← str_bs (s.extract k _), bs_extract, take_span]
theorem span_each (l : List Int) (k m : Nat) (h : m < ((l.drop k).takeWhile isD).length) : k + m < l.length ∧ isD (l.getD (k + m) 0) = true := by
  have h1 := (List.takeWhile_sublist isD (l := l.drop k)).length_le
  rw [List.length_drop] at h1
  refine ⟨by omega, ?_⟩
  have e : ((l.drop k).takeWhile isD)[m]'h = l.getD (k + m) 0 := by
    have h2 := List.takeWhile_append_dropWhile (p := isD) (l := l.drop k)
    have h3 : (l.drop k)[m]? = some (((l.drop k).takeWhile isD)[m]'h) := by
      conv => lhs; arg 1; rw [← h2]
      rw [List.getElem?_append_left h, List.getElem?_eq_getElem h]
    rw [List.getElem?_drop] at h3
    rw [List.getD_eq_getElem?_getD, h3]
    rfl
  rw [← e]
  have hm : ((l.drop k).takeWhile isD)[m]'h ∈ (l.drop k).takeWhile isD := List.getElem_mem h
  revert hm
  generalize ((l.drop k).takeWhile isD)[m]'h = c
  intro hm
  have hall : ∀ (q : List Int) (x : Int), x ∈ q.takeWhile isD → isD x = true := by
    intro q
    induction q with
    | nil => intro x hx; cases hx
    | cons y q ih =>
      intro x hx
      by_cases hy : isD y = true
      · rw [List.takeWhile_cons_of_pos hy] at hx
        rcases List.mem_cons.1 hx with h | h
        · rw [h]; exact hy
        · exact ih x h
      · rw [List.takeWhile_cons_of_neg hy] at hx
        cases hx
  exact hall _ _ hm
def placeAt (w : World) (g : Nat) : Nat := match w.cell? ⟨g, 1, none⟩ with | some (.int _ z) => z.toNat | _ => 0
theorem place_is {w : World} {g : Nat} {s : ByteArray} {k : Nat} {y f : Int} (h : RAt w g s (k, y, f)) : placeAt w g = k := by
  unfold placeAt
  rw [h.c1]
  simp
set_option maxRecDepth 100000 in
set_option maxHeartbeats 2000000 in
theorem ydig_any (g : Nat) (s : ByteArray) (k : Nat) (y f : Int) (w : World) (h : RAt w g s (k, y, f)) (hk : k ≤ s.size) (hsz : s.size ≤ 4096) :
    Calls Tryz.prog 96 #[.pointer (some ⟨g, 0, none⟩)] w fun e w' => e = .returned (.string (strOfNums (digRY (bs s) (k, y, f)).1)) ∧ RAt w' g s (digRY (bs s) (k, y, f)).2 ∧ Below g w w' := by
  have hlen := bs_len s
  have kD := ydigit_any
  have c1 := h.c1
  dsimp only at c1
  have hH : Hid (RAt w g s (k, y, f)) := h
  clear h
  obtain ⟨N, hN⟩ : ∃ N, (spanR (bs s) (k, y, f)).length = N := ⟨_, rfl⟩
  have hKs : k + N ≤ s.size := by
    rw [← hN]
    unfold spanR
    dsimp only
    split
    · have h1 := (List.takeWhile_sublist isD (l := (bs s).drop k)).length_le
      rw [List.length_drop, hlen] at h1
      omega
    · simp; exact hk
  have hyes : Hid (∀ m, m < N → y = 0 ∧ k + m < s.size ∧ isD ((bs s).getD (k + m) 0) = true) := fun m hm => by
    rw [← hN] at hm
    unfold spanR at hm
    dsimp only at hm
    split at hm
    · rename_i hy
      have := span_each (bs s) k m hm
      rw [hlen] at this
      exact ⟨hy, this⟩
    · simp at hm
  have hno : Hid (y ≠ 0 ∨ (y = 0 ∧ ¬ k + N < s.size) ∨ (y = 0 ∧ k + N < s.size ∧ isD ((bs s).getD (k + N) 0) = false)) := by
    show _ ∨ _
    by_cases hy : y = 0
    · refine .inr ?_
      by_cases hm : k + N < s.size
      · refine .inr ⟨hy, hm, ?_⟩
        have h2 := span_stop (bs s) k
        unfold spanR at hN
        dsimp only at hN
        rw [if_pos hy] at hN
        rw [hN, hlen] at h2
        exact h2 hm
      · exact .inl ⟨hy, hm⟩
    · exact .inl hy
  have hdig : Hid (digRY (bs s) (k, y, f) = if N = 0 then ([], wrongR (bs s) (k, y, f)) else (spanR (bs s) (k, y, f), (k + N, y, f))) := by
    show _ = _
    unfold digRY
    dsimp only
    rw [hN]
    by_cases h0 : N = 0
    · rw [if_pos h0, if_pos (List.eq_nil_of_length_eq_zero (by rw [hN]; exact h0))]
    · rw [if_neg h0, if_neg (fun h => h0 (by rw [← hN, h]; rfl))]
  have hstr : Hid (N ≠ 0 → strOfNums (spanR (bs s) (k, y, f)) = s.extract k (k + N)) := fun h0 => by
    have hy : y = 0 := (hyes.out 0 (by omega)).1
    have e : spanR (bs s) (k, y, f) = ((bs s).drop k).takeWhile isD := by unfold spanR; rw [if_pos hy]
    rw [e] at hN
    rw [e, span_str, hN]
  generalize digRY (bs s) (k, y, f) = DD at *
  clear hN
  go_enter Tryz.func96, Tryz.ntmps96
  go_wp2
  go_loopw [] (fun wr => ∃ m : Nat, m ≤ N ∧ Hid (RAt wr g s (k + m, y, f)) ∧ Hid (Below g w wr)) (fun wr => s.size - placeAt wr g)
  case atStart => exact ⟨0, Nat.zero_le _, hH, Below.refl _ _⟩
  case round =>
    obtain ⟨m, hm, hR, hB⟩ := hrel
    have hO : Hid (∀ q, Calls Tryz.prog 100 #[.pointer (some ⟨g, 0, none⟩)] (wr.drewN q) fun e w' => e = .returned (.bool (y == 0)) ∧ w' = wr.drewN q) := fun q => yok_any g s (k + m, y, f) (wr.drewN q) hR.out
    have d0 := hR.out.c0
    have d1 := hR.out.c1
    have z1 := hR.out.fz 1
    dsimp only at d1
    clear c1
    by_cases hmN : m < N
    · obtain ⟨hy, hlt, hd⟩ := hyes.out m hmN
      subst hy
      have bk := bs_at s hlt
      have k1 := kD (((s[k + m]'hlt).toNat : Nat) : Int)
      rw [← bk, hd, bk] at k1
      have hO' : Hid (∀ q, Calls Tryz.prog 100 #[.pointer (some ⟨g, 0, none⟩)] (wr.drewN q) fun e w' => e = .returned (.bool true) ∧ w' = wr.drewN q) := hO.out
      have hlt' : ((k + m : Nat) : Int) < ((s.size : Nat) : Int) := by omega
      have wk : IntKind.i64.wrap (((k + m : Nat) : Int) + 1) = ((k + (m + 1) : Nat) : Int) := by rw [IntKind.wrap_i64] <;> omega
      have hm1 : Hid (m + 1 ≤ N ∧ k + m < k + (m + 1) ∧ k + m < s.size) := ⟨by omega, by omega, hlt⟩
      have hpl : Hid (placeAt wr g = k + m) := place_is hR.out
      clear hO bk hd hyes hno hdig hstr kD hKs
      generalize hA : k + m = A at *
      generalize hA1 : k + (m + 1) = A1 at *
      go_wp2
      go_quiet (first | (go_at_call 100; exact Calls.quiet_of_same (hO'.out _)) | (go_at_call 123; exact Calls.quiet_of_same (k1 _)))
      go_wp2
      go_roundw
      case rel => exact ⟨m + 1, hm1.out.1, (by show RAt _ _ _ _; rw [hA1]; exact RAt.goes (w := wr.drewN nq) hR.out A1), (by show Below _ _ _; exact bset (bdrew hB.out nq) 1 _)⟩
      case measure =>
        rw [place_is (RAt.goes (w := wr.drewN nq) hR.out A1), hpl.out]
        have := hm1.out
        omega
    · obtain rfl : m = N := by omega
      rcases hno.out with hy | ⟨hy, hlt⟩ | ⟨hy, hlt, hd⟩
      · have hy' : (y == 0) = false := by simpa using hy
        rw [hy'] at hO
        have hO' : Hid (∀ q, Calls Tryz.prog 100 #[.pointer (some ⟨g, 0, none⟩)] (wr.drewN q) fun e w' => e = .returned (.bool false) ∧ w' = wr.drewN q) := hO.out
        obtain rfl : m = 0 := by
          rcases Nat.eq_zero_or_pos m with h | h
          · exact h
          · exact absurd (hyes.out 0 h).1 hy
        rw [Nat.add_zero] at hR d1
        clear hO kD hmN hy
        have hDD := hdig.out
        rw [if_pos rfl] at hDD
        subst hDD
        have kW := fun q => ywrong_any g s k y f (wr.drewN q) hR.out
        have hB0 : Hid (Below g w wr) := hB
        clear hdig hstr hyes hno hKs hB
        go_wp2
        go_quiet (first | (go_at_call 100; exact Calls.quiet_of_same (hO'.out _)))
        go_wp2_with fail
        refine (kW _).mono ?_
        rintro e w5 ⟨⟨u, rfl⟩, hR5, hB5⟩
        go_wp2
        go_ret
        exact ⟨rfl, hR5, hB0.out.trans (Below.trans (bdrew (Below.refl g wr) _) hB5)⟩
      · subst hy
        have hO' : Hid (∀ q, Calls Tryz.prog 100 #[.pointer (some ⟨g, 0, none⟩)] (wr.drewN q) fun e w' => e = .returned (.bool true) ∧ w' = wr.drewN q) := by
          exact hO.out
        have hlt' : ¬ ((k + m : Nat) : Int) < ((s.size : Nat) : Int) := by omega
        by_cases h0 : m = 0
        · subst h0
          rw [Nat.add_zero] at hR d1 hlt hlt'
          clear hO kD hmN
          have hDD := hdig.out
          rw [if_pos rfl] at hDD
          subst hDD
          have kW := fun q => ywrong_any g s k 0 f (wr.drewN q) hR.out
          have hB0 : Hid (Below g w wr) := hB
          clear hdig hstr hyes hno hKs hB
          go_wp2
          go_quiet (first | (go_at_call 100; exact Calls.quiet_of_same (hO'.out _)))
          go_wp2_with fail
          refine (kW _).mono ?_
          rintro e w5 ⟨⟨u, rfl⟩, hR5, hB5⟩
          go_wp2
          go_ret
          exact ⟨rfl, hR5, hB0.out.trans (Below.trans (bdrew (Below.refl g wr) _) hB5)⟩
        · clear hO kD hmN
          have hDD := hdig.out
          rw [if_neg h0] at hDD
          subst hDD
          have hE : Hid (strOfNums (spanR (bs s) (k, 0, f)) = s.extract k (k + m)) := hstr.out h0
          have eNe : (((k + m : Nat) : Int) == ((k : Nat) : Int)) = false := by simp; omega
          have i1 : ((k : Nat) : Int) ≤ ((k + m : Nat) : Int) := by omega
          have i2 : ((k + m : Nat) : Int) ≤ ((s.size : Nat) : Int) := by omega
          clear hdig hstr hyes hno
          generalize hA : k + m = A at *
          go_wp2
          go_quiet (first | (go_at_call 100; exact Calls.quiet_of_same (hO'.out _)))
          go_wp2
          go_quiet (fail)
          go_wp2
          go_ret
          exact ⟨by show _ = Ending.returned (.string (strOfNums (spanR (bs s) (k, 0, f)))); rw [hE.out]; rfl, hR.out, bdrew hB.out _⟩
      · subst hy
        have hO' : Hid (∀ q, Calls Tryz.prog 100 #[.pointer (some ⟨g, 0, none⟩)] (wr.drewN q) fun e w' => e = .returned (.bool true) ∧ w' = wr.drewN q) := by
          exact hO.out
        have hlt' : ((k + m : Nat) : Int) < ((s.size : Nat) : Int) := by omega
        have bk := bs_at s hlt
        have k1 := kD (((s[k + m]'hlt).toNat : Nat) : Int)
        rw [← bk, hd, bk] at k1
        by_cases h0 : m = 0
        · subst h0
          simp only [Nat.add_zero] at hR d1 hlt hlt' k1
          clear hO kD hmN bk hd
          have hDD := hdig.out
          rw [if_pos rfl] at hDD
          subst hDD
          have kW := fun q => ywrong_any g s k 0 f (wr.drewN q) hR.out
          have hB0 : Hid (Below g w wr) := hB
          clear hdig hstr hyes hno hKs hB
          go_wp2
          go_quiet (first | (go_at_call 100; exact Calls.quiet_of_same (hO'.out _)) | (go_at_call 123; exact Calls.quiet_of_same (k1 _)))
          go_wp2_with fail
          refine (kW _).mono ?_
          rintro e w5 ⟨⟨u, rfl⟩, hR5, hB5⟩
          go_wp2
          go_ret
          exact ⟨rfl, hR5, hB0.out.trans (Below.trans (bdrew (Below.refl g wr) _) hB5)⟩
        · clear hO kD hmN bk hd
          have hDD := hdig.out
          rw [if_neg h0] at hDD
          subst hDD
          have hE : Hid (strOfNums (spanR (bs s) (k, 0, f)) = s.extract k (k + m)) := hstr.out h0
          have eNe : (((k + m : Nat) : Int) == ((k : Nat) : Int)) = false := by simp; omega
          have i1 : ((k : Nat) : Int) ≤ ((k + m : Nat) : Int) := by omega
          have i2 : ((k + m : Nat) : Int) ≤ ((s.size : Nat) : Int) := by omega
          clear hdig hstr hyes hno
          generalize hA : k + m = A at *
          go_wp2
          go_quiet (first | (go_at_call 100; exact Calls.quiet_of_same (hO'.out _)) | (go_at_call 123; exact Calls.quiet_of_same (k1 _)))
          go_wp2
          go_quiet (fail)
          go_wp2
          go_ret
          exact ⟨by show _ = Ending.returned (.string (strOfNums (spanR (bs s) (k, 0, f)))); rw [hE.out]; rfl, hR.out, bdrew hB.out _⟩
theorem powY_snoc (d : List Int) (c : Int) : powY (d ++ [c]) = min (powY d * 10 + (c - 48).toNat) 1000000 := by
  unfold powY
  rw [List.foldl_append]
  rfl
theorem powY_le (d : List Int) : powY d ≤ 1000000 := by
  rcases List.eq_nil_or_concat d with rfl | ⟨t, c, rfl⟩
  · decide
  · rw [List.concat_eq_append, powY_snoc]; omega
set_option maxHeartbeats 1000000 in
theorem yexp_any (t : ByteArray) (w : World) (hd : Digs (bs t)) (hl : t.size ≤ 4096) : Calls Tryz.prog 98 #[.string t] w fun e w' => e = .returned (.int .i64 ((powY (bs t) : Nat) : Int)) ∧ w' = w := by
  have hlen := bs_len t
  have hend : Hid (powY ((bs t).take t.size) = powY (bs t)) := by show _ = _; rw [List.take_of_length_le (by rw [hlen]; exact Nat.le_refl _)]
  generalize powY (bs t) = R at *
  go_enter Tryz.func98, Tryz.ntmps98
  go_wp2
  go_loop [3, 4] (fun v u => ∃ i : Nat, i ≤ t.size ∧ u = .int .i64 i ∧ v = .int .i64 ((powY ((bs t).take i) : Nat) : Int)) (fun _ u => t.size - (intOf u).toNat)
  case atStart => exact ⟨0, Nat.zero_le _, rfl, rfl⟩
  case round =>
    obtain ⟨i, hi, rfl, rfl⟩ := hrel
    by_cases hlt : i < t.size
    · have bk := bs_at t hlt
      have hc := hd _ (by rw [List.getD_eq_getElem?_getD, List.getElem?_eq_getElem (by rw [hlen]; exact hlt)]; exact List.getElem_mem (l := bs t) (n := i) (by rw [hlen]; exact hlt) : (bs t).getD i 0 ∈ bs t)
      have hle := powY_le ((bs t).take i)
      have hnext : powY ((bs t).take (i + 1)) = min (powY ((bs t).take i) * 10 + ((bs t).getD i 0 - 48).toNat) 1000000 := by
        rw [List.take_succ_eq_append_getElem (by rw [hlen]; exact hlt), powY_snoc, List.getD_eq_getElem?_getD, List.getElem?_eq_getElem (by rw [hlen]; exact hlt)]
        rfl
      rw [bk] at hnext hc
      obtain ⟨d, hdd⟩ : ∃ d : Nat, (((t[i]'hlt).toNat : Nat) : Int) = ((48 + d : Nat) : Int) := ⟨(t[i]'hlt).toNat - 48, by omega⟩
      rw [hdd] at hnext
      have e0 : (((48 + d : Nat) : Int) - 48).toNat = d := by omega
      rw [e0] at hnext
      have hd9 : d ≤ 9 := by omega
      have w1 : IntKind.u8.wrap ((((t[i]'hlt).toNat : Nat) : Int) - 48) = ((d : Nat) : Int) := by
        rw [hdd]; simp [IntKind.wrap, IntKind.bits, IntKind.signed]; omega
      have w2 : IntKind.i64.wrap ((d : Nat) : Int) = ((d : Nat) : Int) := by rw [IntKind.wrap_i64] <;> omega
      have hP : Hid (powY ((bs t).take (i + 1)) = min (powY ((bs t).take i) * 10 + d) 1000000) := hnext
      generalize powY ((bs t).take i) = A at *
      have w3 : IntKind.i64.wrap (((A : Nat) : Int) * 10) = ((A * 10 : Nat) : Int) := by rw [IntKind.wrap_i64] <;> omega
      have w4 : IntKind.i64.wrap (((A * 10 : Nat) : Int) + ((d : Nat) : Int)) = ((A * 10 + d : Nat) : Int) := by rw [IntKind.wrap_i64] <;> omega
      have w5 : min ((A * 10 + d : Nat) : Int) 1000000 = ((min (A * 10 + d) 1000000 : Nat) : Int) := by omega
      generalize hM : min (A * 10 + d) 1000000 = M at *
      clear bk hc hle hnext hdd e0 hd9 hM
      generalize ((A * 10 + d : Nat) : Int) = X at *
      generalize ((A * 10 : Nat) : Int) = Y at *
      go_wp2
      go_round
      case rel => exact ⟨i + 1, by omega, by go_num, by rw [hP.out]⟩
      case measure => simp [intOf]; omega
    · obtain rfl : i = t.size := by omega
      rw [hend.out]
      go_wp2
      go_ret
      exact ⟨rfl, rfl⟩
end Go.Proofs.YtmlacmoembjeoaaGreatDoor
namespace Go.Proofs.YtmlacmoembjeoaaGreatDoor
open Go
set_option linter.unusedVariables false

theorem after8 {c : Int} (h : isD c = false) : afterS 8 c = 9 := by simp [afterS, h]
theorem after4n {c : Int} (h : isD c = false) : afterS 4 c = 9 := by simp [afterS, h]
theorem after4d {c : Int} (h : isD c = true) : afterS 4 c = 5 := by simp [afterS, h]
theorem after2 {c : Int} (h : c ≠ 46) : afterS 2 c = afPart c := by simp [afterS, afWhole, h]
theorem after3 {c : Int} (h : c ≠ 46) (g : isD c = false) : afterS 3 c = afPart c := by simp [afterS, afWhole, h, g]
theorem after5 {c : Int} (g : isD c = false) : afterS 5 c = afPart c := by simp [afterS, g]
theorem pow_both : ∀ (d : List Int) (a b : Nat), a = min b 10000 → d.foldl (fun n c => min (n * 10 + (c - 48).toNat) 10000) a = min (d.foldl (fun n c => min (n * 10 + (c - 48).toNat) 1000000) b) 10000
  | [], _, _, h => h
  | c :: d, a, b, h => by
    rw [List.foldl_cons, List.foldl_cons]
    apply pow_both d
    omega
theorem pow_same (d : List Int) : powS 0 d = min (powY d) 10000 := pow_both d 0 0 (by decide)
theorem make_both {n : Bool} {D : ByteArray} {a b : Int} {k : Nat} (hk : k ≤ 4096) (h : a = b ∨ (10000 ≤ a ∧ 10000 ≤ b) ∨ (a ≤ -10000 ∧ b ≤ -10000)) : makeA n D (a - (k : Int)) = makeA n D (b - (k : Int)) := by
  rcases h with rfl | h
  · rfl
  · have h1 := long_len (bs D)
    rw [bs_len] at h1
    unfold makeA
    by_cases g1 : D.size = 0 ∨ 4096 < D.size ∨ allD (bs D) = false
    · rw [if_pos g1, if_pos g1]
    · rw [if_neg g1, if_neg g1]
      by_cases g2 : longL (bs D) = []
      · rw [if_pos g2, if_pos g2]
      · rw [if_neg g2, if_neg g2, if_pos (by omega), if_pos (by omega)]
theorem fin_ok {n : Bool} {wh pt : List Int} {x : Int} {k : Nat} (h0 : wh ++ pt ≠ []) (hd : Digs (wh ++ pt)) (hl : (wh ++ pt).length ≤ 4096) :
    finR n wh pt x (k, 0, 0) = ((makeA n (strOfNums (wh ++ pt)) (x - ((pt.length : Nat) : Int))).1, (makeA n (strOfNums (wh ++ pt)) (x - ((pt.length : Nat) : Int))).2, 0) := by
  have hne : makeA n (strOfNums (wh ++ pt)) (x - ((pt.length : Nat) : Int)) ≠ (noN, 1) := by
    have e : bs (strOfNums (wh ++ pt)) = wh ++ pt := bs_str (digs_bytes hd)
    have hs : (strOfNums (wh ++ pt)).size = (wh ++ pt).length := strOfNums_size _
    have hp := List.length_pos_iff.2 h0
    unfold makeA
    rw [if_neg (by rw [hs, e, (allD_iff _).2 hd]; rintro (h | h | h) <;> first | omega | cases h)]
    split
    · intro h; exact absurd (show (0 : Int) = 1 from congrArg Prod.snd h) (by decide)
    · split
      · intro h; exact absurd (show (11 : Int) = 1 from congrArg Prod.snd h) (by decide)
      · intro h; exact absurd (show (0 : Int) = 1 from congrArg Prod.snd h) (by decide)
  unfold finR
  rw [if_neg (by simp)]
  rcases make_errs n (strOfNums (wh ++ pt)) (x - ((pt.length : Nat) : Int)) with h | h | h
  · rw [if_neg (by rw [h]; simp), h]
  · exact absurd h hne
  · rw [h]; rfl
theorem done_end (m q : Nat) (p : Pd) (h : endS q = true) : doneA m (none, q, p) = ((makeA p.1 (strOfNums p.2.1) (expS p)).1, (makeA p.1 (strOfNums p.2.1) (expS p)).2, 0) := by
  show (if endS q = true then _ else _) = _
  rw [if_pos h]
theorem last_end {l : List Int} {k : Nat} (h : ¬ k < l.length) : lastR l (k, 0, 0) = (k, 0, 0) := by unfold lastR; rw [if_neg h]
theorem last_more {l : List Int} {k : Nat} (h : k < l.length) : lastR l (k, 0, 0) = wrongR l (k, 0, 0) := by unfold lastR; rw [if_pos h]
theorem fault_at {l : List Int} {k : Nat} (h : k < l.length) : faultR l k = (noN, 5, ((k : Nat) : Int)) := by unfold faultR; rw [if_neg (by omega)]
theorem read_power {l : List Int} {k q : Nat} (hl : l.length ≤ 4096) (hq : q = 6 ∨ q = 7) (hs : q = 6 → k < l.length → l.getD k 0 ≠ 43 ∧ l.getD k 0 ≠ 45) {n : Bool} {wh pt : List Int} {low : Bool} (h0 : wh ++ pt ≠ []) (hd : Digs (wh ++ pt)) (hll : (wh ++ pt).length ≤ 4096) (hpt : pt.length ≤ 4096) :
    doneA l.length (runS (l.drop k) k q (n, wh ++ pt, pt.length, low, 0)) = finR n wh pt (if low = true then -((powY (digRY l (k, 0, 0)).1 : Nat) : Int) else ((powY (digRY l (k, 0, 0)).1 : Nat) : Int)) (lastR l (digRY l (k, 0, 0)).2) := by
  have aft : ∀ c, (q = 6 → c ≠ 43 ∧ c ≠ 45) → afterS q c = if isD c = true then 8 else 9 := fun c hc => by
    rcases hq with rfl | rfl
    · have := hc rfl
      simp [afterS, this.1, this.2]
    · simp [afterS]
  rw [dig_at]
  by_cases hsp : (l.drop k).takeWhile isD = []
  · rw [if_pos hsp]
    have hnd := span_none.1 hsp
    rw [run_fault (by rcases hq with rfl | rfl <;> rfl) (fun hk => by rw [aft _ (fun h => hs h hk), hnd hk]; rfl), last_bad (wrong_is rfl), fin_bad]
  · rw [if_neg hsp]
    have hk : k < l.length := by
      rcases Nat.lt_or_ge k l.length with h | h
      · exact h
      · exact absurd (by rw [drop_end (by omega)]; rfl) hsp
    have hc : isD (l.getD k 0) = true := by
      cases hc : isD (l.getD k 0) with
      | true => rfl
      | false => exact absurd (span_none.2 (fun _ => hc)) hsp
    have hfirst := span_first hk hc
    have e8 : afterS q (l.getD k 0) = 8 := by rw [aft _ (fun h => hs h hk), hc]; rfl
    have hrun : runS (l.drop k) k q (n, wh ++ pt, pt.length, low, 0) = runS (l.drop (k + ((l.drop k).takeWhile isD).length)) (k + ((l.drop k).takeWhile isD).length) 8 (n, wh ++ pt, pt.length, low, powS 0 ((l.drop k).takeWhile isD)) := by
      rw [← drop_span, hfirst, drop_at hk, run_cons', e8, if_neg (by decide), run_digs (.inr (.inr rfl)), fold_pow, List.dropWhile_cons_of_pos hc]
      simp [takeS, powS]
      congr 1
      omega
    rw [hrun]
    have hstop := span_stop l k
    generalize (l.drop k).takeWhile isD = d at *
    generalize hK : k + d.length = K at *
    by_cases hm : K < l.length
    · rw [last_more hm, fin_bad, fault_at hm, drop_at hm, run_cons']
      have e9 : afterS 8 (l.getD K 0) = 9 := after8 (hstop hm)
      rw [if_pos e9]
      rfl
    · rw [last_end hm, fin_ok h0 hd hll, drop_end hm]
      show doneA l.length (none, 8, _) = _
      rw [done_end _ _ _ rfl]
      have hE : makeA n (strOfNums (wh ++ pt)) (expS (n, wh ++ pt, pt.length, low, powS 0 d)) = makeA n (strOfNums (wh ++ pt)) ((if low = true then -((powY d : Nat) : Int) else ((powY d : Nat) : Int)) - ((pt.length : Nat) : Int)) := by
        unfold expS
        dsimp only
        have hp := pow_same d
        cases low with
        | true =>
          rw [if_pos rfl, if_pos rfl]
          exact make_both hpt (by omega)
        | false =>
          rw [if_neg (by simp), if_neg (by simp)]
          exact make_both hpt (by omega)
      simp only [hE]
theorem read_mark {l : List Int} {k : Nat} (hl : l.length ≤ 4096) {n : Bool} {wh pt : List Int} (h0 : wh ++ pt ≠ []) (hd : Digs (wh ++ pt)) (hll : (wh ++ pt).length ≤ 4096) (hpt : pt.length ≤ 4096) :
    doneA l.length (runS (l.drop k) k 6 (n, wh ++ pt, pt.length, false, 0)) = finR n wh pt (if isR l (k, 0, 0) 45 = true then -((powY (digRY l (signR l (k, 0, 0))).1 : Nat) : Int) else ((powY (digRY l (signR l (k, 0, 0))).1 : Nat) : Int)) (lastR l (digRY l (signR l (k, 0, 0))).2) := by
  by_cases h45 : isR l (k, 0, 0) 45 = true
  · obtain ⟨hk, hc⟩ := is_at.1 h45
    have e1 : signR l (k, 0, 0) = (k + 1, 0, 0) := by unfold signR; rw [if_pos (.inl h45)]; rfl
    rw [if_pos h45, e1, drop_at hk, run_cons', hc]
    have e7 : afterS 6 45 = 7 := by decide
    have e8 : takeS (n, wh ++ pt, pt.length, false, 0) 7 45 = (n, wh ++ pt, pt.length, true, 0) := by simp [takeS]
    rw [e7, if_neg (by decide), e8, read_power hl (.inr rfl) (fun h => by cases h) h0 hd hll hpt, if_pos rfl]
  · rw [if_neg h45]
    by_cases h43 : isR l (k, 0, 0) 43 = true
    · obtain ⟨hk, hc⟩ := is_at.1 h43
      have e1 : signR l (k, 0, 0) = (k + 1, 0, 0) := by unfold signR; rw [if_pos (.inr h43)]; rfl
      rw [e1, drop_at hk, run_cons', hc]
      have e7 : afterS 6 43 = 7 := by decide
      have e8 : takeS (n, wh ++ pt, pt.length, false, 0) 7 43 = (n, wh ++ pt, pt.length, false, 0) := by simp [takeS]
      rw [e7, if_neg (by decide), e8, read_power hl (.inr rfl) (fun h => by cases h) h0 hd hll hpt, if_neg (by simp)]
    · have e1 : signR l (k, 0, 0) = (k, 0, 0) := by unfold signR; rw [if_neg (fun h => h.elim h45 h43)]
      rw [e1, read_power hl (.inl rfl) (fun _ hk => ⟨fun h => h43 (is_at.2 ⟨hk, h⟩), fun h => h45 (is_at.2 ⟨hk, h⟩)⟩) h0 hd hll hpt, if_neg (by simp)]
theorem read_tail {l : List Int} {k q : Nat} (hl : l.length ≤ 4096) (hq : q = 2 ∨ q = 3 ∨ q = 5) (hp : q ≠ 5 → k < l.length → l.getD k 0 ≠ 46) (hg : q ≠ 2 → k < l.length → isD (l.getD k 0) = false) {n : Bool} {wh pt : List Int} (h0 : wh ++ pt ≠ []) (hd : Digs (wh ++ pt)) (hll : (wh ++ pt).length ≤ 4096) (hpt : pt.length ≤ 4096) :
    doneA l.length (runS (l.drop k) k q (n, wh ++ pt, pt.length, false, 0)) = finR n wh pt (expR l (k, 0, 0)).1 (lastR l (expR l (k, 0, 0)).2) := by
  by_cases hk : k < l.length
  · have aft : afterS q (l.getD k 0) = afPart (l.getD k 0) := by
      rcases hq with rfl | rfl | rfl
      · exact after2 (hp (by decide) hk)
      · exact after3 (hp (by decide) hk) (hg (by decide) hk)
      · exact after5 (hg (by decide) hk)
    by_cases he : isR l (k, 0, 0) 101 = true ∨ isR l (k, 0, 0) 69 = true
    · have hc : l.getD k 0 = 101 ∨ l.getD k 0 = 69 := he.elim (fun h => .inl (is_at.1 h).2) (fun h => .inr (is_at.1 h).2)
      have e6 : afterS q (l.getD k 0) = 6 := by rw [aft]; unfold afPart; rw [if_pos hc]
      have eX : expR l (k, 0, 0) = ((if isR l (k + 1, 0, 0) 45 = true then -((powY (digRY l (signR l (k + 1, 0, 0))).1 : Nat) : Int) else ((powY (digRY l (signR l (k + 1, 0, 0))).1 : Nat) : Int)), (digRY l (signR l (k + 1, 0, 0))).2) := by
        unfold expR
        rw [if_pos he]
        rfl
      have et : takeS (n, wh ++ pt, pt.length, false, 0) 6 (l.getD k 0) = (n, wh ++ pt, pt.length, false, 0) := by simp [takeS]
      rw [eX, drop_at hk, run_cons', e6, if_neg (by decide), et]
      exact read_mark hl h0 hd hll hpt
    · have eX : expR l (k, 0, 0) = (0, (k, 0, 0)) := by unfold expR; rw [if_neg he]
      have e9 : afterS q (l.getD k 0) = 9 := by
        rw [aft]
        unfold afPart
        rw [if_neg (fun h => he (h.elim (fun h => .inl (is_at.2 ⟨hk, h⟩)) (fun h => .inr (is_at.2 ⟨hk, h⟩))))]
      rw [eX, last_more hk, fin_bad, fault_at hk, drop_at hk, run_cons', if_pos e9]
      rfl
  · have eX : expR l (k, 0, 0) = (0, (k, 0, 0)) := by
      unfold expR
      rw [if_neg (fun h => h.elim (fun h => hk (is_at.1 h).1) (fun h => hk (is_at.1 h).1))]
    rw [eX, last_end hk, fin_ok h0 hd hll, drop_end hk]
    show doneA l.length (none, q, _) = _
    rw [done_end _ _ _ (by rcases hq with rfl | rfl | rfl <;> rfl)]
    have hE : expS (n, wh ++ pt, pt.length, false, 0) = 0 - ((pt.length : Nat) : Int) := by simp [expS]
    rw [hE]
theorem while_digs : ∀ l : List Int, Digs (l.takeWhile isD)
  | [] => fun c hc => by cases hc
  | x :: l => by
    by_cases h : isD x = true
    · rw [List.takeWhile_cons_of_pos h]
      intro c hc
      rcases List.mem_cons.1 hc with h1 | h1
      · rw [h1]; exact isD_iff.1 h
      · exact while_digs l c h1
    · rw [List.takeWhile_cons_of_neg h]
      intro c hc
      cases hc
theorem span_all (l : List Int) (k : Nat) : Digs ((l.drop k).takeWhile isD) := while_digs _
theorem span_len (l : List Int) (k : Nat) : ((l.drop k).takeWhile isD).length ≤ l.length - k := by
  have h := (List.takeWhile_sublist isD (l := l.drop k)).length_le
  rwa [List.length_drop] at h
theorem read_part {l : List Int} {k q : Nat} (hl : l.length ≤ 4096) (hq : q = 2 ∨ q = 3) (hg : q = 3 → k < l.length → isD (l.getD k 0) = false) {n : Bool} {wh : List Int} (h0 : wh ≠ []) (hd : Digs wh) (hw : wh.length ≤ k) (hk4 : k ≤ l.length) :
    doneA l.length (runS (l.drop k) k q (n, wh, 0, false, 0)) = finR n wh (partR l (k, 0, 0)).1 (expR l (partR l (k, 0, 0)).2).1 (lastR l (expR l (partR l (k, 0, 0)).2).2) := by
  by_cases h46 : isR l (k, 0, 0) 46 = true
  · obtain ⟨hk, hc⟩ := is_at.1 h46
    have eP : partR l (k, 0, 0) = digRY l (k + 1, 0, 0) := by unfold partR; rw [if_pos h46]; rfl
    have e4 : afterS q 46 = 4 := by rcases hq with rfl | rfl <;> decide
    have et : takeS (n, wh, 0, false, 0) 4 46 = (n, wh, 0, false, 0) := by simp [takeS]
    rw [eP, dig_at, drop_at hk, run_cons', hc, e4, if_neg (by decide), et]
    by_cases hsp : (l.drop (k + 1)).takeWhile isD = []
    · rw [if_pos hsp]
      have hnd := span_none.1 hsp
      rw [run_fault rfl (fun hk => after4n (hnd hk)), exp_bad (wrong_is rfl), last_bad (wrong_is rfl), fin_bad]
    · rw [if_neg hsp]
      have hk1 : k + 1 < l.length := by
        rcases Nat.lt_or_ge (k + 1) l.length with h | h
        · exact h
        · exact absurd (by rw [drop_end (by omega)]; rfl) hsp
      have hc1 : isD (l.getD (k + 1) 0) = true := by
        cases hc : isD (l.getD (k + 1) 0) with
        | true => rfl
        | false => exact absurd (span_none.2 (fun _ => hc)) hsp
      have hfirst := span_first hk1 hc1
      have e5 : afterS 4 (l.getD (k + 1) 0) = 5 := after4d hc1
      have hrun : runS (l.drop (k + 1)) (k + 1) 4 (n, wh, 0, false, 0) = runS (l.drop (k + 1 + ((l.drop (k + 1)).takeWhile isD).length)) (k + 1 + ((l.drop (k + 1)).takeWhile isD).length) 5 (n, wh ++ (l.drop (k + 1)).takeWhile isD, ((l.drop (k + 1)).takeWhile isD).length, false, 0) := by
        rw [← drop_span, hfirst, drop_at hk1, run_cons', e5, if_neg (by decide), run_digs (.inr (.inl rfl)), fold_part, List.dropWhile_cons_of_pos hc1]
        simp [takeS]
        congr 1
        · omega
        · congr 3
          omega
      rw [hrun]
      have hds := span_all l (k + 1)
      have hln := span_len l (k + 1)
      have hstop := span_stop l (k + 1)
      generalize (l.drop (k + 1)).takeWhile isD = d at *
      exact read_tail hl (.inr (.inr rfl)) (fun h => absurd rfl h) (fun _ hm => hstop hm) (fun h => h0 (List.append_eq_nil_iff.1 h).1) (digs_append hd hds) (by rw [List.length_append]; omega) (by omega)
  · have eP : partR l (k, 0, 0) = ([], (k, 0, 0)) := by unfold partR; rw [if_neg h46]
    rw [eP]
    have h := read_tail (l := l) (k := k) (q := q) hl (by rcases hq with h | h <;> simp [h]) (fun _ hk h => h46 (is_at.2 ⟨hk, h⟩)) (fun h2 hk => hg (by omega) hk) (n := n) (wh := wh) (pt := []) (by rw [List.append_nil]; exact h0) (by rw [List.append_nil]; exact hd) (by rw [List.append_nil]; omega) (by simp)
    rw [List.append_nil] at h
    exact h
theorem read_wholeY {l : List Int} {k q : Nat} (hl : l.length ≤ 4096) (hq : q = 0 ∨ q = 1) (hk4 : k ≤ l.length) (hm : q = 0 → k < l.length → l.getD k 0 ≠ 45) {n : Bool} :
    doneA l.length (runS (l.drop k) k q (n, [], 0, false, 0)) = finR n (wholeR l (k, 0, 0)).1 (partR l (wholeR l (k, 0, 0)).2).1 (expR l (partR l (wholeR l (k, 0, 0)).2).2).1 (lastR l (expR l (partR l (wholeR l (k, 0, 0)).2).2).2) := by
  have aft : ∀ c, (q = 0 → c ≠ 45) → afterS q c = afMinus c := fun c hc => by
    rcases hq with rfl | rfl
    · simp [afterS, hc rfl]
    · simp [afterS]
  by_cases h48 : isR l (k, 0, 0) 48 = true
  · obtain ⟨hk, hc⟩ := is_at.1 h48
    have eW : wholeR l (k, 0, 0) = ([48], (k + 1, 0, 0)) := by unfold wholeR; rw [if_pos h48]; rfl
    have e2 : afterS q 48 = 2 := by rcases hq with rfl | rfl <;> decide
    have et : takeS (n, [], 0, false, 0) 2 48 = (n, [48], 0, false, 0) := by simp [takeS]
    rw [eW, drop_at hk, run_cons', hc, e2, if_neg (by decide), et]
    exact read_part hl (.inl rfl) (fun h => by cases h) (by simp) (fun c hc => by simp at hc; omega) (by simp) hk
  · have eW : wholeR l (k, 0, 0) = digRY l (k, 0, 0) := by unfold wholeR; rw [if_neg h48]
    rw [eW, dig_at]
    by_cases hsp : (l.drop k).takeWhile isD = []
    · rw [if_pos hsp]
      have hnd := span_none.1 hsp
      rw [run_fault (by rcases hq with rfl | rfl <;> rfl) (fun hk => by
        rw [aft _ (fun h => hm h hk)]
        unfold afMinus
        rw [if_neg (fun h => h48 (is_at.2 ⟨hk, h⟩)), hnd hk]
        rfl), part_bad (wrong_is rfl), exp_bad (wrong_is rfl), last_bad (wrong_is rfl), fin_bad]
    · rw [if_neg hsp]
      have hk1 : k < l.length := by
        rcases Nat.lt_or_ge k l.length with h | h
        · exact h
        · exact absurd (by rw [drop_end (by omega)]; rfl) hsp
      have hc1 : isD (l.getD k 0) = true := by
        cases hc : isD (l.getD k 0) with
        | true => rfl
        | false => exact absurd (span_none.2 (fun _ => hc)) hsp
      have hfirst := span_first hk1 hc1
      have e3 : afterS q (l.getD k 0) = 3 := by
        rw [aft _ (fun h => hm h hk1)]
        unfold afMinus
        rw [if_neg (fun h => h48 (is_at.2 ⟨hk1, h⟩)), if_pos hc1]
      have hrun : runS (l.drop k) k q (n, [], 0, false, 0) = runS (l.drop (k + ((l.drop k).takeWhile isD).length)) (k + ((l.drop k).takeWhile isD).length) 3 (n, (l.drop k).takeWhile isD, 0, false, 0) := by
        rw [← drop_span, hfirst, drop_at hk1, run_cons', e3, if_neg (by decide), run_digs (.inl rfl), fold_whole, List.dropWhile_cons_of_pos hc1]
        simp [takeS]
        congr 1
        omega
      rw [hrun]
      have hds := span_all l k
      have hln := span_len l k
      have hstop := span_stop l k
      generalize (l.drop k).takeWhile isD = d at *
      exact read_part hl (.inr rfl) (fun _ hm => hstop hm) hsp hds (by omega) (by omega)
theorem read_same {l : List Int} (hl : l.length ≤ 4096) : readR l = doneA l.length (runS l 0 0 p0) := by
  unfold readR
  by_cases h45 : isR l st0 45 = true
  · obtain ⟨hk, hc⟩ := is_at.1 h45
    have e1 : mayR l st0 45 = (1, 0, 0) := by unfold mayR; rw [if_pos h45]; rfl
    have hd : l = 45 :: l.drop 1 := by
      have := drop_at hk
      rw [List.drop_zero, hc] at this
      exact this
    have hrun : runS l 0 0 p0 = runS (l.drop 1) 1 1 (true, [], 0, false, 0) := by
      conv => lhs; rw [hd]
      rw [run_cons']
      have e2 : afterS 0 45 = 1 := by decide
      rw [e2, if_neg (by decide)]
      rfl
    rw [e1, h45, hrun, read_wholeY hl (.inr rfl) (by omega) (fun h => by cases h)]
  · have e1 : mayR l st0 45 = (0, 0, 0) := by unfold mayR; rw [if_neg h45]; rfl
    have hb : isR l st0 45 = false := by simpa using h45
    have h := read_wholeY (l := l) (k := 0) (q := 0) hl (.inl rfl) (by omega) (fun _ hk h => h45 (is_at.2 ⟨hk, h⟩)) (n := false)
    rw [List.drop_zero] at h
    rw [e1, hb]
    exact h.symm
end Go.Proofs.YtmlacmoembjeoaaGreatDoor
