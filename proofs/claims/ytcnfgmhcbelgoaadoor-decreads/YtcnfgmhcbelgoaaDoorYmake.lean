/-
  The document's side: what digits and an exponent make.
-/
import Derived.Test.YtcnfgmhcbelgoaaDoorYright
import Derived.Test.YtcnfgmhcbelgoaaDoorMake
namespace Go.Proofs.YtcnfgmhcbelgoaaDoor
open Go.RowKit

theorem long_skip {l : List Int} {j : Nat} (hj : j < l.length) (h : l.getD j 0 = 48) : longL (l.drop j) = longL (l.drop (j + 1)) := by
  rw [List.getD_eq_getElem?_getD, List.getElem?_eq_getElem hj, Option.getD_some] at h
  rw [List.drop_eq_getElem_cons hj, h]
  rfl
theorem long_stop {l : List Int} {j : Nat} (hj : j < l.length) (h : l.getD j 0 ≠ 48) : longL (l.drop j) = l.drop j := by
  rw [List.getD_eq_getElem?_getD, List.getElem?_eq_getElem hj, Option.getD_some] at h
  rw [List.drop_eq_getElem_cons hj]
  unfold longL
  rw [List.dropWhile_cons_of_neg (by simpa using h)]
theorem short_snoc (q : List Int) (c : Int) : shortL (q ++ [c]) = if c = 48 then shortL q else q ++ [c] := by
  unfold shortL
  rw [List.reverse_append, List.reverse_singleton, List.singleton_append]
  by_cases h : c = 48
  · rw [if_pos h, List.dropWhile_cons_of_pos (by simp [h])]
  · rw [if_neg h, List.dropWhile_cons_of_neg (by simp [h]), List.reverse_cons, List.reverse_reverse]
/-- The bytes from j to t. -/
def midL (l : List Int) (j t : Nat) : List Int := (l.drop j).take (t - j)
theorem mid_snoc {l : List Int} {j u : Nat} (hj : j ≤ u) (hu : u < l.length) : midL l j (u + 1) = midL l j u ++ [l.getD u 0] := by
  unfold midL
  have e : u + 1 - j = (u - j) + 1 := by omega
  have h1 : u - j < (l.drop j).length := by rw [List.length_drop]; omega
  rw [e, List.take_succ_eq_append_getElem h1, List.getElem_drop, List.getD_eq_getElem?_getD, List.getElem?_eq_getElem hu, Option.getD_some]
  congr 2
  congr 1
  omega
theorem mid_whole (l : List Int) (j : Nat) : midL l j l.length = l.drop j := by
  unfold midL
  rw [List.take_of_length_le (by rw [List.length_drop]; exact Nat.le_refl _)]
theorem bs_extract (s : ByteArray) (j t : Nat) : bs (s.extract j t) = midL (bs s) j t := by
  have e : s.extract j t = ⟨((s.data.toList.drop j).take (t - j)).toArray⟩ := Lib.extract_eq s j t
  rw [e, bs_mk]
  unfold numsU midL bs
  rw [List.map_take, List.map_drop]
theorem make_far {n : Bool} {s : ByteArray} {x : Int} (h1 : 0 < s.size) (h2 : s.size ≤ 4096) (hA : allD (bs s) = true) (hL : longL (bs s) ≠ []) (hx : x < -100000 ∨ 100000 < x) : makeA n s x = (noN, 11) := by
  have h3 := long_len (bs s)
  rw [bs_len] at h3
  unfold makeA
  rw [if_neg (by rintro (h | h | h) <;> first | omega | (rw [hA] at h; cases h)), if_neg hL, if_pos (by omega)]
theorem make_near {n : Bool} {s U : ByteArray} {x : Int} {k : Nat} (h1 : 0 < s.size) (h2 : s.size ≤ 4096) (hA : allD (bs s) = true) (hL : longL (bs s) ≠ []) (hU : bs U = shortL (longL (bs s))) (hk : (longL (bs s)).length - (shortL (longL (bs s))).length = k) :
    makeA n s x = if rtN n U (x + (k : Int)) = true then ((n, U, x + (k : Int)), 0) else (noN, 11) := by
  unfold makeA
  rw [if_neg (by rintro (h | h | h) <;> first | omega | (rw [hA] at h; cases h)), if_neg hL, hk]
  have hn := short_nil hL
  have hh := short_head hL
  have hl := short_last hn
  have hd : Digs (shortL (longL (bs s))) := fun c hc => (allD_iff _).1 hA c (mem_short hc)
  have hz : shortL (longL (bs s)) ≠ [48] := fun h4 => by rw [h4] at hh; exact hh rfl
  have eU : strOfNums (shortL (longL (bs s))) = U := by rw [← hU, str_bs]
  by_cases hb : 800 < (shortL (longL (bs s))).length ∨ x < -2000 - (k : Int) ∨ 2000 - (k : Int) < x
  · rw [if_pos hb, if_neg]
    intro h
    have h3 := (rtN_iff _ _ _).1 h
    rw [hU] at h3
    have h4 := h3.1.2
    have h5 := h3.2.2 hz
    omega
  · rw [if_neg hb, eU, if_pos]
    rw [rtN_iff, hU]
    exact ⟨⟨⟨hn, hd, fun h4 => absurd h4 hh⟩, by omega⟩, fun h4 => absurd h4 hz, fun _ => ⟨hl, by omega, by omega⟩⟩
theorem two_rows (w : World) (n : Bool) (U : ByteArray) (Z : Int) : NRow ((w.alloc (.cells #[.bool false, .string ⟨#[]⟩, .int .i64 0] 23)).alloc (.cells #[.bool n, .string U, .int .i64 Z] 23)) w.heap.size false ⟨#[]⟩ 0 ∧ NmAt ((w.alloc (.cells #[.bool false, .string ⟨#[]⟩, .int .i64 0] 23)).alloc (.cells #[.bool n, .string U, .int .i64 Z] 23)) (w.heap.size + 1) n U Z := by
  refine ⟨(row_new w false ⟨#[]⟩ 0).kept (alloc_below _ _), ?_⟩
  have h := box_at (w.alloc (.cells #[.bool false, .string ⟨#[]⟩, .int .i64 0] 23)) n U Z 23
  have e : (w.alloc (.cells #[.bool false, .string ⟨#[]⟩, .int .i64 0] 23)).heap.size = w.heap.size + 1 := by simp
  rw [e] at h
  exact h
set_option maxRecDepth 100000 in
set_option maxHeartbeats 2000000 in
theorem ymake_any (n : Bool) (s : ByteArray) (x : Int) (w : World) : Calls Tryd.prog 10 #[.bool n, .string s, .int .i64 x] w fun e w' => e = .returned (.tuple #[.agg #[.bool (makeA n s x).1.1, .string (makeA n s x).1.2.1, .int .i64 (makeA n s x).1.2.2], .int .i64 (makeA n s x).2]) ∧ Below w.heap.size w w' := by
  by_cases h0 : s.size = 0
  · have hR : makeA n s x = (noN, 1) := by unfold makeA; rw [if_pos (.inl h0)]
    rw [hR]
    obtain rfl := empty_size h0
    clear h0 hR
    unfold noN noS
    go_enter Tryd.func10, Tryd.ntmps10
    go_wp2
    refine bodyPost_ret (v := .tuple #[.agg #[.bool false, .string ⟨#[]⟩, .int .i64 0], .int .i64 1]) (by simp [results, Tryd.results10, go_sem]) rfl ⟨rfl, ?_⟩
    exact alloc_below _ _
  have he := not_empty (s := s) (by omega)
  by_cases h1 : 4096 < s.size
  · have hR : makeA n s x = (noN, 1) := by unfold makeA; rw [if_pos (.inr (.inl h1))]
    rw [hR]
    have d1 : decide (4096 < ((s.size : Nat) : Int)) = true := by simp; omega
    clear h0 h1 hR
    unfold noN noS
    go_enter Tryd.func10, Tryd.ntmps10
    go_wp2
    refine bodyPost_ret (v := .tuple #[.agg #[.bool false, .string ⟨#[]⟩, .int .i64 0], .int .i64 1]) (by simp [results, Tryd.results10, go_sem]) rfl ⟨rfl, ?_⟩
    exact alloc_below _ _
  have d1 : decide (4096 < ((s.size : Nat) : Int)) = false := by simp; omega
  have hsz : s.size ≤ 4096 := by omega
  have hp : 0 < s.size := by omega
  have kD := ydigit_any
  clear h0 h1
  cases hA : allD (bs s) with
  | false =>
    have hR : makeA n s x = (noN, 1) := by unfold makeA; rw [if_pos (.inr (.inr hA))]
    rw [hR]
    have hend : Hid (¬ ∀ c ∈ (bs s).take s.size, 48 ≤ c ∧ c ≤ 57) := fun h => by
      rw [List.take_of_length_le (by rw [bs_len]; exact Nat.le_refl _)] at h
      rw [(allD_iff _).2 h] at hA
      cases hA
    clear hR hA
    unfold noN noS
    go_enter Tryd.func10, Tryd.ntmps10
    go_wp2
    go_loop [8] (fun v => ∃ k : Nat, k ≤ s.size ∧ v = .int .i64 k ∧ Hid (∀ c ∈ (bs s).take k, 48 ≤ c ∧ c ≤ 57)) (fun v => s.size - (intOf v).toNat)
    case atStart => exact ⟨0, Nat.zero_le _, rfl, (by intro c hc; simp at hc)⟩
    case round =>
      obtain ⟨k, hk, rfl, hd⟩ := hrel
      by_cases hlt : k < s.size
      · have bk := bs_at s hlt
        have k1 := kD (((s[k]'hlt).toNat : Nat) : Int)
        rw [← bk] at k1
        cases hB : isD ((bs s).getD k 0) with
        | false =>
          rw [hB, bk] at k1
          clear bk hB
          go_wp2_with (go_at_call 27; refine (k1 _).mono ?_; rintro e w1 ⟨rfl, hw⟩; rw [hw]; clear hw)
          refine bodyPost_ret (v := .tuple #[.agg #[.bool false, .string ⟨#[]⟩, .int .i64 0], .int .i64 1]) (by simp [results, Tryd.results10, go_sem]) rfl ⟨rfl, ?_⟩
          exact alloc_below _ _
        | true =>
          have hC : Hid (∀ c ∈ (bs s).take (k + 1), 48 ≤ c ∧ c ≤ 57) := take_digs hd.out (by rw [bs_len]; exact hlt) (isD_iff.1 hB)
          rw [hB, bk] at k1
          clear bk hB
          go_wp2_with (go_at_call 27; refine (k1 _).mono ?_; rintro e w1 ⟨rfl, hw⟩; rw [hw]; clear hw)
          go_round
          case rel => exact ⟨k + 1, by omega, by go_num, hC⟩
          case measure => simp [intOf]; omega
      · obtain rfl : k = s.size := by omega
        exact absurd hd.out hend.out
  | true =>
    have hlen := bs_len s
    have hdig : Hid (∀ k, k < s.size → isD ((bs s).getD k 0) = true) := fun k hk => by
      have h := (allD_iff _).1 hA
      rw [isD_iff, List.getD_eq_getElem?_getD, List.getElem?_eq_getElem (by rw [hlen]; exact hk)]
      exact h _ (List.getElem_mem _)
    have hzero : Hid (longL (bs s) = [] → makeA n s x = (zeroN, 0)) := fun h => by
      unfold makeA
      rw [if_neg (by rintro (h | h | h) <;> first | omega | (rw [hA] at h; cases h)), if_pos h]
    have hfar : Hid (longL (bs s) ≠ [] → x < -100000 ∨ 100000 < x → makeA n s x = (noN, 11)) := fun h1 h2 => make_far hp hsz hA h1 h2
    have hnear : Hid (∀ (U : ByteArray) (k : Nat), longL (bs s) ≠ [] → bs U = shortL (longL (bs s)) → (longL (bs s)).length - (shortL (longL (bs s))).length = k → makeA n s x = if rtN n U (x + (k : Int)) = true then ((n, U, x + (k : Int)), 0) else (noN, 11)) := fun U k h1 h2 h3 => make_near hp hsz hA h1 h2 h3
    have kY := yright_any
    clear hA
    generalize makeA n s x = P at *
    go_enter Tryd.func10, Tryd.ntmps10
    go_wp2
    go_loop [8] (fun v => ∃ k : Nat, k ≤ s.size ∧ v = .int .i64 k) (fun v => s.size - (intOf v).toNat)
    case atStart => exact ⟨0, Nat.zero_le _, rfl⟩
    case round =>
      obtain ⟨k, hk, rfl⟩ := hrel
      by_cases hlt : k < s.size
      · have bk := bs_at s hlt
        have k1 := kD (((s[k]'hlt).toNat : Nat) : Int)
        rw [← bk, hdig.out k hlt, bk] at k1
        clear bk
        go_wp2_with (go_at_call 27; refine (k1 _).mono ?_; rintro e w1 ⟨rfl, hw⟩; rw [hw]; clear hw)
        go_round
        case rel => exact ⟨k + 1, by omega, by go_num⟩
        case measure => simp [intOf]; omega
      · obtain rfl : k = s.size := by omega
        clear hlt kD hdig
        go_wp2
        go_loop [9] (fun v => ∃ j : Nat, j ≤ s.size ∧ v = .int .i64 j ∧ Hid (longL (bs s) = longL ((bs s).drop j))) (fun v => s.size - (intOf v).toNat)
        case atStart => exact ⟨0, Nat.zero_le _, rfl, (by show _ = _; rw [List.drop_zero])⟩
        case round =>
          obtain ⟨j, hj, rfl, hL⟩ := hrel
          by_cases hlt : j < s.size
          · have bk := bs_at s hlt
            by_cases h48 : (bs s).getD j 0 = 48
            · have hL' : Hid (longL (bs s) = longL ((bs s).drop (j + 1))) := hL.out.trans (long_skip (by rw [hlen]; exact hlt) h48)
              have e0 : ((((s[j]'hlt).toNat : Nat) : Int) == 48) = true := by rw [← bk, h48]; rfl
              clear bk h48 hL
              go_wp2
              go_round
              case rel => exact ⟨j + 1, by omega, by go_num, hL'⟩
              case measure => simp [intOf]; omega
            · have hL2 := hL.out.trans (long_stop (by rw [hlen]; exact hlt) h48)
              have e0 : ((((s[j]'hlt).toNat : Nat) : Int) == 48) = false := by rw [← bk]; simpa using h48
              have hne : longL (bs s) ≠ [] := by
                rw [hL2]
                intro h
                have := congrArg List.length h
                rw [List.length_drop, hlen, List.length_nil] at this
                omega
              have hshort : Hid (shortL (longL (bs s)) = shortL (midL (bs s) j s.size)) := by
                show _ = _
                rw [hL2, ← hlen, mid_whole]
              have hll : Hid ((longL (bs s)).length = s.size - j) := by show _ = _; rw [hL2, List.length_drop, hlen]
              have h48' : Hid ((bs s).getD j 0 ≠ 48) := h48
              have hne' : Hid (longL (bs s) ≠ []) := hne
              have ej : (((j : Nat) : Int) == ((s.size : Nat) : Int)) = false := by simp; omega
              clear bk h48 hL hL2 hne hzero
              go_wp2
              go_loop [10] (fun v => ∃ t : Nat, j < t ∧ t ≤ s.size ∧ v = .int .i64 t ∧ Hid (shortL (longL (bs s)) = shortL (midL (bs s) j t))) (fun v => (intOf v).toNat)
              case atStart => exact ⟨s.size, hlt, Nat.le_refl _, rfl, hshort⟩
              case round =>
                obtain ⟨t, hjt, hts, rfl, hS⟩ := hrel
                clear hshort
                obtain ⟨u, hu⟩ : ∃ u, t - 1 = u := ⟨_, rfl⟩
                have hus : u < s.size := by omega
                have hju : j ≤ u := by omega
                have htu : t = u + 1 := by omega
                have bu := bs_at s hus
                have wu : IntKind.i64.wrap (((t : Nat) : Int) - 1) = ((u : Nat) : Int) := by rw [IntKind.wrap_i64] <;> omega
                have hm := mid_snoc (l := bs s) hju (by rw [hlen]; exact hus)
                by_cases hu48 : (bs s).getD u 0 = 48
                · have hju' : j < u := by
                    rcases Nat.lt_or_ge j u with h | h
                    · exact h
                    · exfalso
                      obtain rfl : j = u := by omega
                      exact h48'.out hu48
                  have hS' : Hid (shortL (longL (bs s)) = shortL (midL (bs s) j u)) := by
                    show _ = _
                    rw [hS.out, htu, hm, short_snoc, if_pos hu48]
                  have e1 : ((((s[u]'hus).toNat : Nat) : Int) == 48) = true := by rw [← bu, hu48]; rfl
                  have hut : u < t := by omega
                  clear bu hu48 hm hS hu htu hju
                  go_wp2
                  go_round
                  case rel => exact ⟨u, hju', by omega, rfl, hS'⟩
                  case measure => simp [intOf]; omega
                · have hS' : shortL (longL (bs s)) = midL (bs s) j t := by
                    rw [hS.out, htu, hm, short_snoc, if_neg hu48]
                  have e1 : ((((s[u]'hus).toNat : Nat) : Int) == 48) = false := by rw [← bu]; simpa using hu48
                  have hml : (midL (bs s) j t).length = t - j := by
                    unfold midL
                    rw [List.length_take, List.length_drop, hlen]
                    omega
                  have hP := hnear.out (s.extract j t) (s.size - t) hne'.out (by rw [bs_extract, hS']) (by rw [hll.out, hS', hml]; omega)
                  have hPf := hfar.out hne'.out
                  clear hS hS' hm hml hu htu bu hu48 hfar hnear hll
                  by_cases g1 : x < -100000
                  · obtain rfl := hPf (.inl g1)
                    have d2 : decide (x < -100000) = true := by simpa using g1
                    clear hP hPf g1
                    go_wp2
                    refine bodyPost_ret (v := .tuple #[.agg #[.bool false, .string ⟨#[]⟩, .int .i64 0], .int .i64 11]) (by simp [results, Tryd.results10, go_sem]) rfl ⟨rfl, ?_⟩
                    exact alloc_below _ _
                  have d2 : decide (x < -100000) = false := by simpa using g1
                  by_cases g2 : 100000 < x
                  · obtain rfl := hPf (.inr g2)
                    have d3 : decide (100000 < x) = true := by simpa using g2
                    clear hP hPf g1 g2
                    go_wp2
                    refine bodyPost_ret (v := .tuple #[.agg #[.bool false, .string ⟨#[]⟩, .int .i64 0], .int .i64 11]) (by simp [results, Tryd.results10, go_sem]) rfl ⟨rfl, ?_⟩
                    exact alloc_below _ _
                  have d3 : decide (100000 < x) = false := by simpa using g2
                  obtain ⟨Y, hY⟩ : ∃ Y, x + ((s.size : Nat) : Int) = Y := ⟨_, rfl⟩
                  obtain ⟨Z, hZ⟩ : ∃ Z, x + ((s.size - t : Nat) : Int) = Z := ⟨_, rfl⟩
                  have wY : IntKind.i64.wrap (x + ((s.size : Nat) : Int)) = Y := by rw [IntKind.wrap_i64] <;> omega
                  have wZ : IntKind.i64.wrap (Y - ((t : Nat) : Int)) = Z := by rw [IntKind.wrap_i64] <;> omega
                  rw [hZ] at hP
                  have i1 : ((j : Nat) : Int) ≤ ((t : Nat) : Int) := by omega
                  have i2 : ((t : Nat) : Int) ≤ ((s.size : Nat) : Int) := by omega
                  clear hPf g1 g2 hY hZ
                  generalize hUU : s.extract j t = U at hP
                  have k1 := kY n U Z
                  have hT0 := two_rows w n U Z
                  have hr0 : Hid (NRow ((w.alloc (.cells #[.bool false, .string ⟨#[]⟩, .int .i64 0] 23)).alloc (.cells #[.bool n, .string U, .int .i64 Z] 23)) w.heap.size false ⟨#[]⟩ 0) := hT0.1
                  have hr1 : Hid (NmAt ((w.alloc (.cells #[.bool false, .string ⟨#[]⟩, .int .i64 0] 23)).alloc (.cells #[.bool n, .string U, .int .i64 Z] 23)) (w.heap.size + 1) n U Z) := hT0.2
                  have hbb : Hid (Below w.heap.size w ((w.alloc (.cells #[.bool false, .string ⟨#[]⟩, .int .i64 0] 23)).alloc (.cells #[.bool n, .string U, .int .i64 Z] 23))) := ((Below.refl _ _).alloc (Nat.le_refl _) _).alloc (by simp) _
                  clear hT0 kY
                  cases hr : rtN n U Z with
                  | true =>
                    rw [hr, if_pos rfl] at hP
                    rw [hr] at k1
                    subst hP
                    clear hr
                    go_wp2_with (go_at_call 17; refine (k1 _).mono ?_; rintro e w1 ⟨rfl, hb⟩; obtain ⟨c0, c1, c2⟩ := (hr0.out.kept hb).at; have f0 := (hr0.out.kept hb).fz 0; have f1 := (hr0.out.kept hb).fz 1; have f2 := (hr0.out.kept hb).fz 2; obtain ⟨m0, m1, m2⟩ := hr1.out.kept hb (by simp); have hb1 : Hid (Below w.heap.size w w1) := hbb.out.trans (hb.mono hbb.out.size))
                    refine bodyPost_ret (v := .tuple #[.agg #[.bool n, .string U, .int .i64 Z], .int .i64 0]) (by simp [results, Tryd.results10, go_sem, *]) rfl ⟨rfl, ?_⟩
                    exact ((hb1.out.setCell (Nat.le_refl _) _).setCell (Nat.le_refl _) _).setCell (Nat.le_refl _) _
                  | false =>
                    rw [hr, if_neg (by simp)] at hP
                    rw [hr] at k1
                    subst hP
                    clear hr
                    go_wp2_with (go_at_call 17; refine (k1 _).mono ?_; rintro e w1 ⟨rfl, hb⟩; obtain ⟨c0, c1, c2⟩ := (hr0.out.kept hb).at; have f0 := (hr0.out.kept hb).fz 0; have f1 := (hr0.out.kept hb).fz 1; have f2 := (hr0.out.kept hb).fz 2; obtain ⟨m0, m1, m2⟩ := hr1.out.kept hb (by simp); have hb1 : Hid (Below w.heap.size w w1) := hbb.out.trans (hb.mono hbb.out.size))
                    refine bodyPost_ret (v := .tuple #[.agg #[.bool false, .string ⟨#[]⟩, .int .i64 0], .int .i64 11]) (by simp [results, Tryd.results10, go_sem, *]) rfl ⟨rfl, ?_⟩
                    exact ((hb1.out.setCell (Nat.le_refl _) _).setCell (Nat.le_refl _) _).setCell (Nat.le_refl _) _
          · obtain rfl : j = s.size := by omega
            have hL0 : longL (bs s) = [] := by rw [hL.out, List.drop_of_length_le (by rw [hlen]; exact Nat.le_refl _)]; rfl
            have hP := hzero.out hL0
            subst hP
            clear hL hL0 hzero hfar hnear hlt kY
            go_wp2
            refine bodyPost_ret (v := .tuple #[.agg #[.bool false, .string ⟨#[48]⟩, .int .i64 0], .int .i64 0]) (by simp [results, Tryd.results10, go_sem]) rfl ⟨rfl, ?_⟩
            exact alloc_below _ _
end Go.Proofs.YtcnfgmhcbelgoaaDoor
