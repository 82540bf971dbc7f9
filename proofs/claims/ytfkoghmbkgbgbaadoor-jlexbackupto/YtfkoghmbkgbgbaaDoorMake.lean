/-
  A number is made: dec.Make.
-/
import Derived.Test.YtfkoghmbkgbgbaaDoorNum
namespace Go.Proofs.YtfkoghmbkgbgbaaDoor
open Go.RowKit

theorem allD_stop {l : List Int} {k : Nat} (hk : k < l.length) (h : isD (l.getD k 0) = false) : allD l = false := by
  cases h1 : allD l with
  | false => rfl
  | true =>
    have h2 := (allD_iff l).1 h1
    rw [List.getD_eq_getElem?_getD, List.getElem?_eq_getElem hk] at h
    have h3 := h2 _ (List.getElem_mem hk)
    rw [Option.getD_some] at h
    rw [isD_iff.2 h3] at h
    cases h
theorem alld_any (s : ByteArray) (hsz : s.size ≤ 4096) (w : World) : Calls Tryd.prog 88 #[.string s] w fun e w' => e = .returned (.bool (allD (bs s))) ∧ w' = w := by
  have kD := isdigit_any
  have hall : Hid (∀ k, k < s.size → isD ((bs s).getD k 0) = false → allD (bs s) = false) := fun k hk h => allD_stop (by rw [bs_len]; exact hk) h
  have hend : Hid ((∀ c ∈ (bs s).take s.size, 48 ≤ c ∧ c ≤ 57) → allD (bs s) = true) := fun h => by
    rw [List.take_of_length_le (by rw [bs_len]; exact Nat.le_refl _)] at h
    exact (allD_iff _).2 h
  generalize allD (bs s) = R at *
  go_enter Tryd.func88, Tryd.ntmps88
  go_wp2
  go_loop [6] (fun v => ∃ k : Nat, k ≤ s.size ∧ v = .int .i64 k ∧ Hid (∀ c ∈ (bs s).take k, 48 ≤ c ∧ c ≤ 57)) (fun v => s.size - (intOf v).toNat)
  case atStart => exact ⟨0, Nat.zero_le _, rfl, (by intro c hc; simp at hc)⟩
  case round =>
    obtain ⟨k, hk, rfl, hd⟩ := hrel
    by_cases hlt : k < s.size
    · have bk := bs_at s hlt
      have hN := hall.out k hlt
      have k1 := kD (((s[k]'hlt).toNat : Nat) : Int) w
      rw [← bk] at k1
      cases hA : isD ((bs s).getD k 0) with
      | false =>
        obtain rfl := hN hA
        rw [hA, bk] at k1
        clear bk hA hN
        go_wp2_with (go_at_call 92; refine k1.mono ?_; rintro e w1 ⟨rfl, hw⟩; obtain rfl : w = w1 := hw.symm)
        go_ret
        exact ⟨rfl, rfl⟩
      | true =>
        have hC : Hid (∀ c ∈ (bs s).take (k + 1), 48 ≤ c ∧ c ≤ 57) := take_digs hd.out (by rw [bs_len]; exact hlt) (isD_iff.1 hA)
        rw [hA, bk] at k1
        clear bk hA hN
        go_wp2_with (go_at_call 92; refine k1.mono ?_; rintro e w1 ⟨rfl, hw⟩; obtain rfl : w = w1 := hw.symm)
        go_round
        case rel => exact ⟨k + 1, by omega, by go_num, hC⟩
        case measure => simp [intOf]; omega
    · obtain rfl : k = s.size := by omega
      obtain rfl := hend.out hd.out
      go_wp2
      go_ret
      exact ⟨rfl, rfl⟩
theorem bs_nil {t : ByteArray} (h : bs t = []) : t = noS := by
  apply bs_inj
  rw [h]
  rfl
set_option maxHeartbeats 1000000 in
theorem make_any (n : Bool) (s : ByteArray) (x : Int) (w : World) : Calls Tryd.prog 75 #[.bool n, .string s, .int .i64 x] w fun e w' => e = .returned (.tuple #[.agg #[.bool (makeA n s x).1.1, .string (makeA n s x).1.2.1, .int .i64 (makeA n s x).1.2.2], .int .i64 (makeA n s x).2]) ∧ Below w.heap.size w w' := by
  by_cases h0 : s.size = 0
  · have hR : makeA n s x = (noN, 1) := by unfold makeA; rw [if_pos (.inl h0)]
    rw [hR]
    obtain rfl := empty_size h0
    clear h0 hR
    unfold noN noS
    go_enter Tryd.func75, Tryd.ntmps75
    go_wp2
    refine bodyPost_ret (v := .tuple #[.agg #[.bool false, .string ⟨#[]⟩, .int .i64 0], .int .i64 1]) (by simp [results, Tryd.results75, go_sem]) rfl ⟨rfl, ?_⟩
    exact alloc_below _ _
  have he := not_empty (s := s) (by omega)
  by_cases h1 : 4096 < s.size
  · have hR : makeA n s x = (noN, 1) := by unfold makeA; rw [if_pos (.inr (.inl h1))]
    rw [hR]
    have d1 : decide (4096 < ((s.size : Nat) : Int)) = true := by simp; omega
    clear h0 h1 hR
    unfold noN noS
    go_enter Tryd.func75, Tryd.ntmps75
    go_wp2
    refine bodyPost_ret (v := .tuple #[.agg #[.bool false, .string ⟨#[]⟩, .int .i64 0], .int .i64 1]) (by simp [results, Tryd.results75, go_sem]) rfl ⟨rfl, ?_⟩
    exact alloc_below _ _
  have d1 : decide (4096 < ((s.size : Nat) : Int)) = false := by simp; omega
  have kA := alld_any s (by omega)
  cases hA : allD (bs s) with
  | false =>
    have hR : makeA n s x = (noN, 1) := by unfold makeA; rw [if_pos (.inr (.inr hA))]
    rw [hR]
    rw [hA] at kA
    clear h0 h1 hR hA
    unfold noN noS
    go_enter Tryd.func75, Tryd.ntmps75
    go_wp2_with (go_at_call 88; refine (kA _).mono ?_; rintro e w1 ⟨rfl, hw⟩; rw [hw]; clear hw)
    refine bodyPost_ret (v := .tuple #[.agg #[.bool false, .string ⟨#[]⟩, .int .i64 0], .int .i64 1]) (by simp [results, Tryd.results75, go_sem]) rfl ⟨rfl, ?_⟩
    exact alloc_below _ _
  | true =>
    rw [hA] at kA
    have hM : makeA n s x = if longL (bs s) = [] then (zeroN, 0)
        else if 800 < (shortL (longL (bs s))).length ∨ x < -2000 - (((longL (bs s)).length - (shortL (longL (bs s))).length : Nat) : Int) ∨ 2000 - (((longL (bs s)).length - (shortL (longL (bs s))).length : Nat) : Int) < x then (noN, 11)
        else ((n, strOfNums (shortL (longL (bs s))), x + (((longL (bs s)).length - (shortL (longL (bs s))).length : Nat) : Int)), 0) := by
      unfold makeA
      rw [if_neg (by rintro (h | h | h) <;> simp_all)]
    rw [hM]
    have kL := triml_any s
    have hl := long_len (bs s)
    have hsl := short_len (longL (bs s))
    rw [bs_len] at hl
    have hd : Digs (shortL (longL (bs s))) := fun c hc => (allD_iff _).1 hA c (mem_short hc)
    clear hM hA
    obtain ⟨L, hLe⟩ : ∃ L, longL (bs s) = L := ⟨_, rfl⟩
    rw [hLe] at kL hl hsl hd ⊢
    by_cases hL : L = []
    · rw [if_pos hL]
      subst hL
      clear hLe
      have kL' : ∀ w, Calls Tryd.prog 89 #[.string s, .string zS] w fun e w' => e = .returned (.string ⟨#[]⟩) ∧ w' = w := fun w => by
        refine (kL w).mono ?_
        rintro e w' ⟨⟨t, rfl, ht⟩, hw⟩
        obtain rfl := bs_nil ht
        exact ⟨rfl, hw⟩
      have kZ := zero_any
      clear kL hl hsl hd h0 h1
      unfold zeroN zS at *
      have hr := row_new w false ⟨#[]⟩ 0
      go_enter Tryd.func75, Tryd.ntmps75
      go_wp2_with (first
        | (go_at_call 88; refine (kA _).mono ?_; rintro e w1 ⟨rfl, hw⟩; rw [hw]; clear hw)
        | (go_at_call 89; refine (kL' _).mono ?_; rintro e w1 ⟨rfl, hw⟩; rw [hw]; clear hw)
        | (go_at_call 90; refine (kZ _).mono ?_; rintro e w1 ⟨rfl, hb⟩; obtain ⟨c0, c1, c2⟩ := (hr.kept hb).at; have f0 := (hr.kept hb).fz 0; have f1 := (hr.kept hb).fz 1; have f2 := (hr.kept hb).fz 2))
      refine bodyPost_ret (v := .tuple #[.agg #[.bool false, .string ⟨#[48]⟩, .int .i64 0], .int .i64 0]) (by simp [results, Tryd.results75, go_sem, *]) rfl ⟨rfl, ?_⟩
      exact (((box_below hb).setCell (Nat.le_refl _) _).setCell (Nat.le_refl _) _).setCell (Nat.le_refl _) _
    rw [if_neg hL]
    obtain ⟨T, hT, hT0, hTl⟩ : ∃ T, bs T = L ∧ 0 < T.size ∧ T.size = L.length := by
      obtain ⟨T, hT⟩ : ∃ T, bs T = L := ⟨⟨(Lib.trimLeftB s.data.toList 48).toArray⟩, by rw [bs_trimL]; exact hLe⟩
      have h2 := bs_len T
      rw [hT] at h2
      exact ⟨T, hT, by rw [← h2]; exact List.length_pos_iff.2 hL, h2.symm⟩
    have kL' : ∀ w, Calls Tryd.prog 89 #[.string s, .string zS] w fun e w' => e = .returned (.string T) ∧ w' = w := fun w => by
      refine (kL w).mono ?_
      rintro e w' ⟨⟨t, rfl, ht⟩, hw⟩
      obtain rfl := bs_inj (ht.trans hT.symm)
      exact ⟨rfl, hw⟩
    obtain ⟨U, hU, hUl⟩ : ∃ U, bs U = shortL L ∧ U.size = (shortL L).length := by
      have h1 := bs_trimR T
      rw [hT] at h1
      have h2 := bs_len ⟨(Lib.trimRightB T.data.toList 48).toArray⟩
      rw [h1] at h2
      exact ⟨_, h1, h2.symm⟩
    have kR : ∀ w, Calls Tryd.prog 91 #[.string T, .string zS] w fun e w' => e = .returned (.string U) ∧ w' = w := fun w => by
      refine (trimr_any T w (by omega)).mono ?_
      rintro e w' ⟨⟨t, rfl, ht⟩, hw⟩
      rw [hT] at ht
      obtain rfl := bs_inj (ht.trans hU.symm)
      exact ⟨rfl, hw⟩
    have hTe := not_empty hT0
    have eU : strOfNums (shortL L) = U := by rw [← hU, str_bs]
    rw [eU, ← hTl, ← hUl]
    rw [← hTl] at hl
    rw [← hTl, ← hUl] at hsl
    have kC := clone_any U (hs := by omega)
    have w1 : IntKind.i64.wrap ((T.size : Int) - (U.size : Int)) = ((T.size - U.size : Nat) : Int) := by rw [IntKind.wrap_i64] <;> omega
    obtain ⟨G, hG⟩ : ∃ k, T.size - U.size = k := ⟨_, rfl⟩
    have hG4 : G ≤ 4096 := by omega
    rw [hG] at w1 ⊢
    have w2 : IntKind.i64.wrap (-2000 - (G : Int)) = -2000 - (G : Int) := by rw [IntKind.wrap_i64] <;> omega
    have w3 : IntKind.i64.wrap (2000 - (G : Int)) = 2000 - (G : Int) := by rw [IntKind.wrap_i64] <;> omega
    clear hG hsl hl h0 h1 hT hU eU kL hLe hL hd hTl hUl hT0
    have hr := row_new w false ⟨#[]⟩ 0
    unfold zS at *
    by_cases g1 : 800 < U.size
    · rw [if_pos (.inl g1)]
      have e1 : decide (800 < ((U.size : Nat) : Int)) = true := by simp; omega
      clear g1 hG4 w2 w3
      unfold noN noS
      go_enter Tryd.func75, Tryd.ntmps75
      go_wp2_with (first
        | (go_at_call 88; refine (kA _).mono ?_; rintro e w1 ⟨rfl, hw⟩; rw [hw]; clear hw)
        | (go_at_call 89; refine (kL' _).mono ?_; rintro e w1 ⟨rfl, hw⟩; rw [hw]; clear hw)
        | (go_at_call 91; refine (kR _).mono ?_; rintro e w1 ⟨rfl, hw⟩; rw [hw]; clear hw)
        | (go_at_call 54; refine (kC _).mono ?_; rintro e w1 ⟨rfl, hb⟩; obtain ⟨c0, c1, c2⟩ := (hr.kept hb).at; have f0 := (hr.kept hb).fz 0; have f1 := (hr.kept hb).fz 1; have f2 := (hr.kept hb).fz 2))
      refine bodyPost_ret (v := .tuple #[.agg #[.bool false, .string ⟨#[]⟩, .int .i64 0], .int .i64 11]) (by simp [results, Tryd.results75, go_sem, *]) rfl ⟨rfl, ?_⟩
      exact alloc_below _ _
    have e1 : decide (800 < ((U.size : Nat) : Int)) = false := by simp; omega
    by_cases g2 : x < -2000 - (G : Int)
    · rw [if_pos (.inr (.inl g2))]
      have e2 : decide (x < -2000 - (G : Int)) = true := by simpa using g2
      clear g1 g2 hG4
      unfold noN noS
      go_enter Tryd.func75, Tryd.ntmps75
      go_wp2_with (first
        | (go_at_call 88; refine (kA _).mono ?_; rintro e w1 ⟨rfl, hw⟩; rw [hw]; clear hw)
        | (go_at_call 89; refine (kL' _).mono ?_; rintro e w1 ⟨rfl, hw⟩; rw [hw]; clear hw)
        | (go_at_call 91; refine (kR _).mono ?_; rintro e w1 ⟨rfl, hw⟩; rw [hw]; clear hw)
        | (go_at_call 54; refine (kC _).mono ?_; rintro e w1 ⟨rfl, hb⟩; obtain ⟨c0, c1, c2⟩ := (hr.kept hb).at; have f0 := (hr.kept hb).fz 0; have f1 := (hr.kept hb).fz 1; have f2 := (hr.kept hb).fz 2))
      refine bodyPost_ret (v := .tuple #[.agg #[.bool false, .string ⟨#[]⟩, .int .i64 0], .int .i64 11]) (by simp [results, Tryd.results75, go_sem, *]) rfl ⟨rfl, ?_⟩
      exact alloc_below _ _
    have e2 : decide (x < -2000 - (G : Int)) = false := by simpa using g2
    by_cases g3 : 2000 - (G : Int) < x
    · rw [if_pos (.inr (.inr g3))]
      have e3 : decide (2000 - (G : Int) < x) = true := by simpa using g3
      clear g1 g2 g3 hG4
      unfold noN noS
      go_enter Tryd.func75, Tryd.ntmps75
      go_wp2_with (first
        | (go_at_call 88; refine (kA _).mono ?_; rintro e w1 ⟨rfl, hw⟩; rw [hw]; clear hw)
        | (go_at_call 89; refine (kL' _).mono ?_; rintro e w1 ⟨rfl, hw⟩; rw [hw]; clear hw)
        | (go_at_call 91; refine (kR _).mono ?_; rintro e w1 ⟨rfl, hw⟩; rw [hw]; clear hw)
        | (go_at_call 54; refine (kC _).mono ?_; rintro e w1 ⟨rfl, hb⟩; obtain ⟨c0, c1, c2⟩ := (hr.kept hb).at; have f0 := (hr.kept hb).fz 0; have f1 := (hr.kept hb).fz 1; have f2 := (hr.kept hb).fz 2))
      refine bodyPost_ret (v := .tuple #[.agg #[.bool false, .string ⟨#[]⟩, .int .i64 0], .int .i64 11]) (by simp [results, Tryd.results75, go_sem, *]) rfl ⟨rfl, ?_⟩
      exact alloc_below _ _
    have e3 : decide (2000 - (G : Int) < x) = false := by simpa using g3
    rw [if_neg (by rintro (h | h | h) <;> contradiction)]
    obtain ⟨Z, hZ⟩ : ∃ Z, x + (G : Int) = Z := ⟨_, rfl⟩
    have w4 : IntKind.i64.wrap (x + (G : Int)) = Z := by rw [IntKind.wrap_i64] <;> omega
    dsimp only
    rw [hZ]
    clear g1 g2 g3 hG4 hZ
    go_enter Tryd.func75, Tryd.ntmps75
    go_wp2_with (first
      | (go_at_call 88; refine (kA _).mono ?_; rintro e w1 ⟨rfl, hw⟩; rw [hw]; clear hw)
      | (go_at_call 89; refine (kL' _).mono ?_; rintro e w1 ⟨rfl, hw⟩; rw [hw]; clear hw)
      | (go_at_call 91; refine (kR _).mono ?_; rintro e w1 ⟨rfl, hw⟩; rw [hw]; clear hw)
      | (go_at_call 54; refine (kC _).mono ?_; rintro e w1 ⟨rfl, hb⟩; obtain ⟨c0, c1, c2⟩ := (hr.kept hb).at; have f0 := (hr.kept hb).fz 0; have f1 := (hr.kept hb).fz 1; have f2 := (hr.kept hb).fz 2))
    refine bodyPost_ret (v := .tuple #[.agg #[.bool n, .string U, .int .i64 Z], .int .i64 0]) (by simp [results, Tryd.results75, go_sem, *]) rfl ⟨rfl, ?_⟩
    exact (((box_below hb).setCell (Nat.le_refl _) _).setCell (Nat.le_refl _) _).setCell (Nat.le_refl _) _
end Go.Proofs.YtfkoghmbkgbgbaaDoor
