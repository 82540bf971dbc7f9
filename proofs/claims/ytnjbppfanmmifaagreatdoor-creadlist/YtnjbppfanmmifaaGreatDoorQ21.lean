/-
  A number is made: dec.Make.
  The program's reader of CBOR: numbers behind tags.
  The program's reader of CBOR: decimal numbers.
  The program's reader of CBOR: what an item's reading answers; whether there is more.
-/
import Derived.Test.YtnjbppfanmmifaaGreatDoorQ5
import Derived.Test.YtnjbppfanmmifaaGreatDoorQ17
import Derived.Test.YtnjbppfanmmifaaGreatDoorQ19
import Derived.Test.YtnjbppfanmmifaaGreatDoorQ20
import Derived.Test.YtnjbppfanmmifaaGreatDoorQ6
import Derived.Deep.RegionHeld3
import Derived.Deep.RegionWith
namespace Go.Proofs.YtnjbppfanmmifaaGreatDoor
open Go.RowKit

theorem allD_stop {l : List Int} {k : Nat} (hk : k < l.length) (h : isD (l.getD k 0) = false) : allD l = false := by
  cases h1 : allD l with
  | false => rfl
  | true =>
    have h2 := (allD_iff l).1 h1
    rw [List.getD_eq_getElem?_getD, List.getElem?_eq_getElem hk] at h
    have h3 := h2 _ (List.getElem_mem hk)
    rw [Option.getD_some] at h
    rw [isD_iff.2 h3] at h
    cases h
theorem alld_any (s : ByteArray) (hsz : s.size ≤ 4096) (w : World) : Calls Tryz.prog 233 #[.string s] w fun e w' => e = .returned (.bool (allD (bs s))) ∧ w' = w := by
  have kD := isdigit_any
  have hall : Hid (∀ k, k < s.size → isD ((bs s).getD k 0) = false → allD (bs s) = false) := fun k hk h => allD_stop (by rw [bs_len]; exact hk) h
  have hend : Hid ((∀ c ∈ (bs s).take s.size, 48 ≤ c ∧ c ≤ 57) → allD (bs s) = true) := fun h => by
    rw [List.take_of_length_le (by rw [bs_len]; exact Nat.le_refl _)] at h
    exact (allD_iff _).2 h
  generalize allD (bs s) = R at *
  go_enter Tryz.func233, Tryz.ntmps233
  go_wp2
  go_loop [6] (fun v => ∃ k : Nat, k ≤ s.size ∧ v = .int .i64 k ∧ Hid (∀ c ∈ (bs s).take k, 48 ≤ c ∧ c ≤ 57)) (fun v => s.size - (intOf v).toNat)
  case atStart => exact ⟨0, Nat.zero_le _, rfl, (by intro c hc; simp at hc)⟩
  case round =>
    obtain ⟨k, hk, rfl, hd⟩ := hrel
    by_cases hlt : k < s.size
    · have bk := bs_at s hlt
      have hN := hall.out k hlt
      have k1 := kD (((s[k]'hlt).toNat : Nat) : Int) w
      rw [← bk] at k1
      cases hA : isD ((bs s).getD k 0) with
      | false =>
        obtain rfl := hN hA
        rw [hA, bk] at k1
        clear bk hA hN
        go_wp2_with (go_at_call 241; refine k1.mono ?_; rintro e w1 ⟨rfl, hw⟩; obtain rfl : w = w1 := hw.symm)
        go_ret
        exact ⟨rfl, rfl⟩
      | true =>
        have hC : Hid (∀ c ∈ (bs s).take (k + 1), 48 ≤ c ∧ c ≤ 57) := take_digs hd.out (by rw [bs_len]; exact hlt) (isD_iff.1 hA)
        rw [hA, bk] at k1
        clear bk hA hN
        go_wp2_with (go_at_call 241; refine k1.mono ?_; rintro e w1 ⟨rfl, hw⟩; obtain rfl : w = w1 := hw.symm)
        go_round
        case rel => exact ⟨k + 1, by omega, by go_num, hC⟩
        case measure => simp [intOf]; omega
    · obtain rfl : k = s.size := by omega
      obtain rfl := hend.out hd.out
      go_wp2
      go_ret
      exact ⟨rfl, rfl⟩
theorem bs_nil {t : ByteArray} (h : bs t = []) : t = noS := by
  apply bs_inj
  rw [h]
  rfl
set_option maxHeartbeats 1000000 in
theorem make_any (n : Bool) (s : ByteArray) (x : Int) (w : World) : Calls Tryz.prog 218 #[.bool n, .string s, .int .i64 x] w fun e w' => e = .returned (.tuple #[.agg #[.bool (makeA n s x).1.1, .string (makeA n s x).1.2.1, .int .i64 (makeA n s x).1.2.2], .int .i64 (makeA n s x).2]) ∧ Below w.heap.size w w' := by
  by_cases h0 : s.size = 0
  · have hR : makeA n s x = (noN, 1) := by unfold makeA; rw [if_pos (.inl h0)]
    rw [hR]
    obtain rfl := empty_size h0
    clear h0 hR
    unfold noN noS
    go_enter Tryz.func218, Tryz.ntmps218
    go_wp2
    refine bodyPost_ret (v := .tuple #[.agg #[.bool false, .string ⟨#[]⟩, .int .i64 0], .int .i64 1]) (by simp [results, Tryz.results218, go_sem]) rfl ⟨rfl, ?_⟩
    exact alloc_below _ _
  have he := not_empty (s := s) (by omega)
  by_cases h1 : 4096 < s.size
  · have hR : makeA n s x = (noN, 1) := by unfold makeA; rw [if_pos (.inr (.inl h1))]
    rw [hR]
    have d1 : decide (4096 < ((s.size : Nat) : Int)) = true := by simp; omega
    clear h0 h1 hR
    unfold noN noS
    go_enter Tryz.func218, Tryz.ntmps218
    go_wp2
    refine bodyPost_ret (v := .tuple #[.agg #[.bool false, .string ⟨#[]⟩, .int .i64 0], .int .i64 1]) (by simp [results, Tryz.results218, go_sem]) rfl ⟨rfl, ?_⟩
    exact alloc_below _ _
  have d1 : decide (4096 < ((s.size : Nat) : Int)) = false := by simp; omega
  have kA := alld_any s (by omega)
  cases hA : allD (bs s) with
  | false =>
    have hR : makeA n s x = (noN, 1) := by unfold makeA; rw [if_pos (.inr (.inr hA))]
    rw [hR]
    rw [hA] at kA
    clear h0 h1 hR hA
    unfold noN noS
    go_enter Tryz.func218, Tryz.ntmps218
    go_wp2_with (go_at_call 233; refine (kA _).mono ?_; rintro e w1 ⟨rfl, hw⟩; rw [hw]; clear hw)
    refine bodyPost_ret (v := .tuple #[.agg #[.bool false, .string ⟨#[]⟩, .int .i64 0], .int .i64 1]) (by simp [results, Tryz.results218, go_sem]) rfl ⟨rfl, ?_⟩
    exact alloc_below _ _
  | true =>
    rw [hA] at kA
    have hM : makeA n s x = if longL (bs s) = [] then (zeroN, 0)
        else if 800 < (shortL (longL (bs s))).length ∨ x < -2000 - (((longL (bs s)).length - (shortL (longL (bs s))).length : Nat) : Int) ∨ 2000 - (((longL (bs s)).length - (shortL (longL (bs s))).length : Nat) : Int) < x then (noN, 11)
        else ((n, strOfNums (shortL (longL (bs s))), x + (((longL (bs s)).length - (shortL (longL (bs s))).length : Nat) : Int)), 0) := by
      unfold makeA
      rw [if_neg (by rintro (h | h | h) <;> simp_all)]
    rw [hM]
    have kL := triml_any s
    have hl := long_len (bs s)
    have hsl := short_len (longL (bs s))
    rw [bs_len] at hl
    have hd : Digs (shortL (longL (bs s))) := fun c hc => (allD_iff _).1 hA c (mem_short hc)
    clear hM hA
    obtain ⟨L, hLe⟩ : ∃ L, longL (bs s) = L := ⟨_, rfl⟩
    rw [hLe] at kL hl hsl hd ⊢
    by_cases hL : L = []
    · rw [if_pos hL]
      subst hL
      clear hLe
      have kL' : ∀ w, Calls Tryz.prog 234 #[.string s, .string zS] w fun e w' => e = .returned (.string ⟨#[]⟩) ∧ w' = w := fun w => by
        refine (kL w).mono ?_
        rintro e w' ⟨⟨t, rfl, ht⟩, hw⟩
        obtain rfl := bs_nil ht
        exact ⟨rfl, hw⟩
      have kZ := zero_any
      clear kL hl hsl hd h0 h1
      unfold zeroN zS at *
      have hr := row_new w false ⟨#[]⟩ 0
      go_enter Tryz.func218, Tryz.ntmps218
      go_wp2_with (first
        | (go_at_call 233; refine (kA _).mono ?_; rintro e w1 ⟨rfl, hw⟩; rw [hw]; clear hw)
        | (go_at_call 234; refine (kL' _).mono ?_; rintro e w1 ⟨rfl, hw⟩; rw [hw]; clear hw)
        | (go_at_call 201; refine (kZ _).mono ?_; rintro e w1 ⟨rfl, hb⟩; obtain ⟨c0, c1, c2⟩ := (hr.kept hb).at; have f0 := (hr.kept hb).fz 0; have f1 := (hr.kept hb).fz 1; have f2 := (hr.kept hb).fz 2))
      refine bodyPost_ret (v := .tuple #[.agg #[.bool false, .string ⟨#[48]⟩, .int .i64 0], .int .i64 0]) (by simp [results, Tryz.results218, go_sem, *]) rfl ⟨rfl, ?_⟩
      exact (((box_below hb).setCell (Nat.le_refl _) _).setCell (Nat.le_refl _) _).setCell (Nat.le_refl _) _
    rw [if_neg hL]
    obtain ⟨T, hT, hT0, hTl⟩ : ∃ T, bs T = L ∧ 0 < T.size ∧ T.size = L.length := by
      obtain ⟨T, hT⟩ : ∃ T, bs T = L := ⟨⟨(Lib.trimLeftB s.data.toList 48).toArray⟩, by rw [bs_trimL]; exact hLe⟩
      have h2 := bs_len T
      rw [hT] at h2
      exact ⟨T, hT, by rw [← h2]; exact List.length_pos_iff.2 hL, h2.symm⟩
    have kL' : ∀ w, Calls Tryz.prog 234 #[.string s, .string zS] w fun e w' => e = .returned (.string T) ∧ w' = w := fun w => by
      refine (kL w).mono ?_
      rintro e w' ⟨⟨t, rfl, ht⟩, hw⟩
      obtain rfl := bs_inj (ht.trans hT.symm)
      exact ⟨rfl, hw⟩
    obtain ⟨U, hU, hUl⟩ : ∃ U, bs U = shortL L ∧ U.size = (shortL L).length := by
      have h1 := bs_trimR T
      rw [hT] at h1
      have h2 := bs_len ⟨(Lib.trimRightB T.data.toList 48).toArray⟩
      rw [h1] at h2
      exact ⟨_, h1, h2.symm⟩
    have kR : ∀ w, Calls Tryz.prog 235 #[.string T, .string zS] w fun e w' => e = .returned (.string U) ∧ w' = w := fun w => by
      refine (trimr_any T w (by omega)).mono ?_
      rintro e w' ⟨⟨t, rfl, ht⟩, hw⟩
      rw [hT] at ht
      obtain rfl := bs_inj (ht.trans hU.symm)
      exact ⟨rfl, hw⟩
    have hTe := not_empty hT0
    have eU : strOfNums (shortL L) = U := by rw [← hU, str_bs]
    rw [eU, ← hTl, ← hUl]
    rw [← hTl] at hl
    rw [← hTl, ← hUl] at hsl
    have kC := clone_any U (hs := by omega)
    have w1 : IntKind.i64.wrap ((T.size : Int) - (U.size : Int)) = ((T.size - U.size : Nat) : Int) := by rw [IntKind.wrap_i64] <;> omega
    obtain ⟨G, hG⟩ : ∃ k, T.size - U.size = k := ⟨_, rfl⟩
    have hG4 : G ≤ 4096 := by omega
    rw [hG] at w1 ⊢
    have w2 : IntKind.i64.wrap (-2000 - (G : Int)) = -2000 - (G : Int) := by rw [IntKind.wrap_i64] <;> omega
    have w3 : IntKind.i64.wrap (2000 - (G : Int)) = 2000 - (G : Int) := by rw [IntKind.wrap_i64] <;> omega
    clear hG hsl hl h0 h1 hT hU eU kL hLe hL hd hTl hUl hT0
    have hr := row_new w false ⟨#[]⟩ 0
    unfold zS at *
    by_cases g1 : 800 < U.size
    · rw [if_pos (.inl g1)]
      have e1 : decide (800 < ((U.size : Nat) : Int)) = true := by simp; omega
      clear g1 hG4 w2 w3
      unfold noN noS
      go_enter Tryz.func218, Tryz.ntmps218
      go_wp2_with (first
        | (go_at_call 233; refine (kA _).mono ?_; rintro e w1 ⟨rfl, hw⟩; rw [hw]; clear hw)
        | (go_at_call 234; refine (kL' _).mono ?_; rintro e w1 ⟨rfl, hw⟩; rw [hw]; clear hw)
        | (go_at_call 235; refine (kR _).mono ?_; rintro e w1 ⟨rfl, hw⟩; rw [hw]; clear hw)
        | (go_at_call 236; refine (kC _).mono ?_; rintro e w1 ⟨rfl, hb⟩; obtain ⟨c0, c1, c2⟩ := (hr.kept hb).at; have f0 := (hr.kept hb).fz 0; have f1 := (hr.kept hb).fz 1; have f2 := (hr.kept hb).fz 2))
      refine bodyPost_ret (v := .tuple #[.agg #[.bool false, .string ⟨#[]⟩, .int .i64 0], .int .i64 11]) (by simp [results, Tryz.results218, go_sem, *]) rfl ⟨rfl, ?_⟩
      exact alloc_below _ _
    have e1 : decide (800 < ((U.size : Nat) : Int)) = false := by simp; omega
    by_cases g2 : x < -2000 - (G : Int)
    · rw [if_pos (.inr (.inl g2))]
      have e2 : decide (x < -2000 - (G : Int)) = true := by simpa using g2
      clear g1 g2 hG4
      unfold noN noS
      go_enter Tryz.func218, Tryz.ntmps218
      go_wp2_with (first
        | (go_at_call 233; refine (kA _).mono ?_; rintro e w1 ⟨rfl, hw⟩; rw [hw]; clear hw)
        | (go_at_call 234; refine (kL' _).mono ?_; rintro e w1 ⟨rfl, hw⟩; rw [hw]; clear hw)
        | (go_at_call 235; refine (kR _).mono ?_; rintro e w1 ⟨rfl, hw⟩; rw [hw]; clear hw)
        | (go_at_call 236; refine (kC _).mono ?_; rintro e w1 ⟨rfl, hb⟩; obtain ⟨c0, c1, c2⟩ := (hr.kept hb).at; have f0 := (hr.kept hb).fz 0; have f1 := (hr.kept hb).fz 1; have f2 := (hr.kept hb).fz 2))
      refine bodyPost_ret (v := .tuple #[.agg #[.bool false, .string ⟨#[]⟩, .int .i64 0], .int .i64 11]) (by simp [results, Tryz.results218, go_sem, *]) rfl ⟨rfl, ?_⟩
      exact alloc_below _ _
    have e2 : decide (x < -2000 - (G : Int)) = false := by simpa using g2
    by_cases g3 : 2000 - (G : Int) < x
    · rw [if_pos (.inr (.inr g3))]
      have e3 : decide (2000 - (G : Int) < x) = true := by simpa using g3
      clear g1 g2 g3 hG4
      unfold noN noS
      go_enter Tryz.func218, Tryz.ntmps218
      go_wp2_with (first
        | (go_at_call 233; refine (kA _).mono ?_; rintro e w1 ⟨rfl, hw⟩; rw [hw]; clear hw)
        | (go_at_call 234; refine (kL' _).mono ?_; rintro e w1 ⟨rfl, hw⟩; rw [hw]; clear hw)
        | (go_at_call 235; refine (kR _).mono ?_; rintro e w1 ⟨rfl, hw⟩; rw [hw]; clear hw)
        | (go_at_call 236; refine (kC _).mono ?_; rintro e w1 ⟨rfl, hb⟩; obtain ⟨c0, c1, c2⟩ := (hr.kept hb).at; have f0 := (hr.kept hb).fz 0; have f1 := (hr.kept hb).fz 1; have f2 := (hr.kept hb).fz 2))
      refine bodyPost_ret (v := .tuple #[.agg #[.bool false, .string ⟨#[]⟩, .int .i64 0], .int .i64 11]) (by simp [results, Tryz.results218, go_sem, *]) rfl ⟨rfl, ?_⟩
      exact alloc_below _ _
    have e3 : decide (2000 - (G : Int) < x) = false := by simpa using g3
    rw [if_neg (by rintro (h | h | h) <;> contradiction)]
    obtain ⟨Z, hZ⟩ : ∃ Z, x + (G : Int) = Z := ⟨_, rfl⟩
    have w4 : IntKind.i64.wrap (x + (G : Int)) = Z := by rw [IntKind.wrap_i64] <;> omega
    dsimp only
    rw [hZ]
    clear g1 g2 g3 hG4 hZ
    go_enter Tryz.func218, Tryz.ntmps218
    go_wp2_with (first
      | (go_at_call 233; refine (kA _).mono ?_; rintro e w1 ⟨rfl, hw⟩; rw [hw]; clear hw)
      | (go_at_call 234; refine (kL' _).mono ?_; rintro e w1 ⟨rfl, hw⟩; rw [hw]; clear hw)
      | (go_at_call 235; refine (kR _).mono ?_; rintro e w1 ⟨rfl, hw⟩; rw [hw]; clear hw)
      | (go_at_call 236; refine (kC _).mono ?_; rintro e w1 ⟨rfl, hb⟩; obtain ⟨c0, c1, c2⟩ := (hr.kept hb).at; have f0 := (hr.kept hb).fz 0; have f1 := (hr.kept hb).fz 1; have f2 := (hr.kept hb).fz 2))
    refine bodyPost_ret (v := .tuple #[.agg #[.bool n, .string U, .int .i64 Z], .int .i64 0]) (by simp [results, Tryz.results218, go_sem, *]) rfl ⟨rfl, ?_⟩
    exact (((box_below hb).setCell (Nat.le_refl _) _).setCell (Nat.le_refl _) _).setCell (Nat.le_refl _) _
end Go.Proofs.YtnjbppfanmmifaaGreatDoor
namespace Go.Proofs.YtnjbppfanmmifaaGreatDoor
open Go.RowKit
set_option linter.unusedVariables false
/-- A node without bytes, keys and kids. -/
def nbL (t : Tr) : Nb := ⟨t.kind, t.num, t.neg, t.dig, t.exp, t.txt, none, 0, 0, none, 0, 0, none, 0, 0⟩
theorem bset {B k j : Nat} {w X : World} {v : Value} (h : Below B w X) (hk : B ≤ k) : Below B w (X.setCell ⟨k, j, none⟩ v) := h.setCell (p := ⟨k, j, none⟩) hk v
theorem ballo {B : Nat} {w X : World} (h : Below B w X) (hB : B ≤ w.heap.size) (o : Obj) : Below B w (X.alloc o) := h.trans ((alloc_below X o).mono (Nat.le_trans hB h.size))
set_option maxHeartbeats 1000000 in
set_option maxRecDepth 100000 in
theorem csigned_any (neg : Bool) (n : Int) (h0 : 0 ≤ n) (h1 : n ≤ 1000000) (w : World) : Calls Tryz.prog 219 #[.bool neg, .int .i64 n] w fun e w' => e = .returned (.int .i64 (sgn neg n)) ∧ w' = w := by
  have wn : IntKind.i64.wrap (-n) = -n := by rw [IntKind.wrap_i64]; omega
  unfold sgn
  cases neg with
  | true =>
    clear h0 h1
    go_enter Tryz.func219, Tryz.ntmps219
    go_wp2
    go_ret
    exact ⟨rfl, rfl⟩
  | false =>
    clear h0 h1
    go_enter Tryz.func219, Tryz.ntmps219
    go_wp2
    go_ret
    exact ⟨rfl, rfl⟩
set_option maxHeartbeats 1000000 in
set_option maxRecDepth 100000 in
theorem cbelow_any (d : ByteArray) (w : World) : Calls Tryz.prog 125 #[.string d] w fun e w' => e = .returned (.tuple #[.agg (nbL (belA d).1).arr, .int .i64 (belA d).2]) ∧ Below w.heap.size w w' := by
  have kA : Hid (∀ wx, Calls Tryz.prog 164 #[.string d, .string ⟨#[49]⟩] wx fun e w' => e = .returned (.tuple #[.string (addA d oneS).1, .int .i64 (addA d oneS).2]) ∧ Below wx.heap.size wx w') := fun wx => add_any d oneS wx
  unfold belA nbL Nb.arr intT
  simp only
  generalize (addA d oneS).1 = s at *
  generalize (addA d oneS).2 = y at *
  have hW : Hid (Below w.heap.size w (w.alloc (.cells zN.arr 26))) := alloc_below w _
  have hB := nbox_new w zN
  have hX : Hid (∀ w2, Below (w.alloc (.cells zN.arr 26)).heap.size (w.alloc (.cells zN.arr 26)) w2 → NBox w2 w.heap.size zN ∧ Below w.heap.size w w2) := fun w2 h2 => ⟨hB.kept h2 hB.lt, hW.out.trans (h2.mono hW.out.size)⟩
  unfold zN Nb.arr at hX
  clear hB hW
  go_enter Tryz.func125, Tryz.ntmps125
  go_wp2_with (go_at_call 164; refine (kA.out _).mono ?_; rintro e w2 ⟨rfl, hb2⟩; obtain ⟨hN, hB2⟩ := hX.out _ hb2; obtain ⟨f0, f1, f2, f3, f4, f5, f6, f7, f8⟩ := hN.fields; have z0 := hN.fz 0; have z1 := hN.fz 1; have z2 := hN.fz 2; have z3 := hN.fz 3; have z4 := hN.fz 4; have z5 := hN.fz 5; have z6 := hN.fz 6; have z7 := hN.fz 7; have z8 := hN.fz 8; simp only at f0 f1 f2 f3 f4 f5 f6 f7 f8; have hB3 : Hid (Below w.heap.size w w2) := hB2; clear hb2 hN hB2)
  refine bodyPost_ret (v := .tuple #[.agg #[.int .i64 2, .int .u64 0, .bool true, .string s, .int .i64 0, .string ⟨#[]⟩, .slice none 0 0, .slice none 0 0, .slice none 0 0], .int .i64 y]) (by simp [results, Tryz.results125, go_sem, *]) rfl ⟨rfl, ?_⟩
  repeat (first | with_reducible exact hB3.out | with_reducible refine bset ?_ (Nat.le_refl _))
/-- What the walks are told of a zero node's box. -/
theorem zbox {w2 : World} {g : Nat} (hN : NBox w2 g zN) : (w2.cell? ⟨g, 0, none⟩ = some (.int .i64 0) ∧ w2.cell? ⟨g, 1, none⟩ = some (.int .u64 0) ∧ w2.cell? ⟨g, 2, none⟩ = some (.bool false) ∧ w2.cell? ⟨g, 3, none⟩ = some (.string ⟨#[]⟩) ∧ w2.cell? ⟨g, 4, none⟩ = some (.int .i64 0) ∧ w2.cell? ⟨g, 5, none⟩ = some (.string ⟨#[]⟩) ∧ w2.cell? ⟨g, 6, none⟩ = some (.slice none 0 0) ∧ w2.cell? ⟨g, 7, none⟩ = some (.slice none 0 0) ∧ w2.cell? ⟨g, 8, none⟩ = some (.slice none 0 0)) ∧ (w2.frozen? ⟨g, 0, none⟩ = false ∧ w2.frozen? ⟨g, 1, none⟩ = false ∧ w2.frozen? ⟨g, 2, none⟩ = false ∧ w2.frozen? ⟨g, 3, none⟩ = false ∧ w2.frozen? ⟨g, 4, none⟩ = false ∧ w2.frozen? ⟨g, 5, none⟩ = false ∧ w2.frozen? ⟨g, 6, none⟩ = false ∧ w2.frozen? ⟨g, 7, none⟩ = false ∧ w2.frozen? ⟨g, 8, none⟩ = false) :=
  ⟨hN.fields, hN.fz 0, hN.fz 1, hN.fz 2, hN.fz 3, hN.fz 4, hN.fz 5, hN.fz 6, hN.fz 7, hN.fz 8⟩
/-- decimal's boxes: two nodes, a result. -/
def D3 (w X : World) (a b : Nb) : Prop := NBox X w.heap.size a ∧ NBox X (w.heap.size + 1) b ∧ NBox X (w.heap.size + 2) zN ∧ Below w.heap.size w X
theorem d3_new (w : World) (a b : Nb) : D3 w (((w.alloc (.cells a.arr 26)).alloc (.cells b.arr 26)).alloc (.cells zN.arr 26)) a b := by
  have h1 := alloc_below w (.cells a.arr 26)
  have h2 := alloc_below (w.alloc (.cells a.arr 26)) (.cells b.arr 26)
  have h3 := alloc_below ((w.alloc (.cells a.arr 26)).alloc (.cells b.arr 26)) (.cells zN.arr 26)
  have s1 : (w.alloc (.cells a.arr 26)).heap.size = w.heap.size + 1 := by simp
  have s2 : ((w.alloc (.cells a.arr 26)).alloc (.cells b.arr 26)).heap.size = w.heap.size + 2 := by simp
  refine ⟨((nbox_new w a).kept h2 (by omega)).kept h3 (by omega), ?_, ?_, (h1.trans (h2.mono (by omega))).trans (h3.mono (by omega))⟩
  · have := (nbox_new (w.alloc (.cells a.arr 26)) b).kept h3 (by omega)
    rwa [s1] at this
  · have := nbox_new ((w.alloc (.cells a.arr 26)).alloc (.cells b.arr 26)) zN
    rwa [s2] at this
theorem D3.call {w X Y : World} {a b : Nb} (h : D3 w X a b) (hb : Below X.heap.size X Y) : D3 w Y a b := ⟨h.1.kept hb h.1.lt, h.2.1.kept hb h.2.1.lt, h.2.2.1.kept hb h.2.2.1.lt, h.2.2.2.trans (hb.mono h.2.2.2.size)⟩
end Go.Proofs.YtnjbppfanmmifaaGreatDoor
namespace Go.Proofs.YtnjbppfanmmifaaGreatDoor
open Go.RowKit
set_option linter.unusedVariables false
set_option maxHeartbeats 4000000 in
set_option maxRecDepth 100000 in
theorem cdecimal_far (a b : Nb) (w : World) {B : Nat} (hLv : Lw B w) (hBw : B ≤ w.heap.size) (hfar : (towA a.dig).2 = false ∨ 1000000 < (towA a.dig).1) : Calls Tryz.prog 199 #[.agg a.arr, .agg b.arr] w fun e w' => (∃ nb : Nb, e = .returned (.tuple #[.agg nb.arr, .int .i64 11])) ∧ Below w.heap.size w w' := by
  obtain ⟨_, h2', tp, pp, hv⟩ := hLv
  have h2 : 5 < w.heap.size := by omega
  have hD := d3_new w a b
  have kT : Hid (∀ wx, Below w.heap.size w wx → Calls Tryz.prog 150 #[.string a.dig] wx fun e w' => e = .returned (.tuple #[.int .u64 (towA a.dig).1, .bool (towA a.dig).2]) ∧ Below wx.heap.size wx w') := fun wx hx => tow_any a.dig wx tp pp (by rw [hx.cell h2]; exact hv)
  have hH : Hid (D3 w (((w.alloc (.cells a.arr 26)).alloc (.cells b.arr 26)).alloc (.cells zN.arr 26)) a b) := hD
  obtain ⟨a0, a1, a2, a3, a4, a5, a6, a7, a8⟩ := hD.1.fields
  clear hD hv h2 h2' hBw
  unfold zN Nb.arr at *
  simp only at *
  generalize hT : towA a.dig = T at *
  obtain ⟨x, ok⟩ := T
  simp only at hfar kT
  rcases Classical.em (ok = false) with h0 | h0
  · subst h0
    clear hfar hT
    go_enter Tryz.func199, Tryz.ntmps199
    go_wp2_with (go_at_call 150; refine (kT.out _ hH.out.2.2.2).mono ?_; rintro e w2 ⟨rfl, hb2⟩; have hE : Hid (D3 w w2 a b) := hH.out.call hb2; have hEB : Hid (Below w.heap.size w w2) := hE.out.2.2.2; obtain ⟨⟨f0, f1, f2, f3, f4, f5, f6, f7, f8⟩, z0, z1, z2, z3, z4, z5, z6, z7, z8⟩ := zbox hE.out.2.2.1; clear hb2)
    refine bodyPost_ret (v := .tuple #[.agg #[.int .i64 0, .int .u64 0, .bool false, .string ⟨#[]⟩, .int .i64 0, .string ⟨#[]⟩, .slice none 0 0, .slice none 0 0, .slice none 0 0], .int .i64 11]) (by simp [results, Tryz.results199, go_sem, *]) rfl ⟨⟨zN, rfl⟩, ?_⟩
    repeat (first | with_reducible exact hEB.out | with_reducible refine bset ?_ (by omega))
  · have h1 : ok = true := by simpa using h0
    subst h1
    have gx : decide (1000000 < x) = true := by rcases hfar with q | q; cases q; simpa using q
    clear hfar hT h0
    go_enter Tryz.func199, Tryz.ntmps199
    go_wp2_with (go_at_call 150; refine (kT.out _ hH.out.2.2.2).mono ?_; rintro e w2 ⟨rfl, hb2⟩; have hE : Hid (D3 w w2 a b) := hH.out.call hb2; have hEB : Hid (Below w.heap.size w w2) := hE.out.2.2.2; obtain ⟨⟨f0, f1, f2, f3, f4, f5, f6, f7, f8⟩, z0, z1, z2, z3, z4, z5, z6, z7, z8⟩ := zbox hE.out.2.2.1; clear hb2)
    refine bodyPost_ret (v := .tuple #[.agg #[.int .i64 0, .int .u64 0, .bool false, .string ⟨#[]⟩, .int .i64 0, .string ⟨#[]⟩, .slice none 0 0, .slice none 0 0, .slice none 0 0], .int .i64 11]) (by simp [results, Tryz.results199, go_sem, *]) rfl ⟨⟨zN, rfl⟩, ?_⟩
    repeat (first | with_reducible exact hEB.out | with_reducible refine bset ?_ (by omega))
theorem D3.alloc {w X : World} {a b : Nb} (h : D3 w X a b) (o : Obj) : D3 w (X.alloc o) a b := h.call (alloc_below X o)
theorem D3.drew {w X : World} {a b : Nb} (h : D3 w X a b) : D3 w X.drew a b := h.call (Below.refl _ _).drew
theorem D3.set {w X : World} {a b : Nb} (h : D3 w X a b) {k j : Nat} {v : Value} (hk : w.heap.size + 3 ≤ k) : D3 w (X.setCell ⟨k, j, none⟩ v) a b :=
  ⟨h.1.same (setk (by omega) v), h.2.1.same (setk (by omega) v), h.2.2.1.same (setk (by omega) v), bset h.2.2.2 (by omega)⟩
theorem D3.lt {w X : World} {a b : Nb} (h : D3 w X a b) : w.heap.size + 3 ≤ X.heap.size := h.2.2.1.lt
/-- A number, boxed at g, behind decimal's boxes. -/
def D4 (w X : World) (a b : Nb) (g : Nat) (r : Nm) : Prop := D3 w X a b ∧ w.heap.size + 3 ≤ g ∧ Blk X g #[.bool r.1, .string r.2.1, .int .i64 r.2.2] 104
theorem d4_a {w X : World} {a b : Nb} (h : D3 w X a b) (rn : Bool) (rd : ByteArray) (re : Int) : D4 w (X.alloc (.cells #[.bool rn, .string rd, .int .i64 re] 104)) a b X.heap.size (rn, rd, re) := ⟨h.alloc _, h.lt, blk_new X _ _⟩
theorem d4_b {w X : World} {a b : Nb} {g : Nat} (h : D3 w X a b) (hg : w.heap.size + 3 ≤ g) (hB : Blk X g #[.bool false, .string ⟨#[]⟩, .int .i64 0] 104) (rn : Bool) (rd : ByteArray) (re : Int) : D4 w (((X.setCell ⟨g, 0, none⟩ (.bool rn)).setCell ⟨g, 1, none⟩ (.string rd)).setCell ⟨g, 2, none⟩ (.int .i64 re)) a b g (rn, rd, re) := ⟨((h.set hg).set hg).set hg, hg, Blk.set (Blk.set (Blk.set hB 0 _) 1 _) 2 _⟩
theorem D4.call {w X Y : World} {a b : Nb} {g : Nat} {r : Nm} (h : D4 w X a b g r) (hb : Below X.heap.size X Y) : D4 w Y a b g r := ⟨h.1.call hb, h.2.1, Blk.kept h.2.2 hb h.2.2.lt⟩
set_option maxHeartbeats 4000000 in
set_option maxRecDepth 100000 in
theorem cdecimal_near (a b : Nb) (w : World) {B : Nat} (hLv : Lw B w) (hBw : B ≤ w.heap.size) (hok : (towA a.dig).2 = true) (hx0 : 0 ≤ (towA a.dig).1) (hnear : (towA a.dig).1 ≤ 1000000) (nb : Nb) (er : Int)
    (hnb : (makeA b.neg b.dig (sgn a.neg (towA a.dig).1)).2 ≠ 0 → nb = zN ∧ er = (makeA b.neg b.dig (sgn a.neg (towA a.dig).1)).2) (hnb2 : (makeA b.neg b.dig (sgn a.neg (towA a.dig).1)).2 = 0 → nb = nbL (dcm (makeA b.neg b.dig (sgn a.neg (towA a.dig).1)).1) ∧ er = 0) : Calls Tryz.prog 199 #[.agg a.arr, .agg b.arr] w fun e w' => e = .returned (.tuple #[.agg nb.arr, .int .i64 er]) ∧ Below w.heap.size w w' := by
  obtain ⟨_, h2', tp, pp, hv⟩ := hLv
  have h2 : 5 < w.heap.size := by omega
  have hD := d3_new w a b
  have kT : Hid (∀ wx, Below w.heap.size w wx → Calls Tryz.prog 150 #[.string a.dig] wx fun e w' => e = .returned (.tuple #[.int .u64 (towA a.dig).1, .bool (towA a.dig).2]) ∧ Below wx.heap.size wx w') := fun wx hx => tow_any a.dig wx tp pp (by rw [hx.cell h2]; exact hv)
  have kS : Hid (∀ wx, Calls Tryz.prog 219 #[.bool a.neg, .int .i64 (towA a.dig).1] wx fun e w' => e = .returned (.int .i64 (sgn a.neg (towA a.dig).1)) ∧ w' = wx) := fun wx => csigned_any a.neg _ hx0 hnear wx
  have kM : Hid (∀ wx, Calls Tryz.prog 218 #[.bool b.neg, .string b.dig, .int .i64 (sgn a.neg (towA a.dig).1)] wx fun e w' => e = .returned (.tuple #[.agg #[.bool (makeA b.neg b.dig (sgn a.neg (towA a.dig).1)).1.1, .string (makeA b.neg b.dig (sgn a.neg (towA a.dig).1)).1.2.1, .int .i64 (makeA b.neg b.dig (sgn a.neg (towA a.dig).1)).1.2.2], .int .i64 (makeA b.neg b.dig (sgn a.neg (towA a.dig).1)).2]) ∧ Below wx.heap.size wx w') := fun wx => make_any _ _ _ wx
  have hH : Hid (D3 w (((w.alloc (.cells a.arr 26)).alloc (.cells b.arr 26)).alloc (.cells zN.arr 26)) a b) := hD
  obtain ⟨a0, a1, a2, a3, a4, a5, a6, a7, a8⟩ := hD.1.fields
  have gx : decide (1000000 < (towA a.dig).1) = false := by simpa using hnear
  have wx1 : IntKind.i64.wrap (towA a.dig).1 = (towA a.dig).1 := by rw [IntKind.wrap_i64]; omega
  rw [hok] at kT
  clear hD hv h2 h2' hBw hok hx0 hnear
  unfold zN Nb.arr at *
  simp only at *
  generalize sgn a.neg (towA a.dig).1 = sg at *
  generalize (towA a.dig).1 = x at *
  generalize makeA b.neg b.dig sg = MR at *
  obtain ⟨⟨rn, rd, re⟩, y⟩ := MR
  simp only at *
  go_enter Tryz.func199, Tryz.ntmps199
  go_upto_region 4 with (go_at_call 150; refine (kT.out _ hH.out.2.2.2).mono ?_; rintro e w2 ⟨rfl, hb2⟩; have hE : Hid (D3 w w2 a b) := hH.out.call hb2; obtain ⟨p0, p1, p2, p3, _⟩ := hE.out.1.fields; obtain ⟨q0, q1, q2, q3, _⟩ := hE.out.2.1.fields; have hl0 : w.heap.size < w2.heap.size := hE.out.1.lt; have hl1 : w.heap.size + 1 < w2.heap.size := hE.out.2.1.lt; clear hb2 a0 a1 a2 a3 a4 a5 a6 a7 a8 hH)
  go_cut [8, 9] (fun s8 s9 wx => ∃ g8, s8 = .pointer (some ⟨g8, 0, none⟩) ∧ s9 = .int .i64 y ∧ Hid (D4 w wx a b g8 (rn, rd, re)))
  case first =>
    have SK : Hid (∀ wx, Below w2.heap.size w2 wx → wx.cell? ⟨w.heap.size, 2, none⟩ = some (.bool a.neg) ∧ wx.cell? ⟨w.heap.size + 1, 2, none⟩ = some (.bool b.neg) ∧ wx.cell? ⟨w.heap.size + 1, 3, none⟩ = some (.string b.dig)) := fun wx hb => ⟨(hb.cell (p := ⟨w.heap.size, 2, none⟩) hl0).trans p2, (hb.cell (p := ⟨w.heap.size + 1, 2, none⟩) hl1).trans q2, (hb.cell (p := ⟨w.heap.size + 1, 3, none⟩) hl1).trans q3⟩
    have a3 : Hid (Below w2.heap.size w2 (w2.alloc (.cells #[.bool false, .string ⟨#[]⟩, .int .i64 0] 104))) := alloc_below w2 _
    have l3 : Hid (Blk (w2.alloc (.cells #[.bool false, .string ⟨#[]⟩, .int .i64 0] 104)) w2.heap.size #[.bool false, .string ⟨#[]⟩, .int .i64 0] 104) := blk_new w2 _ _
    have hLL : Hid (w.heap.size + 3 ≤ w2.heap.size) := hE.out.lt
    clear p0 p1 p2 p3 q0 q1 q2 q3 hl0 hl1 kT gx hnb hnb2
    go_region_held3 (fun wx => wx.cell? ⟨w.heap.size, 2, none⟩ = some (.bool a.neg) ∧ wx.cell? ⟨w.heap.size + 1, 2, none⟩ = some (.bool b.neg) ∧ wx.cell? ⟨w.heap.size + 1, 3, none⟩ = some (.string b.dig)) (((with_reducible refine SK.out _ ?_); (repeat' with_reducible first | exact Below.refl _ _ | exact a3.out | exact b2.out | refine Below.drew ?_ | refine Below.setCell ?_ ?_ _ | refine Below.alloc ?_ ?_ _); (all_goals first | exact Nat.le_refl _ | exact Nat.le_succ _ | exact b2.out.size))) (first
      | (go_at_call 219; refine (kS.out _).mono ?_; rintro e w3 ⟨rfl, hw3⟩; obtain rfl := hw3.symm)
      | (go_at_call 218; refine (kM.out _).mono ?_; rintro e w4 ⟨rfl, hb4⟩; first
        | (have hX : Below (w2.drew).heap.size (w2.drew) w4 := (by with_reducible exact hb4); have b2 : Hid (Below w2.heap.size w2 w4) := ⟨hb4.os, hb4.tape, hb4.output, hb4.size, hb4.block⟩; clear hb4 hX)
        | (have hX : Below ((w2.alloc (.cells #[.bool false, .string ⟨#[]⟩, .int .i64 0] 104)).drew).heap.size ((w2.alloc (.cells #[.bool false, .string ⟨#[]⟩, .int .i64 0] 104)).drew) w4 := (by with_reducible exact hb4); have b2 : Hid (Below w2.heap.size w2 w4) := a3.out.trans (Below.mono ⟨hb4.os, hb4.tape, hb4.output, hb4.size, hb4.block⟩ a3.out.size); have K3 : Hid (Blk w4 w2.heap.size #[.bool false, .string ⟨#[]⟩, .int .i64 0] 104) := (hb4.block _ l3.out.lt).trans l3.out; have k30 : w4.cell? ⟨w2.heap.size, 0, none⟩ = some (.bool false) := K3.out.cell 0; have k31 : w4.cell? ⟨w2.heap.size, 1, none⟩ = some (.string ⟨#[]⟩) := K3.out.cell 1; have k32 : w4.cell? ⟨w2.heap.size, 2, none⟩ = some (.int .i64 0) := K3.out.cell 2; have k3f0 := Blk.fz K3.out 0; have k3f1 := Blk.fz K3.out 1; have k3f2 := Blk.fz K3.out 2; clear hb4 hX)))
    all_goals
      go_wp2_with fail
      go_meet
      refine ⟨_, rfl, rfl, ?_⟩
      first
        | (have F : Hid (D4 w _ a b _ (rn, rd, re)) := d4_a (hE.out.call b2.out) rn rd re; with_reducible exact F)
        | (have F : Hid (D4 w _ a b _ (rn, rd, re)) := d4_b (hE.out.call b2.out) hLL.out K3.out rn rd re; with_reducible exact F)
  case rest =>
    obtain ⟨g8, rfl, rfl, hN⟩ := hcut
    have k0 : wc.cell? ⟨g8, 0, none⟩ = some (.bool rn) := hN.out.2.2.cell 0
    have k1 : wc.cell? ⟨g8, 1, none⟩ = some (.string rd) := hN.out.2.2.cell 1
    have k2 : wc.cell? ⟨g8, 2, none⟩ = some (.int .i64 re) := hN.out.2.2.cell 2
    have hWB : Hid (Below w.heap.size w wc) := hN.out.1.2.2.2
    obtain ⟨⟨f0, f1, f2, f3, f4, f5, f6, f7, f8⟩, z0, z1, z2, z3, z4, z5, z6, z7, z8⟩ := zbox hN.out.1.2.2.1
    clear hE p0 p1 p2 p3 q0 q1 q2 q3 hl0 hl1 kT kS kM gx
    by_cases hy : y = 0
    · have hdd : Hid (nb = nbL (if (wholeA rn rd re).2 = true then intT rn (wholeA rn rd re).1 else decT rn rd re)) := (hnb2 hy).1
      have her : Hid (er = 0) := (hnb2 hy).2
      have gy : (y != 0) = false := by simpa using hy
      have kW : Hid (∀ wx, Calls Tryz.prog 143 #[.agg #[.bool rn, .string rd, .int .i64 re]] wx fun e w' => e = .returned (.tuple #[.string (wholeA rn rd re).1, .bool (wholeA rn rd re).2]) ∧ Below wx.heap.size wx w') := fun wx => whole_any rn rd re wx
      clear hnb hnb2 hy
      generalize wholeA rn rd re = V at *
      obtain ⟨vs, vb⟩ := V
      simp only at kW hdd
      cases vb with
      | true =>
        have hd2 : Hid (nb = nbL (intT rn vs)) := hdd.out
        clear hdd
        go_wp2_with (go_at_call 143; refine (kW.out _).mono ?_; rintro e w5 ⟨rfl, hb5⟩; have hM := hN.out.call hb5; have k0 : w5.cell? ⟨g8, 0, none⟩ = some (.bool rn) := hM.2.2.cell 0; have k1 : w5.cell? ⟨g8, 1, none⟩ = some (.string rd) := hM.2.2.cell 1; have k2 : w5.cell? ⟨g8, 2, none⟩ = some (.int .i64 re) := hM.2.2.cell 2; have hWB5 : Hid (Below w.heap.size w w5) := hM.1.2.2.2; obtain ⟨⟨f0, f1, f2, f3, f4, f5, f6, f7, f8⟩, z0, z1, z2, z3, z4, z5, z6, z7, z8⟩ := zbox hM.1.2.2.1; clear hb5 hM)
        refine bodyPost_ret (v := .tuple #[.agg #[.int .i64 2, .int .u64 0, .bool rn, .string vs, .int .i64 0, .string ⟨#[]⟩, .slice none 0 0, .slice none 0 0, .slice none 0 0], .int .i64 0]) (by simp [results, Tryz.results199, go_sem, *]) rfl ⟨by rw [hd2.out, her.out]; rfl, ?_⟩
        repeat (first | with_reducible exact hWB5.out | with_reducible refine bset ?_ (by omega))
      | false =>
        have hd2 : Hid (nb = nbL (decT rn rd re)) := hdd.out
        clear hdd
        go_wp2_with (go_at_call 143; refine (kW.out _).mono ?_; rintro e w5 ⟨rfl, hb5⟩; have hM := hN.out.call hb5; have k0 : w5.cell? ⟨g8, 0, none⟩ = some (.bool rn) := hM.2.2.cell 0; have k1 : w5.cell? ⟨g8, 1, none⟩ = some (.string rd) := hM.2.2.cell 1; have k2 : w5.cell? ⟨g8, 2, none⟩ = some (.int .i64 re) := hM.2.2.cell 2; have hWB5 : Hid (Below w.heap.size w w5) := hM.1.2.2.2; obtain ⟨⟨f0, f1, f2, f3, f4, f5, f6, f7, f8⟩, z0, z1, z2, z3, z4, z5, z6, z7, z8⟩ := zbox hM.1.2.2.1; clear hb5 hM)
        refine bodyPost_ret (v := .tuple #[.agg #[.int .i64 3, .int .u64 0, .bool rn, .string rd, .int .i64 re, .string ⟨#[]⟩, .slice none 0 0, .slice none 0 0, .slice none 0 0], .int .i64 0]) (by simp [results, Tryz.results199, go_sem, *]) rfl ⟨by rw [hd2.out, her.out]; rfl, ?_⟩
        repeat (first | with_reducible exact hWB5.out | with_reducible refine bset ?_ (by omega))
    · have hd2 : Hid (nb = zN) := (hnb hy).1
      have her : Hid (er = y) := (hnb hy).2
      have gy : (y != 0) = true := by simpa using hy
      clear hnb hnb2 hy
      go_wp2_with fail
      refine bodyPost_ret (v := .tuple #[.agg #[.int .i64 0, .int .u64 0, .bool false, .string ⟨#[]⟩, .int .i64 0, .string ⟨#[]⟩, .slice none 0 0, .slice none 0 0, .slice none 0 0], .int .i64 y]) (by simp [results, Tryz.results199, go_sem, *]) rfl ⟨by rw [hd2.out, her.out]; rfl, ?_⟩
      repeat (first | with_reducible exact hWB.out | with_reducible refine bset ?_ (by omega))
end Go.Proofs.YtnjbppfanmmifaaGreatDoor
namespace Go.Proofs.YtnjbppfanmmifaaGreatDoor
open Go.RowKit
set_option linter.unusedVariables false
/-- WHAT IS ANSWERED OF AN ITEM: its fault, as a panic; or a tree in new memory. -/
def ItmIs (C : CX) (w w' : World) (D : Nat) (x : Ending) (R : Sum (Int × Nat) (Tr × Nat × Nat)) : Prop := match R with
  | .inl f => x = Pn f ∧ Kq C.g w.heap.size w w'
  | .inr (t, r, n) => (∃ nb : Nb, x = .returned (.agg nb.arr) ∧ NdW (Rg w.heap.size w'.heap.size) D w' nb t) ∧ RK C w w' r n
/-- Whether there is more. -/
def GonIs (C : CX) (w w' : World) (m : Nat) (x : Ending) (R : Sum (Int × Nat) (Bool × Nat)) : Prop := match R with
  | .inl f => x = Pn f ∧ Kq C.g w.heap.size w w'
  | .inr (b, q) => x = .returned (.bool b) ∧ RK C w w' q m
set_option maxHeartbeats 4000000 in
set_option maxRecDepth 100000 in
theorem cgoes_any {C : CX} {w : World} {p m : Nat} (h : RSt C w p m) (hd : Hd) (done : Nat) : Calls Tryz.prog 167 #[.pointer (some ⟨C.g, 0, none⟩), .agg hd.arr, .int .u64 (done : Nat)] w fun x w' => GonIs C w w' m x (gonA C.zs p ((limA hd).map (· - done))) := by
  have kH : Hid (∀ wx, Calls Tryz.prog 123 #[.agg hd.arr] wx fun e w' => e = .returned (.bool (decide (hd.lo ≤ 27))) ∧ Below wx.heap.size wx w') := fun wx => chasa_any hd wx
  have hR : Hid (∀ wx, Below w.heap.size w wx → RK C w wx p m) := fun wx hx => h.rk.below hx
  have hB := blk_new w hd.arr 94
  have hW : Hid (Below w.heap.size w (w.alloc (.cells hd.arr 94))) := alloc_below w _
  have hBx : Hid (∀ wx, Below (w.alloc (.cells hd.arr 94)).heap.size (w.alloc (.cells hd.arr 94)) wx → Blk wx w.heap.size hd.arr 94) := fun wx hx => Blk.kept hB hx hB.lt
  have hS : Hid (RSt C w p m) := h
  by_cases hl : hd.lo ≤ 27
  · have e1 : gonA C.zs p ((limA hd).map (· - done)) = .inr (decide (done < hd.n), p) := by
      unfold limA
      rw [if_pos hl]
      show gonA C.zs p (some (hd.n - done)) = _
      by_cases hlt : done < hd.n
      · obtain ⟨j, hj⟩ : ∃ j, hd.n - done = j + 1 := ⟨hd.n - done - 1, by omega⟩
        rw [hj, show decide (done < hd.n) = true from by simpa using hlt]
        rfl
      · rw [show hd.n - done = 0 by omega, show decide (done < hd.n) = false from by simpa using hlt]
        rfl
    rw [e1]
    rw [show decide (hd.lo ≤ 27) = true from by simpa using hl] at kH
    unfold GonIs
    simp only
    obtain ⟨pl, mj, lo, n, cut⟩ := hd
    unfold Hd.arr at *
    simp only at *
    obtain ⟨x0, x1, x2, x3, x4⟩ := hbox w pl n mj lo cut
    have hdd : decide ((done : Int) < (n : Int)) = decide (done < n) := by rw [Bool.eq_iff_iff]; simp
    clear e1 h hB hl
    go_enter Tryz.func167, Tryz.ntmps167
    go_wp2_with (go_at_call 123; refine (kH.out _).mono ?_; rintro e w2 ⟨rfl, hb2⟩; have B2 := hBx.out _ hb2; have b3 := B2.cell 3; simp at b3; have hB2 : Hid (Below w.heap.size w w2) := hW.out.trans (hb2.mono hW.out.size); clear hb2 B2)
    go_ret
    exact ⟨rfl, hR.out _ hB2.out⟩
  · rw [show decide (hd.lo ≤ 27) = false from by simpa using hl] at kH
    have e1 : (limA hd).map (· - done) = none := by unfold limA; rw [if_neg hl]; rfl
    rw [e1]
    obtain ⟨pl, mj, lo, n, cut⟩ := hd
    unfold Hd.arr at *
    simp only at *
    obtain ⟨x0, x1, x2, x3, x4⟩ := hbox w pl n mj lo cut
    clear e1 h hB hl
    by_cases hlt : p < C.zs.length
    · by_cases h255 : C.zs[p] = 255
      · have e2 : gonA C.zs p none = .inr (false, p + 1) := by unfold gonA; simp only; rw [List.getElem?_eq_getElem hlt]; simp only; rw [if_pos h255]
        rw [e2]
        have kE : Hid (∀ wx, RSt C wx p m → Calls Tryz.prog 166 #[.pointer (some ⟨C.g, 0, none⟩)] wx fun e w' => e = .returned (.bool true) ∧ RSt C w' (p + 1) m ∧ Kq C.g wx.heap.size wx w') := fun wx hx => cended_yes hx hlt h255
        unfold GonIs
        simp only
        clear e2 hlt h255
        go_enter Tryz.func167, Tryz.ntmps167
        go_wp2_with (first
          | (go_at_call 123; refine (kH.out _).mono ?_; rintro e w2 ⟨rfl, hb2⟩; have hB2 : Hid (Below w.heap.size w w2) := hW.out.trans (hb2.mono hW.out.size); clear hb2)
          | (go_at_call 166; refine (kE.out _ (hR.out _ hB2.out).1).mono ?_; rintro e w3 ⟨rfl, hs3, hq3⟩))
        go_ret
        exact ⟨rfl, (hR.out _ hB2.out).next ⟨hs3, hq3, (hR.out _ hB2.out).1.lt⟩⟩
      · have e2 : gonA C.zs p none = .inr (true, p) := by unfold gonA; simp only; rw [List.getElem?_eq_getElem hlt]; simp only; rw [if_neg h255]
        rw [e2]
        have kE : Hid (∀ wx, RSt C wx p m → Calls Tryz.prog 166 #[.pointer (some ⟨C.g, 0, none⟩)] wx fun e w' => e = .returned (.bool false) ∧ RSt C w' p m ∧ Below wx.heap.size wx w') := fun wx hx => cended_no hx hlt h255
        unfold GonIs
        simp only
        clear e2 hlt h255
        go_enter Tryz.func167, Tryz.ntmps167
        go_wp2_with (first
          | (go_at_call 123; refine (kH.out _).mono ?_; rintro e w2 ⟨rfl, hb2⟩; have hB2 : Hid (Below w.heap.size w w2) := hW.out.trans (hb2.mono hW.out.size); clear hb2)
          | (go_at_call 166; refine (kE.out _ (hR.out _ hB2.out).1).mono ?_; rintro e w3 ⟨rfl, hs3, hq3⟩))
        go_ret
        exact ⟨rfl, (hR.out _ hB2.out).below hq3⟩
    · have e2 : gonA C.zs p none = .inl (3, C.zs.length) := by unfold gonA; simp only; rw [List.getElem?_eq_none (by omega)]
      rw [e2]
      have kE : Hid (∀ wx, RSt C wx p m → Calls Tryz.prog 166 #[.pointer (some ⟨C.g, 0, none⟩)] wx fun e w' => e = .panicked [{ v := .iface 61 (.agg #[.int .i64 3, .int .i64 (C.zs.length : Nat)]), recovered := false }] ∧ Kq C.g wx.heap.size wx w') := fun wx hx => cended_none hx (by omega)
      unfold GonIs
      simp only
      clear e2 hlt
      go_enter Tryz.func167, Tryz.ntmps167
      go_wp2_with (first
        | (go_at_call 123; refine (kH.out _).mono ?_; rintro e w2 ⟨rfl, hb2⟩; have hB2 : Hid (Below w.heap.size w w2) := hW.out.trans (hb2.mono hW.out.size); clear hb2)
        | (go_at_call 166; refine (kE.out _ (hR.out _ hB2.out).1).mono ?_; rintro e w3 ⟨rfl, hq3⟩))
      exact ⟨rfl, rfl, (hR.out _ hB2.out).2.1.next hq3⟩
end Go.Proofs.YtnjbppfanmmifaaGreatDoor
