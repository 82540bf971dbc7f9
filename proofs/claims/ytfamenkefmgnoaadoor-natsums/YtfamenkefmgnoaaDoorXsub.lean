/-
  The document's side: differences.
-/
import Derived.Test.YtfamenkefmgnoaaDoorXadd
import Derived.Test.YtfamenkefmgnoaaDoorXord
import Derived.Test.YtfamenkefmgnoaaDoorSub
namespace Go.Proofs.YtfamenkefmgnoaaDoor
open Go.RowKit

theorem sub_step {b A : Int} {p l : List Int} {i : Nat} (hi : i < p.length) (hl : i < l.length) (h : lv b p = A - lv b (l.take i)) :
    lv b (p.set i (p.getD i 0 - l.getD i 0)) = A - lv b (l.take (i + 1)) := by
  rw [show p.getD i 0 - l.getD i 0 = p.getD i 0 + -l.getD i 0 from rfl, lv_set b p _ _ hi, h, lv_take b l i hl, Int.mul_neg]
  omega
theorem borrow_step {p : List Int} {i : Nat} (h : i + 1 < p.length) :
    lv 10 ((p.set i (p.getD i 0 + 10)).set (i + 1) (p.getD (i + 1) 0 - 1)) = lv 10 p := by
  have e : p.getD (i + 1) 0 - 1 = (p.set i (p.getD i 0 + 10)).getD (i + 1) 0 + -1 := by rw [getD_set_ne (by omega)]; rfl
  rw [e, lv_set 10 _ _ _ (by rw [List.length_set]; exact h), lv_set 10 p _ _ (by omega), Int.pow_succ]
  omega
/-- Digits that are not yet borrowed for, from i on; at i one may be missing. -/
def Bor (p : List Int) (i : Nat) : Prop := ∀ k, p.getD k 0 ≤ 9 ∧ (k < i → 0 ≤ p.getD k 0) ∧ (k = i → -10 ≤ p.getD k 0) ∧ (i < k → -9 ≤ p.getD k 0)
theorem Bor.last {p : List Int} {i : Nat} (h : Bor p i) (hi : i < p.length) (hn : p.getD i 0 < 0) (hv : 0 ≤ lv 10 p) : i + 1 < p.length := by
  by_cases h1 : i + 1 < p.length
  · exact h1
  · exfalso
    have e1 := lv_append 10 (p.take i) (p.drop i)
    rw [List.take_append_drop, lv_drop 10 p i hi, List.drop_of_length_le (by omega : p.length ≤ i + 1), List.length_take, Nat.min_eq_left (by omega)] at e1
    have hg : Grp 10 (p.take i) := fun g hg => by
      obtain ⟨k, hk, rfl⟩ := List.mem_iff_getElem.1 hg
      rw [List.length_take] at hk
      have h2 := h k
      rw [List.getElem_take]
      rw [List.getD_eq_getElem?_getD, List.getElem?_eq_getElem (by omega : k < p.length)] at h2
      simp only [Option.getD_some] at h2
      have := h2.2.1 (by omega)
      omega
    have h3 := lv_lt (by decide) hg
    rw [List.length_take, Nat.min_eq_left (by omega)] at h3
    have h4 : (10 : Int) ^ i * (p.getD i 0 + 10 * lv 10 []) ≤ 10 ^ i * -1 := Int.mul_le_mul_of_nonneg_left (by show _ + 10 * (0 : Int) ≤ _; omega) (by omega)
    rw [e1] at hv
    omega
theorem Bor.next {p : List Int} {i : Nat} (h : Bor p i) (h0 : ¬ p.getD i 0 < 0) : Bor p (i + 1) := fun k => by
  obtain ⟨a1, a2, a3, a4⟩ := h k
  refine ⟨a1, fun hk => ?_, fun hk => ?_, fun hk => a4 (by omega)⟩
  · by_cases h1 : k = i
    · subst h1; omega
    · exact a2 (by omega)
  · have := a4 (by omega); omega
theorem Bor.borrow {p : List Int} {i : Nat} (h : Bor p i) (h0 : p.getD i 0 < 0) (hi : i + 1 < p.length) : Bor ((p.set i (p.getD i 0 + 10)).set (i + 1) (p.getD (i + 1) 0 - 1)) (i + 1) := fun k => by
  have a := h k
  have b := h i
  have c := h (i + 1)
  have b3 := b.2.2.1 rfl
  have c4 := c.2.2.2 (by omega)
  by_cases h1 : k = i + 1
  · subst h1
    rw [getD_set_eq (by rw [List.length_set]; exact hi)]
    refine ⟨by omega, fun hk => by omega, fun _ => by omega, fun hk => by omega⟩
  · rw [getD_set_ne (by omega)]
    by_cases h2 : k = i
    · subst h2
      rw [getD_set_eq (by omega)]
      refine ⟨by omega, fun _ => by omega, fun hk => by omega, fun hk => by omega⟩
    · rw [getD_set_ne (by omega)]
      refine ⟨a.1, fun hk => a.2.1 (by omega), fun hk => by omega, fun hk => a.2.2.2 (by omega)⟩
/-- Digits of which j have been taken from. -/
def Tkn (p : List Int) (j : Nat) : Prop := ∀ k, p.getD k 0 ≤ 9 ∧ -9 ≤ p.getD k 0 ∧ (j ≤ k → 0 ≤ p.getD k 0)
theorem tkn_of {l : List Int} (h : Grp 10 l) : Tkn l 0 := fun k => by
  by_cases hk : k < l.length
  · have := h.at hk
    exact ⟨by omega, by omega, fun _ => by omega⟩
  · rw [List.getD_eq_getElem?_getD, List.getElem?_eq_none (by omega)]
    exact ⟨by decide, by decide, fun _ => by decide⟩
theorem Tkn.next {p : List Int} {j : Nat} (h : Tkn p j) (hj : j < p.length) {Y : Int} (hY : 0 ≤ Y ∧ Y < 10) : Tkn (p.set j (p.getD j 0 - Y)) (j + 1) := fun k => by
  have a := h k
  have b := h j
  have b3 := b.2.2 (Nat.le_refl _)
  by_cases h1 : k = j
  · subst h1
    rw [getD_set_eq hj]
    exact ⟨by omega, by omega, fun hk => by omega⟩
  · rw [getD_set_ne (by omega)]
    exact ⟨a.1, a.2.1, fun hk => a.2.2 (by omega)⟩
theorem Tkn.bor {p : List Int} {j : Nat} (h : Tkn p j) : Bor p 0 := fun k => by
  have a := h k
  exact ⟨a.1, fun hk => by omega, fun _ => by omega, fun _ => a.2.1⟩
theorem OwnsI.drewO {w : World} {base : Nat} {v : Value} {l : List Int} (h : OwnsI w base v l) : OwnsI w.drew base v l := h
set_option maxRecDepth 100000 in
set_option maxHeartbeats 2000000 in
theorem xsub_yes (a b : ByteArray) (w : World) (ha : rt a = true) (hb : rt b = true) (hle : val b ≤ val a) :
    Calls Tryd.prog 14 #[.string a, .string b] w fun e w' => e = .returned (.tuple #[.string (txt (val a - val b)), .int .i64 0]) ∧ Below w.heap.size w w' := by
  have da := ((rt_iff a).1 ha).1.2.1
  have db := ((rt_iff b).1 hb).1.2.1
  have sa := rt_size ha
  have sb := rt_size hb
  have hsz : b.size ≤ a.size := by
    by_cases h : a.size < b.size
    · have := cmp_short ha hb h
      omega
    · omega
  have kO := xord_any a b w ha hb
  obtain ⟨C, hC⟩ : ∃ C, cmpN (val a) (val b) = C := ⟨_, rfl⟩
  have hCn := cmp_neg (m := val a) (n := val b)
  rw [hC] at hCn kO
  have hC0 : ¬ C < 0 := fun h => by have := hCn.1 h; omega
  have kA := xdigits_any a w da (by omega)
  have kB : Hid (∀ w, _) := fun w => xdigits_any b w db (by omega)
  have hG1 : Hid (Grp 10 (dgs (bs a))) := dgs_grp da
  have hG2 : Hid (Grp 10 (dgs (bs b))) := dgs_grp db
  have hV1 : Hid (lv 10 (dgs (bs a)) = (val a : Nat)) := dgs_val da
  have hV2 : Hid (lv 10 (dgs (bs b)) = (val b : Nat)) := dgs_val db
  have hL1 : Hid ((dgs (bs a)).length = a.size) := by show _ = _; rw [dgs_len, bs_len]
  have hL2 : Hid ((dgs (bs b)).length = b.size) := by show _ = _; rw [dgs_len, bs_len]
  obtain ⟨T, hT⟩ : ∃ T, txt (val a - val b) = T := ⟨_, rfl⟩
  rw [hT]
  have hT' : Hid (txt (val a - val b) = T) := hT
  have hle' : Hid (val b ≤ val a) := hle
  clear hT da db hC hCn hle
  go_enter Tryd.func14, Tryd.ntmps14
  go_wp2_with (first
    | (go_at_call 18; refine (xright_any _ _).mono ?_; rintro e w1 ⟨rfl, hw⟩; obtain rfl : w = w1 := hw.symm; first | rw [ha] | rw [hb])
    | (go_at_call 35; refine kO.mono ?_; rintro e w1 ⟨rfl, hw⟩; obtain rfl : w = w1 := hw.symm))
  refine kA.mono ?_
  rintro e w1 ⟨⟨v1, rfl, ho1⟩, hb1⟩
  go_wp2_with fail
  refine (kB.out w1).mono ?_
  rintro e w2 ⟨⟨v2, rfl, ho2⟩, hb2⟩
  generalize dgs (bs a) = l1 at *
  generalize dgs (bs b) = l2 at *
  have hL1' := hL1.out
  have hL2' := hL2.out
  obtain ⟨g1, n1, c1, rfl, hl1, hc1, hm1, hbg1⟩ := ho1.row (by omega)
  obtain ⟨g2, n2, c2, rfl, hl2, hc2, hm2, hbg2⟩ := ho2.row (by omega)
  have hge1 := ho1.ge
  have hge2 := ho2.ge
  have hne : Hid (g1 ≠ g2) := by show g1 ≠ g2; omega
  have hbas : Hid (w.heap.size ≤ g1) := hge1.1
  have hl1' := hl1.out
  have hl2' := hl2.out
  have hnn : n2 ≤ n1 := by omega
  have hn1' : n1 ≤ 800 := by omega
  have hO1 : Hid _ := ho1.below hb2
  have hO2 : Hid _ := ho2
  have hbw2 : Hid (Below w.heap.size w w2) := hb1.trans (hb2.mono hb1.size)
  clear ho1 ho2 kA kB hb1 hb2 sa sb hL1 hL2 hL1' hL2' hsz ha hb hl1' hl2' hge1 hge2 kO hC0
  go_wp2
  go_loopw [8] (fun jv wr => ∃ (j : Nat) (p : List Int), j ≤ n2 ∧ jv = .int .i64 j ∧ Hid (OwnsI wr w.heap.size (.slice (some ⟨g1, 0, none⟩) n1 c1) p) ∧ Hid (OwnsI wr w1.heap.size (.slice (some ⟨g2, 0, none⟩) n2 c2) l2) ∧ Hid (lv 10 p = (val a : Nat) - lv 10 (l2.take j)) ∧ Hid (Tkn p j) ∧ Hid (Below w.heap.size w wr)) (fun jv _ => n2 - (intOf jv).toNat)
  case atStart => exact ⟨0, l1, Nat.zero_le _, rfl, hO1, hO2, (by show _ = _; rw [List.take_zero, hV1.out]; show _ = _ - (0 : Int); omega), tkn_of hG1.out, hbw2⟩
  case round =>
    obtain ⟨j, p, hj', rfl, hO, hY, hpv, hpb, hbl⟩ := hrel
    clear hO1 hO2
    by_cases hjt : j < n2
    · have hjl : j < l2.length := by rw [hl2.out]; exact hjt
      have hcY := hY.out.cell (j := j) hjl
      have hYb := hG2.out.at hjl
      have hpl := hO.out.len
      have hc := hO.out.cell (j := j) (by omega)
      have hf := hO.out.frozen j
      have hcb := hpb.out j
      have hst : Hid _ := sub_step (by omega : j < p.length) hjl hpv.out
      have hB' : Hid _ := hpb.out.next (by omega) hYb
      generalize l2.getD j 0 = Y at *
      have hO' : Hid _ := hO.out.store j (p.getD j 0 - Y)
      have hY' : Hid (∀ u, OwnsI (wr.setCell ⟨g1, j, none⟩ u) w1.heap.size (.slice (some ⟨g2, 0, none⟩) n2 c2) l2) := fun u => hY.out.apart u hne.out
      generalize p.getD j 0 = Z at *
      have i1 : (j : Int) < (n2 : Int) := by omega
      have i2 : (j : Int) < (n1 : Int) := by omega
      have w2' : IntKind.i64.wrap (Z - Y) = Z - Y := wrap_fit (by omega) (by omega)
      clear hcb hYb hpl
      go_wp2
      go_region
      go_wp2
      go_roundw
      case rel => exact ⟨j + 1, p.set j (Z - Y), by omega, by go_num, hO', hY'.out _, hst, hB', (hbl.out.setCell (p := ⟨g1, j, none⟩) hbas.out _).drew⟩
      case measure => simp [intOf]; omega
    · obtain rfl : j = n2 := by omega
      have hpv1 : Hid (lv 10 p = ((val a - val b : Nat) : Int)) := by
        show _ = _
        have := hle'.out
        rw [hpv.out, List.take_of_length_le (by rw [hl2.out]; exact Nat.le_refl _), hV2.out]
        omega
      generalize wr = W5 at *
      go_wp2
      go_loopw [9] (fun iv wr => ∃ (i : Nat) (p : List Int), i ≤ n1 ∧ iv = .int .i64 i ∧ Hid (OwnsI wr w.heap.size (.slice (some ⟨g1, 0, none⟩) n1 c1) p) ∧ Hid (lv 10 p = ((val a - val b : Nat) : Int)) ∧ Hid (Bor p i) ∧ Hid (Below w.heap.size w wr)) (fun iv _ => n1 - (intOf iv).toNat)
      case atStart => exact ⟨0, p, Nat.zero_le _, rfl, hO, hpv1, hpb.out.bor, hbl⟩
      case round =>
        obtain ⟨i, p, hi', rfl, hO, hpv, hpb, hbl⟩ := hrel
        have hpl := hO.out.len
        by_cases hit : i < n1
        · have hc := hO.out.cell (j := i) (by omega)
          have hf := hO.out.frozen i
          have i2 : (i : Int) < (n1 : Int) := by omega
          have hcb := hpb.out i
          have hcb3 := hcb.2.2.1 rfl
          have hcb1 := hcb.1
          by_cases hneg : p.getD i 0 < 0
          · have hlast := hpb.out.last (by omega) hneg (by rw [hpv.out]; omega)
            have hB' : Hid _ := hpb.out.borrow hneg hlast
            have hst : Hid _ := (borrow_step hlast).trans hpv.out
            have hO' := hO.out.store i (p.getD i 0 + 10)
            have hc2 := hO'.cell (j := i + 1) (by rw [List.length_set]; exact hlast)
            have hf2 := hO'.frozen (i + 1)
            have hO2' : Hid _ := hO'.store (i + 1) (p.getD (i + 1) 0 - 1)
            rw [getD_set_ne (by omega)] at hc2
            have hd := hpb.out (i + 1)
            have hd4 := hd.2.2.2 (by omega)
            have hd1 := hd.1
            have d1 : decide (p.getD i 0 < 0) = true := by simpa using hneg
            generalize p.getD (i + 1) 0 = Z2 at *
            generalize p.getD i 0 = Z at *
            have w1' : IntKind.i64.wrap (Z + 10) = Z + 10 := wrap_fit (by omega) (by omega)
            have w2' : IntKind.i64.wrap (Z2 - 1) = Z2 - 1 := wrap_fit (by omega) (by omega)
            have w3' : IntKind.i64.wrap ((i : Int) + 1) = ((i + 1 : Nat) : Int) := by rw [wrap_fit (by omega) (by omega)]; omega
            have i3 : ((i + 1 : Nat) : Int) < (n1 : Int) := by omega
            obtain ⟨q, hq⟩ : ∃ q, i + 1 = q := ⟨_, rfl⟩
            rw [hq] at hB' hst hc2 hf2 hO2' w3' i3
            have hq' : Hid (i + 1 = q) := hq
            have hqn : q ≤ n1 := by omega
            clear hO' hcb hd hlast hq hpl
            go_wp2
            go_roundw
            case rel => exact ⟨q, (p.set i (Z + 10)).set q (Z2 - 1), hqn, by go_num, hO2', hst, hB', (hbl.out.setCell (p := ⟨g1, i, none⟩) hbas.out _).setCell (p := ⟨g1, q, none⟩) hbas.out _⟩
            case measure => have := hq'.out; simp [intOf]; omega
          · have hB' : Hid _ := hpb.out.next hneg
            have d1 : decide (p.getD i 0 < 0) = false := by simpa using hneg
            generalize p.getD i 0 = Z at *
            clear hcb hpl
            go_wp2
            go_roundw
            case rel => exact ⟨i + 1, p, by omega, by go_num, hO, hpv, hB', hbl⟩
            case measure => simp [intOf]; omega
        · obtain rfl : i = n1 := by omega
          have hnn : ∀ x ∈ p, 0 ≤ x ∧ x ≤ 9 := fun x hx => by
            obtain ⟨k, hk, rfl⟩ := List.mem_iff_getElem.1 hx
            have h2 := hpb.out k
            rw [List.getD_eq_getElem?_getD, List.getElem?_eq_getElem hk] at h2
            simp only [Option.getD_some] at h2
            exact ⟨h2.2.1 (by omega), h2.1⟩
          obtain ⟨a7, n7, c7, hv7, hn7, -, -, -, hI7⟩ := hO.out.form
          cases hv7
          have hI8 := hI7.out
          rw [← nat_list fun x hx => (hnn x hx).1] at hI8
          have hk := text_any _ i c1 (p.map Int.toNat) wr (by rw [List.length_map]; exact hpl) hI8 (fun x hx => by
            obtain ⟨y, hy, rfl⟩ := List.mem_map.1 hx
            have := hnn y hy
            omega) (by omega)
          have hlow : lowV (p.map Int.toNat) = val a - val b := by
            have h1 := lv_ints (p.map Int.toNat)
            rw [nat_list fun x hx => (hnn x hx).1, hpv.out] at h1
            exact (Int.ofNat.inj h1).symm
          rw [hlow, hT'.out] at hk
          clear hpl hlow hnn hI8
          go_wp2_with (go_at_call 41; refine hk.mono ?_; rintro e w9 ⟨rfl, hb9⟩)
          go_ret2
          exact ⟨rfl, hbl.out.trans (hb9.mono hbl.out.size)⟩
set_option maxHeartbeats 1000000 in
theorem xsub_any (a b : ByteArray) (w : World) :
    Calls Tryd.prog 14 #[.string a, .string b] w fun e w' => e = .returned (.tuple #[.string (subA a b).1, .int .i64 (subA a b).2]) ∧ Below w.heap.size w w' := by
  by_cases h : rt a = true ∧ rt b = true
  · obtain ⟨ha, hb⟩ := h
    by_cases hle : val b ≤ val a
    · have e : subA a b = (txt (val a - val b), 0) := by unfold subA; rw [if_pos ⟨ha, hb, hle⟩]
      rw [e]
      exact xsub_yes a b w ha hb hle
    · have e : subA a b = (noS, 1) := by unfold subA; rw [if_neg fun h => hle h.2.2]
      rw [e]
      have kO := xord_any a b w ha hb
      obtain ⟨C, hC⟩ : ∃ C, cmpN (val a) (val b) = C := ⟨_, rfl⟩
      have hCn := cmp_neg (m := val a) (n := val b)
      rw [hC] at hCn kO
      have hC0 : C < 0 := hCn.2 (by omega)
      clear hC hCn hle e
      go_enter Tryd.func14, Tryd.ntmps14
      go_wp2_with (first
        | (go_at_call 18; refine (xright_any _ _).mono ?_; rintro e w1 ⟨rfl, hw⟩; obtain rfl : w = w1 := hw.symm; first | rw [ha] | rw [hb])
        | (go_at_call 35; refine kO.mono ?_; rintro e w1 ⟨rfl, hw⟩; obtain rfl : w = w1 := hw.symm))
      go_ret2
      exact ⟨rfl, Below.refl _ _⟩
  · have e : subA a b = (noS, 1) := by unfold subA; rw [if_neg fun h1 => h ⟨h1.1, h1.2.1⟩]
    rw [e]
    cases ha : rt a with
    | false =>
      clear h e
      go_enter Tryd.func14, Tryd.ntmps14
      go_wp2_with (go_at_call 18; refine (xright_any _ _).mono ?_; rintro e w1 ⟨rfl, hw⟩; obtain rfl : w = w1 := hw.symm; rw [ha])
      go_ret2
      exact ⟨rfl, Below.refl _ _⟩
    | true =>
      have hb : rt b = false := by
        cases hb : rt b with
        | false => rfl
        | true => exact absurd ⟨ha, hb⟩ h
      clear h e
      go_enter Tryd.func14, Tryd.ntmps14
      go_wp2_with (go_at_call 18; refine (xright_any _ _).mono ?_; rintro e w1 ⟨rfl, hw⟩; obtain rfl : w = w1 := hw.symm; first | rw [ha] | rw [hb])
      go_ret2
      exact ⟨rfl, Below.refl _ _⟩
end Go.Proofs.YtfamenkefmgnoaaDoor
