/-
  The document's side: sums, and products that are not too long.
-/
import Derived.Test.YtfamenkefmgnoaaDoorXmul
import Derived.Lib.MinMax
namespace Go.Proofs.YtfamenkefmgnoaaDoor
open Go.RowKit

theorem add_step {b A : Int} {p l : List Int} {i : Nat} (hi : i < p.length) (hl : i < l.length) (h : lv b p = A + lv b (l.take i)) :
    lv b (p.set i (p.getD i 0 + l.getD i 0)) = A + lv b (l.take (i + 1)) := by
  rw [lv_set b p _ _ hi, h, lv_take b l i hl]
  omega
set_option maxHeartbeats 1000000 in
theorem xadd_no (a b : ByteArray) (w : World) (h : ¬ (rt a = true ∧ rt b = true)) :
    Calls Tryd.prog 12 #[.string a, .string b] w fun e w' => e = .returned (.tuple #[.string noS, .int .i64 1]) ∧ w' = w := by
  cases ha : rt a with
  | false =>
    clear h
    go_enter Tryd.func12, Tryd.ntmps12
    go_wp2_with (go_at_call 18; refine (xright_any _ _).mono ?_; rintro e w1 ⟨rfl, hw⟩; obtain rfl : w = w1 := hw.symm; rw [ha])
    go_ret2
    exact ⟨rfl, rfl⟩
  | true =>
    have hb : rt b = false := by
      cases hb : rt b with
      | false => rfl
      | true => exact absurd ⟨ha, hb⟩ h
    clear h
    go_enter Tryd.func12, Tryd.ntmps12
    go_wp2_with (go_at_call 18; refine (xright_any _ _).mono ?_; rintro e w1 ⟨rfl, hw⟩; obtain rfl : w = w1 := hw.symm; first | rw [ha] | rw [hb])
    go_ret2
    exact ⟨rfl, rfl⟩
set_option maxRecDepth 100000 in
set_option maxHeartbeats 2000000 in
theorem xadd_yes (a b : ByteArray) (w : World) (ha : rt a = true) (hb : rt b = true) :
    Calls Tryd.prog 12 #[.string a, .string b] w fun e w' => e = .returned (.tuple #[.string (shortA (val a + val b)).1, .int .i64 (shortA (val a + val b)).2]) ∧ Below w.heap.size w w' := by
  obtain ⟨i0, hi, hz0, hz1, hz2⟩ := info_parts info3
  have da := ((rt_iff a).1 ha).1.2.1
  have db := ((rt_iff b).1 hb).1.2.1
  have sa := (rt_size ha).2
  have sb := (rt_size hb).2
  have kA := xdigits_any a w da (by omega)
  have kB : Hid (∀ w, _) := fun w => xdigits_any b w db (by omega)
  have hG1 : Hid (Grp 10 (dgs (bs a))) := dgs_grp da
  have hG2 : Hid (Grp 10 (dgs (bs b))) := dgs_grp db
  have hV1 : Hid (lv 10 (dgs (bs a)) = (val a : Nat)) := dgs_val da
  have hV2 : Hid (lv 10 (dgs (bs b)) = (val b : Nat)) := dgs_val db
  have hL1 : Hid ((dgs (bs a)).length = a.size) := by show _ = _; rw [dgs_len, bs_len]
  have hL2 : Hid ((dgs (bs b)).length = b.size) := by show _ = _; rw [dgs_len, bs_len]
  have kS : Hid (∀ w, _) := fun w => xshort_any (val a + val b) w
  obtain ⟨R, hR⟩ : ∃ R, shortA (val a + val b) = R := ⟨_, rfl⟩
  obtain ⟨T, hT⟩ : ∃ T, txt (val a + val b) = T := ⟨_, rfl⟩
  rw [hR] at kS ⊢
  rw [hT] at kS
  have hT' : Hid (txt (val a + val b) = T) := hT
  clear hR hT da db
  go_enter Tryd.func12, Tryd.ntmps12
  go_wp2_with (go_at_call 18; refine (xright_any _ _).mono ?_; rintro e w1 ⟨rfl, hw⟩; obtain rfl : w = w1 := hw.symm; first | rw [ha] | rw [hb])
  refine kA.mono ?_
  rintro e w1 ⟨⟨v1, rfl, ho1⟩, hb1⟩
  go_wp2_with fail
  refine (kB.out w1).mono ?_
  rintro e w2 ⟨⟨v2, rfl, ho2⟩, hb2⟩
  generalize dgs (bs a) = l1 at *
  generalize dgs (bs b) = l2 at *
  obtain ⟨a1, n1, c1, rfl, hl1, -, hc1, hm1, hI1⟩ := (ho1.below hb2).form
  obtain ⟨a2, n2, c2, rfl, hl2, -, hc2, hm2, hI2⟩ := ho2.form
  have hn1' : n1 ≤ 800 := by rw [← hl1.out, hL1.out]; exact sa
  have hn2' : n2 ≤ 800 := by rw [← hl2.out, hL2.out]; exact sb
  obtain ⟨m, hm, h1, h2, h3⟩ : ∃ m : Nat, max (n1 : Int) (n2 : Int) = (m : Int) ∧ n1 ≤ m ∧ n2 ≤ m ∧ m ≤ 800 := ⟨max n1 n2, by omega, Nat.le_max_left _ _, Nat.le_max_right _ _, by omega⟩
  have hbw2 : Hid (Below w.heap.size w w2) := hb1.trans (hb2.mono hb1.size)
  clear ho1 ho2 kA kB hb1 hb2 sa sb hL1 hL2 ha hb
  go_wp2_with (at_make; refine wpList_make_full _ rfl _ _ 58 rfl w2.heap.size 3 i0 (.int .i64 0) 1 Tryd.underlying58 hi hz0 hz1 .i64 .i64 _ _ m rfl rfl (by first | rfl | simp) (by first | rfl | simp) (by rw [hz2]; omega) (by unfold maxLen; omega) (Nat.le_refl _) ?_; intro w3 ho3 hg3)
  have hO3 : OwnsI w3 w2.heap.size (.slice (some ⟨w2.heap.size, 0, none⟩) m m) (List.replicate m 0) := by
    rw [zeros_made] at ho3
    unfold OwnsI
    rw [List.length_replicate]
    exact ho3
  have hB3 : Below w2.heap.size w2 w3 := (Below.refl _ _).grown hg3 (Nat.le_refl _) (by simp)
  clear ho3 hg3 hm
  go_loopw [9] (fun iv wr => ∃ (i : Nat) (p : List Int), i ≤ n1 ∧ iv = .int .i64 i ∧ Hid (OwnsI wr w2.heap.size (.slice (some ⟨w2.heap.size, 0, none⟩) m m) p) ∧ Hid (lv 10 p = 0 + lv 10 (l1.take i)) ∧ Hid (∀ x ∈ p, 0 ≤ x ∧ x ≤ 10 * (i : Int)) ∧ Hid (Below w2.heap.size w2 wr)) (fun iv _ => n1 - (intOf iv).toNat)
  case atStart => exact ⟨0, List.replicate m 0, Nat.zero_le _, rfl, hO3, (by show _ = _; rw [lv_zeros, List.take_zero]; rfl), (fun x hx => by rw [(List.mem_replicate.1 hx).2]; omega), hB3⟩
  case round =>
    obtain ⟨i, p, hi', rfl, hO, hpv, hpb, hbl⟩ := hrel
    clear hO3 hB3
    by_cases hlt : i < n1
    · have hil : i < l1.length := by rw [hl1.out]; exact hlt
      obtain ⟨b1, o1, rfl⟩ := ints_some hI1.out (by rw [hl1.out]; omega)
      have hY := (hI1.out.kept hbl.out).cell hil
      have hYb := hG1.out.at hil
      have hpl := hO.out.len
      have hc := hO.out.cell (j := i) (by omega)
      have hf := hO.out.frozen i
      have hcb := bound_at hpb.out (i := i) (by omega)
      have hst : Hid _ := add_step (by omega : i < p.length) hil hpv.out
      generalize l1.getD i 0 = Y at *
      have hB' : Hid (∀ x ∈ p.set i (p.getD i 0 + Y), 0 ≤ x ∧ x ≤ 10 * ((i + 1 : Nat) : Int)) := bound_set hpb.out (by omega) (by omega) _
      have hO' : Hid _ := hO.out.store i (p.getD i 0 + Y)
      generalize p.getD i 0 = Z at *
      have i1 : (i : Int) < (n1 : Int) := by omega
      have i2 : (i : Int) < (m : Int) := by omega
      have w2' : IntKind.i64.wrap (Z + Y) = Z + Y := wrap_fit (by omega) (by omega)
      clear hcb hYb hpl
      go_wp2
      go_region
      go_wp2
      go_roundw
      case rel => exact ⟨i + 1, p.set i (Z + Y), by omega, by go_num, hO', hst, hB', (hbl.out.setCell (p := ⟨w2.heap.size, i, none⟩) (Nat.le_refl _) _).drew⟩
      case measure => simp [intOf]; omega
    · obtain rfl : i = n1 := by omega
      have hpv1 : Hid (lv 10 p = (val a : Nat)) := by
        show _ = _
        rw [hpv.out, List.take_of_length_le (by rw [hl1.out]; exact Nat.le_refl _), hV1.out, Int.zero_add]
      generalize wr = W5 at *
      go_wp2
      go_loopw [10] (fun jv wr => ∃ (j : Nat) (p : List Int), j ≤ n2 ∧ jv = .int .i64 j ∧ Hid (OwnsI wr w2.heap.size (.slice (some ⟨w2.heap.size, 0, none⟩) m m) p) ∧ Hid (lv 10 p = (val a : Nat) + lv 10 (l2.take j)) ∧ Hid (∀ x ∈ p, 0 ≤ x ∧ x ≤ 8000 + 10 * (j : Int)) ∧ Hid (Below w2.heap.size w2 wr)) (fun jv _ => n2 - (intOf jv).toNat)
      case atStart => exact ⟨0, p, Nat.zero_le _, rfl, hO, (by show _ = _; rw [List.take_zero, hpv1.out]; show _ = _ + (0 : Int); omega), (fun x hx => by have := hpb.out x hx; omega), hbl⟩
      case round =>
        obtain ⟨j, p, hj', rfl, hO, hpv, hpb, hbl⟩ := hrel
        by_cases hjt : j < n2
        · have hjl : j < l2.length := by rw [hl2.out]; exact hjt
          obtain ⟨b2, o2, rfl⟩ := ints_some hI2.out (by rw [hl2.out]; omega)
          have hY := (hI2.out.kept hbl.out).cell hjl
          have hYb := hG2.out.at hjl
          have hpl := hO.out.len
          have hc := hO.out.cell (j := j) (by omega)
          have hf := hO.out.frozen j
          have hcb := bound_at hpb.out (i := j) (by omega)
          have hst : Hid _ := add_step (by omega : j < p.length) hjl hpv.out
          generalize l2.getD j 0 = Y at *
          have hB' : Hid (∀ x ∈ p.set j (p.getD j 0 + Y), 0 ≤ x ∧ x ≤ 8000 + 10 * ((j + 1 : Nat) : Int)) := bound_set hpb.out (by omega) (by omega) _
          have hO' : Hid _ := hO.out.store j (p.getD j 0 + Y)
          generalize p.getD j 0 = Z at *
          have i1 : (j : Int) < (n2 : Int) := by omega
          have i2 : (j : Int) < (m : Int) := by omega
          have w2' : IntKind.i64.wrap (Z + Y) = Z + Y := wrap_fit (by omega) (by omega)
          clear hcb hYb hpl
          go_wp2
          go_region
          go_wp2
          go_roundw
          case rel => exact ⟨j + 1, p.set j (Z + Y), by omega, by go_num, hO', hst, hB', (hbl.out.setCell (p := ⟨w2.heap.size, j, none⟩) (Nat.le_refl _) _).drew⟩
          case measure => simp [intOf]; omega
        · obtain rfl : j = n2 := by omega
          have hpl := hO.out.len
          have hpv' := hpv.out
          rw [List.take_of_length_le (by rw [hl2.out]; exact Nat.le_refl _), hV2.out] at hpv'
          obtain ⟨a7, n7, c7, hv7, hn7, -, -, -, hI7⟩ := hO.out.form
          cases hv7
          have hnn : ∀ x ∈ p, 0 ≤ x := fun x hx => (hpb.out x hx).1
          have hI8 := hI7.out
          rw [← nat_list hnn] at hI8
          have hk := text_any _ m m (p.map Int.toNat) wr (by rw [List.length_map]; exact hpl) hI8 (fun x hx => by
            obtain ⟨y, hy, rfl⟩ := List.mem_map.1 hx
            have := hpb.out y hy
            omega) (by omega)
          have hlow : lowV (p.map Int.toNat) = val a + val b := by
            have h1 := lv_ints (p.map Int.toNat)
            rw [nat_list hnn, hpv', ← Int.natCast_add] at h1
            exact (Int.ofNat.inj h1).symm
          rw [hlow, hT'.out] at hk
          have hbe := hbw2.out.trans (hbl.out.mono hbw2.out.size)
          clear hpv' hpl hlow hnn hI8
          go_wp2_with (first
            | (go_at_call 41; refine hk.mono ?_; rintro e w9 ⟨rfl, hb9⟩)
            | (go_at_call 40; refine (kS.out w9).mono ?_; rintro e w10 ⟨rfl, hw10⟩; obtain rfl : w9 = w10 := hw10.symm))
          go_ret2
          exact ⟨rfl, hbe.trans (hb9.mono hbe.size)⟩
theorem xadd_any (a b : ByteArray) (w : World) :
    Calls Tryd.prog 12 #[.string a, .string b] w fun e w' => e = .returned (.tuple #[.string (addA a b).1, .int .i64 (addA a b).2]) ∧ Below w.heap.size w w' := by
  unfold addA
  by_cases h : rt a = true ∧ rt b = true
  · rw [if_pos h]
    exact xadd_yes a b w h.1 h.2
  · rw [if_neg h]
    refine (xadd_no a b w h).mono ?_
    rintro e w' ⟨rfl, rfl⟩
    exact ⟨rfl, Below.refl _ _⟩
set_option maxHeartbeats 1000000 in
theorem xmul_any (a b : ByteArray) (w : World) :
    Calls Tryd.prog 16 #[.string a, .string b] w fun e w' => e = .returned (.tuple #[.string (mulA a b).1, .int .i64 (mulA a b).2]) ∧ Below w.heap.size w w' := by
  by_cases h : rt a = true ∧ rt b = true
  · obtain ⟨ha, hb⟩ := h
    have e : mulA a b = shortA (val a * val b) := by unfold mulA; rw [if_pos ⟨ha, hb⟩]
    rw [e]
    have kM := xmu_any a b w ((rt_iff a).1 ha).1.2.1 ((rt_iff b).1 hb).1.2.1 (by have := (rt_size ha).2; omega) (by have := (rt_size hb).2; omega)
    have kS : Hid (∀ w, _) := fun w => xshort_any (val a * val b) w
    generalize shortA (val a * val b) = R at *
    generalize txt (val a * val b) = T at *
    clear e
    go_enter Tryd.func16, Tryd.ntmps16
    go_wp2_with (first
      | (go_at_call 18; refine (xright_any _ _).mono ?_; rintro e w1 ⟨rfl, hw⟩; obtain rfl : w = w1 := hw.symm; first | rw [ha] | rw [hb])
      | (go_at_call 43; refine kM.mono ?_; rintro e w9 ⟨rfl, hb9⟩)
      | (go_at_call 40; refine (kS.out w9).mono ?_; rintro e w10 ⟨rfl, hw10⟩; obtain rfl : w9 = w10 := hw10.symm))
    go_ret2
    exact ⟨rfl, hb9⟩
  · have e : mulA a b = (noS, 1) := by unfold mulA; rw [if_neg h]
    rw [e]
    cases ha : rt a with
    | false =>
      clear h e
      go_enter Tryd.func16, Tryd.ntmps16
      go_wp2_with (go_at_call 18; refine (xright_any _ _).mono ?_; rintro e w1 ⟨rfl, hw⟩; obtain rfl : w = w1 := hw.symm; rw [ha])
      go_ret2
      exact ⟨rfl, Below.refl _ _⟩
    | true =>
      have hb : rt b = false := by
        cases hb : rt b with
        | false => rfl
        | true => exact absurd ⟨ha, hb⟩ h
      clear h e
      go_enter Tryd.func16, Tryd.ntmps16
      go_wp2_with (go_at_call 18; refine (xright_any _ _).mono ?_; rintro e w1 ⟨rfl, hw⟩; obtain rfl : w = w1 := hw.symm; first | rw [ha] | rw [hb])
      go_ret2
      exact ⟨rfl, Below.refl _ _⟩
end Go.Proofs.YtfamenkefmgnoaaDoor
