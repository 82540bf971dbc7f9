/-
  The document's side: products.
-/
import Derived.Test.YtjdceigndleadaaGreatDoorXtell
namespace Go.Proofs.YtjdceigndleadaaGreatDoor
open Go.RowKit

theorem nat_list {p : List Int} (h : ∀ x ∈ p, 0 ≤ x) : intsN (p.map Int.toNat) = p := by
  unfold intsN
  rw [List.map_map]
  have e : ∀ x ∈ p, ((fun d : Nat => ((d : Nat) : Int)) ∘ Int.toNat) x = x := fun x hx => by
    have := h x hx
    simp only [Function.comp_apply]
    omega
  rw [List.map_congr_left e, List.map_id']
theorem OwnsI.drewN {w : World} {base : Nat} {v : Value} {l : List Int} (h : OwnsI w base v l) : OwnsI w.drew base v l := h
set_option maxRecDepth 100000 in
set_option maxHeartbeats 2000000 in
theorem xmu_any (a b : ByteArray) (w : World) (da : Digs (bs a)) (db : Digs (bs b)) (sa : a.size ≤ 2000) (sb : b.size ≤ 2000) :
    Calls Tryz.prog 36 #[.string a, .string b] w fun e w' => e = .returned (.string (txt (val a * val b))) ∧ Below w.heap.size w w' := by
  obtain ⟨i0, hi, hz0, hz1, hz2⟩ := info_parts info3
  have kA := xdigits_any a w da (by omega)
  have kB : Hid (∀ w, _) := fun w => xdigits_any b w db (by omega)
  have hG1 : Hid (Grp 10 (dgs (bs a))) := dgs_grp da
  have hG2 : Hid (Grp 10 (dgs (bs b))) := dgs_grp db
  have hV1 : Hid (lv 10 (dgs (bs a)) = (val a : Nat)) := dgs_val da
  have hV2 : Hid (lv 10 (dgs (bs b)) = (val b : Nat)) := dgs_val db
  have hL1 : Hid ((dgs (bs a)).length = a.size) := by show _ = _; rw [dgs_len, bs_len]
  have hL2 : Hid ((dgs (bs b)).length = b.size) := by show _ = _; rw [dgs_len, bs_len]
  obtain ⟨R, hR⟩ : ∃ R, txt (val a * val b) = R := ⟨_, rfl⟩
  rw [hR]
  have hR' : Hid (txt (val a * val b) = R) := hR
  clear hR da db
  go_enter Tryz.func36, Tryz.ntmps36
  go_wp2_with fail
  refine kA.mono ?_
  rintro e w1 ⟨⟨v1, rfl, ho1⟩, hb1⟩
  go_wp2_with fail
  refine (kB.out w1).mono ?_
  rintro e w2 ⟨⟨v2, rfl, ho2⟩, hb2⟩
  generalize dgs (bs a) = l1 at *
  generalize dgs (bs b) = l2 at *
  obtain ⟨a1, n1, c1, rfl, hl1, -, hc1, hm1, hI1⟩ := (ho1.below hb2).form
  obtain ⟨a2, n2, c2, rfl, hl2, -, hc2, hm2, hI2⟩ := ho2.form
  have hn1' : n1 ≤ 2000 := by rw [← hl1.out, hL1.out]; exact sa
  have hn2' : n2 ≤ 2000 := by rw [← hl2.out, hL2.out]; exact sb
  have wN : IntKind.i64.wrap ((n1 : Int) + (n2 : Int)) = ((n1 + n2 : Nat) : Int) := by rw [wrap_fit (by omega) (by omega)]; omega
  have hbw2 : Hid (Below w.heap.size w w2) := hb1.trans (hb2.mono hb1.size)
  have hrow1 : Hid (∀ p i, i < n1 → lv 10 p = lv 10 (l1.take i) * lv 10 l2 + 10 ^ i * (l1.getD i 0 * lv 10 (l2.take n2)) → lv 10 p = lv 10 (l1.take (i + 1)) * lv 10 l2) := fun p i h1 h2 => mul_row (by rw [hl1.out]; exact h1) (by rw [h2, hl2.out])
  clear ho1 ho2 kA kB hb1 hb2 sa sb hL1 hL2
  go_wp2_with (at_make; refine wpList_make_full _ rfl _ _ 78 rfl w2.heap.size 3 i0 (.int .i64 0) 1 Tryz.underlying78 hi hz0 hz1 .i64 .i64 _ _ (n1 + n2) rfl rfl (by first | rfl | simp) (by first | rfl | simp) (by rw [hz2]; omega) (by unfold maxLen; omega) (Nat.le_refl _) ?_; intro w3 ho3 hg3)
  have hO3 : OwnsI w3 w2.heap.size (.slice (some ⟨w2.heap.size, 0, none⟩) (n1 + n2) (n1 + n2)) (List.replicate (n1 + n2) 0) := by
    rw [zeros_made] at ho3
    unfold OwnsI
    rw [List.length_replicate]
    exact ho3
  have hB3 : Below w2.heap.size w2 w3 := (Below.refl _ _).grown hg3 (Nat.le_refl _) (by simp)
  clear ho3 hg3 wN
  have hE : Hid (n1 * n2 ≤ 4000000) := Nat.mul_le_mul hn1' hn2'
  go_loopw [8] (fun iv wr => ∃ (i : Nat) (p : List Int), i ≤ n1 ∧ iv = .int .i64 i ∧ Hid (OwnsI wr w2.heap.size (.slice (some ⟨w2.heap.size, 0, none⟩) (n1 + n2) (n1 + n2)) p) ∧ Hid (lv 10 p = lv 10 (l1.take i) * lv 10 l2) ∧ Hid (∀ x ∈ p, 0 ≤ x ∧ x ≤ 100 * ((i * n2 : Nat) : Int)) ∧ Hid (Below w2.heap.size w2 wr)) (fun iv _ => n1 - (intOf iv).toNat)
  case atStart => exact ⟨0, List.replicate (n1 + n2) 0, Nat.zero_le _, rfl, hO3, (by show _ = _; rw [lv_zeros, List.take_zero]; show 0 = 0 * _; omega), (fun x hx => by rw [(List.mem_replicate.1 hx).2]; omega), hB3⟩
  case round =>
    obtain ⟨i, p, hi', rfl, hO, hpv, hpb, hbl⟩ := hrel
    clear hO3 hB3
    by_cases hlt : i < n1
    · have hil : i < l1.length := by rw [hl1.out]; exact hlt
      obtain ⟨b1, o1, rfl⟩ := ints_some hI1.out (by rw [hl1.out]; omega)
      have hX : Hid (∀ wr, Below w2.heap.size w2 wr → wr.cell? ⟨b1, o1 + i, none⟩ = some (.int .i64 (l1.getD i 0))) := fun wr h => (hI1.out.kept h).cell hil
      have hXb : Hid (0 ≤ l1.getD i 0 ∧ l1.getD i 0 < 10) := hG1.out.at hil
      have i1 : (i : Int) < (n1 : Int) := by omega
      obtain ⟨E, hEi⟩ : ∃ E, i * n2 = E := ⟨_, rfl⟩
      have hEi' : Hid (i * n2 = E) := hEi
      have hE1 : Hid (E + n2 ≤ 4000000) := by
        show _ ≤ _
        have h1 : (i + 1) * n2 ≤ n1 * n2 := Nat.mul_le_mul_right _ (by omega)
        rw [Nat.add_mul, Nat.one_mul, hEi] at h1
        exact Nat.le_trans h1 hE.out
      rw [hEi] at hpb
      have hrow : Hid (∀ p', lv 10 p' = lv 10 (l1.take i) * lv 10 l2 + 10 ^ i * (l1.getD i 0 * lv 10 (l2.take n2)) → lv 10 p' = lv 10 (l1.take (i + 1)) * lv 10 l2) := fun p' h => hrow1.out p' i hlt h
      clear hEi
      obtain ⟨A, hA⟩ : ∃ A, lv 10 (l1.take i) * lv 10 l2 = A := ⟨_, rfl⟩
      rw [hA] at hpv hrow
      clear hA
      generalize l1.getD i 0 = X at *
      go_wp2
      go_loopw [9] (fun jv wr => ∃ (j : Nat) (p : List Int), j ≤ n2 ∧ jv = .int .i64 j ∧ Hid (OwnsI wr w2.heap.size (.slice (some ⟨w2.heap.size, 0, none⟩) (n1 + n2) (n1 + n2)) p) ∧ Hid (lv 10 p = A + 10 ^ i * (X * lv 10 (l2.take j))) ∧ Hid (∀ x ∈ p, 0 ≤ x ∧ x ≤ 100 * ((E + j : Nat) : Int)) ∧ Hid (Below w2.heap.size w2 wr)) (fun jv _ => n2 - (intOf jv).toNat)
      case atStart => exact ⟨0, p, Nat.zero_le _, rfl, hO, (by show _ = _; rw [List.take_zero, hpv.out]; show A = A + _ * (X * 0); rw [Int.mul_zero, Int.mul_zero, Int.add_zero]), hpb, hbl⟩
      case round =>
        obtain ⟨j, p, hj', rfl, hO, hpv, hpb, hbl⟩ := hrel
        by_cases hjt : j < n2
        · have hjl : j < l2.length := by rw [hl2.out]; exact hjt
          obtain ⟨b2, o2, rfl⟩ := ints_some hI2.out (by rw [hl2.out]; omega)
          have hY := (hI2.out.kept hbl.out).cell hjl
          have hX1 := hX.out _ hbl.out
          have hYb := hG2.out.at hjl
          have hpl := hO.out.len
          have hc := hO.out.cell (j := i + j) (by omega)
          have hf := hO.out.frozen (i + j)
          have hcb := bound_at hpb.out (i := i + j) (by omega)
          have hst : Hid _ := mul_step (x := X) (by omega : i + j < p.length) hjl hpv.out
          have hpr := prod_bound hXb.out hYb
          have hE2 := hE1.out
          generalize l2.getD j 0 = Y at *
          have hB' : Hid (∀ x ∈ p.set (i + j) (p.getD (i + j) 0 + X * Y), 0 ≤ x ∧ x ≤ 100 * ((E + (j + 1) : Nat) : Int)) := bound_set hpb.out (by omega) (by omega) _
          have hO' : Hid _ := hO.out.store (i + j) (p.getD (i + j) 0 + X * Y)
          generalize p.getD (i + j) 0 = Z at *
          have j1 : (j : Int) < (n2 : Int) := by omega
          have wi : IntKind.i64.wrap ((i : Int) + (j : Int)) = ((i + j : Nat) : Int) := by rw [wrap_fit (by omega) (by omega)]; omega
          have ij : ((i + j : Nat) : Int) < ((n1 + n2 : Nat) : Int) := by omega
          obtain ⟨XY, hXY⟩ : ∃ XY, X * Y = XY := ⟨_, rfl⟩
          rw [hXY] at hpr hst hB' hO'
          have w1' : IntKind.i64.wrap XY = XY := wrap_fit (by omega) (by omega)
          have w2' : IntKind.i64.wrap (Z + XY) = Z + XY := wrap_fit (by omega) (by omega)
          obtain ⟨q, hq⟩ : ∃ q, i + j = q := ⟨_, rfl⟩
          rw [hq] at hc hf hst hB' hO' wi ij
          have hq' : Hid (i + j = q) := hq
          clear hq hcb hpr hYb hpl hE2
          go_wp2
          go_region
          go_wp2
          go_roundw
          case rel => exact ⟨j + 1, p.set q (Z + XY), by omega, by go_num, hO', hst, hB', (hbl.out.setCell (p := ⟨w2.heap.size, q, none⟩) (Nat.le_refl _) _).drew⟩
          case measure => simp [intOf]; omega
        · obtain rfl : j = n2 := by omega
          have hpv' : Hid _ := hrow.out p hpv.out
          have hpb' : Hid (∀ x ∈ p, 0 ≤ x ∧ x ≤ 100 * (((i + 1) * j : Nat) : Int)) := by
            intro x hx
            have := hpb.out x hx
            rw [Nat.add_mul, Nat.one_mul, hEi'.out]
            exact this
          go_wp2
          go_roundw
          case rel => exact ⟨i + 1, p, by omega, by go_num, hO, hpv', hpb', hbl⟩
          case measure => simp [intOf]; omega
    · obtain rfl : i = n1 := by omega
      have hpl := hO.out.len
      have hpv' := hpv.out
      rw [List.take_of_length_le (by rw [hl1.out]; exact Nat.le_refl _), hV1.out, hV2.out] at hpv'
      obtain ⟨a7, n7, c7, hv7, hn7, -, -, -, hI7⟩ := hO.out.form
      cases hv7
      have hnn : ∀ x ∈ p, 0 ≤ x := fun x hx => (hpb.out x hx).1
      have hI8 := hI7.out
      rw [← nat_list hnn] at hI8
      have hk := text_any _ (i + n2) (i + n2) (p.map Int.toNat) wr (by rw [List.length_map]; exact hpl) hI8 (fun x hx => by
        obtain ⟨y, hy, rfl⟩ := List.mem_map.1 hx
        have := hpb.out y hy
        have := hE.out
        omega) (by omega)
      have hlow : lowV (p.map Int.toNat) = val a * val b := by
        have h1 := lv_ints (p.map Int.toNat)
        rw [nat_list hnn, hpv', ← Int.natCast_mul] at h1
        exact (Int.ofNat.inj h1).symm
      rw [hlow, hR'.out] at hk
      have hbe := hbw2.out.trans (hbl.out.mono hbw2.out.size)
      clear hpv' hpl hlow hnn hI8
      go_wp2_with (go_at_call 59; refine hk.mono ?_; rintro e w9 ⟨rfl, hb9⟩)
      go_ret
      exact ⟨rfl, hbe.trans (hb9.mono hbe.size)⟩
end Go.Proofs.YtjdceigndleadaaGreatDoor
