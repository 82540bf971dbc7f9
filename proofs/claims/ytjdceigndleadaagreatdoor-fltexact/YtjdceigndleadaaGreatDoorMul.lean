/-
  Products: nat.Mul.
-/
import Derived.Test.YtjdceigndleadaaGreatDoorTimes
namespace Go.Proofs.YtjdceigndleadaaGreatDoor
open Go.RowKit

theorem mul_step {b A : Int} {p l : List Int} {i j : Nat} {x : Int} (hij : i + j < p.length) (hj : j < l.length) (h : lv b p = A + b ^ i * (x * lv b (l.take j))) :
    lv b (p.set (i + j) (p.getD (i + j) 0 + x * l.getD j 0)) = A + b ^ i * (x * lv b (l.take (j + 1))) := by
  rw [lv_set b p _ _ hij, h, lv_take b l j hj, Int.add_assoc, Int.mul_add x, Int.mul_add (b ^ i)]
  congr 1
  rw [Int.pow_add, Int.mul_assoc, Int.mul_left_comm (b ^ j)]
theorem mul_row {b : Int} {p l1 l2 : List Int} {i : Nat} (hi : i < l1.length) (h : lv b p = lv b (l1.take i) * lv b l2 + b ^ i * (l1.getD i 0 * lv b (l2.take l2.length))) : lv b p = lv b (l1.take (i + 1)) * lv b l2 := by
  rw [h, lv_take b l1 i hi, List.take_length, Int.add_mul, Int.mul_assoc]
theorem bound_set {p : List Int} {B C u : Int} (h : ∀ g ∈ p, 0 ≤ g ∧ g ≤ B) (hu : 0 ≤ u ∧ u ≤ C) (hBC : B ≤ C) (i : Nat) : ∀ g ∈ p.set i u, 0 ≤ g ∧ g ≤ C := fun g hg => by
  rcases List.mem_or_eq_of_mem_set hg with h1 | h1
  · have := h g h1
    omega
  · rw [h1]; exact hu
theorem bound_at {p : List Int} {B : Int} (h : ∀ g ∈ p, 0 ≤ g ∧ g ≤ B) {i : Nat} (hi : i < p.length) : 0 ≤ p.getD i 0 ∧ p.getD i 0 ≤ B := h _ (getD_mem hi)
theorem mul_lt' {x y P Q : Int} (hx : 0 ≤ x) (hxP : x < P) (hyQ : y < Q) (hy : 0 ≤ y) : x * y < P * Q :=
  Int.lt_of_le_of_lt (Int.mul_le_mul_of_nonneg_left (Int.le_of_lt hyQ) hx) (Int.mul_lt_mul_of_pos_right hxP (by omega))
theorem prod_bound {x y M : Int} (hx : 0 ≤ x ∧ x < M) (hy : 0 ≤ y ∧ y < M) : 0 ≤ x * y ∧ x * y ≤ M * M := by
  refine ⟨Int.mul_nonneg hx.1 hy.1, ?_⟩
  exact Int.le_trans (Int.mul_le_mul_of_nonneg_right (by omega : x ≤ M) hy.1) (Int.mul_le_mul_of_nonneg_left (by omega) (by omega))

set_option maxHeartbeats 1000000 in
theorem mul_no (a b : ByteArray) (w : World) (h : ¬ (rt a = true ∧ rt b = true)) :
    Calls Tryz.prog 33 #[.string a, .string b] w fun e w' => e = .returned (.tuple #[.string noS, .int .i64 1]) ∧ w' = w := by
  have kr := fun s w => right_any s w
  cases ha : rt a with
  | false =>
    clear h
    go_enter Tryz.func33, Tryz.ntmps33
    go_wp2_with (go_at_call 55; refine (right_any _ _).mono ?_; rintro e w1 ⟨rfl, hw⟩; obtain rfl : w = w1 := hw.symm; rw [ha])
    go_ret2
    exact ⟨rfl, rfl⟩
  | true =>
    have hb : rt b = false := by
      cases hb : rt b with
      | false => rfl
      | true => exact absurd ⟨ha, hb⟩ h
    clear h
    go_enter Tryz.func33, Tryz.ntmps33
    go_wp2_with (go_at_call 55; refine (right_any _ _).mono ?_; rintro e w1 ⟨rfl, hw⟩; obtain rfl : w = w1 := hw.symm; first | rw [ha] | rw [hb])
    go_ret2
    exact ⟨rfl, rfl⟩
set_option maxRecDepth 100000 in
set_option maxHeartbeats 2000000 in
theorem mul_yes (a b : ByteArray) (w : World) (ha : rt a = true) (hb : rt b = true) :
    Calls Tryz.prog 33 #[.string a, .string b] w fun e w' => e = .returned (.tuple #[.string (shortA (val a * val b)).1, .int .i64 (shortA (val a * val b)).2]) ∧ Below w.heap.size w w' := by
  obtain ⟨i0, hi, hz0, hz1, hz2⟩ := info_parts info3
  have ra := (rt_iff a).1 ha
  have rb := (rt_iff b).1 hb
  have sa := rt_size ha
  have sb := rt_size hb
  have kA := gather_any a w sa.1 (by omega) ra.1.2.1
  have kB : Hid (∀ w, _) := fun w => gather_any b w sb.1 (by omega) rb.1.2.1
  obtain ⟨R, hR⟩ : ∃ R, shortA (val a * val b) = R := ⟨_, rfl⟩
  rw [hR]
  have hR' : Hid (shortA (val a * val b) = R) := hR
  clear hR ra rb
  go_enter Tryz.func33, Tryz.ntmps33
  go_wp2_with (go_at_call 55; refine (right_any _ _).mono ?_; rintro e w1 ⟨rfl, hw⟩; obtain rfl : w = w1 := hw.symm; first | rw [ha] | rw [hb])
  refine kA.mono ?_
  rintro e w1 ⟨v1, l1, rfl, ho1, hn1, hg1, hv1, hb1⟩
  go_wp2_with fail
  refine (kB.out w1).mono ?_
  rintro e w2 ⟨v2, l2, rfl, ho2, hn2, hg2, hv2, hb2⟩
  obtain ⟨a1, n1, c1, rfl, hl1, -, hc1, hm1, hI1⟩ := (ho1.below hb2).form
  obtain ⟨a2, n2, c2, rfl, hl2, -, hc2, hm2, hI2⟩ := ho2.form
  have q1 := hl1.out
  have q2 := hl2.out
  have wN : IntKind.i64.wrap ((n1 : Int) + (n2 : Int)) = ((n1 + n2 : Nat) : Int) := by rw [wrap_fit (by omega) (by omega)]; omega
  have hbw2 : Hid (Below w.heap.size w w2) := hb1.trans (hb2.mono hb1.size)
  have hG1 : Hid (Grp 1000000 l1) := hg1
  have hG2 : Hid (Grp 1000000 l2) := hg2
  have hV1 : Hid (lv 1000000 l1 = (val a : Nat)) := hv1
  have hV2 : Hid (lv 1000000 l2 = (val b : Nat)) := hv2
  have hn1' : n1 ≤ 134 := by omega
  have hn2' : n2 ≤ 134 := by omega
  clear ho1 ho2 kA kB hb1 hb2 hg1 hg2 hv1 hv2 hn1 hn2 q1 q2 sa sb
  go_wp2_with (at_make; refine wpList_make_full _ rfl _ _ 78 rfl w2.heap.size 3 i0 (.int .i64 0) 1 Tryz.underlying78 hi hz0 hz1 .i64 .i64 _ _ (n1 + n2) rfl rfl (by first | rfl | simp) (by first | rfl | simp) (by rw [hz2]; omega) (by unfold maxLen; omega) (Nat.le_refl _) ?_; intro w3 ho3 hg3)
  have hO3 : OwnsI w3 w2.heap.size (.slice (some ⟨w2.heap.size, 0, none⟩) (n1 + n2) (n1 + n2)) (List.replicate (n1 + n2) 0) := by
    rw [zeros_made] at ho3
    unfold OwnsI
    rw [List.length_replicate]
    exact ho3
  have hB3 : Below w2.heap.size w2 w3 := (Below.refl _ _).grown hg3 (Nat.le_refl _) (by simp)
  clear ho3 hg3 wN
  have hE : Hid (n1 * n2 ≤ 17956) := Nat.mul_le_mul hn1' hn2'
  go_loopw [33] (fun iv wr => ∃ (i : Nat) (p : List Int), i ≤ n1 ∧ iv = .int .i64 i ∧ Hid (OwnsI wr w2.heap.size (.slice (some ⟨w2.heap.size, 0, none⟩) (n1 + n2) (n1 + n2)) p) ∧ Hid (lv 1000000 p = lv 1000000 (l1.take i) * lv 1000000 l2) ∧ Hid (∀ x ∈ p, 0 ≤ x ∧ x ≤ 1000000000000 * ((i * n2 : Nat) : Int)) ∧ Hid (Below w2.heap.size w2 wr)) (fun iv _ => n1 - (intOf iv).toNat)
  case atStart => exact ⟨0, List.replicate (n1 + n2) 0, Nat.zero_le _, rfl, hO3, (by show _ = _; rw [lv_zeros, List.take_zero]; show 0 = 0 * _; omega), (fun x hx => by rw [(List.mem_replicate.1 hx).2]; omega), hB3⟩
  case round =>
    obtain ⟨i, p, hi', rfl, hO, hpv, hpb, hbl⟩ := hrel
    clear hO3 hB3
    by_cases hlt : i < n1
    · have hil : i < l1.length := by rw [hl1.out]; exact hlt
      obtain ⟨b1, o1, rfl⟩ := ints_some hI1.out (by rw [hl1.out]; omega)
      have hX := (hI1.out.kept hbl.out).cell hil
      have hXb : Hid (0 ≤ l1.getD i 0 ∧ l1.getD i 0 < 1000000) := hG1.out.at hil
      have i1 : (i : Int) < (n1 : Int) := by omega
      obtain ⟨E, hEi⟩ : ∃ E, i * n2 = E := ⟨_, rfl⟩
      have hEi' : Hid (i * n2 = E) := hEi
      have hE1 : Hid (E + n2 ≤ 17956) := by
        show _ ≤ _
        have h1 : (i + 1) * n2 ≤ n1 * n2 := Nat.mul_le_mul_right _ (by omega)
        rw [Nat.add_mul, Nat.one_mul, hEi] at h1
        exact Nat.le_trans h1 hE.out
      rw [hEi] at hpb
      have hrow : Hid (∀ p', lv 1000000 p' = lv 1000000 (l1.take i) * lv 1000000 l2 + 1000000 ^ i * (l1.getD i 0 * lv 1000000 (l2.take l2.length)) → lv 1000000 p' = lv 1000000 (l1.take (i + 1)) * lv 1000000 l2) := fun p' h => mul_row hil h
      clear hEi
      obtain ⟨A, hA⟩ : ∃ A, lv 1000000 (l1.take i) * lv 1000000 l2 = A := ⟨_, rfl⟩
      rw [hA] at hpv hrow
      clear hA
      generalize l1.getD i 0 = X at *
      go_wp2
      go_loopw [40] (fun jv wr => ∃ (j : Nat) (p : List Int), j ≤ n2 ∧ jv = .int .i64 j ∧ Hid (OwnsI wr w2.heap.size (.slice (some ⟨w2.heap.size, 0, none⟩) (n1 + n2) (n1 + n2)) p) ∧ Hid (lv 1000000 p = A + 1000000 ^ i * (X * lv 1000000 (l2.take j))) ∧ Hid (∀ x ∈ p, 0 ≤ x ∧ x ≤ 1000000000000 * ((E + j : Nat) : Int)) ∧ Hid (Below w2.heap.size w2 wr)) (fun jv _ => n2 - (intOf jv).toNat)
      case atStart => exact ⟨0, p, Nat.zero_le _, rfl, hO, (by show _ = _; rw [List.take_zero, hpv.out]; show A = A + _ * (X * 0); rw [Int.mul_zero, Int.mul_zero, Int.add_zero]), hpb, hbl⟩
      case round =>
        obtain ⟨j, p, hj', rfl, hO, hpv, hpb, hbl⟩ := hrel
        by_cases hjt : j < n2
        · have hjl : j < l2.length := by rw [hl2.out]; exact hjt
          obtain ⟨b2, o2, rfl⟩ := ints_some hI2.out (by rw [hl2.out]; omega)
          have hY := (hI2.out.kept hbl.out).cell hjl
          have hYb := hG2.out.at hjl
          have hpl := hO.out.len
          have hc := hO.out.cell (j := i + j) (by omega)
          have hf := hO.out.frozen (i + j)
          have hcb := bound_at hpb.out (i := i + j) (by omega)
          have hst : Hid _ := mul_step (x := X) (by omega : i + j < p.length) hjl hpv.out
          have hpr := prod_bound hXb.out hYb
          have hE2 := hE1.out
          generalize l2.getD j 0 = Y at *
          have hB' : Hid (∀ x ∈ p.set (i + j) (p.getD (i + j) 0 + X * Y), 0 ≤ x ∧ x ≤ 1000000000000 * ((E + (j + 1) : Nat) : Int)) := bound_set hpb.out (by omega) (by omega) _
          have hO' : Hid _ := hO.out.store (i + j) (p.getD (i + j) 0 + X * Y)
          generalize p.getD (i + j) 0 = Z at *
          have j1 : (j : Int) < (n2 : Int) := by omega
          have wi : IntKind.i64.wrap ((i : Int) + (j : Int)) = ((i + j : Nat) : Int) := by rw [wrap_fit (by omega) (by omega)]; omega
          have ij : ((i + j : Nat) : Int) < ((n1 + n2 : Nat) : Int) := by omega
          obtain ⟨XY, hXY⟩ : ∃ XY, X * Y = XY := ⟨_, rfl⟩
          rw [hXY] at hpr hst hB' hO'
          have w1 : IntKind.i64.wrap XY = XY := wrap_fit (by omega) (by omega)
          have w2' : IntKind.i64.wrap (Z + XY) = Z + XY := wrap_fit (by omega) (by omega)
          obtain ⟨q, hq⟩ : ∃ q, i + j = q := ⟨_, rfl⟩
          rw [hq] at hc hf hst hB' hO' wi ij
          have hq' : Hid (i + j = q) := hq
          clear hq hcb hpr hYb hpl hE2
          go_wp2
          go_roundw
          case rel => exact ⟨j + 1, p.set q (Z + XY), by omega, by go_num, hO', hst, hB', hbl.out.setCell (p := ⟨w2.heap.size, q, none⟩) (Nat.le_refl _) _⟩
          case measure => simp [intOf]; omega
        · obtain rfl : j = n2 := by omega
          have hpv' : Hid _ := hrow.out p (by rw [hpv.out, hl2.out])
          have hpb' : Hid (∀ x ∈ p, 0 ≤ x ∧ x ≤ 1000000000000 * (((i + 1) * j : Nat) : Int)) := by
            intro x hx
            have := hpb.out x hx
            rw [Nat.add_mul, Nat.one_mul, hEi'.out]
            exact this
          go_wp2
          go_roundw
          case rel => exact ⟨i + 1, p, by omega, by go_num, hO, hpv', hpb', hbl⟩
          case measure => simp [intOf]; omega
    · obtain rfl : i = n1 := by omega
      have hpl := hO.out.len
      have hpv' := hpv.out
      rw [List.take_of_length_le (by rw [hl1.out]; exact Nat.le_refl _), hV1.out, hV2.out] at hpv'
      have hva : (val a : Int) < 1000000 ^ i := by have := (lv_lt (by decide) hG1.out).2; rwa [hV1.out, hl1.out] at this
      have hvb : (val b : Int) < 1000000 ^ n2 := by have := (lv_lt (by decide) hG2.out).2; rwa [hV2.out, hl2.out] at this
      have hlt2 : lv 1000000 p < 1000000 ^ p.length := by
        rw [hpv', hpl, Int.pow_add]
        exact mul_lt' (by omega) hva hvb (by omega)
      have hk := tell_any (.slice (some ⟨w2.heap.size, 0, none⟩) (i + n2) (i + n2)) p w2.heap.size wr hO.out (fun x hx => by have := hpb.out x hx; have := hE.out; omega) (by rw [hpv']; exact Int.mul_nonneg (by omega) (by omega)) hlt2 (by omega) hbl.out.size
      have hRn : (lv 1000000 p).toNat = val a * val b := by rw [hpv', ← Int.natCast_mul, Int.toNat_natCast]
      rw [hRn, hR'.out] at hk
      have hbe := hbw2.out.trans (hbl.out.mono hbw2.out.size)
      clear hpv' hva hvb hlt2 hRn hpl
      go_wp2_with (go_at_call 54; refine hk.mono ?_; rintro e w9 ⟨rfl, hb9⟩)
      go_ret2
      exact ⟨rfl, hbe.trans (hb9.mono (by have := hbw2.out.size; omega))⟩
theorem mul_any (a b : ByteArray) (w : World) :
    Calls Tryz.prog 33 #[.string a, .string b] w fun e w' => e = .returned (.tuple #[.string (mulA a b).1, .int .i64 (mulA a b).2]) ∧ Below w.heap.size w w' := by
  unfold mulA
  by_cases h : rt a = true ∧ rt b = true
  · rw [if_pos h]
    exact mul_yes a b w h.1 h.2
  · rw [if_neg h]
    refine (mul_no a b w h).mono ?_
    rintro e w' ⟨rfl, rfl⟩
    exact ⟨rfl, Below.refl _ _⟩
end Go.Proofs.YtjdceigndleadaaGreatDoor
