/-
  Sums and differences: nat.Add, nat.Sub.
-/
import Derived.Test.YtfamenkefmgnoabDoorTell
import Derived.Lib.MinMax
namespace Go.Proofs.YtfamenkefmgnoabDoor
open Go.RowKit

theorem pow_group (k : Nat) : (1000000 : Int) ^ k = 10 ^ (6 * k) := by rw [Int.pow_mul]; rfl
theorem val_pow {s : ByteArray} (h : rt s = true) : (val s : Int) < 10 ^ s.size := by
  have h1 := val_lt ((rt_iff s).1 h).1.2.1
  rw [bs_len] at h1
  have h2 : ((10 ^ s.size : Nat) : Int) = (10 : Int) ^ s.size := by rw [Int.natCast_pow]; rfl
  rw [← h2]
  exact Int.ofNat_lt.2 h1
theorem add_room {a b : ByteArray} (ha : rt a = true) (hb : rt b = true) {m k : Nat} (h1 : a.size ≤ m) (h2 : b.size ≤ m) (hk : m + 1 ≤ 6 * k) : (val a : Int) + (val b : Int) < 1000000 ^ k := by
  have e1 := val_pow ha
  have e2 := val_pow hb
  have e3 := pow_mono h1
  have e4 := pow_mono h2
  have e5 := pow_mono hk
  rw [pow_group]
  have e6 : (10 : Int) ^ (m + 1) = 10 ^ m * 10 := Int.pow_succ _ _
  omega
theorem zeros_bound (n : Nat) : ∀ g ∈ List.replicate n (0 : Int), -(0 : Int) ≤ g ∧ g ≤ 0 := fun g hg => by rw [(List.mem_replicate.1 hg).2]; decide
set_option maxHeartbeats 1000000 in
theorem add_no (a b : ByteArray) (w : World) (h : ¬ (rt a = true ∧ rt b = true)) :
    Calls Tryd.prog 9 #[.string a, .string b] w fun e w' => e = .returned (.tuple #[.string noS, .int .i64 1]) ∧ w' = w := by
  cases ha : rt a with
  | false =>
    clear h
    go_enter Tryd.func9, Tryd.ntmps9
    go_wp2_with (go_at_call 13; refine (right_any _ _).mono ?_; rintro e w1 ⟨rfl, hw⟩; obtain rfl : w = w1 := hw.symm; rw [ha])
    go_ret2
    exact ⟨rfl, rfl⟩
  | true =>
    have hb : rt b = false := by
      cases hb : rt b with
      | false => rfl
      | true => exact absurd ⟨ha, hb⟩ h
    clear h
    go_enter Tryd.func9, Tryd.ntmps9
    go_wp2_with (go_at_call 13; refine (right_any _ _).mono ?_; rintro e w1 ⟨rfl, hw⟩; obtain rfl : w = w1 := hw.symm; first | rw [ha] | rw [hb])
    go_ret2
    exact ⟨rfl, rfl⟩
set_option maxHeartbeats 1000000 in
theorem add_yes (a b : ByteArray) (w : World) (ha : rt a = true) (hb : rt b = true) :
    Calls Tryd.prog 9 #[.string a, .string b] w fun e w' => e = .returned (.tuple #[.string (shortA (val a + val b)).1, .int .i64 (shortA (val a + val b)).2]) ∧ Below w.heap.size w w' := by
  have ra := (rt_iff a).1 ha
  have rb := (rt_iff b).1 hb
  have sa := rt_size ha
  have sb := rt_size hb
  obtain ⟨m, hm, h1, h2, h3⟩ : ∃ m : Nat, max (a.size : Int) (b.size : Int) = (m : Int) ∧ a.size ≤ m ∧ b.size ≤ m ∧ m ≤ 800 := ⟨max a.size b.size, by omega, Nat.le_max_left _ _, Nat.le_max_right _ _, by omega⟩
  have kR := room_any (m + 1) (by omega) w
  obtain ⟨R, hR⟩ : ∃ R, shortA (val a + val b) = R := ⟨_, rfl⟩
  rw [hR]
  have hP : Hid (∀ v w1, OwnsI w1 w.heap.size v (List.replicate ((m + 1 + 5) / 6) 0) → w.heap.size ≤ w1.heap.size → Calls Tryd.prog 19 #[v, .string a, .int .i64 1] w1 fun e w' => e = .returned (.tuple #[]) ∧ (∃ l', OwnsI w' w.heap.size v l' ∧ l'.length = (m + 6) / 6 ∧ lv 1000000 l' = (val a : Nat) ∧ (∀ g ∈ l', -1000000000 ≤ g ∧ g ≤ 1000000000)) ∧ Below w.heap.size w1 w') := by
    intro v w1 ho hbw
    refine (put_any v w.heap.size _ a 1 (.inl rfl) 0 (by decide) (zeros_bound _) w1 ho sa.1 (by omega) ra.1.2.1 (by rw [List.length_replicate]; omega) hbw).mono ?_
    rintro e w' ⟨rfl, ⟨l', hO, hl, hv, hbd⟩, hB⟩
    rw [List.length_replicate] at hl
    rw [lv_zeros, Int.zero_add, Int.one_mul] at hv
    exact ⟨rfl, ⟨l', hO, hl, hv, fun g hg => by have := hbd g hg; omega⟩, hB⟩
  have hQ : Hid (∀ v l w1, OwnsI w1 w.heap.size v l → l.length = (m + 6) / 6 → lv 1000000 l = (val a : Nat) → (∀ g ∈ l, -1000000000 ≤ g ∧ g ≤ 1000000000) → w.heap.size ≤ w1.heap.size → Calls Tryd.prog 19 #[v, .string b, .int .i64 1] w1 fun e w' => e = .returned (.tuple #[]) ∧ (∃ l', OwnsI w' w.heap.size v l' ∧ l'.length = (m + 6) / 6 ∧ lv 1000000 l' = (val a : Nat) + (val b : Nat) ∧ (∀ g ∈ l', -2000000000 ≤ g ∧ g ≤ 2000000000)) ∧ Below w.heap.size w1 w') := by
    intro v l w1 ho hl hv hbd hbw
    refine (put_any v w.heap.size _ b 1 (.inl rfl) 1000000000 (by decide) hbd w1 ho sb.1 (by omega) rb.1.2.1 (by omega) hbw).mono ?_
    rintro e w' ⟨rfl, ⟨l', hO, hl', hv', hbd'⟩, hB⟩
    rw [hv, Int.one_mul] at hv'
    exact ⟨rfl, ⟨l', hO, by omega, hv', fun g hg => by have := hbd' g hg; omega⟩, hB⟩
  have hT : Hid (∀ v l w1, OwnsI w1 w.heap.size v l → l.length = (m + 6) / 6 → lv 1000000 l = (val a : Nat) + (val b : Nat) → (∀ g ∈ l, -2000000000 ≤ g ∧ g ≤ 2000000000) → w.heap.size ≤ w1.heap.size → Calls Tryd.prog 16 #[v] w1 fun e w' => e = .returned (.tuple #[.string R.1, .int .i64 R.2]) ∧ Below w.heap.size w1 w') := by
    intro v l w1 ho hl hv hbd hbw
    have hk := tell_any v l w.heap.size w1 ho (fun g hg => by have := hbd g hg; omega) (by rw [hv]; omega) (by rw [hv, hl]; exact add_room ha hb h1 h2 (by omega)) (by omega) hbw
    have hn : (lv 1000000 l).toNat = val a + val b := by rw [hv]; omega
    rw [hn, hR] at hk
    exact hk
  have wm : IntKind.i64.wrap ((m : Int) + 1) = ((m + 1 : Nat) : Int) := by rw [wrap_fit (by omega) (by omega)]; omega
  clear hR ra rb sa sb h1 h2 h3
  go_enter Tryd.func9, Tryd.ntmps9
  go_wp2_with (first
    | (go_at_call 13; refine (right_any _ _).mono ?_; rintro e w1 ⟨rfl, hw⟩; obtain rfl : w = w1 := hw.symm; first | rw [ha] | rw [hb])
    | (go_at_call 18; refine kR.mono ?_; rintro e w1 ⟨v, rfl, ho1, hb1⟩; have k2 := hP.out v w1 ho1 hb1.size))
  refine k2.mono ?_
  rintro e w2 ⟨rfl, ⟨l2, ho2, hl2, hv2, hd2⟩, hb2⟩
  have k3 := hQ.out v l2 w2 ho2 hl2 hv2 hd2 (by have := hb1.size; have := hb2.size; omega)
  go_wp2_with fail
  refine k3.mono ?_
  rintro e w3 ⟨rfl, ⟨l3, ho3, hl3, hv3, hd3⟩, hb3⟩
  have k4 := hT.out v l3 w3 ho3 hl3 hv3 hd3 (by have := hb1.size; have := hb2.size; have := hb3.size; omega)
  go_wp2_with (go_at_call 16; refine k4.mono ?_; rintro e w4 ⟨rfl, hb4⟩)
  go_ret2
  exact ⟨rfl, ((hb1.trans hb2).trans hb3).trans hb4⟩
theorem add_any (a b : ByteArray) (w : World) :
    Calls Tryd.prog 9 #[.string a, .string b] w fun e w' => e = .returned (.tuple #[.string (addA a b).1, .int .i64 (addA a b).2]) ∧ Below w.heap.size w w' := by
  unfold addA
  by_cases h : rt a = true ∧ rt b = true
  · rw [if_pos h]
    exact add_yes a b w h.1 h.2
  · rw [if_neg h]
    refine (add_no a b w h).mono ?_
    rintro e w' ⟨rfl, rfl⟩
    exact ⟨rfl, Below.refl _ _⟩
end Go.Proofs.YtfamenkefmgnoabDoor
