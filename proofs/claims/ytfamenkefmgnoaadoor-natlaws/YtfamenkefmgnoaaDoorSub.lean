/-
  Differences: nat.Sub.
-/
import Derived.Test.YtfamenkefmgnoaaDoorAdd
namespace Go.Proofs.YtfamenkefmgnoaaDoor
open Go.RowKit

theorem sub_room {a : ByteArray} (ha : rt a = true) {n k : Nat} (hk : a.size ≤ 6 * k) : (val a : Int) - (n : Nat) < 1000000 ^ k := by
  have e1 := val_pow ha
  have e5 := pow_mono hk
  rw [pow_group]
  omega
theorem cmp_neg {m n : Nat} : cmpN m n < 0 ↔ m < n := by
  unfold cmpN
  by_cases h4 : m < n
  · simp [h4]
  · rw [if_neg h4]
    by_cases h5 : n < m
    · simp [h4, h5]
    · simp [h4, h5]
set_option maxHeartbeats 1000000 in
theorem sub_any (a b : ByteArray) (w : World) :
    Calls Tryd.prog 13 #[.string a, .string b] w fun e w' => e = .returned (.tuple #[.string (subA a b).1, .int .i64 (subA a b).2]) ∧ Below w.heap.size w w' := by
  have kO := order_any a b w
  by_cases hok : rt a = true ∧ rt b = true
  · have hO : ordA a b = (cmpN (val a) (val b), 0) := by unfold ordA; rw [if_pos hok]
    rw [hO] at kO
    clear hO
    obtain ⟨C, hC⟩ : ∃ C, cmpN (val a) (val b) = C := ⟨_, rfl⟩
    have hCn := cmp_neg (m := val a) (n := val b)
    rw [hC] at hCn kO
    clear hC
    dsimp only at kO
    by_cases hlt : val a < val b
    · have e : subA a b = (noS, 1) := by unfold subA; rw [if_neg (by omega)]
      rw [e]
      have hC0 : C < 0 := hCn.2 hlt
      clear hCn hlt hok e
      go_enter Tryd.func13, Tryd.ntmps13
      go_wp2_with (go_at_call 9; refine kO.mono ?_; rintro e w1 ⟨rfl, hw⟩; obtain rfl : w = w1 := hw.symm)
      go_ret2
      exact ⟨rfl, Below.refl _ _⟩
    · have e : subA a b = (txt (val a - val b), 0) := by unfold subA; rw [if_pos (by exact ⟨hok.1, hok.2, by omega⟩)]
      rw [e]
      have hC0 : ¬ C < 0 := fun h => hlt (hCn.1 h)
      obtain ⟨ha, hb⟩ := hok
      have ra := (rt_iff a).1 ha
      have rb := (rt_iff b).1 hb
      have sa := rt_size ha
      have sb := rt_size hb
      have hsz : b.size ≤ a.size := by
        by_cases h : a.size < b.size
        · have := cmp_short ha hb h
          omega
        · omega
      have kR := room_any a.size (by omega) w
      have hR : shortA (val a - val b) = (txt (val a - val b), 0) := by
        unfold shortA
        have := right_lt ha
        rw [if_pos (by omega)]
      obtain ⟨R, hRe⟩ : ∃ R, txt (val a - val b) = R := ⟨_, rfl⟩
      rw [hRe] at hR ⊢
      have hP : Hid (∀ v w1, OwnsI w1 w.heap.size v (List.replicate ((a.size + 5) / 6) 0) → w.heap.size ≤ w1.heap.size → Calls Tryd.prog 37 #[v, .string a, .int .i64 1] w1 fun e w' => e = .returned (.tuple #[]) ∧ (∃ l', OwnsI w' w.heap.size v l' ∧ l'.length = (a.size + 5) / 6 ∧ lv 1000000 l' = (val a : Nat) ∧ (∀ g ∈ l', -1000000000 ≤ g ∧ g ≤ 1000000000)) ∧ Below w.heap.size w1 w') := by
        intro v w1 ho hbw
        refine (put_any v w.heap.size _ a 1 (.inl rfl) 0 (by decide) (zeros_bound _) w1 ho sa.1 (by omega) ra.1.2.1 (by rw [List.length_replicate]; omega) hbw).mono ?_
        rintro e w' ⟨rfl, ⟨l', hO, hl, hv, hbd⟩, hB⟩
        rw [List.length_replicate] at hl
        rw [lv_zeros, Int.zero_add, Int.one_mul] at hv
        exact ⟨rfl, ⟨l', hO, hl, hv, fun g hg => by have := hbd g hg; omega⟩, hB⟩
      have hQ : Hid (∀ v l w1, OwnsI w1 w.heap.size v l → l.length = (a.size + 5) / 6 → lv 1000000 l = (val a : Nat) → (∀ g ∈ l, -1000000000 ≤ g ∧ g ≤ 1000000000) → w.heap.size ≤ w1.heap.size → Calls Tryd.prog 37 #[v, .string b, .int .i64 (-1)] w1 fun e w' => e = .returned (.tuple #[]) ∧ (∃ l', OwnsI w' w.heap.size v l' ∧ l'.length = (a.size + 5) / 6 ∧ lv 1000000 l' = (val a : Nat) - (val b : Nat) ∧ (∀ g ∈ l', -2000000000 ≤ g ∧ g ≤ 2000000000)) ∧ Below w.heap.size w1 w') := by
        intro v l w1 ho hl hv hbd hbw
        refine (put_any v w.heap.size _ b (-1) (.inr rfl) 1000000000 (by decide) hbd w1 ho sb.1 (by omega) rb.1.2.1 (by omega) hbw).mono ?_
        rintro e w' ⟨rfl, ⟨l', hO, hl', hv', hbd'⟩, hB⟩
        rw [hv] at hv'
        exact ⟨rfl, ⟨l', hO, by omega, by omega, fun g hg => by have := hbd' g hg; omega⟩, hB⟩
      have hT : Hid (∀ v l w1, OwnsI w1 w.heap.size v l → l.length = (a.size + 5) / 6 → lv 1000000 l = (val a : Nat) - (val b : Nat) → (∀ g ∈ l, -2000000000 ≤ g ∧ g ≤ 2000000000) → w.heap.size ≤ w1.heap.size → Calls Tryd.prog 38 #[v] w1 fun e w' => e = .returned (.tuple #[.string R, .int .i64 0]) ∧ Below w.heap.size w1 w') := by
        intro v l w1 ho hl hv hbd hbw
        have hk := tell_any v l w.heap.size w1 ho (fun g hg => by have := hbd g hg; omega) (by rw [hv]; omega) (by rw [hv, hl]; exact sub_room ha (by omega)) (by omega) hbw
        have hn : (lv 1000000 l).toNat = val a - val b := by rw [hv]; omega
        rw [hn, hR] at hk
        exact hk
      clear hR hRe ra rb sa sb hsz e hCn hlt
      go_enter Tryd.func13, Tryd.ntmps13
      go_wp2_with (first
        | (go_at_call 9; refine kO.mono ?_; rintro e w1 ⟨rfl, hw⟩; obtain rfl : w = w1 := hw.symm)
        | (go_at_call 36; refine kR.mono ?_; rintro e w1 ⟨v, rfl, ho1, hb1⟩; have k2 := hP.out v w1 ho1 hb1.size))
      refine k2.mono ?_
      rintro e w2 ⟨rfl, ⟨l2, ho2, hl2, hv2, hd2⟩, hb2⟩
      have k3 := hQ.out v l2 w2 ho2 hl2 hv2 hd2 (by have := hb1.size; have := hb2.size; omega)
      go_wp2_with fail
      refine k3.mono ?_
      rintro e w3 ⟨rfl, ⟨l3, ho3, hl3, hv3, hd3⟩, hb3⟩
      have k4 := hT.out v l3 w3 ho3 hl3 hv3 hd3 (by have := hb1.size; have := hb2.size; have := hb3.size; omega)
      go_wp2_with (go_at_call 38; refine k4.mono ?_; rintro e w4 ⟨rfl, hb4⟩)
      go_ret2
      exact ⟨rfl, ((hb1.trans hb2).trans hb3).trans hb4⟩
  · have hO : ordA a b = (0, 1) := by unfold ordA; rw [if_neg hok]
    have e : subA a b = (noS, 1) := by unfold subA; rw [if_neg fun h => hok ⟨h.1, h.2.1⟩]
    rw [e]
    rw [hO] at kO
    clear hO e
    go_enter Tryd.func13, Tryd.ntmps13
    go_wp2_with (go_at_call 9; refine kO.mono ?_; rintro e w1 ⟨rfl, hw⟩; obtain rfl : w = w1 := hw.symm)
    go_ret2
    exact ⟨rfl, Below.refl _ _⟩
end Go.Proofs.YtfamenkefmgnoaaDoor
