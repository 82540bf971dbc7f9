/-
  Quotients: nat.Div.
-/
import Derived.Test.YtfamenkefmgnoaaDoorFrb
namespace Go.Proofs.YtfamenkefmgnoaaDoor
open Go.RowKit

theorem div_lt_top {n d : Nat} (h : n < top) : n / d < top := Nat.lt_of_le_of_lt (Nat.div_le_self _ _) h
theorem short_lt {n : Nat} (h : n < top) : shortA n = (txt n, 0) := by unfold shortA; rw [if_pos h]
set_option maxRecDepth 100000 in
set_option maxHeartbeats 1000000 in
theorem div_any (a : ByteArray) (d : Int) (hdb : -9223372036854775808 ≤ d ∧ d ≤ 9223372036854775807) (w : World) :
    Calls Tryd.prog 20 #[.string a, .int .i64 d] w fun e w' => e = .returned (.tuple #[.string (divA a d).1, .int .i64 (divA a d).2.1, .int .i64 (divA a d).2.2]) ∧ Below w.heap.size w w' := by
  by_cases hok : rt a = true ∧ 1 ≤ d ∧ d ≤ 1000000
  · have e : divA a d = (txt (val a / d.toNat), ((val a % d.toNat : Nat) : Int), 0) := by unfold divA; rw [if_pos hok]
    rw [e]
    obtain ⟨ha, hd1, hd2⟩ := hok
    have ra := (rt_iff a).1 ha
    have sa := rt_size ha
    have kA := gather_any a w sa.1 (by omega) ra.1.2.1
    have hlt := right_lt ha
    obtain ⟨D, rfl⟩ : ∃ D : Nat, d = D := ⟨d.toNat, by omega⟩
    have hD : Hid (1 ≤ (D : Int) ∧ (D : Int) ≤ 1000000) := ⟨hd1, hd2⟩
    have hQ : Hid (shortA (val a / D) = (txt (val a / D), 0)) := short_lt (div_lt_top hlt)
    rw [Int.toNat_natCast]
    have d1 : decide ((D : Int) < 1) = false := by simp; omega
    have d2 : decide (1000000 < (D : Int)) = false := by simp; omega
    clear e hlt ra hd1 hd2 hdb
    obtain ⟨Rs, hRs⟩ : ∃ Rs, val a % D = Rs := ⟨_, rfl⟩
    obtain ⟨Qs, hQs⟩ : ∃ Qs, txt (val a / D) = Qs := ⟨_, rfl⟩
    rw [hRs, hQs]
    rw [hQs] at hQ
    have hRs' : Hid (val a % D = Rs) := hRs
    clear hRs hQs
    go_enter Tryd.func20, Tryd.ntmps20
    go_wp2_with (go_at_call 17; refine (right_any _ _).mono ?_; rintro e w1 ⟨rfl, hw⟩; obtain rfl : w = w1 := hw.symm; rw [ha])
    refine kA.mono ?_
    rintro e w1 ⟨v1, l1, rfl, ho1, hn1, hg1, hv1, hb1⟩
    have kD := divide_any v1 w.heap.size l1 D w1 ho1 (by omega) hg1 hD.out
    have hrest : lv 1000000 l1 % (D : Int) = (Rs : Int) := by rw [hv1, ← hRs'.out]; exact (Int.natCast_emod _ _).symm
    have hquo : lv 1000000 l1 / (D : Int) = ((val a / D : Nat) : Int) := by rw [hv1]; exact (Int.natCast_ediv _ _).symm
    rw [hrest, hquo] at kD
    have hlt1 := ho1.1
    have hown : Hid (∀ k, v1.ownBlock = some k → w.heap.size ≤ k) := fun k hk => (World.ownsRow.lt ho1 k hk).1
    clear kA hrest hquo hlt1
    go_wp2_with fail
    refine kD.mono ?_
    rintro e w2 ⟨rfl, ⟨l2, ho2, hl2, hg2, hv2⟩, hgr2⟩
    have hb2 := hb1.grown hgr2 hb1.size hown.out
    have hlt2 := lv_lt (by decide) hg2
    have ht := tell_any _ l2 w.heap.size w2 ho2 (fun g hg => by have := hg2 g hg; omega) hlt2.1 hlt2.2 (by omega) hb2.size
    have hn : (lv 1000000 l2).toNat = val a / D := by rw [hv2, Int.toNat_natCast]
    rw [hn, hQ.out] at ht
    clear kD hn hlt2
    go_wp2_with (go_at_call 38; refine ht.mono ?_; rintro e w9 ⟨rfl, hb9⟩)
    go_ret3
    exact ⟨rfl, hb2.trans hb9⟩
  · have e : divA a d = (noS, 0, 1) := by unfold divA; rw [if_neg hok]
    rw [e]
    clear e
    cases ha : rt a with
    | false =>
      clear hok
      go_enter Tryd.func20, Tryd.ntmps20
      go_wp2_with (go_at_call 17; refine (right_any _ _).mono ?_; rintro e w1 ⟨rfl, hw⟩; obtain rfl : w = w1 := hw.symm; rw [ha])
      go_ret3
      exact ⟨rfl, Below.refl _ _⟩
    | true =>
      by_cases c1 : d < 1
      · have d1 : decide (d < 1) = true := by simpa using c1
        clear hok c1
        go_enter Tryd.func20, Tryd.ntmps20
        go_wp2_with (go_at_call 17; refine (right_any _ _).mono ?_; rintro e w1 ⟨rfl, hw⟩; obtain rfl : w = w1 := hw.symm; rw [ha])
        go_ret3
        exact ⟨rfl, Below.refl _ _⟩
      · have d1 : decide (d < 1) = false := by simpa using c1
        have hno : ¬ (1 ≤ d ∧ d ≤ 1000000) := fun h => hok ⟨ha, h⟩
        have d2 : decide (1000000 < d) = true := by simp; omega
        clear hok c1 hno
        go_enter Tryd.func20, Tryd.ntmps20
        go_wp2_with (go_at_call 17; refine (right_any _ _).mono ?_; rintro e w1 ⟨rfl, hw⟩; obtain rfl : w = w1 := hw.symm; rw [ha])
        go_ret3
        exact ⟨rfl, Below.refl _ _⟩
end Go.Proofs.YtfamenkefmgnoaaDoor
