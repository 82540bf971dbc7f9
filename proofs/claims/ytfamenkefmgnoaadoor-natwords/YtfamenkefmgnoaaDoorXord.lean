/-
  The document's side: how two numbers stand.
-/
import Derived.Test.YtfamenkefmgnoaaDoorXtell
import Derived.Sort.Walk0
namespace Go.Proofs.YtfamenkefmgnoaaDoor
open Go.RowKit

theorem less_cmp : ∀ a b : List UInt8, Lib.compareBytes a b = -1 ↔ a < b
  | [], [] => by simp [Lib.compareBytes]
  | [], y :: b => by simp [Lib.compareBytes]
  | x :: a, [] => by simp [Lib.compareBytes]
  | x :: a, y :: b => by
    unfold Lib.compareBytes
    rw [List.cons_lt_cons_iff, ← less_cmp a b]
    by_cases h1 : x < y
    · simp [h1]
    · rw [if_neg h1]
      by_cases h2 : y < x
      · rw [if_pos h2]
        have : x ≠ y := fun h => by subst h; exact h1 h2
        simp [h1, this]
      · rw [if_neg h2]
        have e : x = y := UInt8.toNat_inj.1 (by have h1' : ¬ x.toNat < y.toNat := h1; have h2' : ¬ y.toNat < x.toNat := h2; omega)
        simp [e]
theorem differ {a b : ByteArray} (h : ¬ a = b) : (a.toList == b.toList) = false := by
  rw [beq_eq_false_iff_ne, Lib.toList_data, Lib.toList_data]
  intro h1
  apply h
  obtain ⟨⟨a⟩⟩ := a
  obtain ⟨⟨b⟩⟩ := b
  simp at h1
  rw [h1]
theorem less_same {a b : ByteArray} (ha : rt a = true) (hb : rt b = true) (h : a.size = b.size) : Op.bytesLess a.toList b.toList = decide (val a < val b) := by
  have h1 := cmp_same ha hb h
  have h2 := less_cmp a.data.toList b.data.toList
  rw [Proofs.bytesLess_eq, Lib.toList_data, Lib.toList_data]
  rw [h1] at h2
  have h3 : cmpN (val a) (val b) = -1 ↔ val a < val b := by
    unfold cmpN
    by_cases h4 : val a < val b
    · simp [h4]
    · rw [if_neg h4]
      by_cases h5 : val b < val a
      · simp [h4, h5]
      · simp [h4, h5]
  rw [h3] at h2
  exact decide_eq_decide.2 h2.symm
set_option maxHeartbeats 1000000 in
theorem xord_any (a b : ByteArray) (w : World) (ha : rt a = true) (hb : rt b = true) :
    Calls Tryd.prog 35 #[.string a, .string b] w fun e w' => e = .returned (.int .i64 (cmpN (val a) (val b))) ∧ w' = w := by
  by_cases hs : a.size < b.size
  · have h1 := cmp_short ha hb hs
    have hA : cmpN (val a) (val b) = -1 := by unfold cmpN; rw [if_pos h1]
    rw [hA]
    clear h1 hA
    go_enter Tryd.func35, Tryd.ntmps35
    go_wp2
    go_ret
    exact ⟨rfl, rfl⟩
  · have hs' : ¬ (a.size : Int) < (b.size : Int) := by omega
    by_cases hq : a.size = b.size
    · have hq' : (a.size : Int) = (b.size : Int) := by omega
      have hl := less_same ha hb hq
      by_cases h1 : val a < val b
      · rw [decide_eq_true h1] at hl
        have hA : cmpN (val a) (val b) = -1 := by unfold cmpN; rw [if_pos h1]
        rw [hA]
        clear h1 hA
        go_enter Tryd.func35, Tryd.ntmps35
        go_wp2
        go_ret
        exact ⟨rfl, rfl⟩
      · rw [decide_eq_false h1] at hl
        by_cases h2 : a = b
        · have hA : cmpN (val a) (val b) = 0 := by unfold cmpN; rw [if_neg h1, h2, if_neg (Nat.lt_irrefl _)]
          rw [hA]
          clear h1 hA
          subst h2
          go_enter Tryd.func35, Tryd.ntmps35
          go_wp2
          go_ret
          exact ⟨rfl, rfl⟩
        · have hA : cmpN (val a) (val b) = 1 := by
            have h3 : val a ≠ val b := fun h => h2 (val_inj ha hb h)
            unfold cmpN
            rw [if_neg h1, if_pos (by omega)]
          rw [hA]
          have hd := differ h2
          clear h1 hA h2
          go_enter Tryd.func35, Tryd.ntmps35
          go_wp2
          go_ret
          exact ⟨rfl, rfl⟩
    · have hA : cmpN (val a) (val b) = 1 := by
        have h3 := cmp_short hb ha (by omega)
        unfold cmpN
        rw [if_neg (by omega), if_pos h3]
      have hq' : ¬ (a.size : Int) = (b.size : Int) := by omega
      have hn : ¬ a = b := fun h => hq (by rw [h])
      rw [hA]
      have hd := differ hn
      clear hA hn
      go_enter Tryd.func35, Tryd.ntmps35
      go_wp2
      go_ret
      exact ⟨rfl, rfl⟩
set_option maxHeartbeats 1000000 in
theorem xorder_any (a b : ByteArray) (w : World) :
    Calls Tryd.prog 10 #[.string a, .string b] w fun e w' => e = .returned (.tuple #[.int .i64 (ordA a b).1, .int .i64 (ordA a b).2]) ∧ w' = w := by
  cases ha : rt a with
  | false =>
    have hA : ordA a b = (0, 1) := by unfold ordA; rw [if_neg (by rw [ha]; simp)]
    rw [hA]
    go_enter Tryd.func10, Tryd.ntmps10
    go_wp2_with (go_at_call 18; refine (xright_any _ _).mono ?_; rintro e w1 ⟨rfl, hw⟩; obtain rfl : w = w1 := hw.symm; rw [ha])
    go_ret2
    exact ⟨rfl, rfl⟩
  | true =>
    cases hb : rt b with
    | false =>
      have hA : ordA a b = (0, 1) := by unfold ordA; rw [if_neg (by rw [hb]; simp)]
      rw [hA]
      go_enter Tryd.func10, Tryd.ntmps10
      go_wp2_with (go_at_call 18; refine (xright_any _ _).mono ?_; rintro e w1 ⟨rfl, hw⟩; obtain rfl : w = w1 := hw.symm; first | rw [ha] | rw [hb])
      go_ret2
      exact ⟨rfl, rfl⟩
    | true =>
      have hA : ordA a b = (cmpN (val a) (val b), 0) := by unfold ordA; rw [if_pos ⟨ha, hb⟩]
      rw [hA]
      go_enter Tryd.func10, Tryd.ntmps10
      go_wp2_with (first
        | (go_at_call 18; refine (xright_any _ _).mono ?_; rintro e w1 ⟨rfl, hw⟩; obtain rfl : w = w1 := hw.symm; first | rw [ha] | rw [hb])
        | (go_at_call 35; refine (xord_any _ _ _ ha hb).mono ?_; rintro e w1 ⟨rfl, hw⟩; obtain rfl : w = w1 := hw.symm))
      go_ret2
      exact ⟨rfl, rfl⟩
end Go.Proofs.YtfamenkefmgnoaaDoor
