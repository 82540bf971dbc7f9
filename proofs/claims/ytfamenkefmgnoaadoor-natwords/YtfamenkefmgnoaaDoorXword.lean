/-
  The document's side: a number as a word.
-/
import Derived.Test.YtfamenkefmgnoaaDoorWords
namespace Go.Proofs.YtfamenkefmgnoaaDoor
open Go.RowKit

/-- The greatest word. -/
def most : ByteArray := ⟨#[49, 56, 52, 52, 54, 55, 52, 52, 48, 55, 51, 55, 48, 57, 53, 53, 49, 54, 49, 53]⟩
theorem most_val : val most = 18446744073709551615 := by decide
theorem most_rt : rt most = true := by decide
theorem val_part (l : List Int) (k : Nat) : valS (l.take k) ≤ valS l := by
  have h : valS (l.take k ++ l.drop k) = (l.drop k).foldl (fun n c => n * 10 + (c - 48).toNat) (valS (l.take k)) := by
    unfold valS
    rw [List.foldl_append]
  rw [List.take_append_drop] at h
  rw [h]
  exact fold_ge _ _
theorem cmp_pos {m n : Nat} : 0 < cmpN m n ↔ n < m := by
  unfold cmpN
  by_cases h4 : m < n
  · rw [if_pos h4]
    constructor
    · intro h; exact absurd h (by decide)
    · intro h; omega
  · rw [if_neg h4]
    by_cases h5 : n < m
    · simp [h5]
    · simp [h5]
set_option maxHeartbeats 1000000 in
set_option maxRecDepth 100000 in
theorem xtow_any (s : ByteArray) (w : World) :
    Calls Tryd.prog 30 #[.string s] w fun e w' => e = .returned (.tuple #[.int .u64 (towA s).1, .bool (towA s).2]) ∧ w' = w := by
  cases hs : rt s with
  | false =>
    have e : towA s = (0, false) := by unfold towA; rw [if_neg (by rw [hs]; simp)]
    rw [e]
    clear e
    go_enter Tryd.func30, Tryd.ntmps30
    go_wp2_with (go_at_call 18; refine (xright_any _ _).mono ?_; rintro e w1 ⟨rfl, hw⟩; obtain rfl : w = w1 := hw.symm; rw [hs])
    go_ret2
    exact ⟨rfl, rfl⟩
  | true =>
    have kO := xord_any s most w hs most_rt
    rw [most_val] at kO
    obtain ⟨C, hC⟩ : ∃ C, cmpN (val s) 18446744073709551615 = C := ⟨_, rfl⟩
    have hCp := cmp_pos (m := val s) (n := 18446744073709551615)
    rw [hC] at hCp kO
    clear hC
    unfold most at kO
    by_cases hle : val s ≤ 18446744073709551615
    · have e : towA s = (((val s : Nat) : Int), true) := by unfold towA; rw [if_pos ⟨hs, by omega⟩]
      rw [e]
      have hC0 : decide (0 < C) = false := by
        rw [decide_eq_false_iff_not]
        intro h
        have := hCp.1 h
        omega
      have hG : Hid (Digs (bs s)) := ((rt_iff s).1 hs).1.2.1
      have sz := (rt_size hs).2
      obtain ⟨N, hN⟩ : ∃ N, val s = N := ⟨_, rfl⟩
      have hN' : Hid (valS (bs s) = N) := hN
      rw [hN] at hle ⊢
      clear e hCp hN
      go_enter Tryd.func30, Tryd.ntmps30
      go_wp2_with (first
        | (go_at_call 18; refine (xright_any _ _).mono ?_; rintro e w1 ⟨rfl, hw⟩; obtain rfl : w = w1 := hw.symm; rw [hs])
        | (go_at_call 35; refine kO.mono ?_; rintro e w1 ⟨rfl, hw⟩; obtain rfl : w = w1 := hw.symm))
      go_loop [4, 5] (fun nv iv => ∃ (i n : Nat), i ≤ s.size ∧ iv = .int .i64 i ∧ nv = .int .u64 n ∧ Hid (n = valS ((bs s).take i))) (fun _ iv => s.size - (intOf iv).toNat)
      case atStart => exact ⟨0, 0, Nat.zero_le _, rfl, rfl, rfl⟩
      case round =>
        obtain ⟨i, n, hi, rfl, rfl, hn⟩ := hrel
        by_cases hlt : i < s.size
        · have hkb : i < (bs s).length := by rw [bs_len]; exact hlt
          have hb := bs_at s hlt
          have hds := hG.out _ (getD_mem hkb)
          have hvt := val_take hkb
          have hpt := val_part (bs s) (i + 1)
          rw [hN'.out] at hpt
          obtain ⟨c, hc⟩ : ∃ c : Nat, (((s[i]'hlt).toNat : Nat) : Int) = 48 + (c : Int) := ⟨((bs s).getD i 0 - 48).toNat, by omega⟩
          have hcc : ((bs s).getD i 0 - 48).toNat = c := by omega
          have hn' := hn.out
          rw [hcc, ← hn'] at hvt
          have hc9 : c ≤ 9 := by omega
          obtain ⟨X, hX⟩ : ∃ X, n * 10 + c = X := ⟨_, rfl⟩
          have hXn : Hid (X = valS ((bs s).take (i + 1))) := by rw [← hX]; exact hvt.symm
          have w1 : IntKind.u8.wrap (48 + (c : Int) - 48) = (c : Int) := by rw [IntKind.wrap_u8]; omega
          have w1' : 48 + (c : Int) - 48 = (c : Int) := by omega
          have w2 : IntKind.u64.wrap (c : Int) = (c : Int) := by rw [IntKind.wrap_u64]; omega
          have w3 : IntKind.u64.wrap ((n : Int) * 10) = (n : Int) * 10 := by rw [IntKind.wrap_u64]; omega
          have w4 : IntKind.u64.wrap ((n : Int) * 10 + (c : Int)) = (X : Int) := by rw [IntKind.wrap_u64]; omega
          clear hb hds hvt hpt hcc hn' hX hkb
          go_wp2
          go_round
          case rel => exact ⟨i + 1, X, by omega, by go_num, by first | rfl | simp, hXn⟩
          case measure => simp [intOf]; omega
        · obtain rfl : i = s.size := by omega
          have hfin : Hid (n = N) := by
            show _ = _
            rw [hn.out, ← hN'.out, List.take_of_length_le (by rw [bs_len]; exact Nat.le_refl _)]
          go_wp2
          go_ret2
          exact ⟨by rw [hfin.out]; rfl, rfl⟩
    · have e : towA s = (0, false) := by unfold towA; rw [if_neg (by omega)]
      rw [e]
      have hC0 : decide (0 < C) = true := by
        rw [decide_eq_true_iff]
        exact hCp.2 (by omega)
      clear e hCp
      go_enter Tryd.func30, Tryd.ntmps30
      go_wp2_with (first
        | (go_at_call 18; refine (xright_any _ _).mono ?_; rintro e w1 ⟨rfl, hw⟩; obtain rfl : w = w1 := hw.symm; rw [hs])
        | (go_at_call 35; refine kO.mono ?_; rintro e w1 ⟨rfl, hw⟩; obtain rfl : w = w1 := hw.symm))
      go_ret2
      exact ⟨rfl, rfl⟩
end Go.Proofs.YtfamenkefmgnoaaDoor
