/-
  Numbers put behind bytes, as the document's own answer has it.
-/
import Derived.Test.YtkmbphgcnppohaaPut
namespace Go.Proofs.Ytkmbphgcnppohaa
open Go.RowKit

theorem refWidth_any (k : Int) (w : World) : Calls Try.prog 27 #[.int .i64 k] w fun e w' => e = .returned (.bool (decide (k = 1 ∨ k = 2 ∨ k = 4 ∨ k = 8))) ∧ w' = w := by
  go_enter Try.func27, Try.ntmps27
  go_wp2
  all_goals
    go_ret
    refine ⟨?_, rfl⟩
    show Ending.returned (Value.bool _) = _
    congr 2
    first | (simp_all; done) | (rw [Bool.eq_iff_iff]; simp_all)

set_option maxHeartbeats 400000 in
theorem refPutWide_no (a : Option Addr) (n cap : Nat) (m : Nat) (k : Int) (w : World) (hk : ¬ (k = 1 ∨ k = 2 ∨ k = 4 ∨ k = 8)) :
    Calls Try.prog 10 #[.slice a n cap, .int .u64 m, .int .i64 k] w fun e w' => e = .returned (.tuple #[.slice none 0 0, .int .i64 1]) ∧ w' = w := by
  have hd : decide (k = 1 ∨ k = 2 ∨ k = 4 ∨ k = 8) = false := by simpa using hk
  clear hk
  go_enter Try.func10, Try.ntmps10
  go_wp2_with fail
  refine (refWidth_any _ _).mono ?_
  rintro e w1 ⟨rfl, rfl⟩
  rw [hd]
  go_wp2
  go_ret2
  exact ⟨rfl, rfl⟩

set_option maxHeartbeats 400000 in
theorem refPutWide_big (a : Option Addr) (n cap : Nat) (m k : Nat) (w : World) (hk : k = 1 ∨ k = 2 ∨ k = 4 ∨ k = 8) (hm : 256 ^ k ≤ m) (hM : m < 18446744073709551616) :
    Calls Try.prog 10 #[.slice a n cap, .int .u64 m, .int .i64 k] w fun e w' => e = .returned (.tuple #[.slice none 0 0, .int .i64 1]) ∧ w' = w := by
  rcases hk with rfl | rfl | rfl | rfl
  case inr.inr.inr => omega
  all_goals
    go_enter Try.func10, Try.ntmps10
    go_wp2_with fail
    refine (refWidth_any _ _).mono ?_
    rintro e w1 ⟨rfl, rfl⟩
    go_wp2
    go_ret2
    exact ⟨rfl, rfl⟩

set_option maxHeartbeats 1000000 in
theorem refPutWide_ok (a : Option Addr) (n cap : Nat) (m k : Nat) (zs : List Int) (w : World) (hk : k = 1 ∨ k = 2 ∨ k = 4 ∨ k = 8) (hm : m < 256 ^ k) (_hM : m < 18446744073709551616)
    (hl : zs.length = n) (hb : Bytes w a zs) (hn : a = none → cap = 0) (hx : n + 8 ≤ 140737488355328) :
    Calls Try.prog 10 #[.slice a n cap, .int .u64 m, .int .i64 k] w fun e w' => ∃ v, e = .returned (.tuple #[v, .int .i64 0]) ∧ OwnsB w' w.heap.size v (zs ++ wl m k) ∧ Below w.heap.size w w' := by
  have hd : decide ((k : Int) = 1 ∨ (k : Int) = 2 ∨ (k : Int) = 4 ∨ (k : Int) = 8) = true := by simp; omega
  have hk8 : k ≤ 8 := by omega
  have hB : Hid (Bytes w a zs) := hb
  have hL : Hid (zs.length = n) := hl
  clear hb hl
  by_cases h8 : k < 8
  · have h8' : decide ((k : Int) < 8) = true := by simp; omega
    go_enter Try.func10, Try.ntmps10
    go_wp2_with fail
    refine (refWidth_any _ _).mono ?_
    rintro e w1 ⟨rfl, rfl⟩
    rw [hd]
    have hsh : ((m : Int) / 2 ^ (8 * k) != 0) = false := by
      rw [shr8, Nat.div_eq_of_lt hm]
      rfl
    clear hd hm
    go_wp2_with (at_builtin; refine wpList_append_bytes rfl _ (.tmp 24) rfl w1.heap.size (.slice none 0 0) [] zs rfl (ownsB_nil _ _) a n cap rfl hL.out hn hB.out (by rw [hL.out]; simp; omega) (Nat.le_refl _) ?_; intro v2 w2 ho2 hg2; have hb2 := grown_below (Below.refl _ _) (ownsB_nil _ _) hg2 (Nat.le_refl _); simp only [List.nil_append] at ho2; clear hg2)
    go_loopw [8, 9] (fun v i wr => ∃ (pre : List Int) (j : Nat), Hid (OwnsB wr w1.heap.size v (zs ++ pre)) ∧ Hid (pre ++ wl m j = wl m k) ∧ pre.length + j ≤ 8 ∧ Below w1.heap.size w1 wr ∧ ((j = 0 ∧ i = .int .i64 (-1)) ∨ ∃ t : Nat, j = t + 1 ∧ i = .int .i64 t)) (fun _ i _ => (intOf i + 1).toNat)
    case atStart =>
      obtain ⟨t, rfl⟩ : ∃ t, k = t + 1 := ⟨k - 1, by omega⟩
      exact ⟨[], t + 1, by show OwnsB _ _ _ _; simpa using ho2, rfl, by simpa using hk8, hb2, .inr ⟨t, rfl, by go_num⟩⟩
    case round =>
      obtain ⟨pre, j, ho, hp, hj, hbr, ⟨rfl, rfl⟩ | ⟨t, rfl, rfl⟩⟩ := hrel
      · have hp' : Hid (pre = wl m k) := by
          have := hp.out
          show pre = _
          simpa [wl] using this
        go_wp2
        go_ret2
        refine ⟨_, rfl, ?_, hbr⟩
        rw [← hp'.out]
        exact ho.out
      · have hbyte := shr8 m t
        have hsz := hbr.size
        have hlen : (zs ++ pre).length + 1 ≤ 140737488355328 := by rw [List.length_append, hL.out]; omega
        go_wp2_with (at_builtin; refine wpList_append_bytes rfl (.tmp 32) (.tmp 38) rfl w1.heap.size u8 (zs ++ pre) [((m / 256 ^ t % 256 : Nat) : Int)] rfl (ho.out.alloc _) (some ⟨wr.heap.size, 0, none⟩) 1 1 rfl rfl (by simp) (one_byte wr _ (by omega) (by omega)) hlen (by simp; omega) ?_; intro v3 w3 ho3 hg3; have hb3 := grown_below (hbr.alloc hsz _) (ho.out.alloc _) hg3 (by simp; omega); clear hg3 ho)
        have hp' : Hid ((pre ++ [((m / 256 ^ t % 256 : Nat) : Int)]) ++ wl m t = wl m k) := by
          show _ = _
          rw [List.append_assoc]
          exact hp.out
        rw [List.append_assoc] at ho3
        clear hp hbyte ho2
        go_roundw
        case rel =>
          refine ⟨pre ++ [((m / 256 ^ t % 256 : Nat) : Int)], t, ho3, hp', by simp; omega, hb3, ?_⟩
          cases t with
          | zero => exact .inl ⟨rfl, rfl⟩
          | succ t => exact .inr ⟨t, rfl, by go_num⟩
        case measure => simp [intOf]
  · have h8' : decide ((k : Int) < 8) = false := by simp; omega
    go_enter Try.func10, Try.ntmps10
    go_wp2_with fail
    refine (refWidth_any _ _).mono ?_
    rintro e w1 ⟨rfl, rfl⟩
    rw [hd]
    clear hd hm
    go_wp2_with (at_builtin; refine wpList_append_bytes rfl _ (.tmp 24) rfl w1.heap.size (.slice none 0 0) [] zs rfl (ownsB_nil _ _) a n cap rfl hL.out hn hB.out (by rw [hL.out]; simp; omega) (Nat.le_refl _) ?_; intro v2 w2 ho2 hg2; have hb2 := grown_below (Below.refl _ _) (ownsB_nil _ _) hg2 (Nat.le_refl _); simp only [List.nil_append] at ho2; clear hg2)
    go_loopw [8, 9] (fun v i wr => ∃ (pre : List Int) (j : Nat), Hid (OwnsB wr w1.heap.size v (zs ++ pre)) ∧ Hid (pre ++ wl m j = wl m k) ∧ pre.length + j ≤ 8 ∧ Below w1.heap.size w1 wr ∧ ((j = 0 ∧ i = .int .i64 (-1)) ∨ ∃ t : Nat, j = t + 1 ∧ i = .int .i64 t)) (fun _ i _ => (intOf i + 1).toNat)
    case atStart =>
      obtain ⟨t, rfl⟩ : ∃ t, k = t + 1 := ⟨k - 1, by omega⟩
      exact ⟨[], t + 1, by show OwnsB _ _ _ _; simpa using ho2, rfl, by simpa using hk8, hb2, .inr ⟨t, rfl, by go_num⟩⟩
    case round =>
      obtain ⟨pre, j, ho, hp, hj, hbr, ⟨rfl, rfl⟩ | ⟨t, rfl, rfl⟩⟩ := hrel
      · have hp' : Hid (pre = wl m k) := by
          have := hp.out
          show pre = _
          simpa [wl] using this
        go_wp2
        go_ret2
        refine ⟨_, rfl, ?_, hbr⟩
        rw [← hp'.out]
        exact ho.out
      · have hbyte := shr8 m t
        have hsz := hbr.size
        have hlen : (zs ++ pre).length + 1 ≤ 140737488355328 := by rw [List.length_append, hL.out]; omega
        go_wp2_with (at_builtin; refine wpList_append_bytes rfl (.tmp 32) (.tmp 38) rfl w1.heap.size u8 (zs ++ pre) [((m / 256 ^ t % 256 : Nat) : Int)] rfl (ho.out.alloc _) (some ⟨wr.heap.size, 0, none⟩) 1 1 rfl rfl (by simp) (one_byte wr _ (by omega) (by omega)) hlen (by simp; omega) ?_; intro v3 w3 ho3 hg3; have hb3 := grown_below (hbr.alloc hsz _) (ho.out.alloc _) hg3 (by simp; omega); clear hg3 ho)
        have hp' : Hid ((pre ++ [((m / 256 ^ t % 256 : Nat) : Int)]) ++ wl m t = wl m k) := by
          show _ = _
          rw [List.append_assoc]
          exact hp.out
        rw [List.append_assoc] at ho3
        clear hp hbyte ho2
        go_roundw
        case rel =>
          refine ⟨pre ++ [((m / 256 ^ t % 256 : Nat) : Int)], t, ho3, hp', by simp; omega, hb3, ?_⟩
          cases t with
          | zero => exact .inl ⟨rfl, rfl⟩
          | succ t => exact .inr ⟨t, rfl, by go_num⟩
        case measure => simp [intOf]

theorem ref_group_in (m t : Nat) : bits .or .u8 ((m : Int) / 128 ^ t % 256) 128 = ((128 + m / 128 ^ t % 128 : Nat) : Int) := by
  rw [show (m : Int) / 128 ^ t % 256 = ((m / 128 ^ t % 256 : Nat) : Int) from by rw [Int.natCast_emod, Int.natCast_ediv, Int.natCast_pow]; rfl, show (128 : Int) = ((128 : Nat) : Int) from rfl, u8_or_nat _ 128 (by omega) (by decide), Nat.or_comm, or_all _ (by omega)]
  omega

set_option maxHeartbeats 1000000 in
theorem refPutShort_any (a : Option Addr) (n cap : Nat) (m : Nat) (zs : List Int) (w : World) (hM : m < 18446744073709551616)
    (hl : zs.length = n) (hb : Bytes w a zs) (hn : a = none → cap = 0) (hx : n + 10 ≤ 140737488355328) :
    Calls Try.prog 13 #[.slice a n cap, .int .u64 m] w fun e w' => ∃ v, e = .returned v ∧ OwnsB w' w.heap.size v (zs ++ shortL m) ∧ Below w.heap.size w w' := by
  have hS : Hid (rl m 9 = shortL m) := rl_short m hM
  have hB : Hid (Bytes w a zs) := hb
  have hL : Hid (zs.length = n) := hl
  clear hb hl
  go_enter Try.func13, Try.ntmps13
  go_wp2_with (at_builtin; refine wpList_append_bytes rfl _ (.tmp 7) rfl w.heap.size (.slice none 0 0) [] zs rfl (ownsB_nil _ _) a n cap rfl hL.out hn hB.out (by rw [hL.out]; simp; omega) (Nat.le_refl _) ?_; intro v2 w2 ho2 hg2; have hb2 := grown_below (Below.refl _ _) (ownsB_nil _ _) hg2 (Nat.le_refl _); simp only [List.nil_append] at ho2; clear hg2)
  go_loopw [5, 6] (fun v i wr => ∃ (pre : List Int) (t : Nat), Hid (OwnsB wr w.heap.size v (zs ++ pre)) ∧ Hid (pre ++ rl m t = shortL m) ∧ pre.length + t ≤ 9 ∧ Below w.heap.size w wr ∧ i = .int .i64 t) (fun _ i _ => (intOf i).toNat)
  case atStart => exact ⟨[], 9, by show OwnsB _ _ _ _; simpa using ho2, hS, by simp, hb2, by go_num⟩
  case round =>
    obtain ⟨pre, t, ho, hp, hj, hbr, rfl⟩ := hrel
    have hsz := hbr.size
    have hlen : (zs ++ pre).length + 1 ≤ 140737488355328 := by rw [List.length_append, hL.out]; omega
    cases t with
    | zero =>
      have hlow := low_in m hM
      obtain ⟨B, hB0⟩ : ∃ B : Nat, B = m % 128 := ⟨_, rfl⟩
      rw [← hB0] at hlow
      have hB1 : B < 256 := by omega
      have hp' : Hid (pre ++ [(B : Int)] = shortL m) := by rw [hB0]; exact hp
      clear hB0 hp hS
      go_wp2_with (at_builtin; refine wpList_append_bytes rfl (.tmp 27) (.tmp 31) rfl w.heap.size u5 (zs ++ pre) [(B : Int)] rfl (ho.out.alloc _) (some ⟨wr.heap.size, 0, none⟩) 1 1 rfl rfl (by simp) (one_byte wr _ (by omega) (by omega)) hlen (by simp; omega) ?_; intro v3 w3 ho3 hg3; have hb3 := grown_below (hbr.alloc hsz _) (ho.out.alloc _) hg3 (by simp; omega); clear hg3 ho)
      go_ret
      refine ⟨_, rfl, ?_, hb3⟩
      rw [List.append_assoc, hp'.out] at ho3
      exact ho3
    | succ t =>
      have hbyte := shr7 m (t + 1)
      by_cases h0 : m / 128 ^ (t + 1) = 0
      · have hz : (((m / 128 ^ (t + 1) : Nat) : Int) != 0) = false := by rw [h0]; rfl
        have hz' : ((m : Int) / 128 ^ (t + 1) != 0) = false := by
          rw [← hz, Int.natCast_ediv, Int.natCast_pow]; rfl
        have hp' : Hid (pre ++ rl m t = shortL m) := by
          have h1 := hp.out
          rw [rl, if_pos h0] at h1
          exact h1
        clear hp hS ho2
        go_wp2
        go_roundw
        case rel => exact ⟨pre, t, ho, hp', by omega, hbr, by go_num⟩
        case measure => simp [intOf]
      · have hz : (((m / 128 ^ (t + 1) : Nat) : Int) != 0) = true := by rw [bne_iff_ne]; omega
        have hz' : ((m : Int) / 128 ^ (t + 1) != 0) = true := by
          rw [← hz, Int.natCast_ediv, Int.natCast_pow]; rfl
        have hor := ref_group_in m (t + 1)
        obtain ⟨B, hB0⟩ : ∃ B : Nat, B = 128 + m / 128 ^ (t + 1) % 128 := ⟨_, rfl⟩
        rw [← hB0] at hor
        have hB1 : B < 256 := by omega
        have hp' : Hid ((pre ++ [(B : Int)]) ++ rl m t = shortL m) := by
          have h1 := hp.out
          rw [rl, if_neg h0] at h1
          show _ = _
          rw [hB0, List.append_assoc]
          exact h1
        clear hB0 hp hS
        go_wp2_with (at_builtin; refine wpList_append_bytes rfl (.tmp 18) (.tmp 25) rfl w.heap.size u5 (zs ++ pre) [(B : Int)] rfl (ho.out.alloc _) (some ⟨wr.heap.size, 0, none⟩) 1 1 rfl rfl (by simp) (one_byte wr _ (by omega) (by omega)) hlen (by simp; omega) ?_; intro v3 w3 ho3 hg3; have hb3 := grown_below (hbr.alloc hsz _) (ho.out.alloc _) hg3 (by simp; omega); clear hg3 ho)
        rw [List.append_assoc] at ho3
        clear hbyte hor ho2
        go_roundw
        case rel => exact ⟨pre ++ [(B : Int)], t, ho3, hp', by simp; omega, hb3, by go_num⟩
        case measure => simp [intOf]
end Go.Proofs.Ytkmbphgcnppohaa
