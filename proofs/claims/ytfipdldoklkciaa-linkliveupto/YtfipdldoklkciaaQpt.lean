/-
  Numbers put behind bytes, in the program: how many groups, the room, the wide form and the short one.
-/
import Derived.Test.YtfipdldoklkciaaQnm
namespace Go.Proofs.Ytfipdldoklkciaa
open Go.RowKit

set_option maxHeartbeats 400000 in
theorem groups_any (n : Nat) (hn : n < 18446744073709551616) (w : World) :
    Calls Try.prog 77 #[.int .u64 n] w fun e w' => e = .returned (.int .i64 (cg n : Nat)) ∧ w' = w := by
  go_enter Try.func77, Try.ntmps77
  go_wp2
  go_loop [3, 4] (fun k r => ∃ K R F : Nat, k = .int .i64 K ∧ r = .int .u64 R ∧ F ≤ 9 ∧ R < 128 ^ F ∧ K + F ≤ 10 ∧ Hid (K + c0 F R = cg n)) (fun _ r => (intOf r).toNat)
  case atStart => exact ⟨1, n / 128, 9, rfl, by simp, by omega, by omega, by omega, rfl⟩
  case round =>
    obtain ⟨K, R, F, rfl, rfl, hF, hR, hK, hh⟩ := hrel
    have hc : c0 F 0 = 0 := by cases F <;> rfl
    by_cases h0 : R = 0
    · subst h0
      have hh' : Hid (K = cg n) := by rw [hc] at hh; exact hh
      clear hh hc
      go_wp2
      go_ret
      exact ⟨by rw [← hh'.out]; rfl, rfl⟩
    · obtain ⟨F, rfl⟩ : ∃ F', F = F' + 1 := by
        cases F with
        | zero => simp at hR; omega
        | succ F => exact ⟨F, rfl⟩
      have hR2 : Hid (R / 128 < 128 ^ F) := by
        show _ < _
        rw [Nat.div_lt_iff_lt_mul (by decide), ← Nat.pow_succ]; exact hR
      have hh' : Hid (K + 1 + c0 F (R / 128) = cg n) := by
        have h1 := hh.out
        simp only [c0, if_neg h0] at h1
        show _ = _
        omega
      clear hh hc hR
      go_wp2
      go_round
      case rel => exact ⟨K + 1, R / 128, F, by go_num, by go_num, by omega, hR2.out, by omega, hh'⟩
      case measure => simp [intOf]; omega

set_option maxHeartbeats 400000 in
theorem room_any (a : Option Addr) (n cap k : Nat) (zs : List Int) (w : World) (hl : zs.length = n) (hb : Bytes w a zs) (hn : a = none → cap = 0) (hm : n + k ≤ 140737488355328) :
    Calls Try.prog 78 #[.slice a n cap, .int .i64 k] w fun e w' => ∃ v, e = .returned v ∧ OwnsB w' w.heap.size v zs ∧ Below w.heap.size w w' := by
  obtain ⟨i0, hi, hz0, hz1, hz2⟩ := info_parts info5
  have hB : Hid (Bytes w a zs) := hb
  have hL : Hid (zs.length = n) := hl
  clear hb hl
  go_enter Try.func78, Try.ntmps78
  go_wp2_with (first
    | (at_make; refine wpList_make_own _ rfl _ _ 23 rfl w.heap.size 5 i0 (.int .u8 0) 1 Try.underlying23 hi hz0 hz1 .i64 .i64 _ (n + k) rfl rfl (by omega) (by rw [hz2]; omega) (by unfold maxLen; omega) (Nat.le_refl _) ?_; intro w2 ho2 hg2; have hb2 : Below w.heap.size w w2 := (Below.refl _ _).grown hg2 (Nat.le_refl _) (by simp); have hB2 : Hid (Bytes w2 a zs) := Bytes.kept hB.out hb2; have hs2 := hb2.size)
    | (at_builtin; refine wpList_append_bytes rfl (.tmp 9) (.tmp 10) rfl w.heap.size (.slice (some ⟨w.heap.size, 0, none⟩) 0 (n + k)) [] zs rfl ⟨ho2, by simp⟩ a n cap rfl hL.out hn hB2.out (by rw [hL.out]; simp; omega) hs2 ?_; intro v3 w3 ho3 hg3; have hb3 := grown_below hb2 (zs := []) ⟨ho2, by simp⟩ hg3 hs2; simp only [List.nil_append] at ho3; clear ho2 hg2 hB2 hs2 hg3))
  go_ret
  exact ⟨_, rfl, ho3, hb3⟩

theorem room_at (a : Option Addr) (n cap : Nat) (k : Int) (zs : List Int) (w : World) (hl : zs.length = n) (hb : Bytes w a zs) (hn : a = none → cap = 0) (hk : 0 ≤ k) (hm : n + k.toNat ≤ 140737488355328) :
    Calls Try.prog 78 #[.slice a n cap, .int .i64 k] w fun e w' => ∃ v, e = .returned v ∧ OwnsB w' w.heap.size v zs ∧ Below w.heap.size w w' := by
  have h := room_any a n cap k.toNat zs w hl hb hn hm
  rwa [Int.toNat_of_nonneg hk] at h

theorem shr8 (m t : Nat) : (m : Int) / 2 ^ (8 * t) = ((m / 256 ^ t : Nat) : Int) := by
  rw [show (256 : Nat) ^ t = 2 ^ (8 * t) from by rw [Nat.pow_mul], Int.natCast_ediv, Int.natCast_pow]
  rfl

theorem shr7 (m t : Nat) : (m : Int) / 2 ^ (7 * t) = ((m / 128 ^ t : Nat) : Int) := by
  rw [show (128 : Nat) ^ t = 2 ^ (7 * t) from by rw [Nat.pow_mul], Int.natCast_ediv, Int.natCast_pow]
  rfl

theorem or_all : ∀ x : Nat, x < 256 → 128 ||| x = 128 + x % 128 := by decide +kernel

theorem seven_in (x : Nat) (hx : x < 256) : bits .or .u8 128 (x : Int) = ((128 + x % 128 : Nat) : Int) := by
  rw [show (128 : Int) = ((128 : Nat) : Int) from rfl, u8_or_nat 128 x (by decide) hx, or_all x hx]

theorem low_in (m : Nat) (hm : m < 18446744073709551616) : bits .and .u64 (m : Int) 127 = ((m % 128 : Nat) : Int) := by
  rw [show (127 : Int) = ((127 : Nat) : Int) from rfl, u64_and_nat m 127 hm (by decide), nat_mask7]

/-- The byte of a group that is not the last. -/
theorem group_in (m t : Nat) : bits .or .u8 128 ((m : Int) / 128 ^ t % 256) = ((128 + m / 128 ^ t % 128 : Nat) : Int) := by
  rw [show (m : Int) / 128 ^ t % 256 = ((m / 128 ^ t % 256 : Nat) : Int) from by rw [Int.natCast_emod, Int.natCast_ediv, Int.natCast_pow]; rfl, seven_in _ (by omega)]
  omega

set_option maxHeartbeats 400000 in
theorem putShort_any (a : Option Addr) (n cap : Nat) (m : Nat) (zs : List Int) (w : World) (hM : m < 18446744073709551616)
    (hl : zs.length = n) (hb : Bytes w a zs) (hn : a = none → cap = 0) (hx : n + 10 ≤ 140737488355328) :
    Calls Try.prog 37 #[.slice a n cap, .int .u64 m] w fun e w' => ∃ v, e = .returned v ∧ OwnsB w' w.heap.size v (zs ++ shortL m) ∧ Below w.heap.size w w' := by
  have hg1 := cg_pos m
  have hg2 := cg_le m hM
  have hgo := groups_any m hM
  have hS : Hid (tl m (cg m - 1) = shortL m) := rfl
  generalize cg m = k at *
  go_enter Try.func37, Try.ntmps37
  go_wp2_with fail
  refine (hgo _).mono ?_
  rintro e w1 ⟨rfl, rfl⟩
  clear hgo
  go_wp2_with fail
  refine (room_any a n cap k zs w1 hl hb hn (by omega)).mono ?_
  rintro e w2 ⟨v2, rfl, ho2, hb2⟩
  clear hb hn
  go_wp2_with fail
  go_loopw [6, 7] (fun v i wr => ∃ (pre : List Int) (t : Nat), Hid (OwnsB wr w1.heap.size v (zs ++ pre)) ∧ Hid (pre ++ tl m t = shortL m) ∧ pre.length + t ≤ 9 ∧ Below w1.heap.size w1 wr ∧ i = .int .i64 t) (fun _ i _ => (intOf i).toNat)
  case atStart =>
    obtain ⟨t, rfl⟩ : ∃ t, k = t + 1 := ⟨k - 1, by omega⟩
    exact ⟨[], t, by show OwnsB _ _ _ _; simpa using ho2, hS, by simp; omega, hb2, by go_num⟩
  case round =>
    obtain ⟨pre, t, ho, hp, hj, hbr, rfl⟩ := hrel
    have hsz := hbr.size
    have hlen : (zs ++ pre).length + 1 ≤ 140737488355328 := by rw [List.length_append, hl]; omega
    cases t with
    | zero =>
      have hlow := low_in m hM
      obtain ⟨B, hB⟩ : ∃ B : Nat, B = m % 128 := ⟨_, rfl⟩
      rw [← hB] at hlow
      have hB1 : B < 256 := by omega
      have hp' : Hid (pre ++ [(B : Int)] = shortL m) := by rw [hB]; exact hp
      clear hB hp hS
      go_wp2_with (at_builtin; refine wpList_append_bytes rfl (.tmp 28) (.tmp 32) rfl w1.heap.size u6 (zs ++ pre) [(B : Int)] rfl (ho.out.alloc _) (some ⟨wr.heap.size, 0, none⟩) 1 1 rfl rfl (by simp) (one_byte wr _ (by omega) (by omega)) hlen (by simp; omega) ?_; intro v3 w3 ho3 hg3; have hb3 := grown_below (hbr.alloc hsz _) (ho.out.alloc _) hg3 (by simp; omega); clear hg3 ho)
      go_ret
      refine ⟨_, rfl, ?_, hb3⟩
      rw [List.append_assoc, hp'.out] at ho3
      exact ho3
    | succ t =>
      have hbyte := shr7 m (t + 1)
      have hor := group_in m (t + 1)
      obtain ⟨B, hB⟩ : ∃ B : Nat, B = 128 + m / 128 ^ (t + 1) % 128 := ⟨_, rfl⟩
      rw [← hB] at hor
      have hB1 : B < 256 := by omega
      have hp' : Hid ((pre ++ [(B : Int)]) ++ tl m t = shortL m) := by
        show _ = _
        rw [hB, List.append_assoc]
        exact hp.out
      clear hB hp hS
      go_wp2_with (at_builtin; refine wpList_append_bytes rfl (.tmp 19) (.tmp 26) rfl w1.heap.size u6 (zs ++ pre) [(B : Int)] rfl (ho.out.alloc _) (some ⟨wr.heap.size, 0, none⟩) 1 1 rfl rfl (by simp) (one_byte wr _ (by omega) (by omega)) hlen (by simp; omega) ?_; intro v3 w3 ho3 hg3; have hb3 := grown_below (hbr.alloc hsz _) (ho.out.alloc _) hg3 (by simp; omega); clear hg3 ho)
      rw [List.append_assoc] at ho3
      clear hbyte hor ho2
      go_roundw
      case rel => exact ⟨pre ++ [(B : Int)], t, ho3, hp', by simp; omega, hb3, by go_num⟩
      case measure => simp [intOf]
end Go.Proofs.Ytfipdldoklkciaa
