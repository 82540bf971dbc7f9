/-
  Numbers put behind bytes, as the document's own answer has it.
-/
import Derived.Test.YtfipdldoklkciaaGad
namespace Go.Proofs.Ytfipdldoklkciaa
open Go.RowKit

theorem ref_group_in (m t : Nat) : bits .or .u8 ((m : Int) / 128 ^ t % 256) 128 = ((128 + m / 128 ^ t % 128 : Nat) : Int) := by
  rw [show (m : Int) / 128 ^ t % 256 = ((m / 128 ^ t % 256 : Nat) : Int) from by rw [Int.natCast_emod, Int.natCast_ediv, Int.natCast_pow]; rfl, show (128 : Int) = ((128 : Nat) : Int) from rfl, u8_or_nat _ 128 (by omega) (by decide), Nat.or_comm, or_all _ (by omega)]
  omega

set_option maxHeartbeats 1000000 in
theorem refPutShort_any (a : Option Addr) (n cap : Nat) (m : Nat) (zs : List Int) (w : World) (hM : m < 18446744073709551616)
    (hl : zs.length = n) (hb : Bytes w a zs) (hn : a = none → cap = 0) (hx : n + 10 ≤ 140737488355328) :
    Calls Try.prog 40 #[.slice a n cap, .int .u64 m] w fun e w' => ∃ v, e = .returned v ∧ OwnsB w' w.heap.size v (zs ++ shortL m) ∧ Below w.heap.size w w' := by
  have hS : Hid (rl m 9 = shortL m) := rl_short m hM
  have hB : Hid (Bytes w a zs) := hb
  have hL : Hid (zs.length = n) := hl
  clear hb hl
  go_enter Try.func40, Try.ntmps40
  go_wp2_with (at_builtin; refine wpList_append_bytes rfl _ (.tmp 7) rfl w.heap.size (.slice none 0 0) [] zs rfl (ownsB_nil _ _) a n cap rfl hL.out hn hB.out (by rw [hL.out]; simp; omega) (Nat.le_refl _) ?_; intro v2 w2 ho2 hg2; have hb2 := grown_below (Below.refl _ _) (ownsB_nil _ _) hg2 (Nat.le_refl _); simp only [List.nil_append] at ho2; clear hg2)
  go_loopw [5, 6] (fun v i wr => ∃ (pre : List Int) (t : Nat), Hid (OwnsB wr w.heap.size v (zs ++ pre)) ∧ Hid (pre ++ rl m t = shortL m) ∧ pre.length + t ≤ 9 ∧ Below w.heap.size w wr ∧ i = .int .i64 t) (fun _ i _ => (intOf i).toNat)
  case atStart => exact ⟨[], 9, by show OwnsB _ _ _ _; simpa using ho2, hS, by simp, hb2, by go_num⟩
  case round =>
    obtain ⟨pre, t, ho, hp, hj, hbr, rfl⟩ := hrel
    have hsz := hbr.size
    have hlen : (zs ++ pre).length + 1 ≤ 140737488355328 := by rw [List.length_append, hL.out]; omega
    cases t with
    | zero =>
      have hlow := low_in m hM
      obtain ⟨B, hB0⟩ : ∃ B : Nat, B = m % 128 := ⟨_, rfl⟩
      rw [← hB0] at hlow
      have hB1 : B < 256 := by omega
      have hp' : Hid (pre ++ [(B : Int)] = shortL m) := by rw [hB0]; exact hp
      clear hB0 hp hS
      go_wp2_with (at_builtin; refine wpList_append_bytes rfl (.tmp 27) (.tmp 31) rfl w.heap.size u5 (zs ++ pre) [(B : Int)] rfl (ho.out.alloc _) (some ⟨wr.heap.size, 0, none⟩) 1 1 rfl rfl (by simp) (one_byte wr _ (by omega) (by omega)) hlen (by simp; omega) ?_; intro v3 w3 ho3 hg3; have hb3 := grown_below (hbr.alloc hsz _) (ho.out.alloc _) hg3 (by simp; omega); clear hg3 ho)
      go_ret
      refine ⟨_, rfl, ?_, hb3⟩
      rw [List.append_assoc, hp'.out] at ho3
      exact ho3
    | succ t =>
      have hbyte := shr7 m (t + 1)
      by_cases h0 : m / 128 ^ (t + 1) = 0
      · have hz : (((m / 128 ^ (t + 1) : Nat) : Int) != 0) = false := by rw [h0]; rfl
        have hz' : ((m : Int) / 128 ^ (t + 1) != 0) = false := by
          rw [← hz, Int.natCast_ediv, Int.natCast_pow]; rfl
        have hp' : Hid (pre ++ rl m t = shortL m) := by
          have h1 := hp.out
          rw [rl, if_pos h0] at h1
          exact h1
        clear hp hS ho2
        go_wp2
        go_roundw
        case rel => exact ⟨pre, t, ho, hp', by omega, hbr, by go_num⟩
        case measure => simp [intOf]
      · have hz : (((m / 128 ^ (t + 1) : Nat) : Int) != 0) = true := by rw [bne_iff_ne]; omega
        have hz' : ((m : Int) / 128 ^ (t + 1) != 0) = true := by
          rw [← hz, Int.natCast_ediv, Int.natCast_pow]; rfl
        have hor := ref_group_in m (t + 1)
        obtain ⟨B, hB0⟩ : ∃ B : Nat, B = 128 + m / 128 ^ (t + 1) % 128 := ⟨_, rfl⟩
        rw [← hB0] at hor
        have hB1 : B < 256 := by omega
        have hp' : Hid ((pre ++ [(B : Int)]) ++ rl m t = shortL m) := by
          have h1 := hp.out
          rw [rl, if_neg h0] at h1
          show _ = _
          rw [hB0, List.append_assoc]
          exact h1
        clear hB0 hp hS
        go_wp2_with (at_builtin; refine wpList_append_bytes rfl (.tmp 18) (.tmp 25) rfl w.heap.size u5 (zs ++ pre) [(B : Int)] rfl (ho.out.alloc _) (some ⟨wr.heap.size, 0, none⟩) 1 1 rfl rfl (by simp) (one_byte wr _ (by omega) (by omega)) hlen (by simp; omega) ?_; intro v3 w3 ho3 hg3; have hb3 := grown_below (hbr.alloc hsz _) (ho.out.alloc _) hg3 (by simp; omega); clear hg3 ho)
        rw [List.append_assoc] at ho3
        clear hbyte hor ho2
        go_roundw
        case rel => exact ⟨pre ++ [(B : Int)], t, ho3, hp', by simp; omega, hb3, by go_num⟩
        case measure => simp [intOf]
end Go.Proofs.Ytfipdldoklkciaa
