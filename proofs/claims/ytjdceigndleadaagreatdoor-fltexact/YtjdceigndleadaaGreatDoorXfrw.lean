/-
  The document's side: a number of 64 bits as a text, and powers.
-/
import Derived.Test.YtjdceigndleadaaGreatDoorXmul
import Derived.Test.YtjdceigndleadaaGreatDoorPow
namespace Go.Proofs.YtjdceigndleadaaGreatDoor
open Go.RowKit

theorem str_cons (c : Int) (ys : List Int) : strOfNums [c] ++ strOfNums ys = strOfNums (c :: ys) := by
  apply ByteArray.ext
  rw [ByteArray.data_append]
  simp [strOfNums]
/-- A number's digits, none of 0. -/
def front (m : Nat) : List Int := if m = 0 then [] else numL m
theorem num_front (m : Nat) : numL m = front (m / 10) ++ [((48 + m % 10 : Nat) : Int)] := by
  unfold front
  by_cases h : m < 10
  · rw [if_pos (by omega), num_small h, Nat.mod_eq_of_lt h]; rfl
  · rw [if_neg (by omega), num_big (by omega)]
def boolOf : Value → Nat | .bool true => 1 | _ => 0
theorem num_len20 {m : Nat} (h : m < 18446744073709551616) : (numL m).length ≤ 20 := (num_len (by omega)).2 (by omega)
set_option maxRecDepth 100000 in
set_option maxHeartbeats 1000000 in
theorem xfrw_any (n : Nat) (hn : n < 18446744073709551616) (w : World) :
    Calls Tryz.prog 17 #[.int .u64 n] w fun e w' => e = .returned (.string (txt n)) ∧ Below w.heap.size w w' := by
  have hlen : Hid ((numL n).length ≤ 20) := num_len20 hn
  obtain ⟨R, hR⟩ : ∃ R, txt n = R := ⟨_, rfl⟩
  rw [hR]
  have hR' : Hid (strOfNums (numL n) = R) := hR
  clear hR
  go_enter Tryz.func17, Tryz.ntmps17
  go_wp2
  go_loopw [0, 3, 4] (fun mv sv fv wr => ∃ (m : Nat) (s : ByteArray) (ys : List Int) (f : Bool), mv = .int .u64 m ∧ sv = .string s ∧ fv = .bool f ∧ m < 18446744073709551616 ∧ Hid (s = strOfNums ys) ∧ Hid (numL n = (if f = true then numL m else front m) ++ ys) ∧ Hid (Below w.heap.size w wr)) (fun mv _ fv _ => (intOf mv).toNat + boolOf fv)
  case atStart => exact ⟨n, ⟨#[]⟩, [], true, rfl, rfl, rfl, hn, rfl, (by show _ = _; rw [if_pos rfl, List.append_nil]), Below.refl _ _⟩
  case round =>
    obtain ⟨m, s, ys, f, rfl, rfl, rfl, hm, hs, hnum, hbl⟩ := hrel
    by_cases hgo : f = true ∨ 0 < m
    · have hnm : (if f = true then numL m else front m) = numL m := by
        cases f with
        | true => rfl
        | false =>
          have : 0 < m := hgo.resolve_left (by decide)
          unfold front
          rw [if_neg (by decide), if_neg (by omega)]
      have hst : Hid (numL n = front (m / 10) ++ (((48 + m % 10 : Nat) : Int) :: ys)) := by
        show _ = _
        rw [hnum.out, hnm, num_front m, List.append_assoc]
        rfl
      have hys : Hid (ys.length ≤ 20) := by
        show _ ≤ _
        have h1 := congrArg List.length hnum.out
        rw [List.length_append] at h1
        have := hlen.out
        omega
      have hsz : s.size ≤ 20 := by rw [hs.out, strOfNums_size]; exact hys.out
      have hms : Hid (m / 10 + 0 < m + boolOf (.bool f)) := by
        show _ < _
        rcases hgo with h | h
        · subst h
          show m / 10 + 0 < m + 1
          omega
        · omega
      obtain ⟨c, hc⟩ : ∃ c : Int, ((48 + m % 10 : Nat) : Int) = c := ⟨_, rfl⟩
      rw [hc] at hst
      have hcb : 0 ≤ c ∧ c < 256 := by omega
      have hm' : m / 10 < 18446744073709551616 := by omega
      have q1 : Int.tmod (m : Int) 10 = ((m % 10 : Nat) : Int) := rfl
      have q2 : Int.tdiv (m : Int) 10 = ((m / 10 : Nat) : Int) := rfl
      have e1 : ((m : Nat) : Int) % 10 = ((m % 10 : Nat) : Int) := by omega
      have e2 : ((m : Nat) : Int) / 10 = ((m / 10 : Nat) : Int) := by omega
      have hmd : m % 10 < 10 := by omega
      generalize m % 10 = D at *
      generalize m / 10 = M at *
      have w1 : IntKind.u64.wrap (48 + (D : Int)) = c := by rw [IntKind.wrap_u64]; omega
      have w2 : IntKind.u8.wrap c = c := by rw [IntKind.wrap_u8]; omega
      have w3 : IntKind.u64.wrap (M : Int) = (M : Int) := by rw [IntKind.wrap_u64]; omega
      have ks := fun (X : World) => conv_str (one_byte X c hcb.1 hcb.2) 1 1 rfl
      have hs1 : (strOfNums [c]).size = 1 := strOfNums_size _
      have hsum : (strOfNums [c]).size + s.size ≤ 9223372036854775807 := by omega
      have hcat : Hid (strOfNums [c] ++ s = strOfNums (c :: ys)) := by show _ = _; rw [hs.out]; exact str_cons c ys
      generalize strOfNums [c] = C1 at *
      have hadd := fun X => run_string_add_sum (P := Tryz.prog) X C1 s hsum
      have hbs : w.heap.size ≤ wr.heap.size := hbl.out.size
      clear hmd hcb hnm hc hsz hs1
      rcases hgo with hf | hpos
      · subst hf
        go_wp2
        go_roundw
        case rel => exact ⟨M, C1 ++ s, c :: ys, false, by first | rfl | simp, rfl, rfl, hm', hcat, hst, hbl.out.alloc hbs _⟩
        case measure => exact hms.out
      · have hp1 : decide (0 < (m : Int)) = true := by simp; omega
        cases f with
        | true =>
          go_wp2
          go_roundw
          case rel => exact ⟨M, C1 ++ s, c :: ys, false, by first | rfl | simp, rfl, rfl, hm', hcat, hst, hbl.out.alloc hbs _⟩
          case measure => exact hms.out
        | false =>
          go_wp2
          go_roundw
          case rel => exact ⟨M, C1 ++ s, c :: ys, false, by first | rfl | simp, rfl, rfl, hm', hcat, hst, hbl.out.alloc hbs _⟩
          case measure => exact hms.out
    · obtain rfl : f = false := by
        cases f with
        | true => exact absurd (.inl rfl) hgo
        | false => rfl
      obtain rfl : m = 0 := by
        rcases Nat.eq_zero_or_pos m with h | h
        · exact h
        · exact absurd (.inr h) hgo
      have hfin : Hid (s = R) := by show _ = _; rw [hs.out, ← hR'.out, hnum.out]; rfl
      clear hgo
      go_wp2
      go_ret
      exact ⟨by rw [hfin.out]; rfl, hbl.out⟩

theorem pow_half {S Q m T : Nat} (h : S * Q ^ m = T) : (if m % 2 = 1 then S * Q else S) * (Q * Q) ^ (m / 2) = T := by
  rw [← h]
  have e : (Q * Q) ^ (m / 2) = Q ^ (2 * (m / 2)) := by rw [Nat.pow_mul, Nat.pow_two]
  rw [e]
  by_cases h1 : m % 2 = 1
  · rw [if_pos h1, Nat.mul_assoc, ← Nat.pow_succ']
    congr 2
    omega
  · rw [if_neg h1]
    congr 2
    omega
theorem txt_fits {n : Nat} (h : n < top) : (txt n).size ≤ 800 := by
  have := txt_long (n := n)
  omega
theorem digs_txt (n : Nat) : Digs (bs (txt n)) := by rw [bs_txt]; exact num_digs n
theorem mul_txt (S Q : Nat) (w : World) (hS : S < top) (hQ : Q < top) : Calls Tryz.prog 36 #[.string (txt S), .string (txt Q)] w fun e w' => e = .returned (.string (txt (S * Q))) ∧ Below w.heap.size w w' := by
  have h := xmu_any (txt S) (txt Q) w (digs_txt S) (digs_txt Q) (by have := txt_fits hS; omega) (by have := txt_fits hQ; omega)
  rw [val_txt, val_txt] at h
  exact h
theorem one_lt_top : 1 < top := by
  have h : ∀ m, 1 ≤ m → 1 < 10 ^ m := fun m hm => Nat.lt_of_lt_of_le (by decide) (Nat.pow_le_pow_right (n := 10) (by decide) hm)
  unfold top
  exact h 800 (by decide)
theorem short_big {n : Nat} (h : top ≤ n) : shortA n = (noS, 11) := by unfold shortA; rw [if_neg (by omega)]
theorem short_small {n : Nat} (h : n < top) : shortA n = (txt n, 0) := by unfold shortA; rw [if_pos h]
set_option maxRecDepth 100000 in
set_option maxHeartbeats 2000000 in
theorem xpow_any (b n : Int) (w : World) :
    Calls Tryz.prog 18 #[.int .i64 b, .int .i64 n] w fun e w' => e = .returned (.tuple #[.string (powA b n).1, .int .i64 (powA b n).2]) ∧ Below w.heap.size w w' := by
  by_cases hok : (0 ≤ b ∧ b ≤ 1000000) ∧ 0 ≤ n ∧ n ≤ 4000
  · obtain ⟨R, hR⟩ : ∃ R, powA b n = R := ⟨_, rfl⟩
    rw [hR]
    obtain ⟨N, rfl⟩ : ∃ N : Nat, n = N := ⟨n.toNat, by omega⟩
    obtain ⟨B, rfl⟩ : ∃ B : Nat, b = B := ⟨b.toNat, by omega⟩
    have hR' : Hid (shortA (B ^ N) = R) := by
      rw [← hR]
      unfold powA
      rw [if_pos hok]
      rfl
    have d1 : decide ((B : Int) < 0) = false := by simp
    have d2 : decide (1000000 < (B : Int)) = false := by simp; omega
    have d3 : decide ((N : Int) < 0) = false := by simp
    have d4 : decide (4000 < (N : Int)) = false := by simp; omega
    have kF := xfrw_any B (by omega) w
    have wB : IntKind.u64.wrap (B : Int) = (B : Int) := by rw [IntKind.wrap_u64]; omega
    have hN4 : N ≤ 4000 := by omega
    clear hok hR
    go_enter Tryz.func18, Tryz.ntmps18
    go_wp2_with (go_at_call 17; refine kF.mono ?_; rintro e w1 ⟨rfl, hb1⟩)
    go_loopw [1, 6, 7] (fun mv sv qv wr => ∃ (m S Q : Nat) (s q : ByteArray), mv = .int .i64 m ∧ sv = .string s ∧ qv = .string q ∧ m ≤ 4000 ∧ Hid (s = txt S) ∧ Hid (q = txt Q) ∧ Hid (S < top) ∧ Hid (S * Q ^ m = B ^ N) ∧ Hid (0 < Q → 0 < S) ∧ Hid (Below w.heap.size w wr)) (fun mv _ _ _ => (intOf mv).toNat)
    case atStart => exact ⟨N, 1, B, ⟨#[49]⟩, txt B, rfl, rfl, rfl, hN4, rfl, rfl, one_lt_top, (by show _ = _; rw [Nat.one_mul]), (fun _ => by decide), hb1⟩
    case round =>
      obtain ⟨m, S, Q, s, q, rfl, rfl, rfl, hm4, hs, hq, hS, hv, hpos, hbl⟩ := hrel
      by_cases hm0 : m = 0
      · subst hm0
        have hfin : Hid (R = (s, 0)) := by
          show _ = _
          have h1 := hv.out
          rw [Nat.pow_zero, Nat.mul_one] at h1
          rw [← hR'.out, ← h1, short_small hS.out, hs.out]
        go_wp2
        go_ret2
        exact ⟨by rw [hfin.out]; rfl, hbl.out⟩
      have hdm : decide (0 < (m : Int)) = true := by simp; omega
      by_cases hQ : top ≤ Q
      · have hfin : Hid (R = (noS, 11)) := by
          show _ = _
          rw [← hR'.out]
          refine short_big ?_
          rw [← hv.out]
          have h0 := one_lt_top
          have h1 := hpos.out (by omega)
          obtain ⟨p, rfl⟩ : ∃ p, m = p + 1 := ⟨m - 1, by omega⟩
          rw [Nat.pow_succ]
          have h2 : 1 ≤ Q ^ p := Nat.pow_pos (by omega)
          have h3 : 1 * Q ≤ Q ^ p * Q := Nat.mul_le_mul_right _ h2
          have h4 : 1 * (Q ^ p * Q) ≤ S * (Q ^ p * Q) := Nat.mul_le_mul_right _ h1
          omega
        have hdq : decide (800 < ((q.size : Nat) : Int)) = true := by
          have := (txt_long (n := Q)).2 hQ
          rw [← hq.out] at this
          simp; omega
        have hpm : 0 < m := by omega
        clear hQ hm0 hdm
        go_wp2
        go_ret2
        exact ⟨by rw [hfin.out]; rfl, hbl.out⟩
      have hdq : decide (800 < ((q.size : Nat) : Int)) = false := by
        have := txt_fits (n := Q) (by omega)
        rw [← hq.out] at this
        simp; omega
      have hQt : Hid (Q < top) := by show _ < _; omega
      have hhalf := pow_half hv.out
      have q2 : Int.tdiv (m : Int) 2 = ((m / 2 : Nat) : Int) := rfl
      have e2 : ((m : Nat) : Int) / 2 = ((m / 2 : Nat) : Int) := by omega
      have w2' : IntKind.i64.wrap ((m / 2 : Nat) : Int) = ((m / 2 : Nat) : Int) := wrap_fit (by omega) (by omega)
      have hmlt : Hid (m / 2 < m) := by show _ < _; omega
      have hm2 : m / 2 ≤ 4000 := by omega
      have kQ : Hid (∀ X, Calls Tryz.prog 36 #[.string q, .string q] X fun e w' => e = .returned (.string (txt (Q * Q))) ∧ Below X.heap.size X w') := fun X => by rw [hq.out]; exact mul_txt Q Q X hQt.out hQt.out
      have hpp : Hid (0 < Q * Q → 0 < Q) := fun h => Nat.pos_of_mul_pos_left h
      have hpm : 0 < m := by omega
      clear hQ hm0 hdm
      by_cases hodd : m % 2 = 1
      · rw [if_pos hodd] at hhalf
        have q1 : Int.tmod (m : Int) 2 = 1 := by rw [Int.tmod_eq_emod_of_nonneg (by omega)]; omega
        have e1 : ((m : Nat) : Int) % 2 = 1 := by omega
        generalize m / 2 = M at *
        clear hodd
        have kS : Calls Tryz.prog 36 #[.string s, .string q] wr fun e w' => e = .returned (.string (txt (S * Q))) ∧ Below wr.heap.size wr w' := by rw [hs.out, hq.out]; exact mul_txt S Q wr hS.out hQt.out
        go_wp2_with (go_at_call 36; refine kS.mono ?_; rintro e w8 ⟨rfl, hb8⟩; refine Hid.out ?_)
        refine Lib.hid ?_
        have hbe : Hid (Below w.heap.size w w8) := hbl.out.trans (hb8.mono hbl.out.size)
        have hps : Hid (0 < Q → 0 < S * Q) := fun h => Nat.mul_pos (hpos.out h) h
        by_cases hbig : top ≤ S * Q
        · have hfin : Hid (R = (noS, 11)) := by
            show _ = _
            rw [← hR'.out]
            refine short_big ?_
            rw [← hhalf]
            have h0 := one_lt_top
            have hQ1 : 0 < Q := Nat.pos_of_ne_zero fun h => by rw [h, Nat.mul_zero] at hbig; omega
            have h2 : 1 ≤ (Q * Q) ^ M := Nat.pow_pos (Nat.mul_pos hQ1 hQ1)
            have h3 : S * Q * 1 ≤ S * Q * (Q * Q) ^ M := Nat.mul_le_mul_left _ h2
            omega
          have ds : decide (800 < (((txt (S * Q)).size : Nat) : Int)) = true := by
            have := (txt_long (n := S * Q)).2 hbig
            simp; omega
          clear hbig kS
          go_wp2
          go_ret2
          exact ⟨by rw [hfin.out]; rfl, hbe.out⟩
        · have hSt : Hid (S * Q < top) := by show _ < _; omega
          have ds : decide (800 < (((txt (S * Q)).size : Nat) : Int)) = false := by
            have := txt_fits hSt.out
            simp; omega
          clear hbig kS
          by_cases hM0 : M = 0
          · have hfv : Hid ((S * Q) * Q ^ M = B ^ N) := by show _ = _; rw [hM0, Nat.pow_zero]; rw [hM0, Nat.pow_zero] at hhalf; exact hhalf
            subst hM0
            clear hhalf
            go_wp2
            go_roundw
            case rel => exact ⟨0, (S * Q), Q, _, q, by first | rfl | simp, rfl, rfl, hm2, rfl, hq, hSt, hfv, hps.out, hbe.out⟩
            case measure => exact hmlt.out
          · have hfv : Hid ((S * Q) * (Q * Q) ^ M = B ^ N) := hhalf
            have hMp : 0 < M := by omega
            clear hhalf
            have kq := kQ.out w8
            go_wp2_with (go_at_call 36; refine kq.mono ?_; rintro e w9 ⟨rfl, hb9⟩)
            go_roundw
            case rel => exact ⟨M, (S * Q), Q * Q, _, _, by first | rfl | simp, rfl, rfl, hm2, rfl, rfl, hSt, hfv, (fun h => (hps.out) (hpp.out h)), hbe.out.trans (hb9.mono hbe.out.size)⟩
            case measure => exact hmlt.out
      · rw [if_neg hodd] at hhalf
        have q1 : Int.tmod (m : Int) 2 = 0 := by rw [Int.tmod_eq_emod_of_nonneg (by omega)]; omega
        have e1 : ((m : Nat) : Int) % 2 = 0 := by omega
        generalize m / 2 = M at *
        clear hodd
        have ds : decide (800 < ((s.size : Nat) : Int)) = false := by
          have := txt_fits hS.out
          rw [← hs.out] at this
          simp; omega
        by_cases hM0 : M = 0
        · have hfv : Hid (S * Q ^ M = B ^ N) := by show _ = _; rw [hM0, Nat.pow_zero]; rw [hM0, Nat.pow_zero] at hhalf; exact hhalf
          subst hM0
          clear hhalf
          go_wp2
          go_roundw
          case rel => exact ⟨0, S, Q, _, q, by first | rfl | simp, rfl, rfl, hm2, hs, hq, hS, hfv, hpos.out, hbl.out⟩
          case measure => exact hmlt.out
        · have hfv : Hid (S * (Q * Q) ^ M = B ^ N) := hhalf
          have hMp : 0 < M := by omega
          clear hhalf
          have kq := kQ.out wr
          go_wp2_with (go_at_call 36; refine kq.mono ?_; rintro e w9 ⟨rfl, hb9⟩)
          go_roundw
          case rel => exact ⟨M, S, Q * Q, _, _, by first | rfl | simp, rfl, rfl, hm2, hs, rfl, hS, hfv, (fun h => (hpos.out) (hpp.out h)), hbl.out.trans (hb9.mono hbl.out.size)⟩
          case measure => exact hmlt.out
  · have e : powA b n = (noS, 1) := by unfold powA; rw [if_neg hok]
    rw [e]
    clear e
    by_cases c1 : b < 0
    · have d1 : decide (b < 0) = true := by simpa using c1
      clear hok c1
      go_enter Tryz.func18, Tryz.ntmps18
      go_wp2
      go_ret2
      exact ⟨rfl, Below.refl _ _⟩
    have d1 : decide (b < 0) = false := by simpa using c1
    by_cases c2 : 1000000 < b
    · have d2 : decide (1000000 < b) = true := by simpa using c2
      clear hok c1 c2
      go_enter Tryz.func18, Tryz.ntmps18
      go_wp2
      go_ret2
      exact ⟨rfl, Below.refl _ _⟩
    have d2 : decide (1000000 < b) = false := by simpa using c2
    by_cases c3 : n < 0
    · have d3 : decide (n < 0) = true := by simpa using c3
      clear hok c1 c2 c3
      go_enter Tryz.func18, Tryz.ntmps18
      go_wp2
      go_ret2
      exact ⟨rfl, Below.refl _ _⟩
    have d3 : decide (n < 0) = false := by simpa using c3
    have d4 : decide (4000 < n) = true := by simp; omega
    clear hok c1 c2 c3
    go_enter Tryz.func18, Tryz.ntmps18
    go_wp2
    go_ret2
    exact ⟨rfl, Below.refl _ _⟩
end Go.Proofs.YtjdceigndleadaaGreatDoor
