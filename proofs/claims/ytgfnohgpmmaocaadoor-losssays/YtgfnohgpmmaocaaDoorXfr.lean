/-
  The document's side: a number of 64 bits as a text; an integer's text.
-/
import Derived.Test.YtgfnohgpmmaocaaDoorSame
import Derived.Lib.ItoaNum
namespace Go.Proofs.YtgfnohgpmmaocaaDoor
open Go.RowKit
set_option linter.unusedVariables false
theorem str_cons (c : Int) (ys : List Int) : strOfNums [c] ++ strOfNums ys = strOfNums (c :: ys) := by
  apply ByteArray.ext
  rw [ByteArray.data_append]
  simp [strOfNums]
/-- A number's digits, none of 0. -/
def front (m : Nat) : List Int := if m = 0 then [] else numL m
theorem num_front (m : Nat) : numL m = front (m / 10) ++ [((48 + m % 10 : Nat) : Int)] := by
  unfold front
  by_cases h : m < 10
  · rw [if_pos (by omega), num_small h, Nat.mod_eq_of_lt h]; rfl
  · rw [if_neg (by omega), num_big (by omega)]
def boolOf : Value → Nat | .bool true => 1 | _ => 0
theorem num_len20 {m : Nat} (h : m < 18446744073709551616) : (numL m).length ≤ 20 := (num_len (by omega)).2 (by omega)
set_option maxRecDepth 100000 in
set_option maxHeartbeats 1000000 in
theorem xfrw_any (n : Nat) (hn : n < 18446744073709551616) (w : World) :
    Calls Tryd.prog 32 #[.int .u64 n] w fun e w' => e = .returned (.string (txt n)) ∧ Below w.heap.size w w' := by
  have hlen : Hid ((numL n).length ≤ 20) := num_len20 hn
  obtain ⟨R, hR⟩ : ∃ R, txt n = R := ⟨_, rfl⟩
  rw [hR]
  have hR' : Hid (strOfNums (numL n) = R) := hR
  clear hR
  go_enter Tryd.func32, Tryd.ntmps32
  go_wp2
  go_loopw [0, 3, 4] (fun mv sv fv wr => ∃ (m : Nat) (s : ByteArray) (ys : List Int) (f : Bool), mv = .int .u64 m ∧ sv = .string s ∧ fv = .bool f ∧ m < 18446744073709551616 ∧ Hid (s = strOfNums ys) ∧ Hid (numL n = (if f = true then numL m else front m) ++ ys) ∧ Hid (Below w.heap.size w wr)) (fun mv _ fv _ => (intOf mv).toNat + boolOf fv)
  case atStart => exact ⟨n, ⟨#[]⟩, [], true, rfl, rfl, rfl, hn, rfl, (by show _ = _; rw [if_pos rfl, List.append_nil]), Below.refl _ _⟩
  case round =>
    obtain ⟨m, s, ys, f, rfl, rfl, rfl, hm, hs, hnum, hbl⟩ := hrel
    by_cases hgo : f = true ∨ 0 < m
    · have hnm : (if f = true then numL m else front m) = numL m := by
        cases f with
        | true => rfl
        | false =>
          have : 0 < m := hgo.resolve_left (by decide)
          unfold front
          rw [if_neg (by decide), if_neg (by omega)]
      have hst : Hid (numL n = front (m / 10) ++ (((48 + m % 10 : Nat) : Int) :: ys)) := by
        show _ = _
        rw [hnum.out, hnm, num_front m, List.append_assoc]
        rfl
      have hys : Hid (ys.length ≤ 20) := by
        show _ ≤ _
        have h1 := congrArg List.length hnum.out
        rw [List.length_append] at h1
        have := hlen.out
        omega
      have hsz : s.size ≤ 20 := by rw [hs.out, strOfNums_size]; exact hys.out
      have hms : Hid (m / 10 + 0 < m + boolOf (.bool f)) := by
        show _ < _
        rcases hgo with h | h
        · subst h
          show m / 10 + 0 < m + 1
          omega
        · omega
      obtain ⟨c, hc⟩ : ∃ c : Int, ((48 + m % 10 : Nat) : Int) = c := ⟨_, rfl⟩
      rw [hc] at hst
      have hcb : 0 ≤ c ∧ c < 256 := by omega
      have hm' : m / 10 < 18446744073709551616 := by omega
      have q1 : Int.tmod (m : Int) 10 = ((m % 10 : Nat) : Int) := rfl
      have q2 : Int.tdiv (m : Int) 10 = ((m / 10 : Nat) : Int) := rfl
      have e1 : ((m : Nat) : Int) % 10 = ((m % 10 : Nat) : Int) := by omega
      have e2 : ((m : Nat) : Int) / 10 = ((m / 10 : Nat) : Int) := by omega
      have hmd : m % 10 < 10 := by omega
      generalize m % 10 = D at *
      generalize m / 10 = M at *
      have w1 : IntKind.u64.wrap (48 + (D : Int)) = c := by rw [IntKind.wrap_u64]; omega
      have w2 : IntKind.u8.wrap c = c := by rw [IntKind.wrap_u8]; omega
      have w3 : IntKind.u64.wrap (M : Int) = (M : Int) := by rw [IntKind.wrap_u64]; omega
      have ks := fun (X : World) => conv_str (one_byte X c hcb.1 hcb.2) 1 1 rfl
      have hs1 : (strOfNums [c]).size = 1 := strOfNums_size _
      have hsum : (strOfNums [c]).size + s.size ≤ 9223372036854775807 := by omega
      have hcat : Hid (strOfNums [c] ++ s = strOfNums (c :: ys)) := by show _ = _; rw [hs.out]; exact str_cons c ys
      generalize strOfNums [c] = C1 at *
      have hadd := fun X => run_string_add_sum (P := Tryd.prog) X C1 s hsum
      have hbs : w.heap.size ≤ wr.heap.size := hbl.out.size
      clear hmd hcb hnm hc hsz hs1
      rcases hgo with hf | hpos
      · subst hf
        go_wp2
        go_roundw
        case rel => exact ⟨M, C1 ++ s, c :: ys, false, by first | rfl | simp, rfl, rfl, hm', hcat, hst, hbl.out.alloc hbs _⟩
        case measure => exact hms.out
      · have hp1 : decide (0 < (m : Int)) = true := by simp; omega
        cases f with
        | true =>
          go_wp2
          go_roundw
          case rel => exact ⟨M, C1 ++ s, c :: ys, false, by first | rfl | simp, rfl, rfl, hm', hcat, hst, hbl.out.alloc hbs _⟩
          case measure => exact hms.out
        | false =>
          go_wp2
          go_roundw
          case rel => exact ⟨M, C1 ++ s, c :: ys, false, by first | rfl | simp, rfl, rfl, hm', hcat, hst, hbl.out.alloc hbs _⟩
          case measure => exact hms.out
    · obtain rfl : f = false := by
        cases f with
        | true => exact absurd (.inl rfl) hgo
        | false => rfl
      obtain rfl : m = 0 := by
        rcases Nat.eq_zero_or_pos m with h | h
        · exact h
        · exact absurd (.inr h) hgo
      have hfin : Hid (s = R) := by show _ = _; rw [hs.out, ← hR'.out, hnum.out]; rfl
      clear hgo
      go_wp2
      go_ret
      exact ⟨by rw [hfin.out]; rfl, hbl.out⟩

theorem dec_numF (u : Nat) : (Lib.decDigits u).map (fun b : UInt8 => ((b.toNat : Nat) : Int)) = numL u := by
  induction u using Nat.strongRecOn with
  | _ u ih =>
    by_cases h : u < 10
    · rw [Lib.decDigits_one h, num_small h]
      simp only [List.map_cons, List.map_nil]
      rw [UInt8.toNat_ofNat', Nat.mod_eq_of_lt (by omega)]
    · rw [Lib.decDigits, dif_neg h, num_big (by omega), List.map_append, ih (u / 10) (by omega)]
      simp only [List.map_cons, List.map_nil]
      rw [UInt8.toNat_ofNat', Nat.mod_eq_of_lt (by omega)]
theorem dec_txt (u : Nat) : (⟨(Lib.decDigits u).toArray⟩ : ByteArray) = txt u := bs_inj (by rw [bs_txt]; exact dec_numF u)
end Go.Proofs.YtgfnohgpmmaocaaDoor
