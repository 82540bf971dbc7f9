/-
  Whole digits: dec.Whole, and the document's.
-/
import Derived.Test.YtcnfgmhcbelgoaaDoorOwm
import Derived.Test.YtcnfgmhcbelgoaaDoorYright
import Derived.Lib.SmallJoins
namespace Go.Proofs.YtcnfgmhcbelgoaaDoor
open Go.RowKit

/-- Digits with 0 behind. -/
def padW (s : ByteArray) (k : Nat) : ByteArray := strOfNums (bs s ++ zerosL k)
theorem pad_bytes (s : ByteArray) (k : Nat) : ∀ c ∈ bs s ++ zerosL k, 0 ≤ c ∧ c < 256 := fun c hc => by
  rcases List.mem_append.1 hc with h | h
  · exact bs_bytes s c h
  · rw [(List.mem_replicate.1 h).2]; decide
theorem bs_padW (s : ByteArray) (k : Nat) : bs (padW s k) = bs s ++ zerosL k := bs_str (pad_bytes s k)
theorem padW_size (s : ByteArray) (k : Nat) : (padW s k).size = s.size + k := by rw [← bs_len, bs_padW, List.length_append, bs_len]; unfold zerosL; rw [List.length_replicate]
theorem padW_zero (s : ByteArray) : padW s 0 = s := by apply bs_inj; rw [bs_padW]; exact List.append_nil _
theorem bs_catW (s t : ByteArray) : bs (s ++ t) = bs s ++ bs t := by
  unfold bs
  rw [ByteArray.data_append, Array.toList_append, List.map_append]
theorem zeros_snoc (k : Nat) : zerosL k ++ [48] = zerosL (k + 1) := by unfold zerosL; rw [List.replicate_succ']
theorem padW_succ (s : ByteArray) (k : Nat) : padW s k ++ ⟨#[48]⟩ = padW s (k + 1) := by
  apply bs_inj
  rw [bs_catW, bs_padW, bs_padW, List.append_assoc]
  congr 1
  exact zeros_snoc k
/-- P6.3: the whole digits. -/
def wholeA (n : Bool) (s : ByteArray) (x : Int) : ByteArray × Bool := if rtN n s x = true ∧ 0 ≤ x ∧ ((s.size : Nat) : Int) + x ≤ 800 then (padW s x.toNat, true) else (noS, false)
theorem rt_padW {n : Bool} {s : ByteArray} {k : Nat} (h : rtN n s ((k : Nat) : Int) = true) : rt (padW s k) = decide (s.size + k ≤ 800) := by
  have hf := (rtN_iff n s _).1 h
  by_cases hz : bs s = [48]
  · have h0 := (hf.2.1 hz).2
    have hk : k = 0 := by omega
    subst hk
    have hs := (rt_size (rtN_rt h)).2
    rw [padW_zero, rtN_rt h]
    simp
    exact hs
  · have hc : Canon (bs s ++ zerosL k) := by
      refine ⟨fun h1 => hf.1.1.1 (List.append_eq_nil_iff.1 h1).1, digs_append hf.1.1.2.1 (zeros_digs k), fun h1 => ?_⟩
      exfalso
      rcases hx : bs s with _ | ⟨c, t⟩
      · exact hf.1.1.1 hx
      · rw [hx] at h1
        have hc : c = 48 := h1
        have h3 := hf.1.1.2.2 (by rw [hx]; exact hc)
        rw [hx] at h3
        have ht : t = [] := List.eq_nil_of_length_eq_zero (by simpa using h3)
        exact hz (by rw [hx, ht, hc])
    have hl : (bs s ++ zerosL k).length = s.size + k := by rw [← bs_padW, bs_len, padW_size]
    rw [Bool.eq_iff_iff, decide_eq_true_iff, rt_iff, bs_padW]
    constructor
    · intro h1
      have := h1.2
      omega
    · intro h1
      exact ⟨hc, by omega⟩
theorem cell48 (w : World) : (w.alloc (.cells #[.int .u8 48] 5)).cell? ((⟨w.heap.size, 0, none⟩ : Addr).add 0) = some (.int .u8 48) := by
  have h : (⟨w.heap.size, 0, none⟩ : Addr).add 0 = ⟨w.heap.size, 0 + 0, none⟩ := by simp [Addr.add]
  rw [h]
  exact World.cell?_alloc_mark w _ _ _ _
theorem conv_below (w : World) (s : ByteArray) : Below w.heap.size w (Lib.bytesWorld w 5 s) := ⟨rfl, rfl, rfl, by rw [Lib.bytesWorld_size]; omega, fun k hk => Lib.bytesWorld_at_old w 5 s k hk⟩
set_option maxRecDepth 100000 in
set_option maxHeartbeats 2000000 in
theorem whole_any (n : Bool) (s : ByteArray) (x : Int) (w : World) : Calls Tryd.prog 14 #[.agg #[.bool n, .string s, .int .i64 x]] w fun e w' => e = .returned (.tuple #[.string (wholeA n s x).1, .bool (wholeA n s x).2]) ∧ Below w.heap.size w w' := by
  have kR := dright_any n s x
  have hB := box_at w n s x 23
  obtain ⟨b0, b1, b2⟩ := id hB
  cases hr : rtN n s x with
  | false =>
    rw [show wholeA n s x = (noS, false) from by unfold wholeA; rw [if_neg (by rw [hr]; simp)]]
    rw [hr] at kR
    clear hr
    go_enter Tryd.func14, Tryd.ntmps14
    go_wp2_with (go_at_call 16; refine (kR _).mono ?_; rintro e w1 ⟨rfl, hb⟩)
    go_ret2
    exact ⟨rfl, box_below hb⟩
  | true =>
    have hx := rtN_exp hr
    have hsz := (rt_size (rtN_rt hr)).2
    have hrp : Hid (∀ k : Nat, x = ((k : Nat) : Int) → rt (padW s k) = decide (s.size + k ≤ 800)) := fun k hk => rt_padW (n := n) (by rw [← hk]; exact hr)
    by_cases hneg : x < 0
    · rw [show wholeA n s x = (noS, false) from by unfold wholeA; rw [if_neg (by omega)]]
      rw [hr] at kR
      have d1 : decide (x < 0) = true := by simpa using hneg
      have hB' : Hid (NmAt (w.alloc (.cells #[.bool n, .string s, .int .i64 x] 23)) w.heap.size n s x) := hB
      clear hr hx hsz hrp hneg hB
      go_enter Tryd.func14, Tryd.ntmps14
      go_wp2_with (go_at_call 16; refine (kR _).mono ?_; rintro e w1 ⟨rfl, hb⟩; obtain ⟨c0, c1, c2⟩ := hB'.out.kept hb (alloc_lt _ _))
      go_ret2
      exact ⟨rfl, box_below hb⟩
    · obtain ⟨k, rfl⟩ : ∃ k : Nat, x = k := ⟨x.toNat, by omega⟩
      have hA : Hid (wholeA n s ((k : Nat) : Int) = if s.size + k ≤ 800 then (padW s k, true) else (noS, false)) := by
        show _ = _
        unfold wholeA
        by_cases h8 : s.size + k ≤ 800
        · rw [if_pos ⟨hr, by omega, by omega⟩, if_pos h8, Int.toNat_natCast]
        · rw [if_neg (by omega), if_neg h8]
      have hrt := hrp.out k rfl
      rw [hr] at kR
      have d1 : decide (((k : Nat) : Int) < 0) = false := by simp
      have hk2 : k ≤ 2000 := by omega
      have hB' : Hid (NmAt (w.alloc (.cells #[.bool n, .string s, .int .i64 ((k : Nat) : Int)] 23)) w.heap.size n s ((k : Nat) : Int)) := hB
      have hrt' : Hid (rt (padW s k) = decide (s.size + k ≤ 800)) := hrt
      have hsz' : Hid (s.size ≤ 800) := hsz
      clear hr hx hsz hrp hneg hB hrt
      generalize wholeA n s ((k : Nat) : Int) = WA at *
      go_enter Tryd.func14, Tryd.ntmps14
      go_wp2_with fail
      refine (kR _).mono ?_
      rintro e w1 ⟨rfl, hb⟩
      have hN1 := hB'.out.kept hb (alloc_lt _ _)
      have d2 := box_below hb
      obtain ⟨c0, c1, c2⟩ := id hN1
      have hcv := Lib.run_convert_string_bytes (P := Tryd.prog) w1 9 49 5 s Tryd.underlying9 Tryd.underlying49 Tryd.underlying5
      have hO := own_conv w1 s (by have := hsz'.out; omega)
      have hbw : Below w1.heap.size w1 (Lib.bytesWorld w1 5 s) := conv_below w1 s
      have hN2 := hN1.kept hbw (Nat.lt_of_lt_of_le (alloc_lt _ _) hb.size)
      generalize Lib.bytesWorld w1 5 s = W2 at *
      generalize grownCap w1 s.size 0 5 = cap2 at *
      obtain ⟨e0, e1, e2⟩ := hN2
      have hO' : Hid (OwnsM W2 w.heap.size (.slice (some ⟨w1.heap.size, 0, none⟩) s.size cap2) (bs s)) := by
        obtain ⟨q0, g, cap, q1, q2, q3⟩ := hO
        exact ⟨q0, g, cap, q1, Nat.le_trans d2.size q2, q3⟩
      have d3 : Hid (Below w.heap.size w W2) := d2.trans (hbw.mono d2.size)
      clear hO hbw d2 hb hN1 kR
      go_wp2
      go_loopw [4, 19] (fun v iv wr => ∃ j : Nat, j ≤ k ∧ iv = .int .i64 j ∧ Hid (OwnsM wr w.heap.size v (bs s ++ zerosL j)) ∧ Hid (Below w.heap.size w wr)) (fun _ iv _ => k - (intOf iv).toNat)
      case atStart => exact ⟨0, Nat.zero_le _, rfl, (by show OwnsM _ _ _ _; rw [show zerosL 0 = [] from rfl, List.append_nil]; exact hO'.out), d3⟩
      case round =>
        obtain ⟨j, hj, rfl, hOj, hbj⟩ := hrel
        clear hO' d3 e0 e1 e2 c0 c1 c2 hcv
        by_cases hlt : j < k
        · have hlj : Hid ((bs s ++ zerosL j).length + 1 ≤ 100000) := by have := hsz'.out; show _ ≤ _; rw [List.length_append, bs_len]; unfold zerosL; rw [List.length_replicate]; omega
          have hbs := hbj.out.size
          have wj : IntKind.i64.wrap (((j : Nat) : Int) + 1) = ((j : Nat) : Int) + 1 := by rw [IntKind.wrap_i64] <;> omega
          have hlt' : ((j : Nat) : Int) < ((k : Nat) : Int) := by omega
          go_wp2_with (at_builtin; refine wpList_append_m rfl _ _ rfl w.heap.size _ (bs s ++ zerosL j) 48 (by decide) rfl (hOj.out.below (alloc_below wr _)) _ rfl (cell48 wr) hlj.out (Nat.le_trans hbs (Nat.le_of_lt (alloc_lt wr _))) ?_; intro v' w9 ho9 hb9)
          have ho9' : Hid (OwnsM w9 w.heap.size v' (bs s ++ zerosL (j + 1))) := by show OwnsM _ _ _ _; rw [← zeros_snoc, ← List.append_assoc]; exact ho9
          have d9 : Hid (Below w.heap.size w w9) := (hbj.out.alloc hbs _).trans hb9
          clear ho9 hb9
          go_roundw
          case rel => exact ⟨j + 1, by omega, by go_num, ho9', d9⟩
          case measure => simp [intOf]; omega
        · obtain rfl : j = k := by omega
          obtain ⟨g, m, cap, rfl, hm, hmc, hcm, hBy⟩ := hOj.out.form
          have cv := conv_str hBy.out m cap hm.out
          have e : strOfNums (bs s ++ zerosL j) = padW s j := rfl
          rw [e] at cv
          have kQ := right_any (padW s j)
          rw [hrt'.out] at kQ
          clear hlt hBy hOj e
          by_cases h8 : s.size + j ≤ 800
          · have hWA := hA.out
            rw [if_pos h8] at hWA
            subst hWA
            rw [show decide (s.size + j ≤ 800) = true from by simpa using h8] at kQ
            clear h8 hrt'
            go_wp2_with (go_at_call 38; refine (kQ _).mono ?_; rintro e w5 ⟨rfl, hw5⟩; rw [hw5]; clear hw5)
            go_ret2
            exact ⟨rfl, hbj.out⟩
          · have hWA := hA.out
            rw [if_neg h8] at hWA
            subst hWA
            rw [show decide (s.size + j ≤ 800) = false from by simpa using h8] at kQ
            clear h8 hrt'
            generalize padW s j = PW at *
            go_wp2_with (go_at_call 38; refine (kQ _).mono ?_; rintro e w5 ⟨rfl, hw5⟩; rw [hw5]; clear hw5)
            go_ret2
            exact ⟨rfl, hbj.out⟩
set_option maxRecDepth 100000 in
set_option maxHeartbeats 2000000 in
theorem ywhole_any (n : Bool) (s : ByteArray) (x : Int) (w : World) : Calls Tryd.prog 15 #[.agg #[.bool n, .string s, .int .i64 x]] w fun e w' => e = .returned (.tuple #[.string (wholeA n s x).1, .bool (wholeA n s x).2]) ∧ Below w.heap.size w w' := by
  have kR := yright_any n s x
  have hB := box_at w n s x 23
  obtain ⟨b0, b1, b2⟩ := id hB
  have hB' : Hid (NmAt (w.alloc (.cells #[.bool n, .string s, .int .i64 x] 23)) w.heap.size n s x) := hB
  clear hB
  cases hr : rtN n s x with
  | false =>
    rw [show wholeA n s x = (noS, false) from by unfold wholeA; rw [if_neg (by rw [hr]; simp)]]
    rw [hr] at kR
    clear hr
    go_enter Tryd.func15, Tryd.ntmps15
    go_wp2_with (go_at_call 17; refine (kR _).mono ?_; rintro e w1 ⟨rfl, hb⟩; obtain ⟨c0, c1, c2⟩ := hB'.out.kept hb (alloc_lt _ _))
    go_ret2
    exact ⟨rfl, box_below hb⟩
  | true =>
    have hx := rtN_exp hr
    have hsz := (rt_size (rtN_rt hr)).2
    rw [hr] at kR
    by_cases hneg : x < 0
    · rw [show wholeA n s x = (noS, false) from by unfold wholeA; rw [if_neg (by omega)]]
      have d1 : decide (x < 0) = true := by simpa using hneg
      clear hr hx hsz hneg
      go_enter Tryd.func15, Tryd.ntmps15
      go_wp2_with (go_at_call 17; refine (kR _).mono ?_; rintro e w1 ⟨rfl, hb⟩; obtain ⟨c0, c1, c2⟩ := hB'.out.kept hb (alloc_lt _ _))
      go_ret2
      exact ⟨rfl, box_below hb⟩
    · obtain ⟨k, rfl⟩ : ∃ k : Nat, x = k := ⟨x.toNat, by omega⟩
      have d1 : decide (((k : Nat) : Int) < 0) = false := by simp
      have d2 : IntKind.i64.wrap (((s.size : Nat) : Int) + ((k : Nat) : Int)) = ((s.size + k : Nat) : Int) := by rw [IntKind.wrap_i64] <;> omega
      by_cases h8 : s.size + k ≤ 800
      · have hA : wholeA n s ((k : Nat) : Int) = (padW s k, true) := by
          unfold wholeA
          rw [if_pos ⟨hr, by omega, by omega⟩, Int.toNat_natCast]
        rw [hA]
        have d3 : decide (800 < ((s.size + k : Nat) : Int)) = false := by simp; omega
        have hk8 : Hid (s.size + k ≤ 800) := h8
        clear hA hr hx hsz hneg h8
        generalize ((s.size + k : Nat) : Int) = SK at *
        go_enter Tryd.func15, Tryd.ntmps15
        go_wp2_with (go_at_call 17; refine (kR _).mono ?_; rintro e w1 ⟨rfl, hb⟩; obtain ⟨c0, c1, c2⟩ := hB'.out.kept hb (alloc_lt _ _))
        have d9 := box_below hb
        clear hb
        go_loop [4, 5] (fun v iv => ∃ (j : Nat) (t : ByteArray), j ≤ k ∧ iv = .int .i64 j ∧ v = .string t ∧ Hid (t = padW s j)) (fun _ iv => k - (intOf iv).toNat)
        case atStart => exact ⟨0, s, Nat.zero_le _, rfl, rfl, (padW_zero s).symm⟩
        case round =>
          obtain ⟨j, t, hj, rfl, rfl, ht⟩ := hrel
          by_cases hlt : j < k
          · have hts : t.size = s.size + j := by rw [ht.out, padW_size]
            have h8 := hk8.out
            have hfit : ¬ 9223372036854775807 < t.size + 1 := by omega
            have wj : IntKind.i64.wrap (((j : Nat) : Int) + 1) = ((j : Nat) : Int) + 1 := by rw [IntKind.wrap_i64] <;> omega
            have hlt' : ((j : Nat) : Int) < ((k : Nat) : Int) := by omega
            have ht' : Hid (t ++ ⟨#[48]⟩ = padW s (j + 1)) := by show _ = _; rw [ht.out]; exact padW_succ s j
            clear hts h8
            go_wp2
            go_round
            case rel => exact ⟨j + 1, _, by omega, by go_num, rfl, ht'⟩
            case measure => simp [intOf]; omega
          · obtain rfl : j = k := by omega
            clear hlt
            go_wp2
            go_ret2
            exact ⟨by rw [← ht.out]; rfl, d9⟩
      · have hA : wholeA n s ((k : Nat) : Int) = (noS, false) := by
          unfold wholeA
          rw [if_neg (by omega)]
        rw [hA]
        have d3 : decide (800 < ((s.size + k : Nat) : Int)) = true := by simp; omega
        clear hA hr hx hsz hneg h8
        generalize ((s.size + k : Nat) : Int) = SK at *
        go_enter Tryd.func15, Tryd.ntmps15
        go_wp2_with (go_at_call 17; refine (kR _).mono ?_; rintro e w1 ⟨rfl, hb⟩; obtain ⟨c0, c1, c2⟩ := hB'.out.kept hb (alloc_lt _ _))
        go_ret2
        exact ⟨rfl, box_below hb⟩
end Go.Proofs.YtcnfgmhcbelgoaaDoor
