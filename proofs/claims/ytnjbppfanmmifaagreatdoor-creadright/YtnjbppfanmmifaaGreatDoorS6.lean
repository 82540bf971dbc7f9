/-
  The document's side: which numbers are in their form, which bytes are digits.
  Whole digits: dec.Whole, and the document's.
  When two trees are the same: tree.same.
-/
import Derived.Test.YtnjbppfanmmifaaGreatDoorS5
import Derived.Test.YtnjbppfanmmifaaGreatDoorS3
import Derived.Test.YtnjbppfanmmifaaGreatDoorS4
import Derived.Lib.SmallJoins
namespace Go.Proofs.YtnjbppfanmmifaaGreatDoor
open Go.RowKit

set_option maxRecDepth 100000 in
set_option maxHeartbeats 1000000 in
theorem xright_any (s : ByteArray) (w : World) : Calls Tryz.prog 97 #[.string s] w fun e w' => e = .returned (.bool (rt s)) ∧ w' = w := by
  by_cases h0 : s.size = 0
  · obtain rfl := empty_size h0
    have hr : rt noS = false := rfl
    rw [hr]
    unfold noS
    go_enter Tryz.func97, Tryz.ntmps97
    go_wp2
    go_ret
    exact ⟨rfl, rfl⟩
  have d0 : (((s.size : Nat) : Int) == 0) = false := by rw [beq_eq_false_iff_ne]; omega
  by_cases h1 : 800 < s.size
  · have hr : rt s = false := rt_not fun h => by have := h.2; rw [bs_len] at this; omega
    rw [hr]
    have d1 : decide (800 < ((s.size : Nat) : Int)) = true := by simp; omega
    clear h0 h1
    go_enter Tryz.func97, Tryz.ntmps97
    go_wp2
    go_ret
    exact ⟨rfl, rfl⟩
  have d1 : decide (800 < ((s.size : Nat) : Int)) = false := by simp; omega
  have b0 := bs_at s (k := 0) (by omega)
  have hp : 0 < s.size := by omega
  by_cases hz : (bs s).getD 0 0 = 48 ∧ 1 < s.size
  · have hr : rt s = false := rt_not fun h => by have := h.1.2.2 hz.1; rw [bs_len] at this; omega
    rw [hr]
    have e0 : (((s[0]'hp).toNat : Nat) : Int) = 48 := by rw [← b0, hz.1]
    have d2 : decide (1 < ((s.size : Nat) : Int)) = true := by simp; omega
    clear b0 hz h0 h1
    go_enter Tryz.func97, Tryz.ntmps97
    go_wp2
    go_ret
    exact ⟨rfl, rfl⟩
  have hend : Hid ((∀ c ∈ (bs s).take s.size, 48 ≤ c ∧ c ≤ 57) → rt s = true) := all_digs (by omega) (by omega) (by
    by_cases h : (bs s).getD 0 0 = 48
    · exact .inr (by have : ¬ 1 < s.size := fun h2 => hz ⟨h, h2⟩; omega)
    · exact .inl h)
  have hall : Hid (∀ k, k < s.size → (bs s).getD k 0 < 48 ∨ 57 < (bs s).getD k 0 → rt s = false) := fun k hk h => not_digs hk h
  have hgo : Hid (∀ R, R = rt s → Calls Tryz.prog 97 #[.string s] w fun e w' => e = .returned (.bool R) ∧ w' = w) := by
    intro R hR
    have hend' : Hid ((∀ c ∈ (bs s).take s.size, 48 ≤ c ∧ c ≤ 57) → R = true) := by rw [hR]; exact hend.out
    have hall' : Hid (∀ k, k < s.size → (bs s).getD k 0 < 48 ∨ 57 < (bs s).getD k 0 → R = false) := by rw [hR]; exact hall.out
    clear hR hend hall
    by_cases hz1 : (bs s).getD 0 0 = 48
    · have e0 : (((s[0]'hp).toNat : Nat) : Int) = 48 := by rw [← b0, hz1]
      have d2 : decide (1 < ((s.size : Nat) : Int)) = false := by
        have : ¬ 1 < s.size := fun h2 => hz ⟨hz1, h2⟩
        simp; omega
      clear hz1 hz b0
      go_enter Tryz.func97, Tryz.ntmps97
      go_wp2
      go_loop [3] (fun v => ∃ k : Nat, k ≤ s.size ∧ v = .int .i64 k ∧ Hid (∀ c ∈ (bs s).take k, 48 ≤ c ∧ c ≤ 57)) (fun v => s.size - (intOf v).toNat)
      case atStart => exact ⟨0, Nat.zero_le _, rfl, (by intro c hc; simp at hc)⟩
      case round =>
        obtain ⟨k, hk, rfl, hd⟩ := hrel
        by_cases hlt : k < s.size
        · have bk := bs_at s hlt
          have hC : Hid (_ → _ → _) := fun h1 h2 => take_digs hd.out (by rw [bs_len]; exact hlt) ⟨h1, h2⟩
          have hN := hall'.out k hlt
          by_cases hA : (bs s).getD k 0 < 48
          · have d2 : decide ((((s[k]'hlt).toNat : Nat) : Int) < 48) = true := by rw [← bk]; simpa using hA
            obtain rfl := hN (.inl hA)
            clear bk hA
            go_wp2
            go_ret
            exact ⟨rfl, rfl⟩
          by_cases hB : 57 < (bs s).getD k 0
          · have d2 : decide ((((s[k]'hlt).toNat : Nat) : Int) < 48) = false := by rw [← bk]; simpa using hA
            have d3 : decide (57 < (((s[k]'hlt).toNat : Nat) : Int)) = true := by rw [← bk]; simpa using hB
            obtain rfl := hN (.inr hB)
            clear bk hA hB
            go_wp2
            go_ret
            exact ⟨rfl, rfl⟩
          · have d2 : decide ((((s[k]'hlt).toNat : Nat) : Int) < 48) = false := by rw [← bk]; simpa using hA
            have d3 : decide (57 < (((s[k]'hlt).toNat : Nat) : Int)) = false := by rw [← bk]; simpa using hB
            have hC' : Hid _ := hC.out (by omega) (by omega)
            clear bk hA hB hN hC
            go_wp2
            go_round
            case rel => exact ⟨k + 1, by omega, by go_num, hC'⟩
            case measure => simp [intOf]; omega
        · obtain rfl : k = s.size := by omega
          obtain rfl := hend'.out hd.out
          go_wp2
          go_ret
          exact ⟨rfl, rfl⟩
    · have e0 : ((((s[0]'hp).toNat : Nat) : Int) == 48) = false := by rw [← b0]; simpa using hz1
      clear hz1 hz b0
      go_enter Tryz.func97, Tryz.ntmps97
      go_wp2
      go_loop [3] (fun v => ∃ k : Nat, k ≤ s.size ∧ v = .int .i64 k ∧ Hid (∀ c ∈ (bs s).take k, 48 ≤ c ∧ c ≤ 57)) (fun v => s.size - (intOf v).toNat)
      case atStart => exact ⟨0, Nat.zero_le _, rfl, (by intro c hc; simp at hc)⟩
      case round =>
        obtain ⟨k, hk, rfl, hd⟩ := hrel
        by_cases hlt : k < s.size
        · have bk := bs_at s hlt
          have hC : Hid (_ → _ → _) := fun h1 h2 => take_digs hd.out (by rw [bs_len]; exact hlt) ⟨h1, h2⟩
          have hN := hall'.out k hlt
          by_cases hA : (bs s).getD k 0 < 48
          · have d2 : decide ((((s[k]'hlt).toNat : Nat) : Int) < 48) = true := by rw [← bk]; simpa using hA
            obtain rfl := hN (.inl hA)
            clear bk hA
            go_wp2
            go_ret
            exact ⟨rfl, rfl⟩
          by_cases hB : 57 < (bs s).getD k 0
          · have d2 : decide ((((s[k]'hlt).toNat : Nat) : Int) < 48) = false := by rw [← bk]; simpa using hA
            have d3 : decide (57 < (((s[k]'hlt).toNat : Nat) : Int)) = true := by rw [← bk]; simpa using hB
            obtain rfl := hN (.inr hB)
            clear bk hA hB
            go_wp2
            go_ret
            exact ⟨rfl, rfl⟩
          · have d2 : decide ((((s[k]'hlt).toNat : Nat) : Int) < 48) = false := by rw [← bk]; simpa using hA
            have d3 : decide (57 < (((s[k]'hlt).toNat : Nat) : Int)) = false := by rw [← bk]; simpa using hB
            have hC' : Hid _ := hC.out (by omega) (by omega)
            clear bk hA hB hN hC
            go_wp2
            go_round
            case rel => exact ⟨k + 1, by omega, by go_num, hC'⟩
            case measure => simp [intOf]; omega
        · obtain rfl : k = s.size := by omega
          obtain rfl := hend'.out hd.out
          go_wp2
          go_ret
          exact ⟨rfl, rfl⟩
  exact hgo.out _ rfl
set_option maxHeartbeats 1000000 in
theorem yright_any (n : Bool) (s : ByteArray) (x : Int) (w : World) : Calls Tryz.prog 100 #[.agg #[.bool n, .string s, .int .i64 x]] w fun e w' => e = .returned (.bool (rtN n s x)) ∧ Below w.heap.size w w' := by
  have kR := xright_any s
  obtain ⟨b0, b1, b2⟩ := box_at w n s x 104
  have hb := alloc_below w (.cells #[.bool n, .string s, .int .i64 x] 104)
  cases h1 : rt s with
  | false =>
    have hR : rtN n s x = false := by
      cases h : rtN n s x with
      | false => rfl
      | true => rw [rtN_rt h] at h1; cases h1
    rw [hR]
    rw [h1] at kR
    clear hR h1
    go_enter Tryz.func100, Tryz.ntmps100
    go_wp2_with (go_at_call 97; refine (kR _).mono ?_; rintro e w1 ⟨rfl, hw⟩; rw [hw]; clear hw)
    go_ret
    exact ⟨rfl, hb⟩
  | true =>
    rw [h1] at kR
    by_cases hz : s = zS
    · subst hz
      have hR : rtN n zS x = (!n && (x == 0)) := by unfold rtN; rw [if_pos bs_z]
      rw [hR]
      clear hR h1
      unfold zS at *
      cases n with
      | true =>
        go_enter Tryz.func100, Tryz.ntmps100
        go_wp2_with (go_at_call 97; refine (kR _).mono ?_; rintro e w1 ⟨rfl, hw⟩; rw [hw]; clear hw)
        go_ret
        exact ⟨rfl, hb⟩
      | false =>
        go_enter Tryz.func100, Tryz.ntmps100
        go_wp2_with (go_at_call 97; refine (kR _).mono ?_; rintro e w1 ⟨rfl, hw⟩; rw [hw]; clear hw)
        go_ret
        exact ⟨rfl, hb⟩
    · have hz' : (s.toList == [48]) = false := by rw [eq_size]; simpa using hz
      have hR : rtN n s x = ((bs s).getD (s.size - 1) 0 != 48 && (decide (-2000 ≤ x) && decide (x ≤ 2000))) := by
        unfold rtN
        rw [if_neg (fun h => hz ((z_iff s).1 h)), h1, Bool.true_and]
      rw [hR]
      have hsz := rt_size h1
      obtain ⟨m, hm⟩ : ∃ m, s.size - 1 = m := ⟨_, rfl⟩
      have hlt : m < s.size := by omega
      have bk := bs_at s hlt
      rw [hm, bk]
      have w1 : IntKind.i64.wrap (((s.size : Nat) : Int) - 1) = ((m : Nat) : Int) := by rw [IntKind.wrap_i64] <;> omega
      clear hR bk hm hsz h1 hz
      cases e1 : ((((s[m]'hlt).toNat : Nat) : Int) != 48) with
      | false =>
        go_enter Tryz.func100, Tryz.ntmps100
        go_wp2_with (go_at_call 97; refine (kR _).mono ?_; rintro e w1 ⟨rfl, hw⟩; rw [hw]; clear hw)
        go_ret
        exact ⟨rfl, hb⟩
      | true =>
        by_cases h3 : -2000 ≤ x
        · have d3 : decide (-2000 ≤ x) = true := by simpa using h3
          rw [d3]
          clear h3
          go_enter Tryz.func100, Tryz.ntmps100
          go_wp2_with (go_at_call 97; refine (kR _).mono ?_; rintro e w1 ⟨rfl, hw⟩; rw [hw]; clear hw)
          go_ret
          exact ⟨by simp, hb⟩
        · have d3 : decide (-2000 ≤ x) = false := by simpa using h3
          rw [d3]
          clear h3
          go_enter Tryz.func100, Tryz.ntmps100
          go_wp2_with (go_at_call 97; refine (kR _).mono ?_; rintro e w1 ⟨rfl, hw⟩; rw [hw]; clear hw)
          go_ret
          exact ⟨by simp, hb⟩
end Go.Proofs.YtnjbppfanmmifaaGreatDoor
namespace Go.Proofs.YtnjbppfanmmifaaGreatDoor
open Go.RowKit

/-- Digits with 0 behind. -/
def padW (s : ByteArray) (k : Nat) : ByteArray := strOfNums (bs s ++ zerosL k)
theorem pad_bytes (s : ByteArray) (k : Nat) : ∀ c ∈ bs s ++ zerosL k, 0 ≤ c ∧ c < 256 := fun c hc => by
  rcases List.mem_append.1 hc with h | h
  · exact bs_bytes s c h
  · rw [(List.mem_replicate.1 h).2]; decide
theorem bs_padW (s : ByteArray) (k : Nat) : bs (padW s k) = bs s ++ zerosL k := bs_str (pad_bytes s k)
theorem padW_size (s : ByteArray) (k : Nat) : (padW s k).size = s.size + k := by rw [← bs_len, bs_padW, List.length_append, bs_len]; unfold zerosL; rw [List.length_replicate]
theorem padW_zero (s : ByteArray) : padW s 0 = s := by apply bs_inj; rw [bs_padW]; exact List.append_nil _
theorem bs_catW (s t : ByteArray) : bs (s ++ t) = bs s ++ bs t := by
  unfold bs
  rw [ByteArray.data_append, Array.toList_append, List.map_append]
theorem zeros_snoc (k : Nat) : zerosL k ++ [48] = zerosL (k + 1) := by unfold zerosL; rw [List.replicate_succ']
theorem padW_succ (s : ByteArray) (k : Nat) : padW s k ++ ⟨#[48]⟩ = padW s (k + 1) := by
  apply bs_inj
  rw [bs_catW, bs_padW, bs_padW, List.append_assoc]
  congr 1
  exact zeros_snoc k
/-- P6.3: the whole digits. -/
def wholeA (n : Bool) (s : ByteArray) (x : Int) : ByteArray × Bool := if rtN n s x = true ∧ 0 ≤ x ∧ ((s.size : Nat) : Int) + x ≤ 800 then (padW s x.toNat, true) else (noS, false)
theorem rt_padW {n : Bool} {s : ByteArray} {k : Nat} (h : rtN n s ((k : Nat) : Int) = true) : rt (padW s k) = decide (s.size + k ≤ 800) := by
  have hf := (rtN_iff n s _).1 h
  by_cases hz : bs s = [48]
  · have h0 := (hf.2.1 hz).2
    have hk : k = 0 := by omega
    subst hk
    have hs := (rt_size (rtN_rt h)).2
    rw [padW_zero, rtN_rt h]
    simp
    exact hs
  · have hc : Canon (bs s ++ zerosL k) := by
      refine ⟨fun h1 => hf.1.1.1 (List.append_eq_nil_iff.1 h1).1, digs_append hf.1.1.2.1 (zeros_digs k), fun h1 => ?_⟩
      exfalso
      rcases hx : bs s with _ | ⟨c, t⟩
      · exact hf.1.1.1 hx
      · rw [hx] at h1
        have hc : c = 48 := h1
        have h3 := hf.1.1.2.2 (by rw [hx]; exact hc)
        rw [hx] at h3
        have ht : t = [] := List.eq_nil_of_length_eq_zero (by simpa using h3)
        exact hz (by rw [hx, ht, hc])
    have hl : (bs s ++ zerosL k).length = s.size + k := by rw [← bs_padW, bs_len, padW_size]
    rw [Bool.eq_iff_iff, decide_eq_true_iff, rt_iff, bs_padW]
    constructor
    · intro h1
      have := h1.2
      omega
    · intro h1
      exact ⟨hc, by omega⟩
theorem cell48 (w : World) : (w.alloc (.cells #[.int .u8 48] 5)).cell? ((⟨w.heap.size, 0, none⟩ : Addr).add 0) = some (.int .u8 48) := by
  have h : (⟨w.heap.size, 0, none⟩ : Addr).add 0 = ⟨w.heap.size, 0 + 0, none⟩ := by simp [Addr.add]
  rw [h]
  exact World.cell?_alloc_mark w _ _ _ _
theorem conv_below (w : World) (s : ByteArray) : Below w.heap.size w (Lib.bytesWorld w 5 s) := ⟨rfl, rfl, rfl, by rw [Lib.bytesWorld_size]; omega, fun k hk => Lib.bytesWorld_at_old w 5 s k hk⟩
set_option maxRecDepth 100000 in
set_option maxHeartbeats 2000000 in
theorem whole_any (n : Bool) (s : ByteArray) (x : Int) (w : World) : Calls Tryz.prog 143 #[.agg #[.bool n, .string s, .int .i64 x]] w fun e w' => e = .returned (.tuple #[.string (wholeA n s x).1, .bool (wholeA n s x).2]) ∧ Below w.heap.size w w' := by
  have kR := dright_any n s x
  have hB := box_at w n s x 104
  obtain ⟨b0, b1, b2⟩ := id hB
  cases hr : rtN n s x with
  | false =>
    rw [show wholeA n s x = (noS, false) from by unfold wholeA; rw [if_neg (by rw [hr]; simp)]]
    rw [hr] at kR
    clear hr
    go_enter Tryz.func143, Tryz.ntmps143
    go_wp2_with (go_at_call 144; refine (kR _).mono ?_; rintro e w1 ⟨rfl, hb⟩)
    go_ret2
    exact ⟨rfl, box_below hb⟩
  | true =>
    have hx := rtN_exp hr
    have hsz := (rt_size (rtN_rt hr)).2
    have hrp : Hid (∀ k : Nat, x = ((k : Nat) : Int) → rt (padW s k) = decide (s.size + k ≤ 800)) := fun k hk => rt_padW (n := n) (by rw [← hk]; exact hr)
    by_cases hneg : x < 0
    · rw [show wholeA n s x = (noS, false) from by unfold wholeA; rw [if_neg (by omega)]]
      rw [hr] at kR
      have d1 : decide (x < 0) = true := by simpa using hneg
      have hB' : Hid (NmAt (w.alloc (.cells #[.bool n, .string s, .int .i64 x] 104)) w.heap.size n s x) := hB
      clear hr hx hsz hrp hneg hB
      go_enter Tryz.func143, Tryz.ntmps143
      go_wp2_with (go_at_call 144; refine (kR _).mono ?_; rintro e w1 ⟨rfl, hb⟩; obtain ⟨c0, c1, c2⟩ := hB'.out.kept hb (alloc_lt _ _))
      go_ret2
      exact ⟨rfl, box_below hb⟩
    · obtain ⟨k, rfl⟩ : ∃ k : Nat, x = k := ⟨x.toNat, by omega⟩
      have hA : Hid (wholeA n s ((k : Nat) : Int) = if s.size + k ≤ 800 then (padW s k, true) else (noS, false)) := by
        show _ = _
        unfold wholeA
        by_cases h8 : s.size + k ≤ 800
        · rw [if_pos ⟨hr, by omega, by omega⟩, if_pos h8, Int.toNat_natCast]
        · rw [if_neg (by omega), if_neg h8]
      have hrt := hrp.out k rfl
      rw [hr] at kR
      have d1 : decide (((k : Nat) : Int) < 0) = false := by simp
      have hk2 : k ≤ 2000 := by omega
      have hB' : Hid (NmAt (w.alloc (.cells #[.bool n, .string s, .int .i64 ((k : Nat) : Int)] 104)) w.heap.size n s ((k : Nat) : Int)) := hB
      have hrt' : Hid (rt (padW s k) = decide (s.size + k ≤ 800)) := hrt
      have hsz' : Hid (s.size ≤ 800) := hsz
      clear hr hx hsz hrp hneg hB hrt
      generalize wholeA n s ((k : Nat) : Int) = WA at *
      go_enter Tryz.func143, Tryz.ntmps143
      go_wp2_with fail
      refine (kR _).mono ?_
      rintro e w1 ⟨rfl, hb⟩
      have hN1 := hB'.out.kept hb (alloc_lt _ _)
      have d2 := box_below hb
      obtain ⟨c0, c1, c2⟩ := id hN1
      have hcv := Lib.run_convert_string_bytes (P := Tryz.prog) w1 9 22 5 s Tryz.underlying9 Tryz.underlying22 Tryz.underlying5
      have hO := own_conv w1 s (by have := hsz'.out; omega)
      have hbw : Below w1.heap.size w1 (Lib.bytesWorld w1 5 s) := conv_below w1 s
      have hN2 := hN1.kept hbw (Nat.lt_of_lt_of_le (alloc_lt _ _) hb.size)
      generalize Lib.bytesWorld w1 5 s = W2 at *
      generalize grownCap w1 s.size 0 5 = cap2 at *
      obtain ⟨e0, e1, e2⟩ := hN2
      have hO' : Hid (OwnsM W2 w.heap.size (.slice (some ⟨w1.heap.size, 0, none⟩) s.size cap2) (bs s)) := by
        obtain ⟨q0, g, cap, q1, q2, q3⟩ := hO
        exact ⟨q0, g, cap, q1, Nat.le_trans d2.size q2, q3⟩
      have d3 : Hid (Below w.heap.size w W2) := d2.trans (hbw.mono d2.size)
      clear hO hbw d2 hb hN1 kR
      go_wp2
      go_loopw [4, 19] (fun v iv wr => ∃ j : Nat, j ≤ k ∧ iv = .int .i64 j ∧ Hid (OwnsM wr w.heap.size v (bs s ++ zerosL j)) ∧ Hid (Below w.heap.size w wr)) (fun _ iv _ => k - (intOf iv).toNat)
      case atStart => exact ⟨0, Nat.zero_le _, rfl, (by show OwnsM _ _ _ _; rw [show zerosL 0 = [] from rfl, List.append_nil]; exact hO'.out), d3⟩
      case round =>
        obtain ⟨j, hj, rfl, hOj, hbj⟩ := hrel
        clear hO' d3 e0 e1 e2 c0 c1 c2 hcv
        by_cases hlt : j < k
        · have hlj : Hid ((bs s ++ zerosL j).length + 1 ≤ 10000000) := by have := hsz'.out; show _ ≤ _; rw [List.length_append, bs_len]; unfold zerosL; rw [List.length_replicate]; omega
          have hbs := hbj.out.size
          have wj : IntKind.i64.wrap (((j : Nat) : Int) + 1) = ((j : Nat) : Int) + 1 := by rw [IntKind.wrap_i64] <;> omega
          have hlt' : ((j : Nat) : Int) < ((k : Nat) : Int) := by omega
          go_wp2_with (at_builtin; refine wpList_append_m rfl _ _ rfl w.heap.size _ (bs s ++ zerosL j) 48 (by decide) rfl (hOj.out.below (alloc_below wr _)) _ rfl (cell48 wr) hlj.out (Nat.le_trans hbs (Nat.le_of_lt (alloc_lt wr _))) ?_; intro v' w9 ho9 hb9)
          have ho9' : Hid (OwnsM w9 w.heap.size v' (bs s ++ zerosL (j + 1))) := by show OwnsM _ _ _ _; rw [← zeros_snoc, ← List.append_assoc]; exact ho9
          have d9 : Hid (Below w.heap.size w w9) := (hbj.out.alloc hbs _).trans hb9
          clear ho9 hb9
          go_roundw
          case rel => exact ⟨j + 1, by omega, by go_num, ho9', d9⟩
          case measure => simp [intOf]; omega
        · obtain rfl : j = k := by omega
          obtain ⟨g, m, cap, rfl, hm, hmc, hcm, hBy⟩ := hOj.out.form
          have cv := conv_str hBy.out m cap hm.out
          have e : strOfNums (bs s ++ zerosL j) = padW s j := rfl
          rw [e] at cv
          have kQ := right_any (padW s j)
          rw [hrt'.out] at kQ
          clear hlt hBy hOj e
          by_cases h8 : s.size + j ≤ 800
          · have hWA := hA.out
            rw [if_pos h8] at hWA
            subst hWA
            rw [show decide (s.size + j ≤ 800) = true from by simpa using h8] at kQ
            clear h8 hrt'
            go_wp2_with (go_at_call 142; refine (kQ _).mono ?_; rintro e w5 ⟨rfl, hw5⟩; rw [hw5]; clear hw5)
            go_ret2
            exact ⟨rfl, hbj.out⟩
          · have hWA := hA.out
            rw [if_neg h8] at hWA
            subst hWA
            rw [show decide (s.size + j ≤ 800) = false from by simpa using h8] at kQ
            clear h8 hrt'
            generalize padW s j = PW at *
            go_wp2_with (go_at_call 142; refine (kQ _).mono ?_; rintro e w5 ⟨rfl, hw5⟩; rw [hw5]; clear hw5)
            go_ret2
            exact ⟨rfl, hbj.out⟩
set_option maxRecDepth 100000 in
set_option maxHeartbeats 2000000 in
theorem ywhole_any (n : Bool) (s : ByteArray) (x : Int) (w : World) : Calls Tryz.prog 98 #[.agg #[.bool n, .string s, .int .i64 x]] w fun e w' => e = .returned (.tuple #[.string (wholeA n s x).1, .bool (wholeA n s x).2]) ∧ Below w.heap.size w w' := by
  have kR := yright_any n s x
  have hB := box_at w n s x 104
  obtain ⟨b0, b1, b2⟩ := id hB
  have hB' : Hid (NmAt (w.alloc (.cells #[.bool n, .string s, .int .i64 x] 104)) w.heap.size n s x) := hB
  clear hB
  cases hr : rtN n s x with
  | false =>
    rw [show wholeA n s x = (noS, false) from by unfold wholeA; rw [if_neg (by rw [hr]; simp)]]
    rw [hr] at kR
    clear hr
    go_enter Tryz.func98, Tryz.ntmps98
    go_wp2_with (go_at_call 100; refine (kR _).mono ?_; rintro e w1 ⟨rfl, hb⟩; obtain ⟨c0, c1, c2⟩ := hB'.out.kept hb (alloc_lt _ _))
    go_ret2
    exact ⟨rfl, box_below hb⟩
  | true =>
    have hx := rtN_exp hr
    have hsz := (rt_size (rtN_rt hr)).2
    rw [hr] at kR
    by_cases hneg : x < 0
    · rw [show wholeA n s x = (noS, false) from by unfold wholeA; rw [if_neg (by omega)]]
      have d1 : decide (x < 0) = true := by simpa using hneg
      clear hr hx hsz hneg
      go_enter Tryz.func98, Tryz.ntmps98
      go_wp2_with (go_at_call 100; refine (kR _).mono ?_; rintro e w1 ⟨rfl, hb⟩; obtain ⟨c0, c1, c2⟩ := hB'.out.kept hb (alloc_lt _ _))
      go_ret2
      exact ⟨rfl, box_below hb⟩
    · obtain ⟨k, rfl⟩ : ∃ k : Nat, x = k := ⟨x.toNat, by omega⟩
      have d1 : decide (((k : Nat) : Int) < 0) = false := by simp
      have d2 : IntKind.i64.wrap (((s.size : Nat) : Int) + ((k : Nat) : Int)) = ((s.size + k : Nat) : Int) := by rw [IntKind.wrap_i64] <;> omega
      by_cases h8 : s.size + k ≤ 800
      · have hA : wholeA n s ((k : Nat) : Int) = (padW s k, true) := by
          unfold wholeA
          rw [if_pos ⟨hr, by omega, by omega⟩, Int.toNat_natCast]
        rw [hA]
        have d3 : decide (800 < ((s.size + k : Nat) : Int)) = false := by simp; omega
        have hk8 : Hid (s.size + k ≤ 800) := h8
        clear hA hr hx hsz hneg h8
        generalize ((s.size + k : Nat) : Int) = SK at *
        go_enter Tryz.func98, Tryz.ntmps98
        go_wp2_with (go_at_call 100; refine (kR _).mono ?_; rintro e w1 ⟨rfl, hb⟩; obtain ⟨c0, c1, c2⟩ := hB'.out.kept hb (alloc_lt _ _))
        have d9 := box_below hb
        clear hb
        go_loop [4, 5] (fun v iv => ∃ (j : Nat) (t : ByteArray), j ≤ k ∧ iv = .int .i64 j ∧ v = .string t ∧ Hid (t = padW s j)) (fun _ iv => k - (intOf iv).toNat)
        case atStart => exact ⟨0, s, Nat.zero_le _, rfl, rfl, (padW_zero s).symm⟩
        case round =>
          obtain ⟨j, t, hj, rfl, rfl, ht⟩ := hrel
          by_cases hlt : j < k
          · have hts : t.size = s.size + j := by rw [ht.out, padW_size]
            have h8 := hk8.out
            have hfit : ¬ 9223372036854775807 < t.size + 1 := by omega
            have wj : IntKind.i64.wrap (((j : Nat) : Int) + 1) = ((j : Nat) : Int) + 1 := by rw [IntKind.wrap_i64] <;> omega
            have hlt' : ((j : Nat) : Int) < ((k : Nat) : Int) := by omega
            have ht' : Hid (t ++ ⟨#[48]⟩ = padW s (j + 1)) := by show _ = _; rw [ht.out]; exact padW_succ s j
            clear hts h8
            go_wp2
            go_round
            case rel => exact ⟨j + 1, _, by omega, by go_num, rfl, ht'⟩
            case measure => simp [intOf]; omega
          · obtain rfl : j = k := by omega
            clear hlt
            go_wp2
            go_ret2
            exact ⟨by rw [← ht.out]; rfl, d9⟩
      · have hA : wholeA n s ((k : Nat) : Int) = (noS, false) := by
          unfold wholeA
          rw [if_neg (by omega)]
        rw [hA]
        have d3 : decide (800 < ((s.size + k : Nat) : Int)) = true := by simp; omega
        clear hA hr hx hsz hneg h8
        generalize ((s.size + k : Nat) : Int) = SK at *
        go_enter Tryz.func98, Tryz.ntmps98
        go_wp2_with (go_at_call 100; refine (kR _).mono ?_; rintro e w1 ⟨rfl, hb⟩; obtain ⟨c0, c1, c2⟩ := hB'.out.kept hb (alloc_lt _ _))
        go_ret2
        exact ⟨rfl, box_below hb⟩
end Go.Proofs.YtnjbppfanmmifaaGreatDoor
namespace Go.Proofs.YtnjbppfanmmifaaGreatDoor
open Go.RowKit
set_option linter.unusedVariables false

theorem beq_of {s t : ByteArray} (v : Bool) (h : v = true ↔ s = t) : (s.toList == t.toList) = v := by
  rw [Bool.eq_iff_iff, h, beq_iff_eq, ByteArray.toList_eq, ByteArray.toList_eq]
  constructor
  · intro e
    cases s; cases t
    simp only at e
    rw [Array.toList_inj.1 e]
  · intro e; rw [e]
theorem not_true {v : Bool} {p : Prop} (h : v = true ↔ p) (hp : ¬ p) : v = false := by
  cases v with
  | false => rfl
  | true => exact absurd (h.1 rfl) hp

set_option maxHeartbeats 8000000 in
set_option maxRecDepth 100000 in
/-- tree.same, one level more. -/
theorem same_step {D : Nat} (ih : SameAt D) (t u : Tr) (a b : Nb) (w : World) (v : Bool) (hA : Nd (D + 1) w a t) (hB : Nd (D + 1) w b u) (hv : v = true ↔ t = u) :
    Calls Tryz.prog 75 #[.agg a.arr, .agg b.arr] w fun e w' => e = .returned (.bool v) ∧ Below w.heap.size w w' := by
  have e36 : ∀ args w, (callFunc 75 args).run Tryz.prog w = .ok (.enter 75 args) w := enters_of Tryz.func75 (by kernel_rfl) rfl
  have hal := alloc_below w (.cells a.arr 26)
  have hal2 := alloc_below (w.alloc (.cells a.arr 26)) (.cells b.arr 26)
  have hb2 : Hid (Below w.heap.size w ((w.alloc (.cells a.arr 26)).alloc (.cells b.arr 26))) := hal.trans (hal2.mono hal.size)
  have hs2 : Hid (w.heap.size ≤ ((w.alloc (.cells a.arr 26)).alloc (.cells b.arr 26)).heap.size) := Nat.le_trans hal.size hal2.size
  have boxA := (nbox_new w a).kept hal2 (by simp)
  have boxB := nbox_new (w.alloc (.cells a.arr 26)) b
  have s1 : (w.alloc (.cells a.arr 26)).heap.size = w.heap.size + 1 := by simp
  rw [s1] at boxB
  obtain ⟨a0, a1, a2, a3, a4, a5, a6, a7, a8⟩ := boxA.fields
  obtain ⟨b0, b1, b2, b3, b4, b5, b6, b7, b8⟩ := boxB.fields
  obtain ⟨⟨x0, x1, x2, x3, x4, x5⟩, _, ⟨xl, xr, xb⟩, xk, xi⟩ := hA
  obtain ⟨⟨y0, y1, y2, y3, y4, y5⟩, _, ⟨yl, yr, yb⟩, yk, yi⟩ := hB
  have kq := fun v' h => beq_any a.ab b.ab a.lb b.lb a.cb b.cb t.bytes u.bytes ((w.alloc (.cells a.arr 26)).alloc (.cells b.arr 26)) xl yl ((xb.kept hal).kept hal2) ((yb.kept hal).kept hal2) v' h
  have kK : Hid (∀ w', Below w.heap.size w w' → ∀ v' : Bool, (v' = true ↔ t.keys = u.keys) → Calls Tryz.prog 115 #[.slice a.ak a.lk a.ck, .slice b.ak b.lk b.ck, .func (.func 75) #[] #[]] w' fun e w'' => e = .returned (.bool v') ∧ Below w'.heap.size w' w'') := fun w' hb v' h => eqf_any ih _ _ _ _ _ _ _ _ w' (xk.kept hb fun _ _ _ q => q.kept hb) (yk.kept hb fun _ _ _ q => q.kept hb) v' h
  have kI : Hid (∀ w', Below w.heap.size w w' → ∀ v' : Bool, (v' = true ↔ t.kids = u.kids) → Calls Tryz.prog 115 #[.slice a.ai a.li a.ci, .slice b.ai b.li b.ci, .func (.func 75) #[] #[]] w' fun e w'' => e = .returned (.bool v') ∧ Below w'.heap.size w' w'') := fun w' hb v' h => eqf_any ih _ _ _ _ _ _ _ _ w' (xi.kept hb fun _ _ _ q => q.kept hb) (yi.kept hb fun _ _ _ q => q.kept hb) v' h
  have hKa : Hid (NBox ((w.alloc (.cells a.arr 26)).alloc (.cells b.arr 26)) w.heap.size a) := boxA
  have hKb : Hid (NBox ((w.alloc (.cells a.arr 26)).alloc (.cells b.arr 26)) (w.heap.size + 1) b) := boxB
  have hsz : Hid (w.heap.size + 1 < ((w.alloc (.cells a.arr 26)).alloc (.cells b.arr 26)).heap.size) := by show _ < _; simp
  have hE : Hid (t = u ↔ a.kind = b.kind ∧ a.num = b.num ∧ a.neg = b.neg ∧ a.dig = b.dig ∧ a.exp = b.exp ∧ a.txt = b.txt ∧ t.bytes = u.bytes ∧ t.keys = u.keys ∧ t.kids = u.kids) := by
    show _ ↔ _
    rw [x0, x1, x2, x3, x4, x5, y0, y1, y2, y3, y4, y5]
    exact ⟨fun h => by subst h; exact ⟨rfl, rfl, rfl, rfl, rfl, rfl, rfl, rfl, rfl⟩, fun ⟨h0, h1, h2, h3, h4, h5, h6, h7, h8⟩ => Tr.mk_eq h0 h1 h2 h3 h4 h5 h6 h7 h8⟩
  have hV : Hid (v = true ↔ t = u) := hv
  clear x0 x1 x2 x3 x4 x5 y0 y1 y2 y3 y4 y5 xl yl xb yb xr yr xk xi yk yi hal hal2 boxA boxB s1 hv ih
  by_cases hN : a.kind = b.kind
  · have q0 : (a.kind == b.kind) = true := by rw [hN]; exact beq_self_eq_true _
    have e0 : Hid (a.kind = b.kind) := hN
    clear hN
    by_cases hN : a.num = b.num
    · have q1 : (a.num == b.num) = true := by rw [hN]; exact beq_self_eq_true _
      have e1 : Hid (a.num = b.num) := hN
      clear hN
      by_cases hN : a.neg = b.neg
      · have q2 : (a.neg == b.neg) = true := by rw [hN]; exact beq_self_eq_true _
        have e2 : Hid (a.neg = b.neg) := hN
        clear hN
        by_cases hN : a.dig = b.dig
        · have q3 := beq_of (s := a.dig) (t := b.dig) true (by simp [hN])
          have e3 : Hid (a.dig = b.dig) := hN
          clear hN
          by_cases hN : a.exp = b.exp
          · have q4 : (a.exp == b.exp) = true := by rw [hN]; exact beq_self_eq_true _
            have e4 : Hid (a.exp = b.exp) := hN
            clear hN
            by_cases hN : a.txt = b.txt
            · have q5 := beq_of (s := a.txt) (t := b.txt) true (by simp [hN])
              have e5 : Hid (a.txt = b.txt) := hN
              clear hN
              by_cases hN : t.bytes = u.bytes
              · have k1 := kq true (by simp [hN])
                have e6 : Hid (t.bytes = u.bytes) := hN
                clear hN kq
                by_cases hN : t.keys = u.keys
                · have k2 := kK.out _ hb2.out true (by simp [hN])
                  have e7 : Hid (t.keys = u.keys) := hN
                  clear hN kK
                  by_cases hN : t.kids = u.kids
                  · have k4 := fun w' hb => kI.out w' hb true (by simp [hN])
                    have hvt : v = true := hV.out.2 (hE.out.2 ⟨e0.out, e1.out, e2.out, e3.out, e4.out, e5.out, e6.out, e7.out, hN⟩)
                    subst hvt
                    clear hN kI
                    go_enter Tryz.func75, Tryz.ntmps75
                    go_wp2_with (first
                      | (go_at_call 114; refine k1.mono ?_; rintro e w1 ⟨rfl, hw⟩; subst hw)
                      | (go_at_call 115; refine k2.mono ?_; rintro e w2 ⟨rfl, hb3⟩; clear k2; obtain ⟨c0, c1, c2, c3, c4, c5, c6, c7, c8⟩ := (hKa.out.kept hb3 (Nat.lt_of_le_of_lt (Nat.le_succ _) hsz.out)).fields; obtain ⟨d0, d1, d2, d3, d4, d5, d6, d7, d8⟩ := (hKb.out.kept hb3 hsz.out).fields; have hbw := hb2.out.trans (hb3.mono hs2.out); have k3 := k4 w2 hbw)
                      | (go_at_call 115; refine k3.mono ?_; rintro e w3 ⟨rfl, hb4⟩))
                    go_ret
                    exact ⟨rfl, hbw.trans (hb4.mono hbw.size)⟩
                  · have k4 := fun w' hb => kI.out w' hb false (by simp [hN])
                    have hvf : v = false := not_true hV.out (fun h => hN (hE.out.1 h).2.2.2.2.2.2.2.2)
                    subst hvf
                    clear hN kI
                    go_enter Tryz.func75, Tryz.ntmps75
                    go_wp2_with (first
                      | (go_at_call 114; refine k1.mono ?_; rintro e w1 ⟨rfl, hw⟩; subst hw)
                      | (go_at_call 115; refine k2.mono ?_; rintro e w2 ⟨rfl, hb3⟩; clear k2; obtain ⟨c0, c1, c2, c3, c4, c5, c6, c7, c8⟩ := (hKa.out.kept hb3 (Nat.lt_of_le_of_lt (Nat.le_succ _) hsz.out)).fields; obtain ⟨d0, d1, d2, d3, d4, d5, d6, d7, d8⟩ := (hKb.out.kept hb3 hsz.out).fields; have hbw := hb2.out.trans (hb3.mono hs2.out); have k3 := k4 w2 hbw)
                      | (go_at_call 115; refine k3.mono ?_; rintro e w3 ⟨rfl, hb4⟩))
                    go_ret
                    exact ⟨rfl, hbw.trans (hb4.mono hbw.size)⟩
                · have k2 := kK.out _ hb2.out false (by simp [hN])
                  have hvf : v = false := not_true hV.out (fun h => hN (hE.out.1 h).2.2.2.2.2.2.2.1)
                  subst hvf
                  clear hN kK kI
                  go_enter Tryz.func75, Tryz.ntmps75
                  go_wp2_with (first
                    | (go_at_call 114; refine k1.mono ?_; rintro e w1 ⟨rfl, hw⟩; subst hw)
                    | (go_at_call 115; refine k2.mono ?_; rintro e w2 ⟨rfl, hb3⟩; clear k2))
                  go_ret
                  exact ⟨rfl, hb2.out.trans (hb3.mono hs2.out)⟩
              · have k1 := kq false (by simp [hN])
                have hvf : v = false := not_true hV.out (fun h => hN (hE.out.1 h).2.2.2.2.2.2.1)
                subst hvf
                clear hN kq
                go_enter Tryz.func75, Tryz.ntmps75
                go_wp2_with (go_at_call 114; refine k1.mono ?_; rintro e w1 ⟨rfl, hw⟩; subst hw)
                go_ret
                exact ⟨rfl, hb2.out⟩
            · have q5 := beq_of (s := a.txt) (t := b.txt) false (by simp [hN])
              have hvf : v = false := not_true hV.out (fun h => hN (hE.out.1 h).2.2.2.2.2.1)
              subst hvf
              clear hN
              go_enter Tryz.func75, Tryz.ntmps75
              go_wp2
              go_ret
              exact ⟨rfl, hb2.out⟩
          · have q4 : (a.exp == b.exp) = false := by simp [hN]
            have hvf : v = false := not_true hV.out (fun h => hN (hE.out.1 h).2.2.2.2.1)
            subst hvf
            clear hN
            go_enter Tryz.func75, Tryz.ntmps75
            go_wp2
            go_ret
            exact ⟨rfl, hb2.out⟩
        · have q3 := beq_of (s := a.dig) (t := b.dig) false (by simp [hN])
          have hvf : v = false := not_true hV.out (fun h => hN (hE.out.1 h).2.2.2.1)
          subst hvf
          clear hN
          go_enter Tryz.func75, Tryz.ntmps75
          go_wp2
          go_ret
          exact ⟨rfl, hb2.out⟩
      · have q2 : (a.neg == b.neg) = false := by simp [hN]
        have hvf : v = false := not_true hV.out (fun h => hN (hE.out.1 h).2.2.1)
        subst hvf
        clear hN
        go_enter Tryz.func75, Tryz.ntmps75
        go_wp2
        go_ret
        exact ⟨rfl, hb2.out⟩
    · have q1 : (a.num == b.num) = false := by simp [hN]
      have hvf : v = false := not_true hV.out (fun h => hN (hE.out.1 h).2.1)
      subst hvf
      clear hN
      go_enter Tryz.func75, Tryz.ntmps75
      go_wp2
      go_ret
      exact ⟨rfl, hb2.out⟩
  · have q0 : (a.kind == b.kind) = false := by simp [hN]
    have hvf : v = false := not_true hV.out (fun h => hN (hE.out.1 h).1)
    subst hvf
    clear hN
    go_enter Tryz.func75, Tryz.ntmps75
    go_wp2
    go_ret
    exact ⟨rfl, hb2.out⟩

theorem same_all : ∀ D, SameAt D := by
  intro D
  induction D with
  | zero => intro t u a b w v h; exact absurd h id
  | succ D ih => exact fun t u a b w v hA hB hv => same_step ih t u a b w v hA hB hv
/-- tree.same. -/
theorem sam_any {D E : Nat} {t u : Tr} {a b : Nb} {w : World} {v : Bool} (hA : Nd D w a t) (hB : Nd E w b u) (hv : v = true ↔ t = u) : Calls Tryz.prog 75 #[.agg a.arr, .agg b.arr] w fun e w' => e = .returned (.bool v) ∧ Below w.heap.size w w' :=
  same_all (max D E) t u a b w v (hA.le (Nat.le_max_left _ _)) (hB.le (Nat.le_max_right _ _)) hv
end Go.Proofs.YtnjbppfanmmifaaGreatDoor
