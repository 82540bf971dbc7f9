/-
  The document's bytes of a character, put behind bytes.
-/
import Derived.Test.YtjnhobohnkhpoaaPut
import Derived.Test.YtjnhobohnkhpoaaValue
namespace Go.Proofs.Ytjnhobohnkhpoaa
open Go.RowKit

theorem xright_a (r : Int) (w : World) (h : 0 ≤ r ∧ r < 55296) : Calls Try.prog 28 #[.int .i64 r] w fun e w' => e = .returned (.bool true) ∧ w' = w := by
  have d0 : decide ((0 : Int) ≤ r) = true := by simp; omega
  have d1 : decide (r ≤ 1114111) = true := by simp; omega
  have d2 : decide (r < 55296) = true := by simp; omega
  go_enter Try.func28, Try.ntmps28
  go_wp2
  go_ret
  exact ⟨rfl, rfl⟩
theorem xright_b (r : Int) (w : World) (h : 57343 < r ∧ r ≤ 1114111) : Calls Try.prog 28 #[.int .i64 r] w fun e w' => e = .returned (.bool true) ∧ w' = w := by
  have d0 : decide ((0 : Int) ≤ r) = true := by simp; omega
  have d1 : decide (r ≤ 1114111) = true := by simp; omega
  have d2 : decide (r < 55296) = false := by simp; omega
  have d3 : decide (57343 < r) = true := by simp; omega
  go_enter Try.func28, Try.ntmps28
  go_wp2
  go_ret
  exact ⟨rfl, rfl⟩
theorem xright_c (r : Int) (w : World) (h : r < 0) : Calls Try.prog 28 #[.int .i64 r] w fun e w' => e = .returned (.bool false) ∧ w' = w := by
  have d0 : decide ((0 : Int) ≤ r) = false := by simp; omega
  go_enter Try.func28, Try.ntmps28
  go_wp2
  go_ret
  exact ⟨rfl, rfl⟩
theorem xright_d (r : Int) (w : World) (h : 55296 ≤ r ∧ r ≤ 57343) : Calls Try.prog 28 #[.int .i64 r] w fun e w' => e = .returned (.bool false) ∧ w' = w := by
  have d0 : decide ((0 : Int) ≤ r) = true := by simp; omega
  have d1 : decide (r ≤ 1114111) = true := by simp; omega
  have d2 : decide (r < 55296) = false := by simp; omega
  have d3 : decide (57343 < r) = false := by simp; omega
  go_enter Try.func28, Try.ntmps28
  go_wp2
  go_ret
  exact ⟨rfl, rfl⟩
theorem xright_e (r : Int) (w : World) (h : 1114111 < r) : Calls Try.prog 28 #[.int .i64 r] w fun e w' => e = .returned (.bool false) ∧ w' = w := by
  have d0 : decide ((0 : Int) ≤ r) = true := by simp; omega
  have d1 : decide (r ≤ 1114111) = false := by simp; omega
  go_enter Try.func28, Try.ntmps28
  go_wp2
  go_ret
  exact ⟨rfl, rfl⟩
theorem xright_yes (r : Int) (w : World) (h : RightI r) : Calls Try.prog 28 #[.int .i64 r] w fun e w' => e = .returned (.bool true) ∧ w' = w := by
  rcases h with h | h
  · exact xright_a r w h
  · exact xright_b r w h
theorem xright_no (r : Int) (w : World) (h : ¬ RightI r) : Calls Try.prog 28 #[.int .i64 r] w fun e w' => e = .returned (.bool false) ∧ w' = w := by
  unfold RightI at h
  by_cases h1 : r < 0
  · exact xright_c r w h1
  · by_cases h2 : 1114111 < r
    · exact xright_e r w h2
    · exact xright_d r w (by omega)

theorem i64_and_nat (a b : Nat) (ha : a < 4611686018427387904) (hb : b < 4611686018427387904) : bits .and .i64 (a : Int) (b : Int) = ((a &&& b : Nat) : Int) := by
  have hx : a &&& b < 2 ^ 62 := Nat.and_lt_two_pow _ (by omega)
  have h1 : (BitVec.ofInt 64 (a : Int)).toNat = a := by
    rw [BitVec.ofInt_natCast, BitVec.toNat_ofNat]; exact Nat.mod_eq_of_lt (by omega)
  have h2 : (BitVec.ofInt 64 (b : Int)).toNat = b := by
    rw [BitVec.ofInt_natCast, BitVec.toNat_ofNat]; exact Nat.mod_eq_of_lt (by omega)
  show IntKind.i64.wrap ((BitVec.ofInt 64 (a : Int) &&& BitVec.ofInt 64 (b : Int)).toNat : Int) = _
  rw [BitVec.toNat_and, h1, h2, IntKind.wrap_i64]
  omega
theorem low_val (x : Nat) (h : x < 4611686018427387904) : bits .or .i64 128 (bits .and .i64 (x : Int) 63) % 256 = 128 + (x : Int) % 64 := by
  have e1 := i64_and_nat x 63 h (by decide)
  rw [show x &&& 63 = x % 64 from Nat.and_two_pow_sub_one_eq_mod x 6] at e1
  have e2 := or_join 6 128 (x % 64) (by decide) (by omega) (by decide) (by omega)
  rw [show ((63 : Nat) : Int) = 63 from rfl] at e1
  rw [show ((128 : Nat) : Int) = 128 from rfl] at e2
  rw [e1, e2]
  omega
theorem head_val (i : Nat) (k x : Nat) (hk : k % 2 ^ i = 0) (hx : x < 2 ^ i) (h : k + x < 256) : bits .or .i64 (k : Int) (x : Int) % 256 = (k : Int) + (x : Int) := by
  rw [or_join i k x hk hx (by omega) (by omega)]
  omega
theorem xlow_0 (r : Nat) (w : World) (h : r ≤ 1114111) : Calls Try.prog 36 #[.int .i64 (r : Nat), .int .i64 0] w fun e w' => e = .returned (.int .u8 (128 + (r : Int) % 64)) ∧ w' = w := by
  have he := low_val r (by omega)
  have hE : Hid _ := he
  clear he
  go_enter Try.func36, Try.ntmps36
  go_wp2
  go_ret
  exact ⟨by rw [← hE.out]; rfl, rfl⟩
theorem xlow_1 (r : Nat) (w : World) (h : r ≤ 1114111) : Calls Try.prog 36 #[.int .i64 (r : Nat), .int .i64 1] w fun e w' => e = .returned (.int .u8 (128 + (r : Int) / 64 % 64)) ∧ w' = w := by
  have he := low_val (r / 64) (by omega)
  rw [show ((r / 64 : Nat) : Int) = (r : Int) / 64 from by simp] at he
  have hE : Hid _ := he
  clear he
  go_enter Try.func36, Try.ntmps36
  go_wp2
  go_ret
  exact ⟨by rw [← hE.out]; rfl, rfl⟩
theorem xlow_2 (r : Nat) (w : World) (h : r ≤ 1114111) : Calls Try.prog 36 #[.int .i64 (r : Nat), .int .i64 2] w fun e w' => e = .returned (.int .u8 (128 + (r : Int) / 4096 % 64)) ∧ w' = w := by
  have he := low_val (r / 4096) (by omega)
  rw [show ((r / 4096 : Nat) : Int) = (r : Int) / 4096 from by simp] at he
  have hE : Hid _ := he
  clear he
  go_enter Try.func36, Try.ntmps36
  go_wp2
  go_ret
  exact ⟨by rw [← hE.out]; rfl, rfl⟩
/-- A literal's bytes are the call's own. -/
theorem owns_lit (w : World) (xs : List Int) (hx : ∀ c ∈ xs, 0 ≤ c ∧ c < 256) (h : xs.length ≤ maxLen) :
    OwnsB (w.alloc (.cells (xs.map (Value.int .u8)).toArray 5)) w.heap.size (.slice (some ⟨w.heap.size, 0, none⟩) xs.length xs.length) xs :=
  ⟨⟨by simp, .inr ⟨w.heap.size, xs.length, _, rfl, Nat.le_refl _, heap_alloc_new w _, Nat.le_refl _, h, by simp, by rw [Nat.mul_one]; exact List.take_of_length_le (by simp)⟩⟩, hx⟩

set_option maxHeartbeats 1000000 in
theorem xbytes_1 (r : Nat) (w : World) (h : r < 128) : Calls Try.prog 29 #[.int .i64 (r : Nat)] w fun e w' => ∃ v, e = .returned v ∧ OwnsB w' w.heap.size v (encL r) ∧ Below w.heap.size w w' := by
  have d0 : decide ((r : Int) < 128) = true := by simp; omega
  have heL : Hid (encL r = [(r : Int)]) := by
    show _ = _
    unfold encL
    rw [if_pos h]
  have ho := owns_lit w [(r : Int)] (by intro c hc; simp only [List.mem_cons, List.not_mem_nil, or_false] at hc; omega) (by simp [maxLen])
  have hO : Hid _ := ho
  clear ho
  go_enter Try.func29, Try.ntmps29
  go_wp2
  go_ret
  exact ⟨_, rfl, by rw [heL.out]; exact hO.out, (Below.refl _ _).alloc (Nat.le_refl _) _⟩
set_option maxHeartbeats 1000000 in
theorem xbytes_2 (r : Nat) (w : World) (h1 : 128 ≤ r) (h : r < 2048) : Calls Try.prog 29 #[.int .i64 (r : Nat)] w fun e w' => ∃ v, e = .returned v ∧ OwnsB w' w.heap.size v (encL r) ∧ Below w.heap.size w w' := by
  have d0 : decide ((r : Int) < 128) = false := by simp; omega
  have d1 : decide ((r : Int) < 2048) = true := by simp; omega
  have hh : bits .or .i64 192 ((r : Int) / 64) % 256 = 192 + (r : Int) / 64 := by
    have h9 := head_val 6 192 (r / 64) (by decide) (by omega) (by omega)
    simpa using h9
  have heL : Hid (encL r = [192 + (r : Int) / 64, 128 + (r : Int) % 64]) := by
    show _ = _
    unfold encL
    rw [if_neg (by omega), if_pos h]
    simp
  have ho := owns_lit w [192 + (r : Int) / 64, 128 + (r : Int) % 64] (by intro c hc; simp only [List.mem_cons, List.not_mem_nil, or_false] at hc; omega) (by simp [maxLen])
  have hO : Hid _ := ho
  clear ho
  go_enter Try.func29, Try.ntmps29
  go_wp2_with fail
  refine (xlow_0 r w (by omega)).mono ?_
  rintro e w' ⟨rfl, hw⟩
  obtain rfl : w = w' := hw.symm
  go_wp2
  go_ret
  exact ⟨_, rfl, by rw [heL.out]; exact hO.out, (Below.refl _ _).alloc (Nat.le_refl _) _⟩
set_option maxHeartbeats 1000000 in
theorem xbytes_3 (r : Nat) (w : World) (h1 : 2048 ≤ r) (h : r < 65536) : Calls Try.prog 29 #[.int .i64 (r : Nat)] w fun e w' => ∃ v, e = .returned v ∧ OwnsB w' w.heap.size v (encL r) ∧ Below w.heap.size w w' := by
  have d0 : decide ((r : Int) < 128) = false := by simp; omega
  have d1 : decide ((r : Int) < 2048) = false := by simp; omega
  have d2 : decide ((r : Int) < 65536) = true := by simp; omega
  have hh : bits .or .i64 224 ((r : Int) / 4096) % 256 = 224 + (r : Int) / 4096 := by
    have h9 := head_val 5 224 (r / 4096) (by decide) (by omega) (by omega)
    simpa using h9
  have heL : Hid (encL r = [224 + (r : Int) / 4096, 128 + (r : Int) / 64 % 64, 128 + (r : Int) % 64]) := by
    show _ = _
    unfold encL
    rw [if_neg (by omega), if_neg (by omega), if_pos h]
    simp
  have ho := owns_lit w [224 + (r : Int) / 4096, 128 + (r : Int) / 64 % 64, 128 + (r : Int) % 64] (by intro c hc; simp only [List.mem_cons, List.not_mem_nil, or_false] at hc; omega) (by simp [maxLen])
  have hO : Hid _ := ho
  clear ho
  go_enter Try.func29, Try.ntmps29
  go_wp2_with fail
  refine (xlow_1 r w (by omega)).mono ?_
  rintro e w' ⟨rfl, hw⟩
  obtain rfl : w = w' := hw.symm
  go_wp2_with fail
  refine (xlow_0 r w (by omega)).mono ?_
  rintro e w' ⟨rfl, hw⟩
  obtain rfl : w = w' := hw.symm
  go_wp2
  go_ret
  exact ⟨_, rfl, by rw [heL.out]; exact hO.out, (Below.refl _ _).alloc (Nat.le_refl _) _⟩
set_option maxHeartbeats 1000000 in
theorem xbytes_4 (r : Nat) (w : World) (h1 : 65536 ≤ r) (h : r ≤ 1114111) : Calls Try.prog 29 #[.int .i64 (r : Nat)] w fun e w' => ∃ v, e = .returned v ∧ OwnsB w' w.heap.size v (encL r) ∧ Below w.heap.size w w' := by
  have d0 : decide ((r : Int) < 128) = false := by simp; omega
  have d1 : decide ((r : Int) < 2048) = false := by simp; omega
  have d2 : decide ((r : Int) < 65536) = false := by simp; omega
  have hh : bits .or .i64 240 ((r : Int) / 262144) % 256 = 240 + (r : Int) / 262144 := by
    have h9 := head_val 4 240 (r / 262144) (by decide) (by omega) (by omega)
    simpa using h9
  have heL : Hid (encL r = [240 + (r : Int) / 262144, 128 + (r : Int) / 4096 % 64, 128 + (r : Int) / 64 % 64, 128 + (r : Int) % 64]) := by
    show _ = _
    unfold encL
    rw [if_neg (by omega), if_neg (by omega), if_neg (by omega)]
    simp
  have ho := owns_lit w [240 + (r : Int) / 262144, 128 + (r : Int) / 4096 % 64, 128 + (r : Int) / 64 % 64, 128 + (r : Int) % 64] (by intro c hc; simp only [List.mem_cons, List.not_mem_nil, or_false] at hc; omega) (by simp [maxLen])
  have hO : Hid _ := ho
  clear ho
  go_enter Try.func29, Try.ntmps29
  go_wp2_with fail
  refine (xlow_2 r w (by omega)).mono ?_
  rintro e w' ⟨rfl, hw⟩
  obtain rfl : w = w' := hw.symm
  go_wp2_with fail
  refine (xlow_1 r w (by omega)).mono ?_
  rintro e w' ⟨rfl, hw⟩
  obtain rfl : w = w' := hw.symm
  go_wp2_with fail
  refine (xlow_0 r w (by omega)).mono ?_
  rintro e w' ⟨rfl, hw⟩
  obtain rfl : w = w' := hw.symm
  go_wp2
  go_ret
  exact ⟨_, rfl, by rw [heL.out]; exact hO.out, (Below.refl _ _).alloc (Nat.le_refl _) _⟩
theorem xbytes_any (r : Nat) (w : World) (hr : Right r) : Calls Try.prog 29 #[.int .i64 (r : Nat)] w fun e w' => ∃ v, e = .returned v ∧ OwnsB w' w.heap.size v (encL r) ∧ Below w.heap.size w w' := by
  unfold Right at hr
  by_cases h1 : r < 128
  · exact xbytes_1 r w h1
  · by_cases h2 : r < 2048
    · exact xbytes_2 r w (by omega) h2
    · by_cases h3 : r < 65536
      · exact xbytes_3 r w (by omega) h3
      · exact xbytes_4 r w (by omega) hr.1

theorem xput_bad (v : Value) (r : Int) (w : World) (h : ¬ RightI r) (hr : -2147483648 ≤ r ∧ r ≤ 2147483647) :
    Calls Try.prog 16 #[v, .int .i32 r] w fun e w' => e = .returned (.tuple #[.slice none 0 0, .int .i64 1]) ∧ w' = w := by
  have k := xright_no r w h
  clear h
  go_enter Try.func16, Try.ntmps16
  go_wp2_with (go_at_call 28; refine k.mono ?_; rintro e w' ⟨rfl, hw⟩; obtain rfl : w = w' := hw.symm)
  go_ret2
  exact ⟨rfl, rfl⟩

set_option maxHeartbeats 1000000 in
theorem xput_ok (a : Option Addr) (n cap : Nat) (zs : List Int) (r : Nat) (w : World) (hl : zs.length = n) (hb : Bytes w a zs) (hnc : a = none → cap = 0) (hm : n + 4 ≤ 140737488355328) (hr : Right r) :
    Calls Try.prog 16 #[.slice a n cap, .int .i32 (r : Nat)] w fun e w' => ∃ v, e = .returned (.tuple #[v, .int .i64 0]) ∧ OwnsB w' w.heap.size v (zs ++ encL r) ∧ Below w.heap.size w w' := by
  have hL : Hid (zs.length = n) := hl
  have hB : Hid (Bytes w a zs) := hb
  have hN : Hid (a = none → cap = 0) := hnc
  have k1 := xright_yes (r : Int) w (by unfold RightI; unfold Right at hr; omega)
  have hR : Hid (Right r) := hr
  have hle : r ≤ 1114111 := hr.1
  have hel := enc_len r
  clear hl hb hnc hr
  go_enter Try.func16, Try.ntmps16
  go_wp2_with (first
    | (go_at_call 28; refine k1.mono ?_; rintro e w' ⟨rfl, hw⟩; obtain rfl : w = w' := hw.symm)
    | (at_builtin; refine wpList_append_bytes rfl _ (.tmp 10) rfl w.heap.size (.slice none 0 0) [] zs rfl (ownsB_nil _ _) a n cap rfl hL.out hN.out hB.out (by rw [hL.out]; simp; omega) (Nat.le_refl _) ?_; intro v1 w1 ho1 hg1; rw [List.nil_append] at ho1; have hb1 : Below w.heap.size w w1 := (Below.refl w.heap.size w).grown hg1 (Nat.le_refl _) (fun k hk => by cases hk); clear hg1))
  refine (xbytes_any r w1 hR.out).mono ?_
  rintro e w2 ⟨v2, rfl, ho2, hb2⟩
  obtain ⟨a2, n2, c2, rfl, hl2, hn2, hc2, hm2, hB2⟩ := ho2.form
  have ho1' : Hid (OwnsB w2 w.heap.size v1 zs) := ho1.below hb2
  have hb3 : Below w.heap.size w w2 := hb1.trans (hb2.mono hb1.size)
  clear ho1 ho2 hb1 hb2 k1
  go_wp2_with (at_builtin; refine wpList_append_bytes rfl _ (.tmp 14) rfl w.heap.size v1 zs (encL r) rfl ho1'.out a2 n2 c2 rfl hl2.out hn2.out hB2.out (by rw [hL.out]; omega) hb3.size ?_; intro v4 w4 ho4 hg4; have hb4 := grown_below hb3 ho1'.out hg4 hb3.size; clear hg4)
  go_ret2
  exact ⟨_, rfl, ho4, hb4⟩
end Go.Proofs.Ytjnhobohnkhpoaa
