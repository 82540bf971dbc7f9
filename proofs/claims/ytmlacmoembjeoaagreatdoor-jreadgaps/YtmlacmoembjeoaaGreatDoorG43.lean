/-
  The document's bytes of a character, and the first character of bytes.
  A string's characters, one by one; the document's fault.
  A string: gantlineref09.String, where a mark stands.
  A word: gantlineref09.word; a byte that is no gap.
-/
import Derived.Test.YtmlacmoembjeoaaGreatDoorG42
import Derived.Test.YtmlacmoembjeoaaGreatDoorG31
import Derived.Deep.CutBlock
namespace Go.Proofs.YtmlacmoembjeoaaGreatDoor
open Go.RowKit
set_option linter.unusedVariables false
theorem i64_and_nat (a b : Nat) (ha : a < 4611686018427387904) (hb : b < 4611686018427387904) : bits .and .i64 (a : Int) (b : Int) = ((a &&& b : Nat) : Int) := by
  have hx : a &&& b < 2 ^ 62 := Nat.and_lt_two_pow _ (by omega)
  have h1 : (BitVec.ofInt 64 (a : Int)).toNat = a := by
    rw [BitVec.ofInt_natCast, BitVec.toNat_ofNat]; exact Nat.mod_eq_of_lt (by omega)
  have h2 : (BitVec.ofInt 64 (b : Int)).toNat = b := by
    rw [BitVec.ofInt_natCast, BitVec.toNat_ofNat]; exact Nat.mod_eq_of_lt (by omega)
  show IntKind.i64.wrap ((BitVec.ofInt 64 (a : Int) &&& BitVec.ofInt 64 (b : Int)).toNat : Int) = _
  rw [BitVec.toNat_and, h1, h2, IntKind.wrap_i64]
  omega
theorem low_val (x : Nat) (h : x < 4611686018427387904) : bits .or .i64 128 (bits .and .i64 (x : Int) 63) % 256 = 128 + (x : Int) % 64 := by
  have e1 := i64_and_nat x 63 h (by decide)
  rw [show x &&& 63 = x % 64 from Nat.and_two_pow_sub_one_eq_mod x 6] at e1
  have e2 := or_join 6 128 (x % 64) (by decide) (by omega) (by decide) (by omega)
  rw [show ((63 : Nat) : Int) = 63 from rfl] at e1
  rw [show ((128 : Nat) : Int) = 128 from rfl] at e2
  rw [e1, e2]
  omega
theorem head_val (i : Nat) (k x : Nat) (hk : k % 2 ^ i = 0) (hx : x < 2 ^ i) (h : k + x < 256) : bits .or .i64 (k : Int) (x : Int) % 256 = (k : Int) + (x : Int) := by
  rw [or_join i k x hk hx (by omega) (by omega)]
  omega
theorem xlow_0 (r : Nat) (w : World) (h : r ≤ 1114111) : Calls Tryz.prog 83 #[.int .i64 (r : Nat), .int .i64 0] w fun e w' => e = .returned (.int .u8 (128 + (r : Int) % 64)) ∧ w' = w := by
  have he := low_val r (by omega)
  have hE : Hid _ := he
  clear he
  go_enter Tryz.func83, Tryz.ntmps83
  go_wp2
  go_ret
  exact ⟨by rw [← hE.out]; rfl, rfl⟩
theorem xlow_1 (r : Nat) (w : World) (h : r ≤ 1114111) : Calls Tryz.prog 83 #[.int .i64 (r : Nat), .int .i64 1] w fun e w' => e = .returned (.int .u8 (128 + (r : Int) / 64 % 64)) ∧ w' = w := by
  have he := low_val (r / 64) (by omega)
  rw [show ((r / 64 : Nat) : Int) = (r : Int) / 64 from by simp] at he
  have hE : Hid _ := he
  clear he
  go_enter Tryz.func83, Tryz.ntmps83
  go_wp2
  go_ret
  exact ⟨by rw [← hE.out]; rfl, rfl⟩
theorem xlow_2 (r : Nat) (w : World) (h : r ≤ 1114111) : Calls Tryz.prog 83 #[.int .i64 (r : Nat), .int .i64 2] w fun e w' => e = .returned (.int .u8 (128 + (r : Int) / 4096 % 64)) ∧ w' = w := by
  have he := low_val (r / 4096) (by omega)
  rw [show ((r / 4096 : Nat) : Int) = (r : Int) / 4096 from by simp] at he
  have hE : Hid _ := he
  clear he
  go_enter Tryz.func83, Tryz.ntmps83
  go_wp2
  go_ret
  exact ⟨by rw [← hE.out]; rfl, rfl⟩
/-- A literal's bytes are the call's own. -/
theorem owns_lit (w : World) (xs : List Int) (hx : ∀ c ∈ xs, 0 ≤ c ∧ c < 256) (h : xs.length ≤ maxLen) :
    OwnsB (w.alloc (.cells (xs.map (Value.int .u8)).toArray 5)) w.heap.size (.slice (some ⟨w.heap.size, 0, none⟩) xs.length xs.length) xs :=
  ⟨⟨by simp, .inr ⟨w.heap.size, xs.length, _, rfl, Nat.le_refl _, heap_alloc_new w _, Nat.le_refl _, h, by simp, by rw [Nat.mul_one]; exact List.take_of_length_le (by simp)⟩⟩, hx⟩

set_option maxHeartbeats 1000000 in
theorem xbytes_1 (r : Nat) (w : World) (h : r < 128) : Calls Tryz.prog 59 #[.int .i64 (r : Nat)] w fun e w' => ∃ v, e = .returned v ∧ OwnsB w' w.heap.size v (encL r) ∧ Below w.heap.size w w' := by
  have d0 : decide ((r : Int) < 128) = true := by simp; omega
  have heL : Hid (encL r = [(r : Int)]) := by
    show _ = _
    unfold encL
    rw [if_pos h]
  have ho := owns_lit w [(r : Int)] (by intro c hc; simp only [List.mem_cons, List.not_mem_nil, or_false] at hc; omega) (by simp [maxLen])
  have hO : Hid _ := ho
  clear ho
  go_enter Tryz.func59, Tryz.ntmps59
  go_wp2
  go_ret
  exact ⟨_, rfl, by rw [heL.out]; exact hO.out, (Below.refl _ _).alloc (Nat.le_refl _) _⟩
set_option maxHeartbeats 1000000 in
theorem xbytes_2 (r : Nat) (w : World) (h1 : 128 ≤ r) (h : r < 2048) : Calls Tryz.prog 59 #[.int .i64 (r : Nat)] w fun e w' => ∃ v, e = .returned v ∧ OwnsB w' w.heap.size v (encL r) ∧ Below w.heap.size w w' := by
  have d0 : decide ((r : Int) < 128) = false := by simp; omega
  have d1 : decide ((r : Int) < 2048) = true := by simp; omega
  have hh : bits .or .i64 192 ((r : Int) / 64) % 256 = 192 + (r : Int) / 64 := by
    have h9 := head_val 6 192 (r / 64) (by decide) (by omega) (by omega)
    simpa using h9
  have heL : Hid (encL r = [192 + (r : Int) / 64, 128 + (r : Int) % 64]) := by
    show _ = _
    unfold encL
    rw [if_neg (by omega), if_pos h]
    simp
  have ho := owns_lit w [192 + (r : Int) / 64, 128 + (r : Int) % 64] (by intro c hc; simp only [List.mem_cons, List.not_mem_nil, or_false] at hc; omega) (by simp [maxLen])
  have hO : Hid _ := ho
  clear ho
  go_enter Tryz.func59, Tryz.ntmps59
  go_wp2_with fail
  refine (xlow_0 r w (by omega)).mono ?_
  rintro e w' ⟨rfl, hw⟩
  obtain rfl : w = w' := hw.symm
  go_wp2
  go_ret
  exact ⟨_, rfl, by rw [heL.out]; exact hO.out, (Below.refl _ _).alloc (Nat.le_refl _) _⟩
set_option maxHeartbeats 1000000 in
theorem xbytes_3 (r : Nat) (w : World) (h1 : 2048 ≤ r) (h : r < 65536) : Calls Tryz.prog 59 #[.int .i64 (r : Nat)] w fun e w' => ∃ v, e = .returned v ∧ OwnsB w' w.heap.size v (encL r) ∧ Below w.heap.size w w' := by
  have d0 : decide ((r : Int) < 128) = false := by simp; omega
  have d1 : decide ((r : Int) < 2048) = false := by simp; omega
  have d2 : decide ((r : Int) < 65536) = true := by simp; omega
  have hh : bits .or .i64 224 ((r : Int) / 4096) % 256 = 224 + (r : Int) / 4096 := by
    have h9 := head_val 5 224 (r / 4096) (by decide) (by omega) (by omega)
    simpa using h9
  have heL : Hid (encL r = [224 + (r : Int) / 4096, 128 + (r : Int) / 64 % 64, 128 + (r : Int) % 64]) := by
    show _ = _
    unfold encL
    rw [if_neg (by omega), if_neg (by omega), if_pos h]
    simp
  have ho := owns_lit w [224 + (r : Int) / 4096, 128 + (r : Int) / 64 % 64, 128 + (r : Int) % 64] (by intro c hc; simp only [List.mem_cons, List.not_mem_nil, or_false] at hc; omega) (by simp [maxLen])
  have hO : Hid _ := ho
  clear ho
  go_enter Tryz.func59, Tryz.ntmps59
  go_wp2_with fail
  refine (xlow_1 r w (by omega)).mono ?_
  rintro e w' ⟨rfl, hw⟩
  obtain rfl : w = w' := hw.symm
  go_wp2_with fail
  refine (xlow_0 r w (by omega)).mono ?_
  rintro e w' ⟨rfl, hw⟩
  obtain rfl : w = w' := hw.symm
  go_wp2
  go_ret
  exact ⟨_, rfl, by rw [heL.out]; exact hO.out, (Below.refl _ _).alloc (Nat.le_refl _) _⟩
set_option maxHeartbeats 1000000 in
theorem xbytes_4 (r : Nat) (w : World) (h1 : 65536 ≤ r) (h : r ≤ 1114111) : Calls Tryz.prog 59 #[.int .i64 (r : Nat)] w fun e w' => ∃ v, e = .returned v ∧ OwnsB w' w.heap.size v (encL r) ∧ Below w.heap.size w w' := by
  have d0 : decide ((r : Int) < 128) = false := by simp; omega
  have d1 : decide ((r : Int) < 2048) = false := by simp; omega
  have d2 : decide ((r : Int) < 65536) = false := by simp; omega
  have hh : bits .or .i64 240 ((r : Int) / 262144) % 256 = 240 + (r : Int) / 262144 := by
    have h9 := head_val 4 240 (r / 262144) (by decide) (by omega) (by omega)
    simpa using h9
  have heL : Hid (encL r = [240 + (r : Int) / 262144, 128 + (r : Int) / 4096 % 64, 128 + (r : Int) / 64 % 64, 128 + (r : Int) % 64]) := by
    show _ = _
    unfold encL
    rw [if_neg (by omega), if_neg (by omega), if_neg (by omega)]
    simp
  have ho := owns_lit w [240 + (r : Int) / 262144, 128 + (r : Int) / 4096 % 64, 128 + (r : Int) / 64 % 64, 128 + (r : Int) % 64] (by intro c hc; simp only [List.mem_cons, List.not_mem_nil, or_false] at hc; omega) (by simp [maxLen])
  have hO : Hid _ := ho
  clear ho
  go_enter Tryz.func59, Tryz.ntmps59
  go_wp2_with fail
  refine (xlow_2 r w (by omega)).mono ?_
  rintro e w' ⟨rfl, hw⟩
  obtain rfl : w = w' := hw.symm
  go_wp2_with fail
  refine (xlow_1 r w (by omega)).mono ?_
  rintro e w' ⟨rfl, hw⟩
  obtain rfl : w = w' := hw.symm
  go_wp2_with fail
  refine (xlow_0 r w (by omega)).mono ?_
  rintro e w' ⟨rfl, hw⟩
  obtain rfl : w = w' := hw.symm
  go_wp2
  go_ret
  exact ⟨_, rfl, by rw [heL.out]; exact hO.out, (Below.refl _ _).alloc (Nat.le_refl _) _⟩
theorem xbytes_any (r : Nat) (w : World) (hr : Right r) : Calls Tryz.prog 59 #[.int .i64 (r : Nat)] w fun e w' => ∃ v, e = .returned v ∧ OwnsB w' w.heap.size v (encL r) ∧ Below w.heap.size w w' := by
  unfold Right at hr
  by_cases h1 : r < 128
  · exact xbytes_1 r w h1
  · by_cases h2 : r < 2048
    · exact xbytes_2 r w (by omega) h2
    · by_cases h3 : r < 65536
      · exact xbytes_3 r w (by omega) h3
      · exact xbytes_4 r w (by omega) hr.1

set_option maxHeartbeats 1000000 in
theorem xnext_any (a : Option Addr) (n cap : Nat) (zs : List Int) (w : World) (hl : zs.length = n) (hb : Bytes w a zs) (hc : n ≤ cap) (hn : n ≤ 4611686018427387904) :
    Calls Tryz.prog 60 #[.slice a n cap] w fun e w' => e = .returned (.tuple #[.int .i32 (fstL zs : Nat), .int .i64 (widL zs : Nat)]) ∧ ∃ q, w' = w.drewN q := by
  by_cases h0 : n = 0
  · subst h0
    obtain rfl := List.eq_nil_of_length_eq_zero hl
    obtain ⟨f1, f2⟩ := fst_bad (zs := []) (.inl rfl)
    rw [f1, f2]
    clear hb hl f1 f2
    go_enter Tryz.func60, Tryz.ntmps60
    go_wp2
    go_ret2
    exact ⟨rfl, 0, rfl⟩
  · have hne : zs ≠ [] := fun h => by rw [h] at hl; simp at hl; omega
    have e0 : ((n : Int) == 0) = false := by simp; omega
    obtain ⟨b, off, rfl⟩ := bytes_some hb (by omega)
    by_cases hg : Good zs
    · obtain ⟨f1, f2⟩ := fst_good hne hg
      have hg3 := good_ne hg hne
      rw [f1, f2]
      have k1 := xfirst_good b off n cap zs w hl (by omega) hb hn hg
      have k2 := fun w1 (h : Bytes w1 (some ⟨b, off, none⟩) zs) => xvalue_any b off cap zs w1 hg hg3.2.1 h
      have hB : Hid (Bytes w (some ⟨b, off, none⟩) zs) := hb
      have hR := (good_right hg).1
      have hwr : IntKind.i32.wrap ((valB zs : Nat) : Int) = ((valB zs : Nat) : Int) := by rw [IntKind.wrap_i32]; omega
      rw [hl] at hg3
      have i1 : ((lenB zs : Nat) : Int) ≤ (n : Int) := by omega
      have k2' : Hid _ := k2
      clear hb hl f1 f2 hne hg k2 hR h0
      generalize valB zs = V at *
      generalize lenB zs = L at *
      go_enter Tryz.func60, Tryz.ntmps60
      go_wp2_with fail
      refine k1.mono ?_
      rintro e w1 ⟨rfl, q, hw⟩
      have k3 := k2'.out w1 (by rw [hw]; exact hB.out.drewN q)
      have hw' : Hid (w1 = w.drewN q) := hw
      clear hw
      go_wp2_with (go_at_call 81; refine k3.mono ?_; rintro e w2 ⟨rfl, q2, hw2⟩)
      go_ret2
      exact ⟨rfl, q + q2, by rw [hw'.out, World.drewN_drewN]⟩
    · obtain ⟨f1, f2⟩ := fst_bad (.inr hg)
      rw [f1, f2]
      have k1 := xfirst_bad b off n cap zs w hl (by omega) hb hn hg
      clear hb hl f1 f2 hne hg h0
      generalize badB zs = B at *
      go_enter Tryz.func60, Tryz.ntmps60
      go_wp2_with (go_at_call 80; refine k1.mono ?_; rintro e w1 ⟨rfl, q, hw⟩)
      go_ret2
      exact ⟨rfl, q, rfl⟩
end Go.Proofs.YtmlacmoembjeoaaGreatDoor
namespace Go.Proofs.YtmlacmoembjeoaaGreatDoor
open Go.RowKit
set_option linter.unusedVariables false
section
variable {zs : List Int} {q C : Nat} {x : List Int}
theorem one_good (hz : ∀ c ∈ zs, 0 ≤ c ∧ c < 256) (h : q < zs.length) (hC : zs.getD q 0 = (C : Int)) (hc : C < 128) : zs.drop q ≠ [] ∧ Good (zs.drop q) ∧ lenB (zs.drop q) = 1 ∧ valB (zs.drop q) = C := by
  obtain ⟨C', e1, e2, e3, e4⟩ := drop_byte hz h
  obtain rfl : C = C' := by rw [hC] at e1; omega
  have hl : lenB (zs.drop q) = 1 := by unfold lenB; rw [e4]; unfold lenN; rw [if_pos hc]
  have hg : Good (zs.drop q) := by
    refine ⟨?_, ?_, ?_, ?_⟩
    · show lenB (zs.drop q) ≠ 0; omega
    · intro h2; have : 2 ≤ lenB (zs.drop q) := h2; omega
    · intro h2; have : 3 ≤ lenB (zs.drop q) := h2; omega
    · intro h2; have : 4 ≤ lenB (zs.drop q) := h2; omega
  exact ⟨by rw [e3]; simp, hg, hl, by rw [(lenB_one hg (by omega)).1, e4]⟩
theorem st_quote (hz : ∀ c ∈ zs, 0 ≤ c ∧ c < 256) (h : q < zs.length) (hC : zs.getD q 0 = 34) : strL (zs.drop q) q ⟨0, 0, 0, 0, x⟩ = (x, q + 1, 0, 0) := by
  obtain ⟨g0, g1, g2, g3⟩ := one_good hz h (C := 34) hC (by decide)
  rw [str_all g0 g1 (by rw [g3]; rfl), g3]
  rfl
theorem st_low (hz : ∀ c ∈ zs, 0 ≤ c ∧ c < 256) (h : q < zs.length) (hC : zs.getD q 0 = (C : Int)) (hc : C < 32) : (strL (zs.drop q) q ⟨0, 0, 0, 0, x⟩).2.2.1 ≠ 0 := by
  obtain ⟨g0, g1, g2, g3⟩ := one_good hz h hC (by omega)
  rw [str_wrong g0 g1]
  · simp
  · rw [g3]
    show (if C = 34 then (⟨5, 0, 0, 0, x⟩ : RS) else if C = 92 then ⟨1, 0, 0, 0, x⟩ else if C < 32 then ⟨6, 0, 0, 0, x⟩ else putR ⟨0, 0, 0, 0, x⟩ C).q = 6
    rw [if_neg (by omega), if_neg (by omega), if_pos hc]
theorem st_esc (hz : ∀ c ∈ zs, 0 ≤ c ∧ c < 256) (h : q < zs.length) (hC : zs.getD q 0 = 92) : strL (zs.drop q) q ⟨0, 0, 0, 0, x⟩ = strL (zs.drop (q + 1)) (q + 1) ⟨1, 0, 0, 0, x⟩ := by
  obtain ⟨g0, g1, g2, g3⟩ := one_good hz h (C := 92) hC (by decide)
  rw [str_on g0 g1 (by rw [g3]; show (1 : Nat) ≠ 5; decide) (by rw [g3]; show (1 : Nat) ≠ 6; decide), g2, g3, List.drop_drop]
  rfl
theorem st_good (hz : ∀ c ∈ zs, 0 ≤ c ∧ c < 256) (h : q < zs.length) (hC : zs.getD q 0 = (C : Int)) (h34 : C ≠ 34) (h92 : C ≠ 92) (h32 : 32 ≤ C) (hg : Good (zs.drop q)) : strL (zs.drop q) q ⟨0, 0, 0, 0, x⟩ = strL (zs.drop (q + lenB (zs.drop q))) (q + lenB (zs.drop q)) ⟨0, 0, 0, 0, x ++ (zs.drop q).take (lenB (zs.drop q))⟩ ∧ 1 ≤ lenB (zs.drop q) ∧ lenB (zs.drop q) ≤ 4 ∧ q + lenB (zs.drop q) ≤ zs.length := by
  obtain ⟨C', e1, e2, e3, e4⟩ := drop_byte hz h
  obtain rfl : C = C' := by rw [hC] at e1; omega
  have hne : zs.drop q ≠ [] := by rw [e3]; simp
  have hn := good_ne hg hne
  rw [List.length_drop] at hn
  have hv : valB (zs.drop q) ≠ 34 ∧ valB (zs.drop q) ≠ 92 ∧ 32 ≤ valB (zs.drop q) := by
    by_cases h2 : 2 ≤ lenB (zs.drop q)
    · have := lenB_two hg h2; exact ⟨by omega, by omega, by omega⟩
    · have := (lenB_one hg (by omega)).1; rw [e4] at this; exact ⟨by omega, by omega, by omega⟩
  have ht : takeR ⟨0, 0, 0, 0, x⟩ (valB (zs.drop q)) = ⟨0, 0, 0, 0, x ++ (zs.drop q).take (lenB (zs.drop q))⟩ := by
    have e := enc_val (b := zs.drop q) (fun c hc => hz c (List.mem_of_mem_drop hc)) hne hg
    rw [← e]
    show (if valB (zs.drop q) = 34 then (⟨5, 0, 0, 0, x⟩ : RS) else if valB (zs.drop q) = 92 then ⟨1, 0, 0, 0, x⟩ else if valB (zs.drop q) < 32 then ⟨6, 0, 0, 0, x⟩ else putR ⟨0, 0, 0, 0, x⟩ (valB (zs.drop q))) = _
    rw [if_neg hv.1, if_neg hv.2.1, if_neg (by omega)]
    rfl
  refine ⟨?_, hn.1, hn.2.2, by omega⟩
  rw [str_on hne hg (by rw [ht]; simp) (by rw [ht]; simp), ht, List.drop_drop]
theorem st_bad (h : q < zs.length) (hg : ¬ Good (zs.drop q)) : (strL (zs.drop q) q ⟨0, 0, 0, 0, x⟩).2.2.1 ≠ 0 := by
  have hne : zs.drop q ≠ [] := fun e => by have := congrArg List.length e; rw [List.length_drop, List.length_nil] at this; omega
  rw [str_bad hne hg]
  show (brkR (zs.drop q) q _).1 ≠ 0
  unfold brkR
  repeat' split
  all_goals simp
end
set_option maxHeartbeats 400000 in
set_option maxRecDepth 100000 in
theorem vfault_any (a : Option Addr) (n cap : Nat) (q : Int) (w : World) :
    Calls Tryz.prog 36 #[.slice a n cap, .int .i64 q] w fun e w' => (∃ F A : Int, e = .returned (.agg #[.int .i64 F, .int .i64 A]) ∧ Hid (F ≠ 0)) ∧ Below w.heap.size w w' := by
  have hA : Hid (∀ F A : Int, Below w.heap.size w (w.alloc (.cells #[.int .i64 F, .int .i64 A] 29))) := fun F A => alloc_below w _
  have h3 : Hid (Hid ((3 : Int) ≠ 0)) := show (3 : Int) ≠ 0 by decide
  have h5 : Hid (Hid ((5 : Int) ≠ 0)) := show (5 : Int) ≠ 0 by decide
  by_cases h : (n : Int) ≤ q
  · go_enter Tryz.func36, Tryz.ntmps36
    go_wp2
    refine bodyPost_ret (v := .agg #[.int .i64 3, .int .i64 (n : Nat)]) (by simp [results, Tryz.results36, go_sem, *]) rfl ?_
    first | exact ⟨⟨3, (n : Nat), rfl, h3.out⟩, hA.out _ _⟩ | exact ⟨⟨3, ⟨(n : Nat), rfl⟩, h3.out⟩, hA.out _ _⟩
  · go_enter Tryz.func36, Tryz.ntmps36
    go_wp2
    refine bodyPost_ret (v := .agg #[.int .i64 5, .int .i64 q]) (by simp [results, Tryz.results36, go_sem, *]) rfl ?_
    first | exact ⟨⟨5, q, rfl, h5.out⟩, hA.out _ _⟩ | exact ⟨⟨5, ⟨q, rfl⟩, h5.out⟩, hA.out _ _⟩
end Go.Proofs.YtmlacmoembjeoaaGreatDoor
namespace Go.Proofs.YtmlacmoembjeoaaGreatDoor
open Go.RowKit
set_option linter.unusedVariables false
/-- What String answers: the string and its end, or a fault. -/
def SAns (RA : List Int × Nat × Nat × Nat) (S : ByteArray) (T F A : Int) : Prop := (RA.2.2.1 = 0 ∧ S = strOfNums RA.1 ∧ T = (RA.2.1 : Nat) ∧ F = 0 ∧ A = 0) ∨ (RA.2.2.1 ≠ 0 ∧ F ≠ 0)
/-- Where the loop stands. -/
structure SLp (w wr : World) (zs : List Int) (RA : List Int × Nat × Nat × Nat) (q : Nat) (V : Value) (x : List Int) : Prop where
  own : OwnsB wr (w.heap.size + 1) V x
  bel : Below w.heap.size w wr
  blk : Blk wr w.heap.size #[.int .i64 0, .int .i64 0] 29
  str : strL (zs.drop q) q ⟨0, 0, 0, 0, x⟩ = RA
  len : x.length ≤ 4 * q
  big : w.heap.size + 1 ≤ wr.heap.size
theorem SLp.on {w wr w' : World} {zs : List Int} {RA : List Int × Nat × Nat × Nat} {q : Nat} {V : Value} {x : List Int} (h : SLp w wr zs RA q V x) (hb : Below wr.heap.size wr w') : OwnsB w' (w.heap.size + 1) V x ∧ Below w.heap.size w w' ∧ Blk w' w.heap.size #[.int .i64 0, .int .i64 0] 29 ∧ w.heap.size + 1 ≤ w'.heap.size :=
  ⟨h.own.below hb, h.bel.trans (hb.mono (by have := h.big; omega)), h.blk.kept hb h.blk.lt, Nat.le_trans h.big hb.size⟩
theorem SLp.kept {w wr w' : World} {zs : List Int} {RA : List Int × Nat × Nat × Nat} {q : Nat} {V : Value} {x : List Int} (h : SLp w wr zs RA q V x) (hb : Below wr.heap.size wr w') : SLp w w' zs RA q V x :=
  ⟨(h.on hb).1, (h.on hb).2.1, (h.on hb).2.2.1, h.str, h.len, (h.on hb).2.2.2⟩
theorem own_cap {w : World} {base : Nat} {a : Option Addr} {n c : Nat} {zs : List Int} (h : OwnsB w base (.slice a n c) zs) : a = none → c = 0 := by
  obtain ⟨a', cap, hv, h1, _⟩ := h.shape
  cases hv
  exact h1
theorem slp_app {w w5 w6 : World} {zs : List Int} {RA : List Int × Nat × Nat × Nat} {q nx : Nat} {V v6 : Value} {x y : List Int} (h : SLp w w5 zs RA q V x) (hO : OwnsB w6 (w.heap.size + 1) v6 y) (hg : w5.grownBy w6 V.ownBlock) (hs : strL (zs.drop nx) nx ⟨0, 0, 0, 0, y⟩ = RA) (hy : y.length ≤ 4 * nx) : SLp w w6 zs RA nx v6 y := by
  have hb := (Below.refl (w.heap.size + 1) w5).grown hg h.big fun k hk => (h.own.1.lt k hk).1
  exact ⟨hO, h.bel.trans (hb.mono (by omega)), (hb.block w.heap.size (by omega)).trans h.blk, hs, hy, Nat.le_trans h.big hb.size⟩
set_option maxHeartbeats 4000000 in
set_option maxRecDepth 100000 in
theorem vstring_any (a : Option Addr) (n cap : Nat) (zs : List Int) (p : Nat) (w : World) (hl : zs.length = n) (hb : Bytes w a zs) (hc : n ≤ cap) (hm : cap ≤ 140737488351232) (hn4 : n ≤ 4096) (hp : p < n) (h34 : zs.getD p 0 = 34) :
    Calls Tryz.prog 34 #[.slice a n cap, .int .i64 (p : Nat)] w fun e w' => (∃ S T F A, e = .returned (.tuple #[.string S, .int .i64 T, .agg #[.int .i64 F, .int .i64 A]]) ∧ Hid (SAns (strL (zs.drop (p + 1)) (p + 1) r0) S T F A)) ∧ Below w.heap.size w w' := by
  obtain ⟨hz, _, hrow⟩ := id hb
  have HZ : Hid (∀ c ∈ zs, 0 ≤ c ∧ c < 256) := hz
  obtain ⟨x0, off, rfl, c0, _⟩ := byte_at hb (p := p) (by omega)
  rw [h34] at c0
  have HB : Hid (Bytes w (some ⟨x0, off, none⟩) zs) := hb
  have HL : Hid (zs.length = n) := hl
  have hby : Hid (∀ (q : Nat) (w' : World), Below w.heap.size w w' → q < n → ∃ C : Nat, zs.getD q 0 = (C : Int) ∧ C < 256 ∧ w'.cell? ⟨x0, off + q, none⟩ = some (.int .u8 (C : Int))) := fun q w' h hq => by
    obtain ⟨x', o', e, h1, h2, h3⟩ := byte_at (hb.kept h) (p := q) (by omega)
    cases e
    exact ⟨(zs.getD q 0).toNat, by omega, by omega, by rw [show (((zs.getD q 0).toNat : Nat) : Int) = zs.getD q 0 by omega]; exact h1⟩
  obtain ⟨RA, hRA⟩ : ∃ RA, strL (zs.drop (p + 1)) (p + 1) r0 = RA := ⟨_, rfl⟩
  rw [hRA]
  have HR : Hid (strL (zs.drop (p + 1)) (p + 1) r0 = RA) := hRA
  have K0 : Hid (Blk (w.alloc (.cells #[.int .i64 0, .int .i64 0] 29)) w.heap.size #[.int .i64 0, .int .i64 0] 29) := blk_new w _ _
  have A0 : Hid (Below w.heap.size w (w.alloc (.cells #[.int .i64 0, .int .i64 0] 29))) := alloc_below w _
  have c1 : (w.alloc (.cells #[.int .i64 0, .int .i64 0] 29)).cell? ⟨x0, off + p, none⟩ = some (.int .u8 34) := by rw [A0.out.cell (p := ⟨x0, off + p, none⟩) (some_block c0)]; exact c0
  have z1 : ¬ (p : Int) < 0 := by omega
  have z2 : ¬ (n : Int) ≤ (p : Int) := by omega
  have z3 : (p : Int) < (n : Int) := by omega
  have wp : IntKind.i64.wrap ((p : Int) + 1) = (p : Int) + 1 := by rw [IntKind.wrap_i64]; omega
  clear hRA hb hl hz hrow c0 h34
  go_enter Tryz.func34, Tryz.ntmps34
  go_wp2
  go_loopw [1, 7] (fun u v wr => ∃ (q : Nat) (V : Value) (x : List Int), q ≤ n ∧ u = .int .i64 q ∧ v = V ∧ Hid (SLp w wr zs RA q V x)) (fun u _ _ => n - (intOf u).toNat)
  case atStart => exact ⟨p + 1, .slice none 0 0, [], by omega, by go_num, rfl, ownsB_nil _ _, A0.out, K0.out, HR.out, by simp, by simp⟩
  case round =>
    obtain ⟨q, V, x, hq, rfl, hV, hS⟩ := hrel
    obtain rfl := hV.symm
    by_cases hqn : n ≤ q
    · have NE : Hid (RA.2.2.1 ≠ 0) := by show _ ≠ _; rw [← hS.out.str]; exact vs_out _ (by rw [HL.out]; exact hqn)
      have g1 : (n : Int) ≤ (q : Int) := by omega
      clear hqn
      have kf := vfault_any (some ⟨x0, off, none⟩) n cap (q : Nat) wr
      go_wp2_with (go_at_call 36; refine kf.mono ?_; rintro e w5 ⟨⟨F, A, rfl, hF⟩, hb5⟩; clear kf; have s5 := hS.out.on hb5; have B5 : Hid (Below w.heap.size w w5) := s5.2.1; have K5 : Hid (Blk w5 w.heap.size #[.int .i64 0, .int .i64 0] 29) := s5.2.2.1; have y0 := K5.out.cell 0; have y1 := K5.out.cell 1; have f0 := K5.out.fz 0; have f1 := K5.out.fz 1; clear s5 hb5)
      have R5 := (K5.out.set 0 (.int .i64 F)).set 1 (.int .i64 A)
      have r0 := R5.cell 0
      have r1 := R5.cell 1
      refine bodyPost_ret (v := .tuple #[.string ⟨#[]⟩, .int .i64 0, .agg #[.int .i64 F, .int .i64 A]]) (by simp [results, Tryz.results34, go_sem, *]) rfl ⟨⟨⟨#[]⟩, 0, F, A, rfl, .inr ⟨NE.out, hF.out⟩⟩, (B5.out.setCell (p := ⟨w.heap.size, 0, none⟩) (Nat.le_refl _) _).setCell (p := ⟨w.heap.size, 1, none⟩) (Nat.le_refl _) _⟩
    have hq' : q < n := by omega
    have g1 : ¬ (n : Int) ≤ (q : Int) := by omega
    have g2 : (q : Int) < (n : Int) := by omega
    obtain ⟨C, eC, hC8, cC⟩ := hby.out q wr hS.out.bel hq'
    have EC : Hid (zs.getD q 0 = (C : Int)) := eC
    clear eC hqn
    by_cases h34 : C = 34
    · subst h34
      have ER : Hid (RA = (x, q + 1, 0, 0)) := by show _ = _; rw [← hS.out.str]; exact st_quote HZ.out (by rw [HL.out]; exact hq') EC.out
      obtain ⟨a2, n2, c2, rfl, hl2, _, hc2, hm2, hB2⟩ := hS.out.own.form
      have cv := conv_str hB2 n2 c2 hl2.out
      have k5 := hS.out.blk
      have y0 := k5.cell 0
      have y1 := k5.cell 1
      have f0 := k5.fz 0
      have f1 := k5.fz 1
      have R5 := (k5.set 0 (.int .i64 0)).set 1 (.int .i64 0)
      have r0' := R5.cell 0
      have r1' := R5.cell 1
      have B5 : Hid (Below w.heap.size w wr) := hS.out.bel
      have wq : IntKind.i64.wrap ((q : Int) + 1) = (q : Int) + 1 := by rw [IntKind.wrap_i64]; omega
      clear hl2 hB2 R5
      go_wp2
      refine bodyPost_ret (v := .tuple #[.string (strOfNums x), .int .i64 ((q : Int) + 1), .agg #[.int .i64 0, .int .i64 0]]) (by simp [results, Tryz.results34, go_sem, *]) rfl ⟨⟨strOfNums x, (q : Int) + 1, 0, 0, rfl, .inl ⟨by rw [ER.out], by rw [ER.out], by rw [ER.out]; rfl, rfl, rfl⟩⟩, (B5.out.setCell (p := ⟨w.heap.size, 0, none⟩) (Nat.le_refl _) _).setCell (p := ⟨w.heap.size, 1, none⟩) (Nat.le_refl _) _⟩
    have g34 : ((C : Int) == 34) = false := by simp; omega
    by_cases h32 : C < 32
    · have NE : Hid (RA.2.2.1 ≠ 0) := by show _ ≠ _; rw [← hS.out.str]; exact st_low HZ.out (by rw [HL.out]; exact hq') EC.out h32
      have g32 : decide ((C : Int) < 32) = true := by simp; omega
      clear h32 h34
      have kf := vfault_any (some ⟨x0, off, none⟩) n cap (q : Nat) wr
      go_wp2_with (go_at_call 36; refine kf.mono ?_; rintro e w5 ⟨⟨F, A, rfl, hF⟩, hb5⟩; clear kf; have s5 := hS.out.on hb5; have B5 : Hid (Below w.heap.size w w5) := s5.2.1; have K5 : Hid (Blk w5 w.heap.size #[.int .i64 0, .int .i64 0] 29) := s5.2.2.1; have y0 := K5.out.cell 0; have y1 := K5.out.cell 1; have f0 := K5.out.fz 0; have f1 := K5.out.fz 1; clear s5 hb5)
      have R5 := (K5.out.set 0 (.int .i64 F)).set 1 (.int .i64 A)
      have r0 := R5.cell 0
      have r1 := R5.cell 1
      refine bodyPost_ret (v := .tuple #[.string ⟨#[]⟩, .int .i64 0, .agg #[.int .i64 F, .int .i64 A]]) (by simp [results, Tryz.results34, go_sem, *]) rfl ⟨⟨⟨#[]⟩, 0, F, A, rfl, .inr ⟨NE.out, hF.out⟩⟩, (B5.out.setCell (p := ⟨w.heap.size, 0, none⟩) (Nat.le_refl _) _).setCell (p := ⟨w.heap.size, 1, none⟩) (Nat.le_refl _) _⟩
    have g32 : decide ((C : Int) < 32) = false := by simp; omega
    by_cases h92 : C = 92
    · subst h92
      have ER : Hid (strL (zs.drop (q + 1)) (q + 1) ⟨1, 0, 0, 0, x⟩ = RA) := by show _ = _; rw [← hS.out.str]; exact (st_esc HZ.out (by rw [HL.out]; exact hq') EC.out).symm
      have ke := vesc_any (some ⟨x0, off, none⟩) n cap zs (q + 1) wr HL.out (HB.out.kept hS.out.bel) hc hm (by omega)
      have hes := esc_str HZ.out (q + 1) x
      have heb := esc_bd zs (q + 1)
      obtain ⟨⟨E1, E2, E3⟩, hE⟩ : ∃ E, escV zs (q + 1) = E := ⟨_, rfl⟩
      rw [hE] at ke hes heb
      have ke' : Calls Tryz.prog 58 #[.slice (some ⟨x0, off, none⟩) n cap, .int .i64 ((q : Int) + 1)] wr fun e w'' => e = .returned (.tuple #[.int .i64 E1, .int .i64 E2, .int .i64 E3]) ∧ Below wr.heap.size wr w'' := ke
      simp only at hes heb
      have wq : IntKind.i64.wrap ((q : Int) + 1) = (q : Int) + 1 := by rw [IntKind.wrap_i64]; omega
      clear ke hE h34 h32
      by_cases hE3 : E3 = -1
      · subst hE3
        obtain ⟨r, nx, rfl, rfl, hr, hnx1, hnx2, hst⟩ := hes.1 rfl
        have ST : Hid (strL (zs.drop nx) nx ⟨0, 0, 0, 0, x ++ encL r⟩ = RA) := by show _ = _; rw [← hst]; exact ER.out
        have hnxn : nx ≤ n := by rw [← HL.out]; exact hnx2
        have HRt : Hid (Right r) := hr
        clear hes heb hst ER hr hnx2
        go_wp2_with (first
          | (go_at_call 58; refine ke'.mono ?_; rintro e w4 ⟨rfl, hb4⟩; clear ke'; have s4 : Hid (SLp w w4 zs RA q V x) := hS.out.kept hb4; have kb := xbytes_any r w4 HRt.out; clear hb4)
          | (go_at_call 59; refine kb.mono ?_; rintro e w5 ⟨v5, rfl, hO5, hb5⟩; clear kb; have s5 : Hid (SLp w w5 zs RA q V x) := s4.out.kept hb5; obtain ⟨a5, n5, c5, rfl, hl5, hn5, hc5, hm5, hB5⟩ := hO5.form; have L5 : Hid ((encL r).length = n5) := hl5.out; have P5 : Hid ((a5 = none → c5 = 0) ∧ Bytes w5 a5 (encL r)) := ⟨own_cap hO5, hB5⟩; clear hO5 hb5 hl5 hn5 hB5)
          | (at_builtin; refine wpList_append_bytes rfl _ _ rfl (w.heap.size + 1) V x (encL r) rfl s5.out.own a5 n5 c5 rfl L5.out P5.out.1 P5.out.2 (by have := s5.out.len; have := (enc_len r).2; omega) s5.out.big ?_; intro v6 w6 hO6 hg6; have s6 : Hid (SLp w w6 zs RA nx v6 (x ++ encL r)) := slp_app s5.out hO6 hg6 ST.out (by have := s5.out.len; have := (enc_len r).2; rw [List.length_append]; omega); clear hO6 hg6))
        go_roundw
        case rel => exact ⟨nx, v6, x ++ encL r, hnxn, rfl, rfl, s6⟩
        case measure => simp [intOf]; omega
      · have NE : Hid (RA.2.2.1 ≠ 0) := by show _ ≠ _; rw [← ER.out]; exact hes.2 hE3
        have gE : decide ((0 : Int) ≤ E3) = true := by
          rcases heb with h | h
          · exact absurd h hE3
          · simp; exact h
        have kf : Hid (∀ w4, Calls Tryz.prog 36 #[.slice (some ⟨x0, off, none⟩) n cap, .int .i64 E3] w4 _) := fun w4 => vfault_any (some ⟨x0, off, none⟩) n cap E3 w4
        clear hE3 hes heb ER
        go_wp2_with (first
          | (go_at_call 58; refine ke'.mono ?_; rintro e w4 ⟨rfl, hb4⟩; clear ke'; have s4 : Hid (SLp w w4 zs RA q V x) := hS.out.kept hb4; clear hb4)
          | (go_at_call 36; refine (kf.out _).mono ?_; rintro e w5 ⟨⟨F, A, rfl, hF⟩, hb5⟩; clear kf; have s5 := s4.out.on hb5; have B5 : Hid (Below w.heap.size w w5) := s5.2.1; have K5 : Hid (Blk w5 w.heap.size #[.int .i64 0, .int .i64 0] 29) := s5.2.2.1; have y0 := K5.out.cell 0; have y1 := K5.out.cell 1; have f0 := K5.out.fz 0; have f1 := K5.out.fz 1; clear s5 hb5))
        have R5 := (K5.out.set 0 (.int .i64 F)).set 1 (.int .i64 A)
        have r0 := R5.cell 0
        have r1 := R5.cell 1
        refine bodyPost_ret (v := .tuple #[.string ⟨#[]⟩, .int .i64 0, .agg #[.int .i64 F, .int .i64 A]]) (by simp [results, Tryz.results34, go_sem, *]) rfl ⟨⟨⟨#[]⟩, 0, F, A, rfl, .inr ⟨NE.out, hF.out⟩⟩, (B5.out.setCell (p := ⟨w.heap.size, 0, none⟩) (Nat.le_refl _) _).setCell (p := ⟨w.heap.size, 1, none⟩) (Nat.le_refl _) _⟩
    have g92 : ((C : Int) == 92) = false := by simp; omega
    have hx : zs.drop q ≠ [] := fun e => by have := congrArg List.length e; rw [List.length_drop, List.length_nil, HL.out] at this; omega
    have HD : Hid ((zs.drop q).length = n - q) := by show _ = _; rw [List.length_drop, HL.out]
    have BD : Hid (Bytes wr (some ⟨x0, off + q, none⟩) (zs.drop q)) := (HB.out.kept hS.out.bel).drop q
    have kn := xnext_any (some ⟨x0, off + q, none⟩) (n - q) (cap - q) (zs.drop q) wr HD.out BD.out (by omega) (by omega)
    have i1 : (cap = q) = False := by simp; omega
    have i2 : (q : Int) ≤ (n : Int) := by omega
    by_cases hg : Good (zs.drop q)
    · obtain ⟨f1, f2⟩ := fst_good hx hg
      rw [f1, f2] at kn
      obtain ⟨t1, t2, t3, t4⟩ := st_good (x := x) HZ.out (by rw [HL.out]; exact hq') EC.out h34 h92 (by omega) hg
      have t5 := t4
      rw [HL.out] at t4
      have ST : Hid (strL (zs.drop (q + lenB (zs.drop q))) (q + lenB (zs.drop q)) ⟨0, 0, 0, 0, x ++ (zs.drop q).take (lenB (zs.drop q))⟩ = RA) := by show _ = _; rw [← t1]; exact hS.out.str
      have BL : Hid (∀ w4, Below wr.heap.size wr w4 → Bytes w4 (some ⟨x0, off + q, none⟩) ((zs.drop q).take (lenB (zs.drop q)))) := fun w4 h => (BD.out.kept h).take _
      have LL : Hid (((zs.drop q).take (lenB (zs.drop q))).length = lenB (zs.drop q)) := by show _ = _; rw [List.length_take, HD.out]; omega
      clear t1 t5 hg hx f1 f2 HD BD h34 h92 h32
      generalize lenB (zs.drop q) = L at *
      generalize valB (zs.drop q) = U at *
      generalize (zs.drop q).take L = y at *
      have i3 : ((q : Int) + (L : Int)) ≤ (n : Int) := by omega
      have i4 : (q : Int) ≤ (q : Int) + (L : Int) := by omega
      have i5 : ((L : Int) == 0) = false := by simp; omega
      have wL : IntKind.i64.wrap ((q : Int) + (L : Int)) = (q : Int) + (L : Int) := by rw [IntKind.wrap_i64]; omega
      go_wp2_with (first
        | (go_at_call 60; refine kn.mono ?_; rintro e w4 ⟨rfl, d4, hd4⟩; have hb4 : Below wr.heap.size wr w4 := by rw [hd4]; exact below_drewN (Below.refl _ _) d4
           clear kn hd4; have s4 : Hid (SLp w w4 zs RA q V x) := hS.out.kept hb4; have B4 : Hid (Bytes w4 (some ⟨x0, off + q, none⟩) y) := BL.out w4 hb4; clear hb4)
        | (at_builtin; refine wpList_append_bytes rfl _ _ rfl (w.heap.size + 1) V x y rfl s4.out.own (some ⟨x0, off + q, none⟩) (q + L - q) (cap - q) rfl (by rw [LL.out]; omega) (by simp) B4.out (by have := s4.out.len; have := LL.out; omega) s4.out.big ?_; intro v6 w6 hO6 hg6; have s6 : Hid (SLp w w6 zs RA (q + L) v6 (x ++ y)) := slp_app s4.out hO6 hg6 ST.out (by have := s4.out.len; have := LL.out; rw [List.length_append]; omega); clear hO6 hg6))
      go_roundw
      case rel => exact ⟨q + L, v6, x ++ y, by omega, by go_num, rfl, s6⟩
      case measure => simp [intOf]; omega
    · have NE : Hid (RA.2.2.1 ≠ 0) := by show _ ≠ _; rw [← hS.out.str]; exact st_bad (by rw [HL.out]; exact hq') hg
      obtain ⟨f1, f2⟩ := fst_bad (.inr hg)
      rw [f1, f2] at kn
      have kr : Hid (∀ w4, Below wr.heap.size wr w4 → Calls Tryz.prog 52 #[.slice (some ⟨x0, off + q, none⟩) (n - q) (cap - q)] w4 fun e w' => ∃ v, e = .returned (.tuple #[v, .agg #[.int .i64 (whyL (zs.drop q) : Nat), .int .i64 (atL (zs.drop q) : Nat)]]) ∧ OwnsJ w' w4.heap.size v (txtL (zs.drop q)) ∧ Below w4.heap.size w4 w') := fun w4 h => xrunes_any _ _ _ _ _ HD.out (BD.out.kept h) (by omega) (by omega)
      have kf : Hid (∀ w4, Calls Tryz.prog 36 #[.slice (some ⟨x0, off, none⟩) n cap, .int .i64 (n : Nat)] w4 _) := fun w4 => vfault_any (some ⟨x0, off, none⟩) n cap (n : Nat) w4
      clear hg hx f1 f2 HD BD h34 h92 h32
      generalize whyL (zs.drop q) = YW at *
      generalize atL (zs.drop q) = YA at *
      generalize txtL (zs.drop q) = YT at *
      have gk : Hid (∀ w4 : World, True) := fun _ => trivial
      by_cases hA : YA = n - q
      · subst hA
        have gA : (((n - q : Nat) : Int) == IntKind.i64.wrap ((n : Int) - (q : Int))) = true := by rw [IntKind.wrap_i64]; simp; omega
        have wA : IntKind.i64.wrap ((n : Int) - (q : Int)) = ((n - q : Nat) : Int) := by rw [IntKind.wrap_i64]; omega
        go_wp2_with (first
          | (go_at_call 60; refine kn.mono ?_; rintro e w4 ⟨rfl, d4, hd4⟩; have hb4 : Below wr.heap.size wr w4 := by rw [hd4]; exact below_drewN (Below.refl _ _) d4
             clear kn hd4; have s4 : Hid (SLp w w4 zs RA q V x) := hS.out.kept hb4; have kr4 := kr.out w4 hb4; clear hb4)
          | (go_at_call 52; refine kr4.mono ?_; rintro e w3 ⟨v3, rfl, _, hb3⟩; clear kr4; have A3 : Below w3.heap.size w3 (w3.alloc (.cells #[.int .i64 (YW : Nat), .int .i64 ((n - q : Nat) : Int)] 29)) := alloc_below w3 _; have s3 : Hid (SLp w (w3.alloc (.cells #[.int .i64 (YW : Nat), .int .i64 ((n - q : Nat) : Int)] 29)) zs RA q V x) := s4.out.kept (hb3.trans (A3.mono hb3.size)); clear hb3 A3)
          | (go_at_call 36; refine (kf.out _).mono ?_; rintro e w5 ⟨⟨F, A, rfl, hF⟩, hb5⟩; clear kf; have s5 := s3.out.on hb5; have B5 : Hid (Below w.heap.size w w5) := s5.2.1; have K5 : Hid (Blk w5 w.heap.size #[.int .i64 0, .int .i64 0] 29) := s5.2.2.1; have y0 := K5.out.cell 0; have y1 := K5.out.cell 1; have f0 := K5.out.fz 0; have f1 := K5.out.fz 1; clear s5 hb5))
        have R5 := (K5.out.set 0 (.int .i64 F)).set 1 (.int .i64 A)
        have r0 := R5.cell 0
        have r1 := R5.cell 1
        refine bodyPost_ret (v := .tuple #[.string ⟨#[]⟩, .int .i64 0, .agg #[.int .i64 F, .int .i64 A]]) (by simp [results, Tryz.results34, go_sem, *]) rfl ⟨⟨⟨#[]⟩, 0, F, A, rfl, .inr ⟨NE.out, hF.out⟩⟩, (B5.out.setCell (p := ⟨w.heap.size, 0, none⟩) (Nat.le_refl _) _).setCell (p := ⟨w.heap.size, 1, none⟩) (Nat.le_refl _) _⟩
      · have gA : ((YA : Int) == IntKind.i64.wrap ((n : Int) - (q : Int))) = false := by rw [IntKind.wrap_i64]; simp; omega
        have wA : IntKind.i64.wrap ((n : Int) - (q : Int)) = ((n : Int) - (q : Int)) := by rw [IntKind.wrap_i64]; omega
        have gA2 : ((YA : Int) == (n : Int) - (q : Int)) = false := by simp; omega
        clear hA kf
        go_wp2_with (first
          | (go_at_call 60; refine kn.mono ?_; rintro e w4 ⟨rfl, d4, hd4⟩; have hb4 : Below wr.heap.size wr w4 := by rw [hd4]; exact below_drewN (Below.refl _ _) d4
             clear kn hd4; have s4 : Hid (SLp w w4 zs RA q V x) := hS.out.kept hb4; have kr4 := kr.out w4 hb4; clear hb4)
          | (go_at_call 52; refine kr4.mono ?_; rintro e w3 ⟨v3, rfl, _, hb3⟩; clear kr4; have A3 : Below w3.heap.size w3 (w3.alloc (.cells #[.int .i64 (YW : Nat), .int .i64 (YA : Nat)] 29)) := alloc_below w3 _; have s3 : Hid (SLp w (w3.alloc (.cells #[.int .i64 (YW : Nat), .int .i64 (YA : Nat)] 29)) zs RA q V x) := s4.out.kept (hb3.trans (A3.mono hb3.size)); have HNE : Hid (w.heap.size < w3.heap.size) := Nat.lt_of_lt_of_le s4.out.big hb3.size; have B5 : Hid (Below w.heap.size w (w3.alloc (.cells #[.int .i64 (YW : Nat), .int .i64 (YA : Nat)] 29))) := s3.out.bel; have K5 : Hid (Blk (w3.alloc (.cells #[.int .i64 (YW : Nat), .int .i64 (YA : Nat)] 29)) w.heap.size #[.int .i64 0, .int .i64 0] 29) := s3.out.blk; have y0 := K5.out.cell 0; have y1 := K5.out.cell 1; have f0 := K5.out.fz 0; have f1 := K5.out.fz 1; clear hb3 A3))
        have K6 : Blk (w3.alloc (.cells #[.int .i64 (YW : Nat), .int .i64 (YA : Nat)] 29)) w3.heap.size #[.int .i64 (YW : Nat), .int .i64 (YA : Nat)] 29 := blk_new w3 _ _
        have m0 := K6.cell 0
        have m1 := K6.cell 1
        clear K6
        have hne : w.heap.size < w3.heap.size := HNE.out
        have d1 : ¬ w3.heap.size = w.heap.size := by omega
        have d2 : ¬ w.heap.size = w3.heap.size := by omega
        clear hne HNE s3
        generalize w3.alloc (.cells #[.int .i64 (YW : Nat), .int .i64 (YA : Nat)] 29) = W3 at *
        generalize w3.heap.size = g5 at *
        obtain ⟨Z, hZ⟩ : ∃ Z, IntKind.i64.wrap ((q : Int) + (YA : Int)) = Z := ⟨_, rfl⟩
        have R5 := (K5.out.set 0 (.int .i64 6)).set 1 (.int .i64 Z)
        have r0 := R5.cell 0
        have r1 := R5.cell 1
        have BB : Hid (Below w.heap.size w ((W3.setCell ⟨w.heap.size, 0, none⟩ (.int .i64 6)).setCell ⟨w.heap.size, 1, none⟩ (.int .i64 Z))) := (B5.out.setCell (p := ⟨w.heap.size, 0, none⟩) (Nat.le_refl _) _).setCell (p := ⟨w.heap.size, 1, none⟩) (Nat.le_refl _) _
        clear R5 B5 K5
        go_region
        all_goals
          go_wp2_with fail
          refine bodyPost_ret (v := .tuple #[.string ⟨#[]⟩, .int .i64 0, .agg #[.int .i64 6, .int .i64 Z]]) (by simp [results, Tryz.results34, go_sem, *]) rfl ⟨⟨⟨#[]⟩, 0, 6, Z, rfl, .inr ⟨NE.out, by decide⟩⟩, BB.out.drew⟩
end Go.Proofs.YtmlacmoembjeoaaGreatDoor
namespace Go.Proofs.YtmlacmoembjeoaaGreatDoor
open Go.RowKit
set_option linter.unusedVariables false
theorem vgap_cases {c : Int} (h : isGap c = true) : c = 32 ∨ c = 9 ∨ c = 10 ∨ c = 13 := by
  unfold isGap at h
  simp at h
  exact h
set_option maxHeartbeats 1000000 in
set_option maxRecDepth 100000 in
theorem vgap_yes {c : Int} (h : isGap c = true) (w : World) : Calls Tryz.prog 25 #[.int .u8 c] w fun e w' => e = .returned (.bool true) ∧ w' = w := by
  rcases vgap_cases h with rfl | rfl | rfl | rfl
  all_goals
    clear h
    go_enter Tryz.func25, Tryz.ntmps25
    go_wp2
    go_ret
    exact ⟨rfl, rfl⟩
set_option maxHeartbeats 1000000 in
set_option maxRecDepth 100000 in
theorem vgap_no {c : Nat} (h : isGap (c : Int) = false) (w : World) : Calls Tryz.prog 25 #[.int .u8 (c : Int)] w fun e w' => e = .returned (.bool false) ∧ w' = w := by
  unfold isGap at h
  simp only [Bool.or_eq_false_iff] at h
  obtain ⟨h1, h2, h3, h4⟩ := h
  go_enter Tryz.func25, Tryz.ntmps25
  go_wp2
  go_ret
  exact ⟨rfl, rfl⟩
/-- The bytes of a string as numbers. -/
def wl (s : ByteArray) : List Int := s.data.toList.map fun c => (c.toNat : Int)
theorem wl_length (s : ByteArray) : (wl s).length = s.size := by unfold wl; rw [List.length_map]; rfl
theorem wl_drop (s : ByteArray) {k : Nat} (h : k < s.size) : (wl s).drop k = (((s[k]'h).toNat : Nat) : Int) :: (wl s).drop (k + 1) := by
  rw [List.drop_eq_getElem_cons (by rw [wl_length]; exact h)]
  congr 1
  unfold wl
  rw [List.getElem_map]
  rfl
/-- What word answers. -/
def WAns (R : Nat × Nat) (p m : Nat) (T B : Int) : Prop := (R.1 = 0 ∧ T = ((p + m : Nat) : Int) ∧ B = -1) ∨ (R.1 ≠ 0 ∧ 0 ≤ B)
theorem dr_cons {zs : List Int} {q : Nat} (h : q < zs.length) : zs.drop q = zs.getD q 0 :: zs.drop (q + 1) := by
  rw [List.drop_eq_getElem_cons h]
  congr 1
  rw [List.getD_eq_getElem?_getD, List.getElem?_eq_getElem h]
  rfl
theorem wr_is {zs wd : List Int} {q k : Nat} {c : Int} (h : isB zs q c = true) : wrdF (c :: wd) (zs.drop q) k = wrdF wd (zs.drop (q + 1)) (k + 1) := by
  have h' := isB_iff.1 h
  rw [dr_cons h'.1, wrdF, if_pos h'.2]
theorem wr_no {zs wd : List Int} {q k : Nat} {c : Int} (h : isB zs q c = false) : (wrdF (c :: wd) (zs.drop q) k).1 ≠ 0 := by
  by_cases hq : q < zs.length
  · rw [dr_cons hq, wrdF, if_neg (isB_not h hq)]
    exact (by decide : (5 : Nat) ≠ 0)
  · rw [List.drop_eq_nil_of_le (by omega), wrdF]
    exact (by decide : (3 : Nat) ≠ 0)
set_option maxHeartbeats 2000000 in
set_option maxRecDepth 100000 in
theorem vword_any (a : Option Addr) (n cap : Nat) (zs : List Int) (p : Nat) (s : ByteArray) (w : World) (hl : zs.length = n) (hb : Bytes w a zs) (hc : n ≤ cap) (hm : cap ≤ 140737488351232) (hp : p ≤ n) (hs : s.size ≤ 100) :
    Calls Tryz.prog 37 #[.slice a n cap, .int .i64 (p : Nat), .string s] w fun e w' => (∃ T B : Int, e = .returned (.tuple #[.int .i64 T, .int .i64 B]) ∧ Hid (WAns (wrdF (wl s) (zs.drop p) 0) p s.size T B)) ∧ Below w.heap.size w w' := by
  have kI : Hid (∀ (q : Nat) (c : Int) (w' : World), Below w.heap.size w w' → Calls Tryz.prog 61 #[.slice a n cap, .int .i64 (q : Nat), .int .u8 c] w' fun e w'' => e = .returned (.bool (isB zs q c)) ∧ w'' = w') := fun q c w' h => vis_any a n cap zs q c w' hl (hb.kept h) hc
  obtain ⟨RA, hRA⟩ : ∃ RA, wrdF (wl s) (zs.drop p) 0 = RA := ⟨_, rfl⟩
  rw [hRA]
  have HR : Hid (wrdF ((wl s).drop 0) (zs.drop (p + 0)) 0 = RA) := hRA
  clear hRA hl hb
  go_enter Tryz.func37, Tryz.ntmps37
  go_wp2
  go_loopw [8] (fun u wi => ∃ k : Nat, k ≤ s.size ∧ u = .int .i64 k ∧ Hid (Below w.heap.size w wi ∧ wrdF ((wl s).drop k) (zs.drop (p + k)) k = RA)) (fun u _ => s.size - (intOf u).toNat)
  case atStart => exact ⟨0, Nat.zero_le _, rfl, Below.refl _ _, HR.out⟩
  case round =>
    obtain ⟨k, hk, rfl, hB⟩ := hrel
    by_cases hk2 : k < s.size
    · have v1 : (k : Int) < (s.size : Int) := by omega
      have wi : IntKind.i64.wrap ((k : Int) + 1) = (k : Int) + 1 := by rw [IntKind.wrap_i64]; omega
      have wpk : IntKind.i64.wrap ((p : Int) + (k : Int)) = ((p + k : Nat) : Int) := by rw [IntKind.wrap_i64]; omega
      have k1 := kI.out (p + k) ((((s[k]'hk2).toNat : Nat) : Int)) wr hB.out.1
      have e1 := hB.out.2
      rw [wl_drop s hk2] at e1
      by_cases hi : isB zs (p + k) ((((s[k]'hk2).toNat : Nat) : Int)) = true
      · rw [hi] at k1
        have E : Hid (wrdF ((wl s).drop (k + 1)) (zs.drop (p + (k + 1))) (k + 1) = RA) := by show _ = _; rw [← e1, wr_is hi]; rfl
        have B1 : Hid (Below w.heap.size w wr) := hB.out.1
        clear e1 hi hB
        go_wp2_with (go_at_call 61; refine k1.mono ?_; rintro e w5 ⟨rfl, hw5⟩; subst hw5; clear k1)
        go_roundw
        case rel => exact ⟨k + 1, by omega, by go_num, B1.out, E.out⟩
        case measure => simp [intOf]; omega
      · have hi' : isB zs (p + k) ((((s[k]'hk2).toNat : Nat) : Int)) = false := by simpa using hi
        rw [hi'] at k1
        have E : Hid (RA.1 ≠ 0) := by show _ ≠ _; rw [← e1]; exact wr_no hi'
        have B1 : Hid (Below w.heap.size w wr) := hB.out.1
        clear e1 hi hi' hB
        go_wp2_with (go_at_call 61; refine k1.mono ?_; rintro e w5 ⟨rfl, hw5⟩; subst hw5; clear k1)
        go_ret2
        exact ⟨⟨0, ((p + k : Nat) : Int), rfl, .inr ⟨E.out, by omega⟩⟩, B1.out⟩
    · obtain rfl : k = s.size := by omega
      have v1 : ¬ (s.size : Int) < (s.size : Int) := by omega
      have E : Hid (RA.1 = 0) := by
        show _ = _
        rw [← hB.out.2, List.drop_eq_nil_of_le (by rw [wl_length]; omega), wrdF]
      have B1 : Hid (Below w.heap.size w wr) := hB.out.1
      have wps : IntKind.i64.wrap ((p : Int) + (s.size : Int)) = ((p + s.size : Nat) : Int) := by rw [IntKind.wrap_i64]; omega
      clear hB
      go_wp2
      go_ret2
      exact ⟨⟨((p + s.size : Nat) : Int), -1, rfl, .inl ⟨E.out, rfl, rfl⟩⟩, B1.out⟩
end Go.Proofs.YtmlacmoembjeoaaGreatDoor
