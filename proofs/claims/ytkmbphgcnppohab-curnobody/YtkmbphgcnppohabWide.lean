/-
  A wide number read off a cursor, in the program.
-/
import Derived.Test.YtkmbphgcnppohabTake
import Derived.Test.YtkmbphgcnppohabPut
namespace Go.Proofs.Ytkmbphgcnppohab
open Go.RowKit

theorem join8 (A : Nat) (c : Int) (hA : A < 72057594037927936) (h0 : 0 ≤ c) (h1 : c < 256) : bits .or .u64 ((A : Int) * 256) c = ((A * 256 + c.toNat : Nat) : Int) := by
  obtain ⟨d, rfl⟩ : ∃ d : Nat, c = (d : Int) := ⟨c.toNat, by omega⟩
  rw [show (A : Int) * 256 = ((A * 256 : Nat) : Int) from rfl, u64_or_nat (A * 256) d (by omega) (by omega), nat_join 8 (A * 256) d (by omega) (by omega)]
  rfl

set_option maxHeartbeats 400000 in
theorem wide_stop (base g p y f n : Nat) (a : Option Addr) (zs : List Int) (k : Int) (w : World) (h : Cur w base g a n zs p y f) (hy : y ≠ 0) :
    Calls Try.prog 4 #[.pointer (some ⟨g, 0, none⟩), .int .i64 k] w fun e w' => e = .returned (.int .u64 0) ∧ Cur w' base g a n zs p y f ∧ w.grownBy w' (some g) := by
  go_enter Try.func4, Try.ntmps4
  go_wp2_with fail
  refine (isWidth_any _ _).mono ?_
  rintro e w1 ⟨rfl, rfl⟩
  go_wp2_with fail
  refine (canRead_stop _ _ _ _ _ _ _ _ h.1 hy).mono ?_
  rintro e w2 ⟨rfl, hb2⟩
  go_wp2
  go_ret
  exact ⟨rfl, h.kept hb2, Below.but hb2 _⟩

set_option maxHeartbeats 400000 in
theorem wide_arg (base g p f n : Nat) (a : Option Addr) (zs : List Int) (k : Int) (w : World) (h : Cur w base g a n zs p 0 f) (hk : ¬ (k = 1 ∨ k = 2 ∨ k = 4 ∨ k = 8)) :
    Calls Try.prog 4 #[.pointer (some ⟨g, 0, none⟩), .int .i64 k] w fun e w' => e = .returned (.int .u64 0) ∧ Cur w' base g a n zs p 1 p ∧ w.grownBy w' (some g) := by
  have hd : decide (k = 1 ∨ k = 2 ∨ k = 4 ∨ k = 8) = false := by simpa using hk
  clear hk
  go_enter Try.func4, Try.ntmps4
  go_wp2_with fail
  refine (isWidth_any _ _).mono ?_
  rintro e w1 ⟨rfl, rfl⟩
  rw [hd]
  go_wp2_with fail
  refine (canRead_arg _ _ _ _ _ _ h.1).mono ?_
  rintro e w2 ⟨rfl, hc2, hg2⟩
  go_wp2
  go_ret
  exact ⟨rfl, h.turned hg2 hc2 h.2.2.2.1, hg2⟩

set_option maxHeartbeats 400000 in
theorem wide_end (base g p f n : Nat) (a : Option Addr) (zs : List Int) (k : Int) (w : World) (h : Cur w base g a n zs p 0 f) (hk : k = 1 ∨ k = 2 ∨ k = 4 ∨ k = 8) (hx : ((n - p : Nat) : Int) < k) :
    Calls Try.prog 4 #[.pointer (some ⟨g, 0, none⟩), .int .i64 k] w fun e w' => e = .returned (.int .u64 0) ∧ Cur w' base g a n zs p 3 n ∧ w.grownBy w' (some g) := by
  have hp : p ≤ n := h.2.2.2.1
  have hn : n ≤ 140737488355328 := h.2.2.2.2.1
  have hd : decide (k = 1 ∨ k = 2 ∨ k = 4 ∨ k = 8) = true := by simpa using hk
  clear hk
  go_enter Try.func4, Try.ntmps4
  go_wp2_with fail
  refine (isWidth_any _ _).mono ?_
  rintro e w1 ⟨rfl, rfl⟩
  rw [hd]
  go_wp2_with fail
  refine (canRead_end _ _ _ _ _ _ _ _ h.1 hp (by omega) hx).mono ?_
  rintro e w2 ⟨rfl, hc2, hg2⟩
  go_wp2
  go_ret
  exact ⟨rfl, h.turned hg2 hc2 hp, hg2⟩

set_option maxHeartbeats 400000 in
theorem wide_ok (base g p f n k : Nat) (a : Option Addr) (zs : List Int) (w : World) (h : Cur w base g a n zs p 0 f) (hk : k = 1 ∨ k = 2 ∨ k = 4 ∨ k = 8) (hx : p + k ≤ n) :
    Calls Try.prog 4 #[.pointer (some ⟨g, 0, none⟩), .int .i64 k] w fun e w' => e = .returned (.int .u64 (rdW 0 ((zs.drop p).take k) : Nat)) ∧ Cur w' base g a n zs (p + k) 0 f ∧ w.grownBy w' (some g) := by
  have hp : p ≤ n := h.2.2.2.1
  have hn : n ≤ 140737488355328 := h.2.2.2.2.1
  have hd : decide ((k : Int) = 1 ∨ (k : Int) = 2 ∨ (k : Int) = 4 ∨ (k : Int) = 8) = true := by simp; omega
  have hk8 : 1 ≤ k ∧ k ≤ 8 := by omega
  obtain ⟨hk1, hk2⟩ := hk8
  clear hk
  go_enter Try.func4, Try.ntmps4
  go_wp2_with fail
  refine (isWidth_any _ _).mono ?_
  rintro e w1 ⟨rfl, rfl⟩
  rw [hd]
  clear hd
  go_wp2_with fail
  refine (canRead_ok _ _ _ _ _ _ _ _ h.1 hp (by omega) (by omega)).mono ?_
  rintro e w2 ⟨rfl, hb2⟩
  go_wp2_with fail
  refine (pass_any base g p 0 f n k a zs w2 (h.kept hb2) hx).mono ?_
  rintro e w3 ⟨a3, c3, rfl, hB3, hl3, -, hc3, hg3⟩
  obtain ⟨l, hl0⟩ : ∃ l, Hid ((zs.drop p).take k = l) := ⟨_, rfl⟩
  rw [hl0.out] at hB3 hl3
  obtain ⟨b, off, rfl⟩ := bytes_some hB3.out (by rw [hl3.out]; omega)
  go_wp2_with fail
  go_loop [5, 18] (fun t i => ∃ j : Nat, j ≤ k ∧ i = .int .i64 j ∧ t = .int .u64 (rdW 0 (l.take j) : Nat)) (fun _ i => k - (intOf i).toNat)
  case atStart => exact ⟨0, by omega, rfl, rfl⟩
  case round =>
    obtain ⟨j, hj, rfl, rfl⟩ := hrel
    by_cases hlt : j < k
    · obtain ⟨hz, _, h0 | ⟨b', off', h1, hcell⟩⟩ := hB3.out
      · have := hl3.out
        rw [h0] at this
        simp at this
        omega
      · cases h1
        obtain ⟨c, hck, hc0, hc1, htk⟩ := next_byte hz hcell (k := j) (by rw [hl3.out]; exact hlt)
        have hA : rdW 0 (l.take j) < 72057594037927936 := by
          have h2 := rdW_lt (l.take j) (take_bytes hz j) 0 0 (by simp)
          have h3 : 256 ^ (0 + (l.take j).length) ≤ 256 ^ 7 := Nat.pow_le_pow_right (by decide) (by rw [List.length_take]; omega)
          omega
        have hs2 : Hid (rdW 0 (l.take (j + 1)) = rdW 0 (l.take j) * 256 + c.toNat) := by
          show _ = _
          rw [htk, rdW_snoc]
        clear htk hcell hz
        generalize rdW 0 (l.take j) = A at *
        have hor := join8 A c hA hc0 hc1
        obtain ⟨B, hB0⟩ : ∃ B : Nat, B = A * 256 + c.toNat := ⟨_, rfl⟩
        rw [← hB0] at hor hs2
        clear hB0
        go_wp2
        go_round
        case rel => exact ⟨j + 1, by omega, by go_num, by rw [hs2.out]⟩
        case measure => simp [intOf]; omega
    · have hf : Hid (rdW 0 (l.take j) = rdW 0 l) := by
        show _ = _
        rw [List.take_of_length_le (by rw [hl3.out]; omega)]
      generalize rdW 0 (l.take j) = A at *
      go_wp2
      go_ret
      exact ⟨by rw [hl0.out, ← hf.out]; rfl, hc3, (Below.but hb2 _).trans hg3⟩
end Go.Proofs.Ytkmbphgcnppohab
