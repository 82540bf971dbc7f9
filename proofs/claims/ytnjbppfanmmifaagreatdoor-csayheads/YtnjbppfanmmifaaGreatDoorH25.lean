/-
  The nearest bits: each format's function as a whole.
  To narrow: flt.Narrow.
-/
import Derived.Test.YtnjbppfanmmifaaGreatDoorH7
import Derived.Test.YtnjbppfanmmifaaGreatDoorH23
import Derived.Test.YtnjbppfanmmifaaGreatDoorH24
import Derived.Test.YtnjbppfanmmifaaGreatDoorH8
import Derived.BigQuiet
namespace Go.Proofs.YtnjbppfanmmifaaGreatDoor
open Go.RowKit
set_option linter.unusedVariables false
theorem nearest2_any (n : Int) (h : 0 ≤ n ∧ n < 18446744073709551616) (w : World) : Calls Tryz.prog 153 #[.agg #[.int .i64 2, .int .i64 5, .int .i64 10], .int .u64 n] w fun e w' => e = .returned (.int .u64 (near2 n)) ∧ Below w.heap.size w w' := by
  have kS := fun w => split8_any n h.1 (by omega) w
  unfold near2
  have hS : 0 ≤ n / 9223372036854775808 ∧ n / 9223372036854775808 ≤ 1 := by omega
  have hX : 0 ≤ n / 4503599627370496 % 2048 ∧ n / 4503599627370496 % 2048 < 2048 := by omega
  have hG : 0 ≤ n % 4503599627370496 ∧ n % 4503599627370496 < 4503599627370496 := by omega
  generalize n / 9223372036854775808 = S at *
  generalize n / 4503599627370496 % 2048 = X at *
  generalize n % 4503599627370496 = G at *
  have hshl : Op.shift .shr .u64 G .u64 42 = pure (.int .u64 (G / 4398046511104)) := shr_any G 42 (by omega) (by omega) (by decide)
  unfold nr2
  by_cases h1 : 1008 < X
  · rw [if_pos h1]
    exact nr2_all S X G n hS hX hG _ G 42 _ (fun _ => ⟨rfl, rfl, rfl⟩) (fun h _ => False.elim (by omega)) (fun h => False.elim (by omega)) hshl (by omega) (by omega) w kS
  · rw [if_neg h1]
    by_cases h2 : X = 0
    · rw [if_neg (by simpa using h2)]
      exact nr2_all S X G n hS hX hG X G 42 _ (fun h => absurd h h1) (fun _ h => absurd h2 h) (fun _ => ⟨rfl, rfl, rfl⟩) hshl (by omega) (by omega) w kS
    · rw [if_pos h2]
      exact nr2_all S X G n hS hX hG 0 (G + 4503599627370496) (1051 - X) _ (fun h => absurd h h1) (fun _ _ => ⟨rfl, rfl, rfl⟩) (fun h => absurd h h2) (shr_any _ _ (by omega) (by omega) (by omega)) (by decide) (near_q2 hG (by omega)) w kS
theorem nearest4_any (n : Int) (h : 0 ≤ n ∧ n < 18446744073709551616) (w : World) : Calls Tryz.prog 153 #[.agg #[.int .i64 4, .int .i64 8, .int .i64 23], .int .u64 n] w fun e w' => e = .returned (.int .u64 (near4 n)) ∧ Below w.heap.size w w' := by
  have kS := fun w => split8_any n h.1 (by omega) w
  unfold near4
  have hS : 0 ≤ n / 9223372036854775808 ∧ n / 9223372036854775808 ≤ 1 := by omega
  have hX : 0 ≤ n / 4503599627370496 % 2048 ∧ n / 4503599627370496 % 2048 < 2048 := by omega
  have hG : 0 ≤ n % 4503599627370496 ∧ n % 4503599627370496 < 4503599627370496 := by omega
  generalize n / 9223372036854775808 = S at *
  generalize n / 4503599627370496 % 2048 = X at *
  generalize n % 4503599627370496 = G at *
  have hshl : Op.shift .shr .u64 G .u64 29 = pure (.int .u64 (G / 536870912)) := shr_any G 29 (by omega) (by omega) (by decide)
  unfold nr4
  by_cases h1 : 896 < X
  · rw [if_pos h1]
    exact nr4_all S X G n hS hX hG _ G 29 _ (fun _ => ⟨rfl, rfl, rfl⟩) (fun h _ => False.elim (by omega)) (fun h => False.elim (by omega)) hshl (by omega) (by omega) w kS
  · rw [if_neg h1]
    by_cases h2 : X = 0
    · rw [if_neg (by simpa using h2)]
      exact nr4_all S X G n hS hX hG X G 29 _ (fun h => absurd h h1) (fun _ h => absurd h2 h) (fun _ => ⟨rfl, rfl, rfl⟩) hshl (by omega) (by omega) w kS
    · rw [if_pos h2]
      exact nr4_all S X G n hS hX hG 0 (G + 4503599627370496) (926 - X) _ (fun h => absurd h h1) (fun _ _ => ⟨rfl, rfl, rfl⟩) (fun h => absurd h h2) (shr_any _ _ (by omega) (by omega) (by omega)) (by decide) (near_q4 hG (by omega)) w kS
end Go.Proofs.YtnjbppfanmmifaaGreatDoor
namespace Go.Proofs.YtnjbppfanmmifaaGreatDoor
open Go.RowKit

/-- P7.2: the bits of the least format, and its bytes. -/
def narrowA (n : Int) : Int × Int := if widen2 (near2 n) = n then (near2 n, 2) else if widen4 (near4 n) = n then (near4 n, 4) else (n, 8)
/-- The formats in memory. -/
def NineF (w : World) (g : Nat) : Prop := w.heap[g]? = some (.cells #[.int .i64 2, .int .i64 5, .int .i64 10, .int .i64 4, .int .i64 8, .int .i64 23, .int .i64 8, .int .i64 11, .int .i64 52] 150 (0, 0))
theorem NineF.lt {w : World} {g : Nat} (h : NineF w g) : g < w.heap.size := (Array.getElem?_eq_some_iff.1 h).1
theorem NineF.kept {w w' : World} {g B : Nat} (h : NineF w g) (hb : Below B w w') (hB : g < B) : NineF w' g := by
  unfold NineF at h ⊢
  rw [hb.block g hB]; exact h
theorem nineF_new (w : World) : NineF (w.alloc (.cells #[.int .i64 2, .int .i64 5, .int .i64 10, .int .i64 4, .int .i64 8, .int .i64 23, .int .i64 8, .int .i64 11, .int .i64 52] 150)) w.heap.size := heap_alloc_new w _
theorem NineF.at {w : World} {g : Nat} (h : NineF w g) : w.cell? ⟨g, 0, none⟩ = some (.int .i64 2) ∧ w.cell? ⟨g, 1, none⟩ = some (.int .i64 5) ∧ w.cell? ⟨g, 2, none⟩ = some (.int .i64 10) ∧ w.cell? ⟨g, 3, none⟩ = some (.int .i64 4) ∧ w.cell? ⟨g, 4, none⟩ = some (.int .i64 8) ∧ w.cell? ⟨g, 5, none⟩ = some (.int .i64 23) := by
  refine ⟨?_, ?_, ?_, ?_, ?_, ?_⟩ <;> exact cell_row h _
set_option maxRecDepth 100000 in
set_option maxHeartbeats 2000000 in
theorem narrow_any (n : Int) (hn : 0 ≤ n ∧ n < 18446744073709551616) (w : World) : Calls Tryz.prog 112 #[.int .u64 n] w fun e w' => e = .returned (.tuple #[.int .u64 (narrowA n).1, .int .i64 (narrowA n).2]) ∧ Below w.heap.size w w' := by
  obtain ⟨R, hR⟩ : ∃ R, narrowA n = R := ⟨_, rfl⟩
  rw [hR]
  have a0 : Hid (widen2 (near2 n) = n → R = (near2 n, 2)) := fun h => by rw [← hR]; unfold narrowA; rw [if_pos h]
  have a1 : Hid (¬ widen2 (near2 n) = n → widen4 (near4 n) = n → R = (near4 n, 4)) := fun h h1 => by rw [← hR]; unfold narrowA; rw [if_neg h, if_pos h1]
  have a2 : Hid (¬ widen2 (near2 n) = n → ¬ widen4 (near4 n) = n → R = (n, 8)) := fun h h1 => by rw [← hR]; unfold narrowA; rw [if_neg h, if_neg h1]
  have kF := formats_any
  have k0 := wide_any
  have fW := fldW0
  have kn2 := nearest2_any n hn
  have kw2 := fwiden2_any (near2 n) (near_room2 hn)
  have kn4 := nearest4_any n hn
  have kw4 := fwiden4_any (near4 n) (near_room4 hn)
  clear hR hn
  obtain ⟨N2, h2⟩ : ∃ N, near2 n = N := ⟨_, rfl⟩
  obtain ⟨N4, h4⟩ : ∃ N, near4 n = N := ⟨_, rfl⟩
  rw [h2] at a0 a1 a2 kn2 kw2
  rw [h4] at a1 a2 kn4 kw4
  clear h2 h4
  generalize widen2 N2 = W2 at *
  generalize widen4 N4 = W4 at *
  go_enter Tryz.func112, Tryz.ntmps112
  go_wp2_with (go_at_call 152; refine (kF _).mono ?_; rintro e wf ⟨rfl, bf⟩)
  have n0 := nineF_new wf
  have d0 := bf.alloc bf.size (.cells #[.int .i64 2, .int .i64 5, .int .i64 10, .int .i64 4, .int .i64 8, .int .i64 23, .int .i64 8, .int .i64 11, .int .i64 52] 150)
  go_loopw [11] (fun iv wr => ∃ k : Nat, k ≤ 2 ∧ iv = .int .i64 k ∧ Hid (1 ≤ k → ¬ W2 = n) ∧ Hid (2 ≤ k → ¬ W4 = n) ∧ Hid (NineF wr wf.heap.size) ∧ Hid (Below w.heap.size w wr)) (fun iv _ => 2 - (intOf iv).toNat)
  case atStart => exact ⟨0, by decide, rfl, (fun h => by omega), (fun h => by omega), n0, d0⟩
  case round =>
    obtain ⟨k, hk, rfl, f1, f2, hn, hbl⟩ := hrel
    clear n0 d0
    have hks : k = 0 ∨ k = 1 ∨ k = 2 := by omega
    rcases hks with rfl | rfl | rfl
    · obtain ⟨c0, c1, c2, c3, c4, c5⟩ := hn.out.at
      by_cases hw : W2 = n
      · have hfin := a0.out hw
        subst hfin
        have he : (W2 == n) = true := by simpa using hw
        clear hw hk a0 a1 a2 f1 f2
        go_wp2_with (first
          | (go_at_call 153; refine (kn2 _).mono ?_; rintro e w1 ⟨rfl, b1⟩; have d1 : Below w.heap.size w w1 := (hbl.out.alloc hbl.out.size _).trans (b1.mono (Nat.le_trans hbl.out.size (Nat.le_of_lt (alloc_lt _ _)))); have r1 := (row3_new wr 149 (.int .i64 2) (.int .i64 5) (.int .i64 10)).kept b1 (alloc_lt _ _); obtain ⟨x0, x1, x2⟩ := r1.at)
          | (go_at_call 154; refine (kw2 _).mono ?_; rintro e w2 ⟨rfl, b2⟩; have d2 : Below w.heap.size w w2 := d1.trans (b2.mono d1.size); obtain ⟨y0, y1, y2⟩ := (r1.kept b2 r1.lt).at))
        go_quiet (fail)
        go_wp2
        go_ret2
        exact ⟨rfl, ⟨d2.os, d2.tape, d2.output, d2.size, d2.block⟩⟩
      · have he : (W2 == n) = false := by simpa using hw
        have hx : Hid (¬ W2 = n) := hw
        clear hw hk
        go_wp2_with (first
          | (go_at_call 153; refine (kn2 _).mono ?_; rintro e w1 ⟨rfl, b1⟩; have d1 : Below w.heap.size w w1 := (hbl.out.alloc hbl.out.size _).trans (b1.mono (Nat.le_trans hbl.out.size (Nat.le_of_lt (alloc_lt _ _)))); have r1 := (row3_new wr 149 (.int .i64 2) (.int .i64 5) (.int .i64 10)).kept b1 (alloc_lt _ _); have m1 : NineF w1 wf.heap.size := (hn.out.kept (alloc_below wr _) hn.out.lt).kept b1 (Nat.lt_trans hn.out.lt (alloc_lt _ _)); obtain ⟨x0, x1, x2⟩ := r1.at)
          | (go_at_call 154; refine (kw2 _).mono ?_; rintro e w2 ⟨rfl, b2⟩; have d2 : Below w.heap.size w w2 := d1.trans (b2.mono d1.size); have m2 := m1.kept b2 m1.lt))
        go_roundw
        case rel => exact ⟨1, by decide, by first | rfl | simp, (fun _ => hx.out), (fun h => by omega), m2, d2⟩
        case measure => simp [intOf]
    · obtain ⟨c0, c1, c2, c3, c4, c5⟩ := hn.out.at
      by_cases hw : W4 = n
      · have hfin := a1.out (f1.out (by decide)) hw
        subst hfin
        have he : (W4 == n) = true := by simpa using hw
        clear hw hk a0 a1 a2 f1 f2
        go_wp2_with (first
          | (go_at_call 153; refine (kn4 _).mono ?_; rintro e w1 ⟨rfl, b1⟩; have d1 : Below w.heap.size w w1 := (hbl.out.alloc hbl.out.size _).trans (b1.mono (Nat.le_trans hbl.out.size (Nat.le_of_lt (alloc_lt _ _)))); have r1 := (row3_new wr 149 (.int .i64 4) (.int .i64 8) (.int .i64 23)).kept b1 (alloc_lt _ _); obtain ⟨x0, x1, x2⟩ := r1.at)
          | (go_at_call 154; refine (kw4 _).mono ?_; rintro e w2 ⟨rfl, b2⟩; have d2 : Below w.heap.size w w2 := d1.trans (b2.mono d1.size); obtain ⟨y0, y1, y2⟩ := (r1.kept b2 r1.lt).at))
        go_quiet (fail)
        go_wp2
        go_ret2
        exact ⟨rfl, ⟨d2.os, d2.tape, d2.output, d2.size, d2.block⟩⟩
      · have he : (W4 == n) = false := by simpa using hw
        have hx : Hid (¬ W4 = n) := hw
        clear hw hk
        go_wp2_with (first
          | (go_at_call 153; refine (kn4 _).mono ?_; rintro e w1 ⟨rfl, b1⟩; have d1 : Below w.heap.size w w1 := (hbl.out.alloc hbl.out.size _).trans (b1.mono (Nat.le_trans hbl.out.size (Nat.le_of_lt (alloc_lt _ _)))); have r1 := (row3_new wr 149 (.int .i64 4) (.int .i64 8) (.int .i64 23)).kept b1 (alloc_lt _ _); have m1 : NineF w1 wf.heap.size := (hn.out.kept (alloc_below wr _) hn.out.lt).kept b1 (Nat.lt_trans hn.out.lt (alloc_lt _ _)); obtain ⟨x0, x1, x2⟩ := r1.at)
          | (go_at_call 154; refine (kw4 _).mono ?_; rintro e w2 ⟨rfl, b2⟩; have d2 : Below w.heap.size w w2 := d1.trans (b2.mono d1.size); have m2 := m1.kept b2 m1.lt))
        go_roundw
        case rel => exact ⟨2, by decide, by first | rfl | simp, (fun _ => f1.out (by decide)), (fun _ => hx.out), m2, d2⟩
        case measure => simp [intOf]
    · have hfin := a2.out (f1.out (by decide)) (f2.out (by decide))
      subst hfin
      clear hk a0 a1 a2 f1 f2
      go_wp2_with (go_at_call 155; refine (k0 _).mono ?_; rintro e w1 ⟨rfl, b1⟩; have d1 : Below w.heap.size w w1 := hbl.out.trans (b1.mono hbl.out.size))
      go_ret2
      exact ⟨rfl, d1⟩
end Go.Proofs.YtnjbppfanmmifaaGreatDoor
