/-
  flt.Widen and flt.Narrow, and there and back.
-/
import Derived.Test.YtjdceigndleadaaGreatDoorFwid
import Derived.BigQuiet
namespace Go.Proofs.YtjdceigndleadaaGreatDoor
open Go.RowKit
open Go

/-- P7.1: what is widened, or refused. -/
def widenA (n width : Int) : Int × Int := if width = 2 ∧ n < 65536 then (widen2 n, 0) else if width = 4 ∧ n < 4294967296 then (widen4 n, 0) else if width = 8 then (n, 0) else (0, 1)
set_option maxRecDepth 100000 in
set_option maxHeartbeats 2000000 in
theorem widen_any (n width : Int) (hn : 0 ≤ n ∧ n < 18446744073709551616) (w : World) : Calls Tryz.prog 23 #[.int .u64 n, .int .i64 width] w fun e w' => e = .returned (.tuple #[.int .u64 (widenA n width).1, .int .i64 (widenA n width).2]) ∧ Below w.heap.size w w' := by
  obtain ⟨R, hR⟩ : ∃ R, widenA n width = R := ⟨_, rfl⟩
  rw [hR]
  have a0 : Hid (width = 2 ∧ n < 65536 → R = (widen2 n, 0)) := fun h => by rw [← hR]; unfold widenA; rw [if_pos h]
  have a1 : Hid (width = 4 ∧ n < 4294967296 → R = (widen4 n, 0)) := fun h => by rw [← hR]; unfold widenA; rw [if_neg (by omega), if_pos h]
  have a2 : Hid (width = 8 ∧ n < 18446744073709551616 → R = (n, 0)) := fun h => by rw [← hR]; unfold widenA; rw [if_neg (by omega), if_neg (by omega), if_pos h.1]
  have a3 : Hid (¬ (width = 2 ∧ n < 65536) → ¬ (width = 4 ∧ n < 4294967296) → ¬ (width = 8 ∧ n < 18446744073709551616) → R = (0, 1)) := fun h h1 h2 => by rw [← hR]; unfold widenA; rw [if_neg h, if_neg h1, if_neg (by omega)]
  have kF := formats_any
  have hI0 := idx0
  have hI1 := idx1
  have hI2 := idx2
  have hn' : Hid (0 ≤ n ∧ n < 18446744073709551616) := hn
  clear hR hn
  go_enter Tryz.func23, Tryz.ntmps23
  go_wp2_with (go_at_call 25; refine (kF _).mono ?_; rintro e wf ⟨rfl, bf⟩)
  go_loopw [9] (fun iv wr => ∃ k : Nat, k ≤ 3 ∧ iv = .int .i64 k ∧ Hid (1 ≤ k → ¬ (width = 2 ∧ n < 65536)) ∧ Hid (2 ≤ k → ¬ (width = 4 ∧ n < 4294967296)) ∧ Hid (3 ≤ k → ¬ (width = 8 ∧ n < 18446744073709551616)) ∧ Hid (Below w.heap.size w wr)) (fun iv _ => 3 - (intOf iv).toNat)
  case atStart => exact ⟨0, by decide, rfl, (fun h => by omega), (fun h => by omega), (fun h => by omega), bf⟩
  case round =>
    obtain ⟨k, hk, rfl, f1, f2, f3, hbl⟩ := hrel
    have hks : k = 0 ∨ k = 1 ∨ k = 2 ∨ k = 3 := by omega
    rcases hks with rfl | rfl | rfl | rfl
    · by_cases hw : width = 2
      · by_cases hr : n < 65536
        · have hfin := a0.out ⟨hw, hr⟩
          subst hfin
          have kr := room2_any n hn'.out.1 (by have := hn'.out; omega)
          have kw := fwiden2_any n ⟨hn'.out.1, hr⟩
          have hd : decide (n < 65536) = true := by simpa using hr
          rw [hd] at kr
          have he : (((2 : Int)) == width) = true := by rw [hw]; rfl
          clear hd hr hw hk a0 a1 a2 a3 f1 f2 f3
          go_wp2_with (first
            | (go_at_call 41; refine (kr _).mono ?_; rintro e w1 ⟨rfl, b1⟩; have d1 : Below w.heap.size w w1 := (hbl.out.alloc hbl.out.size _).trans (b1.mono (Nat.le_trans hbl.out.size (Nat.le_of_lt (alloc_lt _ _)))); obtain ⟨c0, c1, c2⟩ := ((row3_new wr 34 (.int .i64 2) (.int .i64 5) (.int .i64 10)).kept b1 (alloc_lt _ _)).at)
            | (go_at_call 42; refine (kw _).mono ?_; rintro e w2 ⟨rfl, b2⟩; have d2 : Below w.heap.size w w2 := d1.trans (b2.mono d1.size)))
          go_ret2
          exact ⟨rfl, d2⟩
        · have kr := room2_any n hn'.out.1 (by have := hn'.out; omega)
          have hd : decide (n < 65536) = false := by simpa using hr
          rw [hd] at kr
          have he : (((2 : Int)) == width) = true := by rw [hw]; rfl
          have hx : Hid (¬ (width = 2 ∧ n < 65536)) := fun h => hr h.2
          clear hd hr hw hk
          go_wp2_with (go_at_call 41; refine (kr _).mono ?_; rintro e w1 ⟨rfl, b1⟩; have d1 : Below w.heap.size w w1 := (hbl.out.alloc hbl.out.size _).trans (b1.mono (Nat.le_trans hbl.out.size (Nat.le_of_lt (alloc_lt _ _)))); obtain ⟨c0, c1, c2⟩ := ((row3_new wr 34 (.int .i64 2) (.int .i64 5) (.int .i64 10)).kept b1 (alloc_lt _ _)).at)
          go_roundw
          case rel => exact ⟨1, by decide, by first | rfl | simp, (fun _ => hx.out), (fun h => by omega), (fun h => by omega), d1⟩
          case measure => simp [intOf]
      · have he : (((2 : Int)) == width) = false := by simpa using fun h => hw h.symm
        have hx : Hid (¬ (width = 2 ∧ n < 65536)) := fun h => hw h.1
        clear hw hk
        go_wp2
        go_roundw
        case rel => exact ⟨1, by decide, by first | rfl | simp, (fun _ => hx.out), (fun h => by omega), (fun h => by omega), hbl.out.alloc hbl.out.size _⟩
        case measure => simp [intOf]
    · by_cases hw : width = 4
      · by_cases hr : n < 4294967296
        · have hfin := a1.out ⟨hw, hr⟩
          subst hfin
          have kr := room4_any n hn'.out.1 (by have := hn'.out; omega)
          have kw := fwiden4_any n ⟨hn'.out.1, hr⟩
          have hd : decide (n < 4294967296) = true := by simpa using hr
          rw [hd] at kr
          have he : (((4 : Int)) == width) = true := by rw [hw]; rfl
          clear hd hr hw hk a0 a1 a2 a3 f1 f2 f3
          go_wp2_with (first
            | (go_at_call 41; refine (kr _).mono ?_; rintro e w1 ⟨rfl, b1⟩; have d1 : Below w.heap.size w w1 := (hbl.out.alloc hbl.out.size _).trans (b1.mono (Nat.le_trans hbl.out.size (Nat.le_of_lt (alloc_lt _ _)))); obtain ⟨c0, c1, c2⟩ := ((row3_new wr 34 (.int .i64 4) (.int .i64 8) (.int .i64 23)).kept b1 (alloc_lt _ _)).at)
            | (go_at_call 42; refine (kw _).mono ?_; rintro e w2 ⟨rfl, b2⟩; have d2 : Below w.heap.size w w2 := d1.trans (b2.mono d1.size)))
          go_ret2
          exact ⟨rfl, d2⟩
        · have kr := room4_any n hn'.out.1 (by have := hn'.out; omega)
          have hd : decide (n < 4294967296) = false := by simpa using hr
          rw [hd] at kr
          have he : (((4 : Int)) == width) = true := by rw [hw]; rfl
          have hx : Hid (¬ (width = 4 ∧ n < 4294967296)) := fun h => hr h.2
          clear hd hr hw hk
          go_wp2_with (go_at_call 41; refine (kr _).mono ?_; rintro e w1 ⟨rfl, b1⟩; have d1 : Below w.heap.size w w1 := (hbl.out.alloc hbl.out.size _).trans (b1.mono (Nat.le_trans hbl.out.size (Nat.le_of_lt (alloc_lt _ _)))); obtain ⟨c0, c1, c2⟩ := ((row3_new wr 34 (.int .i64 4) (.int .i64 8) (.int .i64 23)).kept b1 (alloc_lt _ _)).at)
          go_roundw
          case rel => exact ⟨2, by decide, by first | rfl | simp, (fun _ => f1.out (by decide)), (fun _ => hx.out), (fun h => by omega), d1⟩
          case measure => simp [intOf]
      · have he : (((4 : Int)) == width) = false := by simpa using fun h => hw h.symm
        have hx : Hid (¬ (width = 4 ∧ n < 4294967296)) := fun h => hw h.1
        clear hw hk
        go_wp2
        go_roundw
        case rel => exact ⟨2, by decide, by first | rfl | simp, (fun _ => f1.out (by decide)), (fun _ => hx.out), (fun h => by omega), hbl.out.alloc hbl.out.size _⟩
        case measure => simp [intOf]
    · by_cases hw : width = 8
      · by_cases hr : n < 18446744073709551616
        · have hfin := a2.out ⟨hw, hr⟩
          subst hfin
          have kr := room8_any n hn'.out.1 (by have := hn'.out; omega)
          have kw := fwiden8_any n 
          have hd : decide (n < 18446744073709551616) = true := by simpa using hr
          rw [hd] at kr
          have he : (((8 : Int)) == width) = true := by rw [hw]; rfl
          clear hd hr hw hk a0 a1 a2 a3 f1 f2 f3
          go_wp2_with (first
            | (go_at_call 41; refine (kr _).mono ?_; rintro e w1 ⟨rfl, b1⟩; have d1 : Below w.heap.size w w1 := (hbl.out.alloc hbl.out.size _).trans (b1.mono (Nat.le_trans hbl.out.size (Nat.le_of_lt (alloc_lt _ _)))); obtain ⟨c0, c1, c2⟩ := ((row3_new wr 34 (.int .i64 8) (.int .i64 11) (.int .i64 52)).kept b1 (alloc_lt _ _)).at)
            | (go_at_call 42; refine (kw _).mono ?_; rintro e w2 ⟨rfl, b2⟩; have d2 : Below w.heap.size w w2 := d1.trans (b2.mono d1.size)))
          go_ret2
          exact ⟨rfl, d2⟩
        · have kr := room8_any n hn'.out.1 (by have := hn'.out; omega)
          have hd : decide (n < 18446744073709551616) = false := by simpa using hr
          rw [hd] at kr
          have he : (((8 : Int)) == width) = true := by rw [hw]; rfl
          have hx : Hid (¬ (width = 8 ∧ n < 18446744073709551616)) := fun h => hr h.2
          clear hd hr hw hk
          go_wp2_with (go_at_call 41; refine (kr _).mono ?_; rintro e w1 ⟨rfl, b1⟩; have d1 : Below w.heap.size w w1 := (hbl.out.alloc hbl.out.size _).trans (b1.mono (Nat.le_trans hbl.out.size (Nat.le_of_lt (alloc_lt _ _)))); obtain ⟨c0, c1, c2⟩ := ((row3_new wr 34 (.int .i64 8) (.int .i64 11) (.int .i64 52)).kept b1 (alloc_lt _ _)).at)
          go_roundw
          case rel => exact ⟨3, by decide, by first | rfl | simp, (fun _ => f1.out (by decide)), (fun _ => f2.out (by decide)), (fun _ => hx.out), d1⟩
          case measure => simp [intOf]
      · have he : (((8 : Int)) == width) = false := by simpa using fun h => hw h.symm
        have hx : Hid (¬ (width = 8 ∧ n < 18446744073709551616)) := fun h => hw h.1
        clear hw hk
        go_wp2
        go_roundw
        case rel => exact ⟨3, by decide, by first | rfl | simp, (fun _ => f1.out (by decide)), (fun _ => f2.out (by decide)), (fun _ => hx.out), hbl.out.alloc hbl.out.size _⟩
        case measure => simp [intOf]
    · have hfin := a3.out (f1.out (by decide)) (f2.out (by decide)) (f3.out (by decide))
      subst hfin
      clear hk a0 a1 a2 a3 f1 f2 f3
      go_wp2
      go_ret2
      exact ⟨rfl, hbl.out⟩
/-- P7.2: the bits of the least format, and its bytes. -/
def narrowA (n : Int) : Int × Int := if widen2 (near2 n) = n then (near2 n, 2) else if widen4 (near4 n) = n then (near4 n, 4) else (n, 8)
/-- The formats in memory. -/
def Nine (w : World) (g : Nat) : Prop := w.heap[g]? = some (.cells #[.int .i64 2, .int .i64 5, .int .i64 10, .int .i64 4, .int .i64 8, .int .i64 23, .int .i64 8, .int .i64 11, .int .i64 52] 54 (0, 0))
theorem Nine.lt {w : World} {g : Nat} (h : Nine w g) : g < w.heap.size := (Array.getElem?_eq_some_iff.1 h).1
theorem Nine.kept {w w' : World} {g B : Nat} (h : Nine w g) (hb : Below B w w') (hB : g < B) : Nine w' g := by
  unfold Nine at h ⊢
  rw [hb.block g hB]; exact h
theorem nine_new (w : World) : Nine (w.alloc (.cells #[.int .i64 2, .int .i64 5, .int .i64 10, .int .i64 4, .int .i64 8, .int .i64 23, .int .i64 8, .int .i64 11, .int .i64 52] 54)) w.heap.size := heap_alloc_new w _
theorem Nine.at {w : World} {g : Nat} (h : Nine w g) : w.cell? ⟨g, 0, none⟩ = some (.int .i64 2) ∧ w.cell? ⟨g, 1, none⟩ = some (.int .i64 5) ∧ w.cell? ⟨g, 2, none⟩ = some (.int .i64 10) ∧ w.cell? ⟨g, 3, none⟩ = some (.int .i64 4) ∧ w.cell? ⟨g, 4, none⟩ = some (.int .i64 8) ∧ w.cell? ⟨g, 5, none⟩ = some (.int .i64 23) := by
  refine ⟨?_, ?_, ?_, ?_, ?_, ?_⟩ <;> exact cell_row h _
set_option maxRecDepth 100000 in
set_option maxHeartbeats 2000000 in
theorem narrow_any (n : Int) (hn : 0 ≤ n ∧ n < 18446744073709551616) (w : World) : Calls Tryz.prog 24 #[.int .u64 n] w fun e w' => e = .returned (.tuple #[.int .u64 (narrowA n).1, .int .i64 (narrowA n).2]) ∧ Below w.heap.size w w' := by
  obtain ⟨R, hR⟩ : ∃ R, narrowA n = R := ⟨_, rfl⟩
  rw [hR]
  have a0 : Hid (widen2 (near2 n) = n → R = (near2 n, 2)) := fun h => by rw [← hR]; unfold narrowA; rw [if_pos h]
  have a1 : Hid (¬ widen2 (near2 n) = n → widen4 (near4 n) = n → R = (near4 n, 4)) := fun h h1 => by rw [← hR]; unfold narrowA; rw [if_neg h, if_pos h1]
  have a2 : Hid (¬ widen2 (near2 n) = n → ¬ widen4 (near4 n) = n → R = (n, 8)) := fun h h1 => by rw [← hR]; unfold narrowA; rw [if_neg h, if_neg h1]
  have kF := formats_any
  have k0 := wide_any
  have fW := fldW0
  have kn2 := nearest2_any n hn
  have kw2 := fwiden2_any (near2 n) (near_room2 hn)
  have kn4 := nearest4_any n hn
  have kw4 := fwiden4_any (near4 n) (near_room4 hn)
  clear hR hn
  obtain ⟨N2, h2⟩ : ∃ N, near2 n = N := ⟨_, rfl⟩
  obtain ⟨N4, h4⟩ : ∃ N, near4 n = N := ⟨_, rfl⟩
  rw [h2] at a0 a1 a2 kn2 kw2
  rw [h4] at a1 a2 kn4 kw4
  clear h2 h4
  generalize widen2 N2 = W2 at *
  generalize widen4 N4 = W4 at *
  go_enter Tryz.func24, Tryz.ntmps24
  go_wp2_with (go_at_call 25; refine (kF _).mono ?_; rintro e wf ⟨rfl, bf⟩)
  have n0 := nine_new wf
  have d0 := bf.alloc bf.size (.cells #[.int .i64 2, .int .i64 5, .int .i64 10, .int .i64 4, .int .i64 8, .int .i64 23, .int .i64 8, .int .i64 11, .int .i64 52] 54)
  go_loopw [11] (fun iv wr => ∃ k : Nat, k ≤ 2 ∧ iv = .int .i64 k ∧ Hid (1 ≤ k → ¬ W2 = n) ∧ Hid (2 ≤ k → ¬ W4 = n) ∧ Hid (Nine wr wf.heap.size) ∧ Hid (Below w.heap.size w wr)) (fun iv _ => 2 - (intOf iv).toNat)
  case atStart => exact ⟨0, by decide, rfl, (fun h => by omega), (fun h => by omega), n0, d0⟩
  case round =>
    obtain ⟨k, hk, rfl, f1, f2, hn, hbl⟩ := hrel
    clear n0 d0
    have hks : k = 0 ∨ k = 1 ∨ k = 2 := by omega
    rcases hks with rfl | rfl | rfl
    · obtain ⟨c0, c1, c2, c3, c4, c5⟩ := hn.out.at
      by_cases hw : W2 = n
      · have hfin := a0.out hw
        subst hfin
        have he : (W2 == n) = true := by simpa using hw
        clear hw hk a0 a1 a2 f1 f2
        go_wp2_with (first
          | (go_at_call 43; refine (kn2 _).mono ?_; rintro e w1 ⟨rfl, b1⟩; have d1 : Below w.heap.size w w1 := (hbl.out.alloc hbl.out.size _).trans (b1.mono (Nat.le_trans hbl.out.size (Nat.le_of_lt (alloc_lt _ _)))); have r1 := (row3_new wr 34 (.int .i64 2) (.int .i64 5) (.int .i64 10)).kept b1 (alloc_lt _ _); obtain ⟨x0, x1, x2⟩ := r1.at)
          | (go_at_call 42; refine (kw2 _).mono ?_; rintro e w2 ⟨rfl, b2⟩; have d2 : Below w.heap.size w w2 := d1.trans (b2.mono d1.size); obtain ⟨y0, y1, y2⟩ := (r1.kept b2 r1.lt).at))
        go_quiet (fail)
        go_wp2
        go_ret2
        exact ⟨rfl, ⟨d2.os, d2.tape, d2.output, d2.size, d2.block⟩⟩
      · have he : (W2 == n) = false := by simpa using hw
        have hx : Hid (¬ W2 = n) := hw
        clear hw hk
        go_wp2_with (first
          | (go_at_call 43; refine (kn2 _).mono ?_; rintro e w1 ⟨rfl, b1⟩; have d1 : Below w.heap.size w w1 := (hbl.out.alloc hbl.out.size _).trans (b1.mono (Nat.le_trans hbl.out.size (Nat.le_of_lt (alloc_lt _ _)))); have r1 := (row3_new wr 34 (.int .i64 2) (.int .i64 5) (.int .i64 10)).kept b1 (alloc_lt _ _); have m1 : Nine w1 wf.heap.size := (hn.out.kept (alloc_below wr _) hn.out.lt).kept b1 (Nat.lt_trans hn.out.lt (alloc_lt _ _)); obtain ⟨x0, x1, x2⟩ := r1.at)
          | (go_at_call 42; refine (kw2 _).mono ?_; rintro e w2 ⟨rfl, b2⟩; have d2 : Below w.heap.size w w2 := d1.trans (b2.mono d1.size); have m2 := m1.kept b2 m1.lt))
        go_roundw
        case rel => exact ⟨1, by decide, by first | rfl | simp, (fun _ => hx.out), (fun h => by omega), m2, d2⟩
        case measure => simp [intOf]
    · obtain ⟨c0, c1, c2, c3, c4, c5⟩ := hn.out.at
      by_cases hw : W4 = n
      · have hfin := a1.out (f1.out (by decide)) hw
        subst hfin
        have he : (W4 == n) = true := by simpa using hw
        clear hw hk a0 a1 a2 f1 f2
        go_wp2_with (first
          | (go_at_call 43; refine (kn4 _).mono ?_; rintro e w1 ⟨rfl, b1⟩; have d1 : Below w.heap.size w w1 := (hbl.out.alloc hbl.out.size _).trans (b1.mono (Nat.le_trans hbl.out.size (Nat.le_of_lt (alloc_lt _ _)))); have r1 := (row3_new wr 34 (.int .i64 4) (.int .i64 8) (.int .i64 23)).kept b1 (alloc_lt _ _); obtain ⟨x0, x1, x2⟩ := r1.at)
          | (go_at_call 42; refine (kw4 _).mono ?_; rintro e w2 ⟨rfl, b2⟩; have d2 : Below w.heap.size w w2 := d1.trans (b2.mono d1.size); obtain ⟨y0, y1, y2⟩ := (r1.kept b2 r1.lt).at))
        go_quiet (fail)
        go_wp2
        go_ret2
        exact ⟨rfl, ⟨d2.os, d2.tape, d2.output, d2.size, d2.block⟩⟩
      · have he : (W4 == n) = false := by simpa using hw
        have hx : Hid (¬ W4 = n) := hw
        clear hw hk
        go_wp2_with (first
          | (go_at_call 43; refine (kn4 _).mono ?_; rintro e w1 ⟨rfl, b1⟩; have d1 : Below w.heap.size w w1 := (hbl.out.alloc hbl.out.size _).trans (b1.mono (Nat.le_trans hbl.out.size (Nat.le_of_lt (alloc_lt _ _)))); have r1 := (row3_new wr 34 (.int .i64 4) (.int .i64 8) (.int .i64 23)).kept b1 (alloc_lt _ _); have m1 : Nine w1 wf.heap.size := (hn.out.kept (alloc_below wr _) hn.out.lt).kept b1 (Nat.lt_trans hn.out.lt (alloc_lt _ _)); obtain ⟨x0, x1, x2⟩ := r1.at)
          | (go_at_call 42; refine (kw4 _).mono ?_; rintro e w2 ⟨rfl, b2⟩; have d2 : Below w.heap.size w w2 := d1.trans (b2.mono d1.size); have m2 := m1.kept b2 m1.lt))
        go_roundw
        case rel => exact ⟨2, by decide, by first | rfl | simp, (fun _ => f1.out (by decide)), (fun _ => hx.out), m2, d2⟩
        case measure => simp [intOf]
    · have hfin := a2.out (f1.out (by decide)) (f2.out (by decide))
      subst hfin
      clear hk a0 a1 a2 f1 f2
      go_wp2_with (go_at_call 11; refine (k0 _).mono ?_; rintro e w1 ⟨rfl, b1⟩; have d1 : Below w.heap.size w w1 := hbl.out.trans (b1.mono hbl.out.size))
      go_ret2
      exact ⟨rfl, d1⟩
theorem back_wide {n : Int} (h : 0 ≤ n ∧ n < 18446744073709551616) : widenA (narrowA n).1 (narrowA n).2 = (n, 0) ∧ 0 ≤ (narrowA n).1 ∧ (narrowA n).1 < 18446744073709551616 := by
  unfold narrowA
  split
  · rename_i h1
    have h2 := near_room2 h
    refine ⟨?_, h2.1, by show near2 n < _; omega⟩
    show widenA (near2 n) 2 = _
    unfold widenA
    rw [if_pos ⟨rfl, h2.2⟩, h1]
  · split
    · rename_i h1
      have h2 := near_room4 h
      refine ⟨?_, h2.1, by show near4 n < _; omega⟩
      show widenA (near4 n) 4 = _
      unfold widenA
      rw [if_neg (by omega), if_pos ⟨rfl, h2.2⟩, h1]
    · refine ⟨?_, h.1, h.2⟩
      show widenA n 8 = _
      unfold widenA
      rw [if_neg (by omega), if_neg (by omega), if_pos rfl]
theorem back_half {c : Int} (h : 0 ≤ c ∧ c < 65536) : widenA c 2 = (widen2 c, 0) ∧ narrowA (widen2 c) = (c, 2) := by
  refine ⟨by unfold widenA; rw [if_pos ⟨rfl, h.2⟩], ?_⟩
  unfold narrowA
  rw [near_widen2 h, if_pos rfl]
theorem back_single {c : Int} (h : 0 ≤ c ∧ c < 4294967296) : widenA c 4 = (widen4 c, 0) ∧ (narrowA (widen4 c)).2 ≤ 4 := by
  refine ⟨by unfold widenA; rw [if_neg (by omega), if_pos ⟨rfl, h.2⟩], ?_⟩
  unfold narrowA
  split
  · show (2 : Int) ≤ 4; decide
  · rw [near_widen4 h, if_pos rfl]; show (4 : Int) ≤ 4; decide
end Go.Proofs.YtjdceigndleadaaGreatDoor
