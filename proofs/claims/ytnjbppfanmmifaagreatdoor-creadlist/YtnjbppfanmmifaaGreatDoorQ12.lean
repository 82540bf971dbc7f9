/-
  To widen: flt.Widen, every width.
  CBOR items as plain data: an item's beginning, the bytes of a run, the node of a tag, and the tree of an item, or its fault.
  CBOR items as plain data: what is read hangs on the bytes read alone.
  CBOR items as plain data: the bounds of what is read, and that it hangs on its own bytes alone, wherever they stand.
-/
import Derived.Test.YtnjbppfanmmifaaGreatDoorQ8
import Derived.Test.YtnjbppfanmmifaaGreatDoorQ10
import Derived.Test.YtnjbppfanmmifaaGreatDoorQ11
import Derived.Test.YtnjbppfanmmifaaGreatDoorQ6
import Derived.Test.YtnjbppfanmmifaaGreatDoorQ4
namespace Go.Proofs.YtnjbppfanmmifaaGreatDoor
open Go.RowKit
set_option linter.unusedVariables false

set_option maxRecDepth 100000 in
theorem fwiden8_any (n : Int) (w : World) : Calls Tryz.prog 154 #[.agg #[.int .i64 8, .int .i64 11, .int .i64 52], .int .u64 n] w fun e w' => e = .returned (.int .u64 n) ∧ Below w.heap.size w w' := by
  have k0 := wide_any
  have r0 := row3_new w 149 (.int .i64 8) (.int .i64 11) (.int .i64 52)
  go_enter Tryz.func154, Tryz.ntmps154
  go_wp2
  go_region_held3 (fun wx => wx.cell? ⟨w.heap.size, 0, none⟩ = some (.int .i64 8) ∧ wx.cell? ⟨w.heap.size, 1, none⟩ = some (.int .i64 11) ∧ wx.cell? ⟨w.heap.size, 2, none⟩ = some (.int .i64 52)) (first | exact r0.at | exact q1.at) (
    (go_at_call 155; refine (k0 _).mono ?_; rintro e w1 ⟨rfl, b1⟩; have d1 := box_drew b1; have q1 := Row3.kept (w := (w.alloc (.cells #[.int .i64 8, .int .i64 11, .int .i64 52] 149)).drew) r0 b1 (alloc_lt _ _)))
  go_wp2
  go_ret
  exact ⟨rfl, d1⟩
theorem fwiden2_any (n : Int) (h : 0 ≤ n ∧ n < 65536) (w : World) : Calls Tryz.prog 154 #[.agg #[.int .i64 2, .int .i64 5, .int .i64 10], .int .u64 n] w fun e w' => e = .returned (.int .u64 (widen2 n)) ∧ Below w.heap.size w w' := by
  obtain ⟨hS, hX, hG, -⟩ := split_n2 h
  have kS := fun w => split2_any n h.1 (by omega) w
  unfold widen2
  generalize n / 32768 = S at *
  generalize n / 1024 % 32 = X at *
  generalize n % 1024 = G at *
  unfold wd2
  by_cases h1 : X = 31
  · rw [if_pos h1]
    exact fw2_all S X G n hS hX hG 2047 (G * 4398046511104) 0 0 (fun _ => ⟨rfl, rfl⟩) (fun h => absurd h1 h) (fun h _ => False.elim (by omega)) (fun h _ => False.elim (by omega)) (by decide) (by omega) w kS
  · rw [if_neg h1]
    by_cases h2 : X = 0
    · rw [if_neg (by simpa using h2)]
      by_cases h3 : G = 0
      · rw [if_neg (by simpa using h3)]
        exact fw2_all S X G n hS hX hG X (G * 4398046511104) 0 0 (fun h => absurd h h1) (fun _ h => absurd h2 h) (fun _ h => absurd h3 h) (fun _ _ => ⟨rfl, rfl⟩) (by omega) (by omega) w kS
      · rw [if_pos h3]
        obtain ⟨x, y, z⟩ := up_low2 hG h3
        obtain ⟨d, e, f, g⟩ := lift_facts x y
        exact fw2_all S X G n hS hX hG _ _ (liftN (G * 4398046511104)) (lifted (G * 4398046511104)) (fun h => absurd h h1) (fun _ h => absurd h2 h) (fun _ _ => ⟨⟨rfl, rfl⟩, d, ⟨e, by omega⟩, rfl, f, g⟩) (fun _ h => absurd h h3) (by omega) (by omega) w kS
    · rw [if_pos h2]
      exact fw2_all S X G n hS hX hG (X + 1008) (G * 4398046511104) 0 0 (fun h => absurd h h1) (fun _ _ => ⟨rfl, rfl⟩) (fun h _ => absurd h h2) (fun h _ => absurd h h2) (by omega) (by omega) w kS
theorem fwiden4_any (n : Int) (h : 0 ≤ n ∧ n < 4294967296) (w : World) : Calls Tryz.prog 154 #[.agg #[.int .i64 4, .int .i64 8, .int .i64 23], .int .u64 n] w fun e w' => e = .returned (.int .u64 (widen4 n)) ∧ Below w.heap.size w w' := by
  obtain ⟨hS, hX, hG, -⟩ := split_n4 h
  have kS := fun w => split4_any n h.1 (by omega) w
  unfold widen4
  generalize n / 2147483648 = S at *
  generalize n / 8388608 % 256 = X at *
  generalize n % 8388608 = G at *
  unfold wd4
  by_cases h1 : X = 255
  · rw [if_pos h1]
    exact fw4_all S X G n hS hX hG 2047 (G * 536870912) 0 0 (fun _ => ⟨rfl, rfl⟩) (fun h => absurd h1 h) (fun h _ => False.elim (by omega)) (fun h _ => False.elim (by omega)) (by decide) (by omega) w kS
  · rw [if_neg h1]
    by_cases h2 : X = 0
    · rw [if_neg (by simpa using h2)]
      by_cases h3 : G = 0
      · rw [if_neg (by simpa using h3)]
        exact fw4_all S X G n hS hX hG X (G * 536870912) 0 0 (fun h => absurd h h1) (fun _ h => absurd h2 h) (fun _ h => absurd h3 h) (fun _ _ => ⟨rfl, rfl⟩) (by omega) (by omega) w kS
      · rw [if_pos h3]
        obtain ⟨x, y, z⟩ := up_low4 hG h3
        obtain ⟨d, e, f, g⟩ := lift_facts x y
        exact fw4_all S X G n hS hX hG _ _ (liftN (G * 536870912)) (lifted (G * 536870912)) (fun h => absurd h h1) (fun _ h => absurd h2 h) (fun _ _ => ⟨⟨rfl, rfl⟩, d, ⟨e, by omega⟩, rfl, f, g⟩) (fun _ h => absurd h h3) (by omega) (by omega) w kS
    · rw [if_pos h2]
      exact fw4_all S X G n hS hX hG (X + 896) (G * 536870912) 0 0 (fun h => absurd h h1) (fun _ _ => ⟨rfl, rfl⟩) (fun h _ => absurd h h2) (fun h _ => absurd h h2) (by omega) (by omega) w kS
end Go.Proofs.YtnjbppfanmmifaaGreatDoor
namespace Go.Proofs.YtnjbppfanmmifaaGreatDoor
open Go.RowKit

/-- P7.1: what is widened, or refused. -/
def widenA (n width : Int) : Int × Int := if width = 2 ∧ n < 65536 then (widen2 n, 0) else if width = 4 ∧ n < 4294967296 then (widen4 n, 0) else if width = 8 then (n, 0) else (0, 1)
set_option maxRecDepth 100000 in
set_option maxHeartbeats 2000000 in
theorem widen_any (n width : Int) (hn : 0 ≤ n ∧ n < 18446744073709551616) (w : World) : Calls Tryz.prog 170 #[.int .u64 n, .int .i64 width] w fun e w' => e = .returned (.tuple #[.int .u64 (widenA n width).1, .int .i64 (widenA n width).2]) ∧ Below w.heap.size w w' := by
  obtain ⟨R, hR⟩ : ∃ R, widenA n width = R := ⟨_, rfl⟩
  rw [hR]
  have a0 : Hid (width = 2 ∧ n < 65536 → R = (widen2 n, 0)) := fun h => by rw [← hR]; unfold widenA; rw [if_pos h]
  have a1 : Hid (width = 4 ∧ n < 4294967296 → R = (widen4 n, 0)) := fun h => by rw [← hR]; unfold widenA; rw [if_neg (by omega), if_pos h]
  have a2 : Hid (width = 8 ∧ n < 18446744073709551616 → R = (n, 0)) := fun h => by rw [← hR]; unfold widenA; rw [if_neg (by omega), if_neg (by omega), if_pos h.1]
  have a3 : Hid (¬ (width = 2 ∧ n < 65536) → ¬ (width = 4 ∧ n < 4294967296) → ¬ (width = 8 ∧ n < 18446744073709551616) → R = (0, 1)) := fun h h1 h2 => by rw [← hR]; unfold widenA; rw [if_neg h, if_neg h1, if_neg (by omega)]
  have kF := formats_any
  have hI0 := idx0
  have hI1 := idx1
  have hI2 := idx2
  have hn' : Hid (0 ≤ n ∧ n < 18446744073709551616) := hn
  clear hR hn
  go_enter Tryz.func170, Tryz.ntmps170
  go_wp2_with (go_at_call 152; refine (kF _).mono ?_; rintro e wf ⟨rfl, bf⟩)
  go_loopw [9] (fun iv wr => ∃ k : Nat, k ≤ 3 ∧ iv = .int .i64 k ∧ Hid (1 ≤ k → ¬ (width = 2 ∧ n < 65536)) ∧ Hid (2 ≤ k → ¬ (width = 4 ∧ n < 4294967296)) ∧ Hid (3 ≤ k → ¬ (width = 8 ∧ n < 18446744073709551616)) ∧ Hid (Below w.heap.size w wr)) (fun iv _ => 3 - (intOf iv).toNat)
  case atStart => exact ⟨0, by decide, rfl, (fun h => by omega), (fun h => by omega), (fun h => by omega), bf⟩
  case round =>
    obtain ⟨k, hk, rfl, f1, f2, f3, hbl⟩ := hrel
    have hks : k = 0 ∨ k = 1 ∨ k = 2 ∨ k = 3 := by omega
    rcases hks with rfl | rfl | rfl | rfl
    · by_cases hw : width = 2
      · by_cases hr : n < 65536
        · have hfin := a0.out ⟨hw, hr⟩
          subst hfin
          have kr := room2_any n hn'.out.1 (by have := hn'.out; omega)
          have kw := fwiden2_any n ⟨hn'.out.1, hr⟩
          have hd : decide (n < 65536) = true := by simpa using hr
          rw [hd] at kr
          have he : (((2 : Int)) == width) = true := by rw [hw]; rfl
          clear hd hr hw hk a0 a1 a2 a3 f1 f2 f3
          go_wp2_with (first
            | (go_at_call 200; refine (kr _).mono ?_; rintro e w1 ⟨rfl, b1⟩; have d1 : Below w.heap.size w w1 := (hbl.out.alloc hbl.out.size _).trans (b1.mono (Nat.le_trans hbl.out.size (Nat.le_of_lt (alloc_lt _ _)))); obtain ⟨c0, c1, c2⟩ := ((row3_new wr 149 (.int .i64 2) (.int .i64 5) (.int .i64 10)).kept b1 (alloc_lt _ _)).at)
            | (go_at_call 154; refine (kw _).mono ?_; rintro e w2 ⟨rfl, b2⟩; have d2 : Below w.heap.size w w2 := d1.trans (b2.mono d1.size)))
          go_ret2
          exact ⟨rfl, d2⟩
        · have kr := room2_any n hn'.out.1 (by have := hn'.out; omega)
          have hd : decide (n < 65536) = false := by simpa using hr
          rw [hd] at kr
          have he : (((2 : Int)) == width) = true := by rw [hw]; rfl
          have hx : Hid (¬ (width = 2 ∧ n < 65536)) := fun h => hr h.2
          clear hd hr hw hk
          go_wp2_with (go_at_call 200; refine (kr _).mono ?_; rintro e w1 ⟨rfl, b1⟩; have d1 : Below w.heap.size w w1 := (hbl.out.alloc hbl.out.size _).trans (b1.mono (Nat.le_trans hbl.out.size (Nat.le_of_lt (alloc_lt _ _)))); obtain ⟨c0, c1, c2⟩ := ((row3_new wr 149 (.int .i64 2) (.int .i64 5) (.int .i64 10)).kept b1 (alloc_lt _ _)).at)
          go_roundw
          case rel => exact ⟨1, by decide, by first | rfl | simp, (fun _ => hx.out), (fun h => by omega), (fun h => by omega), d1⟩
          case measure => simp [intOf]
      · have he : (((2 : Int)) == width) = false := by simpa using fun h => hw h.symm
        have hx : Hid (¬ (width = 2 ∧ n < 65536)) := fun h => hw h.1
        clear hw hk
        go_wp2
        go_roundw
        case rel => exact ⟨1, by decide, by first | rfl | simp, (fun _ => hx.out), (fun h => by omega), (fun h => by omega), hbl.out.alloc hbl.out.size _⟩
        case measure => simp [intOf]
    · by_cases hw : width = 4
      · by_cases hr : n < 4294967296
        · have hfin := a1.out ⟨hw, hr⟩
          subst hfin
          have kr := room4_any n hn'.out.1 (by have := hn'.out; omega)
          have kw := fwiden4_any n ⟨hn'.out.1, hr⟩
          have hd : decide (n < 4294967296) = true := by simpa using hr
          rw [hd] at kr
          have he : (((4 : Int)) == width) = true := by rw [hw]; rfl
          clear hd hr hw hk a0 a1 a2 a3 f1 f2 f3
          go_wp2_with (first
            | (go_at_call 200; refine (kr _).mono ?_; rintro e w1 ⟨rfl, b1⟩; have d1 : Below w.heap.size w w1 := (hbl.out.alloc hbl.out.size _).trans (b1.mono (Nat.le_trans hbl.out.size (Nat.le_of_lt (alloc_lt _ _)))); obtain ⟨c0, c1, c2⟩ := ((row3_new wr 149 (.int .i64 4) (.int .i64 8) (.int .i64 23)).kept b1 (alloc_lt _ _)).at)
            | (go_at_call 154; refine (kw _).mono ?_; rintro e w2 ⟨rfl, b2⟩; have d2 : Below w.heap.size w w2 := d1.trans (b2.mono d1.size)))
          go_ret2
          exact ⟨rfl, d2⟩
        · have kr := room4_any n hn'.out.1 (by have := hn'.out; omega)
          have hd : decide (n < 4294967296) = false := by simpa using hr
          rw [hd] at kr
          have he : (((4 : Int)) == width) = true := by rw [hw]; rfl
          have hx : Hid (¬ (width = 4 ∧ n < 4294967296)) := fun h => hr h.2
          clear hd hr hw hk
          go_wp2_with (go_at_call 200; refine (kr _).mono ?_; rintro e w1 ⟨rfl, b1⟩; have d1 : Below w.heap.size w w1 := (hbl.out.alloc hbl.out.size _).trans (b1.mono (Nat.le_trans hbl.out.size (Nat.le_of_lt (alloc_lt _ _)))); obtain ⟨c0, c1, c2⟩ := ((row3_new wr 149 (.int .i64 4) (.int .i64 8) (.int .i64 23)).kept b1 (alloc_lt _ _)).at)
          go_roundw
          case rel => exact ⟨2, by decide, by first | rfl | simp, (fun _ => f1.out (by decide)), (fun _ => hx.out), (fun h => by omega), d1⟩
          case measure => simp [intOf]
      · have he : (((4 : Int)) == width) = false := by simpa using fun h => hw h.symm
        have hx : Hid (¬ (width = 4 ∧ n < 4294967296)) := fun h => hw h.1
        clear hw hk
        go_wp2
        go_roundw
        case rel => exact ⟨2, by decide, by first | rfl | simp, (fun _ => f1.out (by decide)), (fun _ => hx.out), (fun h => by omega), hbl.out.alloc hbl.out.size _⟩
        case measure => simp [intOf]
    · by_cases hw : width = 8
      · by_cases hr : n < 18446744073709551616
        · have hfin := a2.out ⟨hw, hr⟩
          subst hfin
          have kr := room8_any n hn'.out.1 (by have := hn'.out; omega)
          have kw := fwiden8_any n 
          have hd : decide (n < 18446744073709551616) = true := by simpa using hr
          rw [hd] at kr
          have he : (((8 : Int)) == width) = true := by rw [hw]; rfl
          clear hd hr hw hk a0 a1 a2 a3 f1 f2 f3
          go_wp2_with (first
            | (go_at_call 200; refine (kr _).mono ?_; rintro e w1 ⟨rfl, b1⟩; have d1 : Below w.heap.size w w1 := (hbl.out.alloc hbl.out.size _).trans (b1.mono (Nat.le_trans hbl.out.size (Nat.le_of_lt (alloc_lt _ _)))); obtain ⟨c0, c1, c2⟩ := ((row3_new wr 149 (.int .i64 8) (.int .i64 11) (.int .i64 52)).kept b1 (alloc_lt _ _)).at)
            | (go_at_call 154; refine (kw _).mono ?_; rintro e w2 ⟨rfl, b2⟩; have d2 : Below w.heap.size w w2 := d1.trans (b2.mono d1.size)))
          go_ret2
          exact ⟨rfl, d2⟩
        · have kr := room8_any n hn'.out.1 (by have := hn'.out; omega)
          have hd : decide (n < 18446744073709551616) = false := by simpa using hr
          rw [hd] at kr
          have he : (((8 : Int)) == width) = true := by rw [hw]; rfl
          have hx : Hid (¬ (width = 8 ∧ n < 18446744073709551616)) := fun h => hr h.2
          clear hd hr hw hk
          go_wp2_with (go_at_call 200; refine (kr _).mono ?_; rintro e w1 ⟨rfl, b1⟩; have d1 : Below w.heap.size w w1 := (hbl.out.alloc hbl.out.size _).trans (b1.mono (Nat.le_trans hbl.out.size (Nat.le_of_lt (alloc_lt _ _)))); obtain ⟨c0, c1, c2⟩ := ((row3_new wr 149 (.int .i64 8) (.int .i64 11) (.int .i64 52)).kept b1 (alloc_lt _ _)).at)
          go_roundw
          case rel => exact ⟨3, by decide, by first | rfl | simp, (fun _ => f1.out (by decide)), (fun _ => f2.out (by decide)), (fun _ => hx.out), d1⟩
          case measure => simp [intOf]
      · have he : (((8 : Int)) == width) = false := by simpa using fun h => hw h.symm
        have hx : Hid (¬ (width = 8 ∧ n < 18446744073709551616)) := fun h => hw h.1
        clear hw hk
        go_wp2
        go_roundw
        case rel => exact ⟨3, by decide, by first | rfl | simp, (fun _ => f1.out (by decide)), (fun _ => f2.out (by decide)), (fun _ => hx.out), hbl.out.alloc hbl.out.size _⟩
        case measure => simp [intOf]
    · have hfin := a3.out (f1.out (by decide)) (f2.out (by decide)) (f3.out (by decide))
      subst hfin
      clear hk a0 a1 a2 a3 f1 f2 f3
      go_wp2
      go_ret2
      exact ⟨rfl, hbl.out⟩
end Go.Proofs.YtnjbppfanmmifaaGreatDoor
namespace Go.Proofs.YtnjbppfanmmifaaGreatDoor
open Go.RowKit
set_option linter.unusedVariables false
def intT (n : Bool) (d : ByteArray) : Tr := ⟨2, 0, n, d, 0, ⟨#[]⟩, [], [], []⟩
def decT (n : Bool) (d : ByteArray) (x : Int) : Tr := ⟨3, 0, n, d, x, ⟨#[]⟩, [], [], []⟩
def txtT (s : ByteArray) : Tr := ⟨5, 0, false, ⟨#[]⟩, 0, s, [], [], []⟩
def bytT (l : List Int) : Tr := ⟨6, 0, false, ⟨#[]⟩, 0, ⟨#[]⟩, l, [], []⟩
def kindT (k n : Int) : Tr := ⟨k, n, false, ⟨#[]⟩, 0, ⟨#[]⟩, [], [], []⟩
def arrT (kids : List Tr) : Tr := ⟨7, 0, false, ⟨#[]⟩, 0, ⟨#[]⟩, [], [], kids⟩
def mapT (keys kids : List Tr) : Tr := ⟨8, 0, false, ⟨#[]⟩, 0, ⟨#[]⟩, [], keys, kids⟩
def tgT (n : Int) (t : Tr) : Tr := ⟨9, n, false, ⟨#[]⟩, 0, ⟨#[]⟩, [], [], [t]⟩
/-- Trees that are the same, by looking. -/
def eqL (f : Tr → Tr → Bool) : List Tr → List Tr → Bool
  | [], [] => true
  | a :: l, b :: m => f a b && eqL f l m
  | _, _ => false
def eqF : Nat → Tr → Tr → Bool
  | 0, _, _ => false
  | k + 1, a, b => (decide (a.kind = b.kind) && decide (a.num = b.num) && (a.neg == b.neg) && decide (a.dig = b.dig) && decide (a.exp = b.exp) && decide (a.txt = b.txt) && decide (a.bytes = b.bytes)) && (eqL (eqF k) a.keys b.keys && eqL (eqF k) a.kids b.kids)
theorem eqL_iff {f : Tr → Tr → Bool} : ∀ (l m : List Tr), (∀ a ∈ l, ∀ b, f a b = true ↔ a = b) → (eqL f l m = true ↔ l = m)
  | [], [], _ => by simp [eqL]
  | [], _ :: _, _ => by simp [eqL]
  | _ :: _, [], _ => by simp [eqL]
  | a :: l, b :: m, h => by
    have ih := eqL_iff l m fun x hx => h x (List.mem_cons_of_mem _ hx)
    simp only [eqL, Bool.and_eq_true, h a List.mem_cons_self b, ih, List.cons.injEq]
theorem eqF_iff : ∀ (k : Nat) (a b : Tr), a.deep ≤ k → (eqF k a b = true ↔ a = b) := by
  intro k
  induction k with
  | zero => intro a b h; have := Tr.deep_eq a; omega
  | succ k ih =>
    intro a b h
    have hk : ∀ x ∈ a.keys, ∀ y, eqF k x y = true ↔ x = y := fun x hx y => ih x y (by have := Tr.key_deep hx; omega)
    have hi : ∀ x ∈ a.kids, ∀ y, eqF k x y = true ↔ x = y := fun x hx y => ih x y (by have := Tr.kid_deep hx; omega)
    simp only [eqF, Bool.and_eq_true, decide_eq_true_eq, beq_iff_eq, eqL_iff _ _ hk, eqL_iff _ _ hi]
    constructor
    · rintro ⟨⟨⟨⟨⟨⟨⟨h0, h1⟩, h2⟩, h3⟩, h4⟩, h5⟩, h6⟩, h7, h8⟩
      exact Tr.mk_eq h0 h1 h2 h3 h4 h5 h6 h7 h8
    · rintro rfl
      exact ⟨⟨⟨⟨⟨⟨⟨rfl, rfl⟩, rfl⟩, rfl⟩, rfl⟩, rfl⟩, rfl⟩, rfl, rfl⟩
/-- Is a key there already? -/
def hasK (keys : List Tr) (t : Tr) : Bool := keys.any fun u => eqF u.deep u t
theorem hasK_iff (keys : List Tr) (t : Tr) : hasK keys t = true ↔ t ∈ keys := by
  unfold hasK
  rw [List.any_eq_true]
  constructor
  · rintro ⟨u, hu, h⟩
    rw [(eqF_iff _ u t (Nat.le_refl _)).1 h] at hu
    exact hu
  · intro h
    exact ⟨t, h, (eqF_iff _ t t (Nat.le_refl _)).2 rfl⟩
/-- How many bytes an argument has that does not stand in the first one. -/
def hwd (low : Int) : Nat := if low = 24 then 1 else if low = 25 then 2 else if low = 26 then 4 else if low = 27 then 8 else 0
/-- What an item begins with: its place, its major type, its low bits, its argument, and whether bytes of that are missing. -/
structure Hd where
  pl : Nat
  mj : Int
  lo : Int
  n : Nat
  cut : Bool
def Hd.arr (h : Hd) : Array Value := #[.int .i64 h.pl, .int .u8 h.mj, .int .u8 h.lo, .int .u64 h.n, .bool h.cut]
def hdA (zs : List Int) (p : Nat) : Option (Hd × Nat) := match zs[p]? with
  | none => none
  | some c => if c % 32 < 24 then some (⟨p, c / 32, c % 32, (c % 32).toNat, false⟩, p + 1)
    else if zs.length < p + 1 + hwd (c % 32) then some (⟨p, c / 32, c % 32, 0, true⟩, p + 1)
    else some (⟨p, c / 32, c % 32, bytV ((zs.drop (p + 1)).take (hwd (c % 32))), false⟩, p + 1 + hwd (c % 32))
def mayA (h : Hd) : Bool := decide (h.lo ≤ 27) || (decide (h.lo = 31) && (decide (2 ≤ h.mj) && decide (h.mj ≤ 5)))
def isR (h : Hd) : Bool := decide (h.mj = 2) || decide (h.mj = 3)
/-- The bytes that are there of n from q on. -/
def here (zs : List Int) (q n : Nat) : List Int := (zs.drop q).take n
/-- The bytes of a run, and the place behind them. -/
def runA (zs : List Int) (mj : Int) (q n : Nat) : Sum (Int × Nat) (List Int × Nat) :=
  if mj = 3 ∧ whyL (here zs q n) ≠ 0 ∧ (q + atL (here zs q n) < zs.length ∨ q + n = q + atL (here zs q n)) then .inl (6, q + atL (here zs q n))
  else if zs.length < q + n then .inl (3, zs.length) else .inr (here zs q n, q + n)
/-- The bytes of parts. -/
def prtF : Nat → List Int → Int → Nat → Nat → List Int → Sum (Int × Nat) (List Int × Nat)
  | 0, _, _, _, _, _ => .inl (0, 0)
  | k + 1, zs, mj, pl, p, out => match hdA zs p with
    | none => .inl (3, zs.length)
    | some (h, q) => if zs.getD p 0 = 255 then .inr (out, p + 1)
      else if h.mj ≠ mj ∨ ¬ h.lo ≤ 27 then .inl (5, p)
      else if h.cut = true then .inl (3, zs.length)
      else if 4096 - out.length < h.n then .inl (8, pl)
      else match runA zs mj q h.n with
        | .inl f => .inl f
        | .inr (l, r) => prtF k zs mj pl r (out ++ l)
def allA (zs : List Int) (h : Hd) (q : Nat) : Sum (Int × Nat) (List Int × Nat) := if h.lo ≤ 27 then runA zs h.mj q h.n else prtF 5000 zs h.mj h.pl q []
def oneS : ByteArray := ⟨#[49]⟩
def belA (d : ByteArray) : Tr × Int := (intT true (addA d oneS).1, (addA d oneS).2)
/-- An Array of two Int. -/
def prT (t : Tr) : Option (Tr × Tr) := match t.kids with
  | [a, b] => if t.kind = 7 ∧ a.kind = 2 ∧ b.kind = 2 then some (a, b) else none
  | _ => none
def sgn (neg : Bool) (n : Int) : Int := if neg = true then -n else n
def dcm (r : Nm) : Tr := if (wholeA r.1 r.2.1 r.2.2).2 = true then intT r.1 (wholeA r.1 r.2.1 r.2.2).1 else decT r.1 r.2.1 r.2.2
def dcmA (a b : Tr) : Tr × Int := if (towA a.dig).2 = false ∨ 1000000 < (towA a.dig).1 then (zT, 11)
  else if (makeA b.neg b.dig (sgn a.neg (towA a.dig).1)).2 ≠ 0 then (zT, (makeA b.neg b.dig (sgn a.neg (towA a.dig).1)).2)
  else (dcm (makeA b.neg b.dig (sgn a.neg (towA a.dig).1)).1, 0)
def tagA (n : Nat) (t : Tr) : Tr × Int := if n = 2 ∧ t.kind = 6 then (intT false (frbA t.bytes).1, (frbA t.bytes).2)
  else if n = 3 ∧ t.kind = 6 then (if (frbA t.bytes).2 ≠ 0 then (zT, (frbA t.bytes).2) else belA (frbA t.bytes).1)
  else if n = 4 then (match prT t with | some (a, b) => dcmA a b | none => (tgT (n : Nat) t, 0))
  else (tgT (n : Nat) t, 0)
def othA (h : Hd) : Sum (Int × Nat) Tr := if h.lo = 20 then .inr (kindT 1 0) else if h.lo = 21 then .inr (kindT 1 1) else if h.lo = 22 then .inr (kindT 0 0)
  else if h.lo = 25 ∨ h.lo = 26 ∨ h.lo = 27 then .inr (kindT 4 (widenA (h.n : Nat) (hwd h.lo : Nat)).1)
  else if h.lo = 24 ∧ h.n < 32 then .inl (5, h.pl + 1) else .inr (kindT 10 (h.n : Nat))
def limA (h : Hd) : Option Nat := if h.lo ≤ 27 then some h.n else none
/-- Is there more of an Array or a Map? The place behind what tells. -/
def gonA (zs : List Int) (p : Nat) (lim : Option Nat) : Sum (Int × Nat) (Bool × Nat) := match lim with
  | some 0 => .inr (false, p)
  | some (_ + 1) => .inr (true, p)
  | none => match zs[p]? with
    | none => .inl (3, zs.length)
    | some c => if c = 255 then .inr (false, p + 1) else .inr (true, p)
/-- What is behind an item's first bytes, those in it read by f. -/
def bodA (zs : List Int) (h : Hd) (q m : Nat) (f : Nat → Option Nat → Sum (Int × Nat) (Tr × Nat × Nat)) : Sum (Int × Nat) (Tr × Nat × Nat) :=
  if h.mj = 0 then .inr (intT false (txt h.n), q, m)
  else if h.mj = 1 then .inr ((belA (txt h.n)).1, q, m)
  else if h.mj = 2 then (match allA zs h q with | .inl e => .inl e | .inr (l, r) => .inr (bytT l, r, m))
  else if h.mj = 3 then (match allA zs h q with | .inl e => .inl e | .inr (l, r) => .inr (txtT (strOfNums l), r, m))
  else if h.mj = 4 then f 1 (limA h)
  else if h.mj = 5 then f 2 (limA h)
  else if h.mj = 6 then (match f 0 none with | .inl e => .inl e | .inr (t, r, n) => if (tagA h.n t).2 ≠ 0 then .inl (11, h.pl) else .inr ((tagA h.n t).1, r, n))
  else (match othA h with | .inl e => .inl e | .inr t => .inr (t, q, m))
/-- AN ITEM (0), the rest of an Array (1), of a Map (2), in the depth d, from p on, m nodes begun: the fault, or the tree, the place behind it, the nodes begun then. -/
def rcF : Nat → List Int → Nat → Nat → Nat → Nat → Option Nat → List Tr → List Tr → Sum (Int × Nat) (Tr × Nat × Nat)
  | 0, _, _, _, _, _, _, _, _ => .inl (0, 0)
  | k + 1, zs, 0, d, p, m, _, _, _ => match hdA zs p with
    | none => .inl (3, zs.length)
    | some (h, q) => if mayA h = false then .inl (5, p)
      else if 1024 < m + 1 ∨ (isR h = true ∧ 4096 < h.n) then .inl (8, p)
      else if 24 < d then .inl (7, p)
      else if h.cut = true then .inl (3, zs.length)
      else bodA zs h q (m + 1) fun j lim => rcF k zs j (d + 1) q (m + 1) lim [] []
  | k + 1, zs, 1, d, p, m, lim, _, kids => match gonA zs p lim with
    | .inl f => .inl f
    | .inr (false, q) => .inr (arrT kids, q, m)
    | .inr (true, _) => match rcF k zs 0 d p m none [] [] with
      | .inl f => .inl f
      | .inr (t, q, n) => rcF k zs 1 d q n (lim.map (· - 1)) [] (kids ++ [t])
  | k + 1, zs, _ + 2, d, p, m, lim, keys, kids => match gonA zs p lim with
    | .inl f => .inl f
    | .inr (false, q) => .inr (mapT keys kids, q, m)
    | .inr (true, _) => match rcF k zs 0 d p m none [] [] with
      | .inl f => .inl f
      | .inr (t, q, n) => if hasK keys t = true then .inl (9, p) else match rcF k zs 0 d q n none [] [] with
        | .inl f => .inl f
        | .inr (u, r, o) => rcF k zs 2 d r o (lim.map (· - 1)) (keys ++ [t]) (kids ++ [u])
/-- Item. -/
def itmA (zs : List Int) (at_ : Int) : Sum (Int × Nat) (Tr × Nat) := if 4096 < zs.length then .inl (8, 0) else if at_ < 0 ∨ (zs.length : Int) ≤ at_ then .inl (3, zs.length)
  else match rcF 10000 zs 0 1 at_.toNat 0 none [] [] with
    | .inl f => .inl f
    | .inr (t, q, _) => .inr (t, q)
/-- Decode. -/
def dcdA (zs : List Int) : Sum (Int × Nat) Tr := match itmA zs 0 with
  | .inl f => .inl f
  | .inr (t, q) => if q ≠ zs.length then .inl (10, q) else .inr t
end Go.Proofs.YtnjbppfanmmifaaGreatDoor
namespace Go.Proofs.YtnjbppfanmmifaaGreatDoor
open Go.RowKit
set_option linter.unusedVariables false
/-- The bytes zs from P up to L stand in zs', o further on. -/
def Ag (P o L : Nat) (zs zs' : List Int) : Prop := L ≤ zs.length ∧ ∀ i, P ≤ i → i < L → zs'[i + o]? = zs[i]?
theorem Ag.le {P o L K : Nat} {zs zs' : List Int} (h : Ag P o L zs zs') (hk : K ≤ L) : Ag P o K zs zs' := ⟨Nat.le_trans hk h.1, fun i h0 hi => h.2 i h0 (by omega)⟩
theorem Ag.len {P o L : Nat} {zs zs' : List Int} (h : Ag P o L zs zs') (h0 : P < L) : L + o ≤ zs'.length := by
  have h1 := h.2 (L - 1) (by omega) (by omega)
  rw [List.getElem?_eq_getElem (show L - 1 < zs.length by have := h.1; omega)] at h1
  have := (List.getElem?_eq_some_iff.1 h1).1
  omega
theorem Ag.here {P o L : Nat} {zs zs' : List Int} (h : Ag P o L zs zs') {q n : Nat} (hP : P ≤ q) (hq : q + n ≤ L) : here zs' (q + o) n = here zs q n := by
  unfold Go.Proofs.YtnjbppfanmmifaaGreatDoor.here
  refine List.ext_getElem? fun i => ?_
  rw [List.getElem?_take, List.getElem?_take]
  split
  · rw [List.getElem?_drop, List.getElem?_drop, show q + o + i = q + i + o by omega]
    exact h.2 _ (by omega) (by omega)
  · rfl
theorem hwd_le (c : Int) : hwd c ≤ 8 := by
  unfold hwd
  split
  · omega
  split
  · omega
  split
  · omega
  split <;> omega
theorem hd_none {zs : List Int} {p : Nat} : hdA zs p = none ↔ zs.length ≤ p := by
  unfold hdA
  cases h : zs[p]? with
  | none => simpa using h
  | some c =>
    have := (List.getElem?_eq_some_iff.1 h).1
    simp only
    split
    · simp; omega
    split <;> simp <;> omega
theorem hd_inv {zs : List Int} {p q : Nat} {h : Hd} (e : hdA zs p = some (h, q)) : ∃ hp : p < zs.length, h.pl = p ∧ p < q ∧ (h.cut = false → q ≤ zs.length) ∧ q ≤ p + 9 ∧ h.mj = zs[p] / 32 ∧ h.lo = zs[p] % 32 ∧ (h.cut = true → h.n = 0 ∧ q = p + 1) ∧ (h.lo < 24 → h.cut = false ∧ h.n = (zs[p] % 32).toNat ∧ q = p + 1) ∧ (¬ h.lo < 24 → h.cut = false → h.n = bytV (here zs (p + 1) (hwd h.lo)) ∧ q = p + 1 + hwd h.lo) := by
  unfold hdA at e
  cases hz : zs[p]? with
  | none => rw [hz] at e; simp at e
  | some c =>
    obtain ⟨hp, hc⟩ := List.getElem?_eq_some_iff.1 hz
    rw [hz] at e
    simp only at e
    refine ⟨hp, ?_⟩
    rw [hc]
    have h8 := hwd_le (c % 32)
    split at e
    · simp at e
      obtain ⟨rfl, rfl⟩ := e
      exact ⟨rfl, by omega, fun _ => by omega, by omega, rfl, rfl, by simp, fun _ => ⟨rfl, rfl, rfl⟩, fun h => by simp at h; omega⟩
    split at e
    · simp at e
      obtain ⟨rfl, rfl⟩ := e
      exact ⟨rfl, by omega, by simp, by omega, rfl, rfl, by simp, fun h => by simp at h; omega, by simp⟩
    · simp at e
      obtain ⟨rfl, rfl⟩ := e
      exact ⟨rfl, by omega, fun _ => by omega, by omega, rfl, rfl, by simp, fun h => by simp at h; omega, fun _ _ => ⟨rfl, rfl⟩⟩
theorem bytV_lt (l : List Int) (hz : ∀ c ∈ l, 0 ≤ c ∧ c < 256) : bytV l < 256 ^ l.length := by
  have aux : ∀ (l : List Int) (a k : Nat), (∀ c ∈ l, 0 ≤ c ∧ c < 256) → a < 256 ^ k → l.foldl (fun n c => n * 256 + c.toNat) a < 256 ^ (k + l.length) := by
    intro l
    induction l with
    | nil => intro a k _ h; simpa using h
    | cons c l ih =>
      intro a k hz h
      have hc := hz c List.mem_cons_self
      rw [List.foldl_cons, List.length_cons, show k + (l.length + 1) = (k + 1) + l.length by omega]
      refine ih _ _ (fun x hx => hz x (List.mem_cons_of_mem _ hx)) ?_
      rw [Nat.pow_succ]
      omega
  have := aux l 0 0 hz (by simp)
  rwa [Nat.zero_add] at this
/-- The argument is a word. -/
theorem hd_word {zs : List Int} (hz : ∀ c ∈ zs, 0 ≤ c ∧ c < 256) {p q : Nat} {h : Hd} (e : hdA zs p = some (h, q)) : h.n < 18446744073709551616 ∧ 0 ≤ h.mj ∧ h.mj < 8 ∧ 0 ≤ h.lo ∧ h.lo < 32 := by
  obtain ⟨hp, h1, h2, h3, h4, h5, h6, h7, h8, h9⟩ := hd_inv e
  have hc := hz _ (List.getElem_mem hp)
  refine ⟨?_, by omega, by omega, by omega, by omega⟩
  cases hcut : h.cut with
  | true => rw [(h7 hcut).1]; decide
  | false =>
    by_cases hl : h.lo < 24
    · rw [(h8 hl).2.1]; omega
    · rw [(h9 hl hcut).1]
      have hb := bytV_lt (here zs (p + 1) (hwd h.lo)) fun c hc => hz c (List.mem_of_mem_drop (List.mem_of_mem_take hc))
      have hl : (here zs (p + 1) (hwd h.lo)).length ≤ 8 := by unfold here; rw [List.length_take]; have := hwd_le h.lo; omega
      exact Nat.lt_of_lt_of_le hb (Nat.le_trans (Nat.pow_le_pow_right (by decide) hl) (by decide))
theorem hd_local {zs zs' : List Int} {P o p q : Nat} {h : Hd} (e : hdA zs p = some (h, q)) (hcut : h.cut = false) (ha : Ag P o q zs zs') (hP : P ≤ p) : hdA zs' (p + o) = some ({ h with pl := p + o }, q + o) := by
  obtain ⟨hp, h1, h2, h3, h4, h5, h6, h7, h8, h9⟩ := hd_inv e
  have hlen := ha.len (by omega)
  have hc : zs'[p + o]? = some zs[p] := by rw [ha.2 p hP h2, List.getElem?_eq_getElem hp]
  unfold hdA
  rw [hc]
  simp only
  cases h with
  | mk pl mj lo n cut =>
    simp only at *
    subst hcut h5 h6
    by_cases hl : zs[p] % 32 < 24
    · rw [if_pos hl]
      obtain ⟨_, hn, hq⟩ := h8 hl
      subst hn hq
      simp
      omega
    · obtain ⟨hn, hq⟩ := h9 hl rfl
      have := ha.here (q := p + 1) (n := hwd (zs[p] % 32)) (by omega) (by omega)
      unfold Go.Proofs.YtnjbppfanmmifaaGreatDoor.here at this hn
      rw [if_neg hl, if_neg (by omega), show p + o + 1 = p + 1 + o by omega, this]
      subst hn hq
      simp
      omega
theorem why_le (l : List Int) : atL l ≤ l.length := by
  unfold atL
  cases h : (runesL l).2 with
  | none => simp
  | some p => exact fault_le l p h
theorem here_len {zs : List Int} {q n : Nat} (h : q + n ≤ zs.length) : (here zs q n).length = n := by unfold here; rw [List.length_take, List.length_drop]; omega
theorem run_ok {zs : List Int} {mj : Int} {q n r : Nat} {l : List Int} (e : runA zs mj q n = .inr (l, r)) : r = q + n ∧ r ≤ zs.length ∧ l = here zs q n ∧ l.length = n ∧ (mj = 3 → whyL l = 0) := by
  unfold runA at e
  split at e
  · simp at e
  rename_i hw
  split at e
  · simp at e
  · rename_i hn
    simp at e
    obtain ⟨rfl, rfl⟩ := e
    have hl := here_len (zs := zs) (q := q) (n := n) (by omega)
    refine ⟨rfl, by omega, rfl, hl, fun h3 => ?_⟩
    have hle := why_le (here zs q n)
    by_cases h0 : whyL (here zs q n) = 0
    · exact h0
    · exact absurd ⟨h3, h0, by omega⟩ hw
theorem run_local {zs zs' : List Int} {mj : Int} {P o q n r : Nat} {l : List Int} (e : runA zs mj q n = .inr (l, r)) (ha : Ag P o r zs zs') (h0 : P < q) : runA zs' mj (q + o) n = .inr (l, r + o) := by
  obtain ⟨h1, h2, h3, h4, h5⟩ := run_ok e
  have hh := ha.here (q := q) (n := n) (by omega) (by omega)
  have hlen := ha.len (by omega)
  unfold runA
  rw [hh, ← h3, if_neg (fun hc => hc.2.1 (h5 hc.1)), if_neg (by omega)]
  congr 2
  omega
theorem why_app {a b : List Int} (ha : whyL a = 0) (hb : whyL b = 0) : whyL (a ++ b) = 0 := by
  unfold whyL at *
  cases h1 : (runesL a).2 with
  | some p => rw [h1] at ha; simp at ha
  | none =>
    cases h2 : (runesL b).2 with
    | some p => rw [h2] at hb; simp at hb
    | none => rw [runes_append a b h1, h2]; rfl
theorem prt_ok : ∀ (k : Nat) {zs : List Int} {mj : Int} {pl p r : Nat} {out l : List Int}, prtF k zs mj pl p out = .inr (l, r) → p < r ∧ r ≤ zs.length ∧ (out.length ≤ 4096 → l.length ≤ 4096) ∧ (mj = 3 → whyL out = 0 → whyL l = 0) ∧ ((∀ c ∈ zs, 0 ≤ c ∧ c < 256) → (∀ c ∈ out, 0 ≤ c ∧ c < 256) → ∀ c ∈ l, 0 ≤ c ∧ c < 256) := by
  intro k
  induction k with
  | zero => intro zs mj pl p r out l e; simp [prtF] at e
  | succ k ih =>
    intro zs mj pl p r out l e
    simp only [prtF] at e
    cases hh : hdA zs p with
    | none => rw [hh] at e; simp at e
    | some hq =>
      obtain ⟨h, q⟩ := hq
      obtain ⟨hp, h1, h2, h3, h4, h5, h6, h7, h8, h9⟩ := hd_inv hh
      rw [hh] at e
      simp only at e
      split at e
      · simp at e; obtain ⟨rfl, rfl⟩ := e; exact ⟨by omega, by omega, fun h => h, fun _ h => h, fun _ h => h⟩
      split at e
      · simp at e
      split at e
      · simp at e
      split at e
      · simp at e
      rename_i hm
      split at e
      · simp at e
      · rename_i l1 r1 hr
        obtain ⟨g1, g2, g3, g4, g5⟩ := run_ok hr
        obtain ⟨i1, i2, i3, i4, i5⟩ := ih e
        refine ⟨by omega, i2, fun ho => i3 (by rw [List.length_append]; omega), fun h3 hw => i4 h3 (why_app hw (g5 h3)), fun hz ho => i5 hz fun c hc => ?_⟩
        rcases List.mem_append.1 hc with hc | hc
        · exact ho c hc
        · rw [g3] at hc; exact hz c (List.mem_of_mem_drop (List.mem_of_mem_take hc))
theorem prt_local : ∀ (k : Nat) {zs zs' : List Int} {mj : Int} {P o pl pl' p r : Nat} {out l : List Int}, prtF k zs mj pl p out = .inr (l, r) → Ag P o r zs zs' → P ≤ p → prtF k zs' mj pl' (p + o) out = .inr (l, r + o) := by
  intro k
  induction k with
  | zero => intro zs zs' mj P o pl pl' p r out l e; simp [prtF] at e
  | succ k ih =>
    intro zs zs' mj P o pl pl' p r out l e ha hP
    obtain ⟨j1, j2, _⟩ := prt_ok _ e
    simp only [prtF] at e ⊢
    cases hh : hdA zs p with
    | none => rw [hh] at e; simp at e
    | some hq =>
      obtain ⟨h, q⟩ := hq
      obtain ⟨hp, h1, h2, h3, h4, h5, h6, h7, h8, h9⟩ := hd_inv hh
      rw [hh] at e
      simp only at e
      have hg : zs'.getD (p + o) 0 = zs.getD p 0 := by rw [List.getD_eq_getElem?_getD, List.getD_eq_getElem?_getD, ha.2 p hP j1]
      split at e
      · rename_i h255
        simp at e
        obtain ⟨rfl, rfl⟩ := e
        cases hx : hdA zs' (p + o) with
        | none => have := hd_none.1 hx; have := ha.len (by omega); omega
        | some hq' =>
          obtain ⟨h', q'⟩ := hq'
          simp only
          rw [if_pos (by rw [hg]; exact h255)]
          congr 2
          omega
      rename_i h255
      split at e
      · simp at e
      rename_i hm
      split at e
      · simp at e
      rename_i hc
      split at e
      · simp at e
      rename_i hn
      split at e
      · simp at e
      · rename_i l1 r1 hr
        obtain ⟨g1, g2, g3, g4, g5⟩ := run_ok hr
        obtain ⟨i1, i2, _⟩ := prt_ok _ e
        have hc' : h.cut = false := by simpa using hc
        have hr1 : r1 ≤ r := by omega
        rw [hd_local hh hc' (ha.le (by omega)) hP]
        simp only
        rw [if_neg (by rw [hg]; exact h255), if_neg hm, if_neg (by simp [hc']), if_neg hn, run_local hr (ha.le hr1) (by omega)]
        simp only
        exact ih e ha (by omega)
theorem all_ok {zs : List Int} {h : Hd} {q r : Nat} {l : List Int} (e : allA zs h q = .inr (l, r)) : q ≤ r ∧ r ≤ zs.length ∧ (h.n ≤ 4096 → l.length ≤ 4096) ∧ (h.mj = 3 → whyL l = 0) ∧ ((∀ c ∈ zs, 0 ≤ c ∧ c < 256) → ∀ c ∈ l, 0 ≤ c ∧ c < 256) := by
  unfold allA at e
  split at e
  · obtain ⟨g1, g2, g3, g4, g5⟩ := run_ok e
    exact ⟨by omega, g2, fun h => by omega, g5, fun hz c hc => by rw [g3] at hc; exact hz c (List.mem_of_mem_drop (List.mem_of_mem_take hc))⟩
  · obtain ⟨g1, g2, g3, g4, g5⟩ := prt_ok _ e
    exact ⟨by omega, g2, fun _ => g3 (by simp), fun h3 => g4 h3 rfl, fun hz => g5 hz (by simp)⟩
theorem all_local {zs zs' : List Int} {h : Hd} {P o q r pl' : Nat} {l : List Int} (e : allA zs h q = .inr (l, r)) (ha : Ag P o r zs zs') (h0 : P < q) : allA zs' { h with pl := pl' } (q + o) = .inr (l, r + o) := by
  have hq := (all_ok e).1
  unfold allA at e ⊢
  split at e
  · rename_i hl
    rw [if_pos hl]
    exact run_local e ha (by omega)
  · rename_i hl
    rw [if_neg hl]
    exact prt_local _ e ha (by omega)
theorem gon_ok {zs : List Int} {p q : Nat} {lim : Option Nat} {b : Bool} (e : gonA zs p lim = .inr (b, q)) (hp : p ≤ zs.length) : p ≤ q ∧ q ≤ zs.length ∧ (b = true → q = p) := by
  unfold gonA at e
  split at e
  · simp at e; omega
  · simp at e; omega
  · split at e
    · simp at e
    · rename_i c hc
      have := (List.getElem?_eq_some_iff.1 hc).1
      split at e
      · simp at e; obtain ⟨rfl, rfl⟩ := e; simp; omega
      · simp at e; omega
theorem gon_end {zs : List Int} {p q : Nat} (e : gonA zs p none = .inr (false, q)) : q = p + 1 := by
  unfold gonA at e
  simp only at e
  split at e
  · simp at e
  · split at e
    · simp at e; omega
    · simp at e
theorem gon_local {zs zs' : List Int} {o p q : Nat} {lim : Option Nat} {b : Bool} (e : gonA zs p lim = .inr (b, q)) (ha : lim = none → zs'[p + o]? = zs[p]?) : gonA zs' (p + o) lim = .inr (b, q + o) := by
  unfold gonA at e ⊢
  split at e
  · simp at e ⊢; omega
  · simp at e ⊢; omega
  · split at e
    · simp at e
    · rename_i c hc
      rw [ha rfl, hc]
      simp only
      split at e
      · rename_i h255
        simp at e
        obtain ⟨rfl, rfl⟩ := e
        rw [if_pos h255]
        congr 2
        omega
      · rename_i h255
        simp at e
        obtain ⟨rfl, rfl⟩ := e
        rw [if_neg h255]
end Go.Proofs.YtnjbppfanmmifaaGreatDoor
namespace Go.Proofs.YtnjbppfanmmifaaGreatDoor
open Go.RowKit
set_option linter.unusedVariables false
theorem bod_inv {zs : List Int} {h : Hd} {q m r n : Nat} {t : Tr} {f : Nat → Option Nat → Sum (Int × Nat) (Tr × Nat × Nat)} (e : bodA zs h q m f = .inr (t, r, n)) :
    (r = q ∧ n = m ∧ ((h.mj = 0 ∧ t = intT false (txt h.n)) ∨ (h.mj = 1 ∧ t = (belA (txt h.n)).1) ∨ ((h.mj ≠ 0 ∧ h.mj ≠ 1 ∧ h.mj ≠ 2 ∧ h.mj ≠ 3 ∧ h.mj ≠ 4 ∧ h.mj ≠ 5 ∧ h.mj ≠ 6) ∧ othA h = .inr t))) ∨
    (n = m ∧ ∃ l, allA zs h q = .inr (l, r) ∧ ((h.mj = 2 ∧ t = bytT l) ∨ (h.mj = 3 ∧ t = txtT (strOfNums l)))) ∨
    (h.mj = 4 ∧ f 1 (limA h) = .inr (t, r, n)) ∨ (h.mj = 5 ∧ f 2 (limA h) = .inr (t, r, n)) ∨
    (h.mj = 6 ∧ ∃ u, f 0 none = .inr (u, r, n) ∧ (tagA h.n u).2 = 0 ∧ t = (tagA h.n u).1) := by
  unfold bodA at e
  split at e
  · simp at e; obtain ⟨rfl, rfl, rfl⟩ := e; exact .inl ⟨rfl, rfl, .inl ⟨‹_›, rfl⟩⟩
  split at e
  · simp at e; obtain ⟨rfl, rfl, rfl⟩ := e; exact .inl ⟨rfl, rfl, .inr (.inl ⟨‹_›, rfl⟩)⟩
  split at e
  · split at e
    · simp at e
    · rename_i l r' hl; simp at e; obtain ⟨rfl, rfl, rfl⟩ := e; exact .inr (.inl ⟨rfl, l, hl, .inl ⟨‹_›, rfl⟩⟩)
  split at e
  · split at e
    · simp at e
    · rename_i l r' hl; simp at e; obtain ⟨rfl, rfl, rfl⟩ := e; exact .inr (.inl ⟨rfl, l, hl, .inr ⟨‹_›, rfl⟩⟩)
  split at e
  · exact .inr (.inr (.inl ⟨‹_›, e⟩))
  split at e
  · exact .inr (.inr (.inr (.inl ⟨‹_›, e⟩)))
  split at e
  · split at e
    · simp at e
    · rename_i u r' n' hu
      split at e
      · simp at e
      · rename_i h0
        simp at e
        obtain ⟨rfl, rfl, rfl⟩ := e
        exact .inr (.inr (.inr (.inr ⟨‹_›, u, hu, by simpa using h0, rfl⟩)))
  · split at e
    · simp at e
    · rename_i u hu
      simp at e
      obtain ⟨rfl, rfl, rfl⟩ := e
      exact .inl ⟨rfl, rfl, .inr (.inr ⟨⟨‹_›, ‹_›, ‹_›, ‹_›, ‹_›, ‹_›, ‹_›⟩, hu⟩)⟩
theorem rc0_inv {k : Nat} {zs : List Int} {d p m r n : Nat} {lim : Option Nat} {keys kids : List Tr} {t : Tr} (e : rcF (k + 1) zs 0 d p m lim keys kids = .inr (t, r, n)) :
    ∃ h q, hdA zs p = some (h, q) ∧ mayA h = true ∧ m + 1 ≤ 1024 ∧ (isR h = true → h.n ≤ 4096) ∧ d ≤ 24 ∧ h.cut = false ∧ bodA zs h q (m + 1) (fun j lim => rcF k zs j (d + 1) q (m + 1) lim [] []) = .inr (t, r, n) := by
  simp only [rcF] at e
  cases hh : hdA zs p with
  | none => rw [hh] at e; simp at e
  | some hq =>
    obtain ⟨h, q⟩ := hq
    rw [hh] at e
    simp only at e
    split at e
    · simp at e
    split at e
    · simp at e
    split at e
    · simp at e
    split at e
    · simp at e
    rename_i h1 h2 h3 h4
    exact ⟨h, q, rfl, by simpa using h1, by omega, fun hr => Nat.le_of_not_lt fun q => h2 (.inr ⟨hr, q⟩), by omega, by simpa using h4, e⟩
theorem rc1_inv {k : Nat} {zs : List Int} {d p m r n : Nat} {lim : Option Nat} {keys kids : List Tr} {t : Tr} (e : rcF (k + 1) zs 1 d p m lim keys kids = .inr (t, r, n)) :
    (gonA zs p lim = .inr (false, r) ∧ t = arrT kids ∧ n = m) ∨ (∃ g, gonA zs p lim = .inr (true, g) ∧ ∃ u q o, rcF k zs 0 d p m none [] [] = .inr (u, q, o) ∧ rcF k zs 1 d q o (lim.map (· - 1)) [] (kids ++ [u]) = .inr (t, r, n)) := by
  simp only [rcF] at e
  cases hg : gonA zs p lim with
  | inl f => rw [hg] at e; simp at e
  | inr bg =>
    obtain ⟨b, g⟩ := bg
    rw [hg] at e
    cases b with
    | false => simp at e; obtain ⟨rfl, rfl, rfl⟩ := e; exact .inl ⟨rfl, rfl, rfl⟩
    | true =>
      simp only at e
      split at e
      · simp at e
      · rename_i u q o hu
        exact .inr ⟨g, rfl, u, q, o, hu, e⟩
theorem rc2_inv {k : Nat} {zs : List Int} {d p m r n : Nat} {lim : Option Nat} {keys kids : List Tr} {t : Tr} (e : rcF (k + 1) zs 2 d p m lim keys kids = .inr (t, r, n)) :
    (gonA zs p lim = .inr (false, r) ∧ t = mapT keys kids ∧ n = m) ∨ (∃ g, gonA zs p lim = .inr (true, g) ∧ ∃ u q o, rcF k zs 0 d p m none [] [] = .inr (u, q, o) ∧ hasK keys u = false ∧ ∃ v s i, rcF k zs 0 d q o none [] [] = .inr (v, s, i) ∧ rcF k zs 2 d s i (lim.map (· - 1)) (keys ++ [u]) (kids ++ [v]) = .inr (t, r, n)) := by
  simp only [rcF] at e
  cases hg : gonA zs p lim with
  | inl f => rw [hg] at e; simp at e
  | inr bg =>
    obtain ⟨b, g⟩ := bg
    rw [hg] at e
    cases b with
    | false => simp at e; obtain ⟨rfl, rfl, rfl⟩ := e; exact .inl ⟨rfl, rfl, rfl⟩
    | true =>
      simp only at e
      split at e
      · simp at e
      · rename_i u q o hu
        split at e
        · simp at e
        · rename_i hk
          split at e
          · simp at e
          · rename_i v s i hv
            exact .inr ⟨g, rfl, u, q, o, hu, by simpa using hk, v, s, i, hv, e⟩
/-- THE BOUNDS OF WHAT IS READ. -/
theorem rc_bnd (zs : List Int) : ∀ (k j : Nat), j ≤ 2 → ∀ (d p m : Nat) (lim : Option Nat) (keys kids : List Tr) (t : Tr) (r n : Nat), rcF k zs j d p m lim keys kids = .inr (t, r, n) → m ≤ 1024 → p ≤ zs.length →
    p ≤ r ∧ r ≤ zs.length ∧ m ≤ n ∧ n ≤ 1024 ∧ (j = 0 → p < r ∧ m < n) := by
  intro k
  induction k with
  | zero => intro j _ d p m lim keys kids t r n e; simp [rcF] at e
  | succ k ih =>
    intro j hj d p m lim keys kids t r n e hm hp
    rcases j with _ | _ | j
    · obtain ⟨h, q, h1, h2, h3, h4, h5, h6, h7⟩ := rc0_inv e
      obtain ⟨hp', a1, a2, a3, _⟩ := hd_inv h1
      have a3' := a3 h6
      rcases bod_inv h7 with ⟨rfl, rfl, _⟩ | ⟨rfl, l, hl, _⟩ | ⟨_, hf⟩ | ⟨_, hf⟩ | ⟨_, u, hf, _⟩
      · exact ⟨by omega, by omega, by omega, by omega, fun _ => ⟨by omega, by omega⟩⟩
      · obtain ⟨b1, b2, _⟩ := all_ok hl
        exact ⟨by omega, by omega, by omega, by omega, fun _ => ⟨by omega, by omega⟩⟩
      · obtain ⟨b1, b2, b3, b4, _⟩ := ih 1 (by omega) _ _ _ _ _ _ _ _ _ hf h3 (by omega)
        exact ⟨by omega, by omega, by omega, by omega, fun _ => ⟨by omega, by omega⟩⟩
      · obtain ⟨b1, b2, b3, b4, _⟩ := ih 2 (by omega) _ _ _ _ _ _ _ _ _ hf h3 (by omega)
        exact ⟨by omega, by omega, by omega, by omega, fun _ => ⟨by omega, by omega⟩⟩
      · obtain ⟨b1, b2, b3, b4, _⟩ := ih 0 (by omega) _ _ _ _ _ _ _ _ _ hf h3 (by omega)
        exact ⟨by omega, by omega, by omega, by omega, fun _ => ⟨by omega, by omega⟩⟩
    · rcases rc1_inv e with ⟨hg, rfl, rfl⟩ | ⟨g, hg, u, q, o, hu, hr⟩
      · obtain ⟨g1, g2, _⟩ := gon_ok hg hp
        exact ⟨g1, g2, Nat.le_refl _, hm, fun h => by omega⟩
      · obtain ⟨b1, b2, b3, b4, b5⟩ := ih 0 (by omega) _ _ _ _ _ _ _ _ _ hu hm hp
        obtain ⟨c1, c2, c3, c4, _⟩ := ih 1 (by omega) _ _ _ _ _ _ _ _ _ hr b4 b2
        exact ⟨by omega, c2, by omega, c4, fun h => by omega⟩
    · obtain rfl : j = 0 := by omega
      rcases rc2_inv e with ⟨hg, rfl, rfl⟩ | ⟨g, hg, u, q, o, hu, hk, v, s, i, hv, hr⟩
      · obtain ⟨g1, g2, _⟩ := gon_ok hg hp
        exact ⟨g1, g2, Nat.le_refl _, hm, fun h => by omega⟩
      · obtain ⟨b1, b2, b3, b4, b5⟩ := ih 0 (by omega) _ _ _ _ _ _ _ _ _ hu hm hp
        obtain ⟨d1, d2, d3, d4, d5⟩ := ih 0 (by omega) _ _ _ _ _ _ _ _ _ hv b4 b2
        obtain ⟨c1, c2, c3, c4, _⟩ := ih 2 (by omega) _ _ _ _ _ _ _ _ _ hr d4 d2
        exact ⟨by omega, c2, by omega, c4, fun h => by omega⟩
/-- Read elsewhere, deeper or behind more nodes: the same, or too many, or too deep. -/
def Sh (d d' m M o : Nat) (t : Tr) (r n : Nat) (x : Sum (Int × Nat) (Tr × Nat × Nat)) : Prop :=
  x = .inr (t, r + o, M + (n - m)) ∨ ((∃ e pl, x = .inl (e, pl) ∧ (e = 7 ∨ e = 8)) ∧ (d < d' ∨ m < M))
theorem rc_shift (zs zs' : List Int) (P o : Nat) : ∀ (k j : Nat), j ≤ 2 → ∀ (d p m : Nat) (lim : Option Nat) (keys kids : List Tr) (t : Tr) (r n : Nat), rcF k zs j d p m lim keys kids = .inr (t, r, n) → m ≤ 1024 → p ≤ zs.length → Ag P o r zs zs' → P ≤ p → ∀ d' M : Nat,
    Sh d d' m M o t r n (rcF k zs' j d' (p + o) M lim keys kids) := by
  intro k
  induction k with
  | zero => intro j _ d p m lim keys kids t r n e; simp [rcF] at e
  | succ k ih =>
    intro j hj d p m lim keys kids t r n e hm hp ha hP d' M
    have hb := rc_bnd zs _ _ hj _ _ _ _ _ _ _ _ _ e hm hp
    rcases j with _ | _ | j
    · obtain ⟨h, q, h1, h2, h3, h4, h5, h6, h7⟩ := rc0_inv e
      obtain ⟨hp', a1, a2, a3, _⟩ := hd_inv h1
      have a3' := a3 h6
      have hqr : q ≤ r := by
        rcases bod_inv h7 with ⟨rfl, rfl, _⟩ | ⟨rfl, l, hl, _⟩ | ⟨_, hf⟩ | ⟨_, hf⟩ | ⟨_, u, hf, _⟩
        · exact Nat.le_refl _
        · exact (all_ok hl).1
        · exact (rc_bnd zs _ 1 (by omega) _ _ _ _ _ _ _ _ _ hf h3 (by omega)).1
        · exact (rc_bnd zs _ 2 (by omega) _ _ _ _ _ _ _ _ _ hf h3 (by omega)).1
        · exact (rc_bnd zs _ 0 (by omega) _ _ _ _ _ _ _ _ _ hf h3 (by omega)).1
      have hl := hd_local h1 h6 (ha.le hqr) hP
      simp only [rcF]
      rw [hl]
      simp only
      have e1 : mayA { h with pl := p + o } = true := h2
      rw [if_neg (by rw [e1]; simp)]
      by_cases hM : 1024 < M + 1
      · rw [if_pos (.inl hM)]
        exact .inr ⟨⟨8, p + o, rfl, .inr rfl⟩, .inr (by omega)⟩
      rw [if_neg (by
        rintro (q | ⟨q1, q2⟩)
        · exact hM q
        · have := h4 q1; have : h.n ≤ 4096 := this; exact absurd q2 (by show ¬ 4096 < h.n; omega))]
      by_cases hD : 24 < d'
      · rw [if_pos hD]
        exact .inr ⟨⟨7, p + o, rfl, .inl rfl⟩, .inl (by omega)⟩
      rw [if_neg hD, if_neg (by show ¬ h.cut = true; rw [h6]; simp)]
      unfold bodA at h7 ⊢
      simp only
      split at h7
      · rename_i c0
        rw [if_pos c0]
        simp at h7
        obtain ⟨rfl, rfl, rfl⟩ := h7
        left
        simp <;> try omega
      rename_i c0
      rw [if_neg c0]
      split at h7
      · rename_i c0
        rw [if_pos c0]
        simp at h7
        obtain ⟨rfl, rfl, rfl⟩ := h7
        left
        simp <;> try omega
      rename_i c1
      rw [if_neg c1]
      split at h7
      · rename_i c2
        rw [if_pos c2]
        split at h7
        · simp at h7
        · rename_i l r' hal
          simp at h7
          obtain ⟨rfl, rfl, rfl⟩ := h7
          rw [all_local hal ha (by omega)]
          left
          simp <;> try omega
      rename_i c2
      rw [if_neg c2]
      split at h7
      · rename_i c2
        rw [if_pos c2]
        split at h7
        · simp at h7
        · rename_i l r' hal
          simp at h7
          obtain ⟨rfl, rfl, rfl⟩ := h7
          rw [all_local hal ha (by omega)]
          left
          simp <;> try omega
      rename_i c3
      rw [if_neg c3]
      have lm : limA { h with pl := p + o } = limA h := rfl
      split at h7
      · rename_i c4
        rw [if_pos c4, lm]
        have b := rc_bnd zs _ 1 (by omega) _ _ _ _ _ _ _ _ _ h7 h3 (by omega)
        rcases ih 1 (by omega) _ _ _ _ _ _ _ _ _ h7 h3 (by omega) ha (by omega) (d' + 1) (M + 1) with q | ⟨q1, q2⟩
        · left; rw [q]; congr 3; omega
        · exact .inr ⟨q1, by omega⟩
      rename_i c4
      rw [if_neg c4]
      split at h7
      · rename_i c5
        rw [if_pos c5, lm]
        have b := rc_bnd zs _ 2 (by omega) _ _ _ _ _ _ _ _ _ h7 h3 (by omega)
        rcases ih 2 (by omega) _ _ _ _ _ _ _ _ _ h7 h3 (by omega) ha (by omega) (d' + 1) (M + 1) with q | ⟨q1, q2⟩
        · left; rw [q]; congr 3; omega
        · exact .inr ⟨q1, by omega⟩
      rename_i c5
      rw [if_neg c5]
      split at h7
      · rename_i c6
        rw [if_pos c6]
        split at h7
        · simp at h7
        · rename_i u r' n' hu
          split at h7
          · simp at h7
          · rename_i h0
            simp at h7
            obtain ⟨rfl, rfl, rfl⟩ := h7
            have b := rc_bnd zs _ 0 (by omega) _ _ _ _ _ _ _ _ _ hu h3 (by omega)
            rcases ih 0 (by omega) _ _ _ _ _ _ _ _ _ hu h3 (by omega) ha (by omega) (d' + 1) (M + 1) with q | ⟨⟨e, pl, q, q1⟩, q2⟩
            · left; rw [q]; simp only; rw [if_neg h0]; congr 3; omega
            · exact .inr ⟨⟨e, pl, by rw [q], q1⟩, by omega⟩
      rename_i c6
      rw [if_neg c6]
      split at h7
      · simp at h7
      · rename_i u hu
        simp at h7
        obtain ⟨rfl, rfl, rfl⟩ := h7
        have : othA { h with pl := p + o } = .inr u := by
          unfold othA at hu ⊢
          simp only
          split at hu
          · rename_i z; rw [if_pos z]; exact hu
          rename_i z0
          rw [if_neg z0]
          split at hu
          · rename_i z; rw [if_pos z]; exact hu
          rename_i z1
          rw [if_neg z1]
          split at hu
          · rename_i z; rw [if_pos z]; exact hu
          rename_i z2
          rw [if_neg z2]
          split at hu
          · rename_i z; rw [if_pos z]; exact hu
          rename_i z3
          rw [if_neg z3]
          split at hu
          · simp at hu
          · rename_i z; rw [if_neg z]; exact hu
        rw [this]
        left
        simp <;> try omega
    · rcases rc1_inv e with ⟨hg, rfl, rfl⟩ | ⟨g, hg, u, q, x, hu, hr⟩
      · simp only [rcF]
        rw [gon_local hg (fun hl => ha.2 p hP (by subst hl; have := gon_end hg; omega))]
        left
        simp <;> try omega
      · obtain ⟨b1, b2, b3, b4, b5⟩ := rc_bnd zs _ 0 (by omega) _ _ _ _ _ _ _ _ _ hu hm hp
        obtain ⟨c1, c2, c3, c4, _⟩ := rc_bnd zs _ 1 (by omega) _ _ _ _ _ _ _ _ _ hr b4 b2
        have b6 := b5 rfl
        simp only [rcF]
        have hgp := (gon_ok hg hp).2.2 rfl
        rw [gon_local hg (fun _ => ha.2 p hP (by omega))]
        simp only
        rcases ih 0 (by omega) _ _ _ _ _ _ _ _ _ hu hm hp (ha.le c1) hP d' M with z | ⟨⟨e, pl, z, z1⟩, z2⟩
        · rw [z]
          simp only
          rcases ih 1 (by omega) _ _ _ _ _ _ _ _ _ hr b4 b2 ha (by omega) d' (M + (x - m)) with y | ⟨y1, y2⟩
          · left; rw [y]; congr 3; omega
          · exact .inr ⟨y1, by omega⟩
        · exact .inr ⟨⟨e, pl, by rw [z], z1⟩, z2⟩
    · obtain rfl : j = 0 := by omega
      rcases rc2_inv e with ⟨hg, rfl, rfl⟩ | ⟨g, hg, u, q, x, hu, hk, v, s, i, hv, hr⟩
      · simp only [rcF]
        rw [gon_local hg (fun hl => ha.2 p hP (by subst hl; have := gon_end hg; omega))]
        left
        simp <;> try omega
      · obtain ⟨b1, b2, b3, b4, b5⟩ := rc_bnd zs _ 0 (by omega) _ _ _ _ _ _ _ _ _ hu hm hp
        obtain ⟨d1, d2, d3, d4, d5⟩ := rc_bnd zs _ 0 (by omega) _ _ _ _ _ _ _ _ _ hv b4 b2
        obtain ⟨c1, c2, c3, c4, _⟩ := rc_bnd zs _ 2 (by omega) _ _ _ _ _ _ _ _ _ hr d4 d2
        have b6 := b5 rfl
        have d6 := d5 rfl
        simp only [rcF]
        have hgp := (gon_ok hg hp).2.2 rfl
        rw [gon_local hg (fun _ => ha.2 p hP (by omega))]
        simp only
        rcases ih 0 (by omega) _ _ _ _ _ _ _ _ _ hu hm hp (ha.le (by omega)) hP d' M with z | ⟨⟨e, pl, z, z1⟩, z2⟩
        · rw [z]
          simp only
          rw [if_neg (by rw [hk]; simp)]
          rcases ih 0 (by omega) _ _ _ _ _ _ _ _ _ hv b4 b2 (ha.le c1) (by omega) d' (M + (x - m)) with w | ⟨⟨e, pl, w, w1⟩, w2⟩
          · rw [w]
            simp only
            rcases ih 2 (by omega) _ _ _ _ _ _ _ _ _ hr d4 d2 ha (by omega) d' (M + (x - m) + (i - x)) with y | ⟨y1, y2⟩
            · left; rw [y]; congr 3; omega
            · exact .inr ⟨y1, by omega⟩
          · exact .inr ⟨⟨e, pl, by rw [w], w1⟩, by omega⟩
        · exact .inr ⟨⟨e, pl, by rw [z], z1⟩, z2⟩
/-- Of bytes up to which they are the same, the same is read. -/
theorem rc_same {zs zs' : List Int} {k p r n : Nat} {t : Tr} (e : rcF k zs 0 1 p 0 none [] [] = .inr (t, r, n)) (hp : p ≤ zs.length) (ha : Ag 0 0 r zs zs') : rcF k zs' 0 1 p 0 none [] [] = .inr (t, r, n) := by
  rcases rc_shift zs zs' 0 0 k 0 (by omega) _ _ _ _ _ _ _ _ _ e (by omega) hp ha (by omega) 1 0 with h | ⟨_, h⟩
  · simpa using h
  · omega
end Go.Proofs.YtnjbppfanmmifaaGreatDoor
