/-
  The nearest bits: each format's function as a whole.
  To narrow: flt.Narrow.
  CBOR out of trees: runs of bytes, whole numbers, powers and Floats.
  CBOR out of trees: the bytes of a tree as plain data; items one behind the other.
  CBOR out of trees: pairs of a Map.
  CBOR out of trees: an item, by its kind, those of one call.
-/
import Derived.Test.YtnjbppfanmmifaaGreatDoorH8
import Derived.Test.YtnjbppfanmmifaaGreatDoorH36
import Derived.Test.YtnjbppfanmmifaaGreatDoorH37
import Derived.Test.YtnjbppfanmmifaaGreatDoorH12
import Derived.Test.YtnjbppfanmmifaaGreatDoorH34
import Derived.Test.YtnjbppfanmmifaaGreatDoorH35
import Derived.BigQuiet
import Derived.Deep.RegionLaw
namespace Go.Proofs.YtnjbppfanmmifaaGreatDoor
open Go.RowKit
set_option linter.unusedVariables false
theorem nearest2_any (n : Int) (h : 0 ≤ n ∧ n < 18446744073709551616) (w : World) : Calls Tryz.prog 153 #[.agg #[.int .i64 2, .int .i64 5, .int .i64 10], .int .u64 n] w fun e w' => e = .returned (.int .u64 (near2 n)) ∧ Below w.heap.size w w' := by
  have kS := fun w => split8_any n h.1 (by omega) w
  unfold near2
  have hS : 0 ≤ n / 9223372036854775808 ∧ n / 9223372036854775808 ≤ 1 := by omega
  have hX : 0 ≤ n / 4503599627370496 % 2048 ∧ n / 4503599627370496 % 2048 < 2048 := by omega
  have hG : 0 ≤ n % 4503599627370496 ∧ n % 4503599627370496 < 4503599627370496 := by omega
  generalize n / 9223372036854775808 = S at *
  generalize n / 4503599627370496 % 2048 = X at *
  generalize n % 4503599627370496 = G at *
  have hshl : Op.shift .shr .u64 G .u64 42 = pure (.int .u64 (G / 4398046511104)) := shr_any G 42 (by omega) (by omega) (by decide)
  unfold nr2
  by_cases h1 : 1008 < X
  · rw [if_pos h1]
    exact nr2_all S X G n hS hX hG _ G 42 _ (fun _ => ⟨rfl, rfl, rfl⟩) (fun h _ => False.elim (by omega)) (fun h => False.elim (by omega)) hshl (by omega) (by omega) w kS
  · rw [if_neg h1]
    by_cases h2 : X = 0
    · rw [if_neg (by simpa using h2)]
      exact nr2_all S X G n hS hX hG X G 42 _ (fun h => absurd h h1) (fun _ h => absurd h2 h) (fun _ => ⟨rfl, rfl, rfl⟩) hshl (by omega) (by omega) w kS
    · rw [if_pos h2]
      exact nr2_all S X G n hS hX hG 0 (G + 4503599627370496) (1051 - X) _ (fun h => absurd h h1) (fun _ _ => ⟨rfl, rfl, rfl⟩) (fun h => absurd h h2) (shr_any _ _ (by omega) (by omega) (by omega)) (by decide) (near_q2 hG (by omega)) w kS
theorem nearest4_any (n : Int) (h : 0 ≤ n ∧ n < 18446744073709551616) (w : World) : Calls Tryz.prog 153 #[.agg #[.int .i64 4, .int .i64 8, .int .i64 23], .int .u64 n] w fun e w' => e = .returned (.int .u64 (near4 n)) ∧ Below w.heap.size w w' := by
  have kS := fun w => split8_any n h.1 (by omega) w
  unfold near4
  have hS : 0 ≤ n / 9223372036854775808 ∧ n / 9223372036854775808 ≤ 1 := by omega
  have hX : 0 ≤ n / 4503599627370496 % 2048 ∧ n / 4503599627370496 % 2048 < 2048 := by omega
  have hG : 0 ≤ n % 4503599627370496 ∧ n % 4503599627370496 < 4503599627370496 := by omega
  generalize n / 9223372036854775808 = S at *
  generalize n / 4503599627370496 % 2048 = X at *
  generalize n % 4503599627370496 = G at *
  have hshl : Op.shift .shr .u64 G .u64 29 = pure (.int .u64 (G / 536870912)) := shr_any G 29 (by omega) (by omega) (by decide)
  unfold nr4
  by_cases h1 : 896 < X
  · rw [if_pos h1]
    exact nr4_all S X G n hS hX hG _ G 29 _ (fun _ => ⟨rfl, rfl, rfl⟩) (fun h _ => False.elim (by omega)) (fun h => False.elim (by omega)) hshl (by omega) (by omega) w kS
  · rw [if_neg h1]
    by_cases h2 : X = 0
    · rw [if_neg (by simpa using h2)]
      exact nr4_all S X G n hS hX hG X G 29 _ (fun h => absurd h h1) (fun _ h => absurd h2 h) (fun _ => ⟨rfl, rfl, rfl⟩) hshl (by omega) (by omega) w kS
    · rw [if_pos h2]
      exact nr4_all S X G n hS hX hG 0 (G + 4503599627370496) (926 - X) _ (fun h => absurd h h1) (fun _ _ => ⟨rfl, rfl, rfl⟩) (fun h => absurd h h2) (shr_any _ _ (by omega) (by omega) (by omega)) (by decide) (near_q4 hG (by omega)) w kS
end Go.Proofs.YtnjbppfanmmifaaGreatDoor
namespace Go.Proofs.YtnjbppfanmmifaaGreatDoor
open Go.RowKit

/-- P7.2: the bits of the least format, and its bytes. -/
def narrowA (n : Int) : Int × Int := if widen2 (near2 n) = n then (near2 n, 2) else if widen4 (near4 n) = n then (near4 n, 4) else (n, 8)
/-- The formats in memory. -/
def NineF (w : World) (g : Nat) : Prop := w.heap[g]? = some (.cells #[.int .i64 2, .int .i64 5, .int .i64 10, .int .i64 4, .int .i64 8, .int .i64 23, .int .i64 8, .int .i64 11, .int .i64 52] 150 (0, 0))
theorem NineF.lt {w : World} {g : Nat} (h : NineF w g) : g < w.heap.size := (Array.getElem?_eq_some_iff.1 h).1
theorem NineF.kept {w w' : World} {g B : Nat} (h : NineF w g) (hb : Below B w w') (hB : g < B) : NineF w' g := by
  unfold NineF at h ⊢
  rw [hb.block g hB]; exact h
theorem nineF_new (w : World) : NineF (w.alloc (.cells #[.int .i64 2, .int .i64 5, .int .i64 10, .int .i64 4, .int .i64 8, .int .i64 23, .int .i64 8, .int .i64 11, .int .i64 52] 150)) w.heap.size := heap_alloc_new w _
theorem NineF.at {w : World} {g : Nat} (h : NineF w g) : w.cell? ⟨g, 0, none⟩ = some (.int .i64 2) ∧ w.cell? ⟨g, 1, none⟩ = some (.int .i64 5) ∧ w.cell? ⟨g, 2, none⟩ = some (.int .i64 10) ∧ w.cell? ⟨g, 3, none⟩ = some (.int .i64 4) ∧ w.cell? ⟨g, 4, none⟩ = some (.int .i64 8) ∧ w.cell? ⟨g, 5, none⟩ = some (.int .i64 23) := by
  refine ⟨?_, ?_, ?_, ?_, ?_, ?_⟩ <;> exact cell_row h _
set_option maxRecDepth 100000 in
set_option maxHeartbeats 2000000 in
theorem narrow_any (n : Int) (hn : 0 ≤ n ∧ n < 18446744073709551616) (w : World) : Calls Tryz.prog 112 #[.int .u64 n] w fun e w' => e = .returned (.tuple #[.int .u64 (narrowA n).1, .int .i64 (narrowA n).2]) ∧ Below w.heap.size w w' := by
  obtain ⟨R, hR⟩ : ∃ R, narrowA n = R := ⟨_, rfl⟩
  rw [hR]
  have a0 : Hid (widen2 (near2 n) = n → R = (near2 n, 2)) := fun h => by rw [← hR]; unfold narrowA; rw [if_pos h]
  have a1 : Hid (¬ widen2 (near2 n) = n → widen4 (near4 n) = n → R = (near4 n, 4)) := fun h h1 => by rw [← hR]; unfold narrowA; rw [if_neg h, if_pos h1]
  have a2 : Hid (¬ widen2 (near2 n) = n → ¬ widen4 (near4 n) = n → R = (n, 8)) := fun h h1 => by rw [← hR]; unfold narrowA; rw [if_neg h, if_neg h1]
  have kF := formats_any
  have k0 := wide_any
  have fW := fldW0
  have kn2 := nearest2_any n hn
  have kw2 := fwiden2_any (near2 n) (near_room2 hn)
  have kn4 := nearest4_any n hn
  have kw4 := fwiden4_any (near4 n) (near_room4 hn)
  clear hR hn
  obtain ⟨N2, h2⟩ : ∃ N, near2 n = N := ⟨_, rfl⟩
  obtain ⟨N4, h4⟩ : ∃ N, near4 n = N := ⟨_, rfl⟩
  rw [h2] at a0 a1 a2 kn2 kw2
  rw [h4] at a1 a2 kn4 kw4
  clear h2 h4
  generalize widen2 N2 = W2 at *
  generalize widen4 N4 = W4 at *
  go_enter Tryz.func112, Tryz.ntmps112
  go_wp2_with (go_at_call 152; refine (kF _).mono ?_; rintro e wf ⟨rfl, bf⟩)
  have n0 := nineF_new wf
  have d0 := bf.alloc bf.size (.cells #[.int .i64 2, .int .i64 5, .int .i64 10, .int .i64 4, .int .i64 8, .int .i64 23, .int .i64 8, .int .i64 11, .int .i64 52] 150)
  go_loopw [11] (fun iv wr => ∃ k : Nat, k ≤ 2 ∧ iv = .int .i64 k ∧ Hid (1 ≤ k → ¬ W2 = n) ∧ Hid (2 ≤ k → ¬ W4 = n) ∧ Hid (NineF wr wf.heap.size) ∧ Hid (Below w.heap.size w wr)) (fun iv _ => 2 - (intOf iv).toNat)
  case atStart => exact ⟨0, by decide, rfl, (fun h => by omega), (fun h => by omega), n0, d0⟩
  case round =>
    obtain ⟨k, hk, rfl, f1, f2, hn, hbl⟩ := hrel
    clear n0 d0
    have hks : k = 0 ∨ k = 1 ∨ k = 2 := by omega
    rcases hks with rfl | rfl | rfl
    · obtain ⟨c0, c1, c2, c3, c4, c5⟩ := hn.out.at
      by_cases hw : W2 = n
      · have hfin := a0.out hw
        subst hfin
        have he : (W2 == n) = true := by simpa using hw
        clear hw hk a0 a1 a2 f1 f2
        go_wp2_with (first
          | (go_at_call 153; refine (kn2 _).mono ?_; rintro e w1 ⟨rfl, b1⟩; have d1 : Below w.heap.size w w1 := (hbl.out.alloc hbl.out.size _).trans (b1.mono (Nat.le_trans hbl.out.size (Nat.le_of_lt (alloc_lt _ _)))); have r1 := (row3_new wr 149 (.int .i64 2) (.int .i64 5) (.int .i64 10)).kept b1 (alloc_lt _ _); obtain ⟨x0, x1, x2⟩ := r1.at)
          | (go_at_call 154; refine (kw2 _).mono ?_; rintro e w2 ⟨rfl, b2⟩; have d2 : Below w.heap.size w w2 := d1.trans (b2.mono d1.size); obtain ⟨y0, y1, y2⟩ := (r1.kept b2 r1.lt).at))
        go_quiet (fail)
        go_wp2
        go_ret2
        exact ⟨rfl, ⟨d2.os, d2.tape, d2.output, d2.size, d2.block⟩⟩
      · have he : (W2 == n) = false := by simpa using hw
        have hx : Hid (¬ W2 = n) := hw
        clear hw hk
        go_wp2_with (first
          | (go_at_call 153; refine (kn2 _).mono ?_; rintro e w1 ⟨rfl, b1⟩; have d1 : Below w.heap.size w w1 := (hbl.out.alloc hbl.out.size _).trans (b1.mono (Nat.le_trans hbl.out.size (Nat.le_of_lt (alloc_lt _ _)))); have r1 := (row3_new wr 149 (.int .i64 2) (.int .i64 5) (.int .i64 10)).kept b1 (alloc_lt _ _); have m1 : NineF w1 wf.heap.size := (hn.out.kept (alloc_below wr _) hn.out.lt).kept b1 (Nat.lt_trans hn.out.lt (alloc_lt _ _)); obtain ⟨x0, x1, x2⟩ := r1.at)
          | (go_at_call 154; refine (kw2 _).mono ?_; rintro e w2 ⟨rfl, b2⟩; have d2 : Below w.heap.size w w2 := d1.trans (b2.mono d1.size); have m2 := m1.kept b2 m1.lt))
        go_roundw
        case rel => exact ⟨1, by decide, by first | rfl | simp, (fun _ => hx.out), (fun h => by omega), m2, d2⟩
        case measure => simp [intOf]
    · obtain ⟨c0, c1, c2, c3, c4, c5⟩ := hn.out.at
      by_cases hw : W4 = n
      · have hfin := a1.out (f1.out (by decide)) hw
        subst hfin
        have he : (W4 == n) = true := by simpa using hw
        clear hw hk a0 a1 a2 f1 f2
        go_wp2_with (first
          | (go_at_call 153; refine (kn4 _).mono ?_; rintro e w1 ⟨rfl, b1⟩; have d1 : Below w.heap.size w w1 := (hbl.out.alloc hbl.out.size _).trans (b1.mono (Nat.le_trans hbl.out.size (Nat.le_of_lt (alloc_lt _ _)))); have r1 := (row3_new wr 149 (.int .i64 4) (.int .i64 8) (.int .i64 23)).kept b1 (alloc_lt _ _); obtain ⟨x0, x1, x2⟩ := r1.at)
          | (go_at_call 154; refine (kw4 _).mono ?_; rintro e w2 ⟨rfl, b2⟩; have d2 : Below w.heap.size w w2 := d1.trans (b2.mono d1.size); obtain ⟨y0, y1, y2⟩ := (r1.kept b2 r1.lt).at))
        go_quiet (fail)
        go_wp2
        go_ret2
        exact ⟨rfl, ⟨d2.os, d2.tape, d2.output, d2.size, d2.block⟩⟩
      · have he : (W4 == n) = false := by simpa using hw
        have hx : Hid (¬ W4 = n) := hw
        clear hw hk
        go_wp2_with (first
          | (go_at_call 153; refine (kn4 _).mono ?_; rintro e w1 ⟨rfl, b1⟩; have d1 : Below w.heap.size w w1 := (hbl.out.alloc hbl.out.size _).trans (b1.mono (Nat.le_trans hbl.out.size (Nat.le_of_lt (alloc_lt _ _)))); have r1 := (row3_new wr 149 (.int .i64 4) (.int .i64 8) (.int .i64 23)).kept b1 (alloc_lt _ _); have m1 : NineF w1 wf.heap.size := (hn.out.kept (alloc_below wr _) hn.out.lt).kept b1 (Nat.lt_trans hn.out.lt (alloc_lt _ _)); obtain ⟨x0, x1, x2⟩ := r1.at)
          | (go_at_call 154; refine (kw4 _).mono ?_; rintro e w2 ⟨rfl, b2⟩; have d2 : Below w.heap.size w w2 := d1.trans (b2.mono d1.size); have m2 := m1.kept b2 m1.lt))
        go_roundw
        case rel => exact ⟨2, by decide, by first | rfl | simp, (fun _ => f1.out (by decide)), (fun _ => hx.out), m2, d2⟩
        case measure => simp [intOf]
    · have hfin := a2.out (f1.out (by decide)) (f2.out (by decide))
      subst hfin
      clear hk a0 a1 a2 f1 f2
      go_wp2_with (go_at_call 155; refine (k0 _).mono ?_; rintro e w1 ⟨rfl, b1⟩; have d1 : Below w.heap.size w w1 := hbl.out.trans (b1.mono hbl.out.size))
      go_ret2
      exact ⟨rfl, d1⟩
end Go.Proofs.YtnjbppfanmmifaaGreatDoor
namespace Go.Proofs.YtnjbppfanmmifaaGreatDoor
open Go.RowKit
set_option linter.unusedVariables false
/-- The library's variables that the writer reads. -/
def Cv (L : Nat) (w : World) : Prop := Lw L w ∧ Dt L w
theorem Cv.on {B : Nat} {w w' : World} (h : Cv B w) (hb : Below B w w') : Cv B w' := ⟨h.1.on hb, h.2.on hb⟩
theorem lists_lit {w : World} (us : List Value) (Ls : List (List Int)) (hl : us.length = Ls.length) (hm : Ls.length ≤ maxLen) (hu : ∀ i u, us[i]? = some u → Load w w.heap.size u (Ls.getD i [])) : Lists (w.alloc (.cells us.toArray 22)) (w.alloc (.cells us.toArray 22)).heap.size (some ⟨w.heap.size, 0, none⟩) Ls := by
  have A := alloc_below w (.cells us.toArray 22)
  refine ⟨hm, .inr ⟨w.heap.size, 0, us, rfl, .inr ⟨_, _, heap_alloc_new w _⟩, hl, fun i u hi => ⟨?_, ?_⟩⟩⟩
  · rw [Nat.zero_add, cell_row (heap_alloc_new w _)]
    simpa using hi
  · exact ((hu i u hi).keep (keep5_below A _)).mono A.size
theorem load_bytes {w : World} {a : Option Addr} {n c : Nat} {zs : List Int} (hl : zs.length = n) (hb : Bytes w a zs) (hc : n ≤ c ∧ c ≤ maxLen ∧ (a = none → c = 0)) : Load w w.heap.size (.slice a n c) zs := by
  subst hl
  exact ⟨a, c, rfl, hb, hc.2.2, hc.1, hc.2.1, fun x hx hne => .inl (by subst hx; exact Bytes.lt hb hne)⟩
theorem BytIs.up {w x w' : World} {e : Ending} {l : List Int} (h : BytIs x w' e l) (hb : Below w.heap.size w x) : BytIs w w' e l := by
  obtain ⟨⟨v, he, hO⟩, hB⟩ := h
  exact ⟨⟨v, he, hO.base hb.size⟩, hb.trans (hB.mono hb.size)⟩
theorem two_at (us : List Value) {P : Nat → Value → Prop} {u0 u1 : Value} (e : us = [u0, u1]) (h0 : P 0 u0) (h1 : P 1 u1) : ∀ i u, us[i]? = some u → P i u := by
  subst e
  intro i u hi
  match i, hi with
  | 0, hi => simp at hi; subst hi; exact h0
  | 1, hi => simp at hi; subst hi; exact h1
  | i + 2, hi => simp at hi
/-- The bytes of a run. -/
def runB (mj : Nat) (l : List Int) : List Int := jnB [hdB mj l.length, l] []
set_option maxHeartbeats 4000000 in
set_option maxRecDepth 100000 in
theorem srun_any (mj : Nat) (hm : mj < 8) (a : Option Addr) (n c : Nat) (zs : List Int) {L : Nat} {w : World} (hl : zs.length = n) (hb : Bytes w a zs) (hc : n ≤ c ∧ c ≤ maxLen ∧ (a = none → c = 0)) (hz : zs.length ≤ 100000) (hD : Dt L w) (hL : L ≤ w.heap.size) : Calls Tryz.prog 71 #[.int .i64 (mj : Nat), .slice a n c] w fun e w' => BytIs w w' e (runB mj zs) := by
  have kH := shead_any mj n hm (by omega) hD hL
  have wu : IntKind.u64.wrap (n : Int) = (n : Int) := by rw [IntKind.wrap_u64]; omega
  have kJ : Hid (∀ x v, Below w.heap.size w x → OwnsB x w.heap.size v (hdB mj n) → Calls Tryz.prog 68 #[.slice (some ⟨x.heap.size, 0, none⟩) 2 2] (x.alloc (.cells #[v, .slice a n c] 22)) fun e w' => BytIs w w' e (runB mj zs)) := fun x v hx hO => by
    have hLs := lists_lit (w := x) [v, .slice a n c] [hdB mj n, zs] rfl (by simp [maxLen]) (two_at _ (P := fun i u => Load x x.heap.size u ([hdB mj n, zs].getD i [])) rfl (load_of_owns hO) (load_bytes hl (hb.kept hx) hc))
    have := sjoin_any (some ⟨x.heap.size, 0, none⟩) 2 2 [hdB mj n, zs] 100000 (x.alloc (.cells #[v, .slice a n c] 22)) rfl hLs (Nat.le_refl _) (by omega) (by omega) (fun l hm => by
      rcases List.mem_cons.1 hm with q | q
      · subst q; have := hdB_len mj n; omega
      · rw [List.mem_singleton.1 q]; exact hz)
    unfold runB
    rw [hl]
    exact this.mono fun e w' h => h.up (hx.trans ((alloc_below x _).mono hx.size))
  generalize hdB mj n = H at *
  unfold BytIs at kH
  clear hl hb hc hz hD hL
  go_enter Tryz.func71, Tryz.ntmps71
  go_wp2_with (first
    | (go_at_call 44; refine kH.mono ?_; rintro e x1 ⟨⟨v1, rfl, hO1⟩, hB1⟩; obtain ⟨a1, n1, c1, rfl, -, -, -, -, -⟩ := hO1.form)
    | (go_at_call 68; refine (kJ.out _ _ hB1 hO1).mono ?_; rintro e x2 ⟨⟨v2, rfl, hO2⟩, hB2⟩))
  go_ret
  exact ⟨⟨_, rfl, hO2⟩, hB2⟩
/-- The bytes of a natural number. -/
def natB (mj tag : Nat) (d : ByteArray) : List Int := if (towA d).2 = true then hdB mj (towA d).1.toNat else jnB [hdB 6 tag, runB 2 (tobA d).1] []
theorem tob_len (d : ByteArray) : (tobA d).1.length ≤ 100000 := by
  unfold tobA
  split
  · rename_i h
    have h1 := right_lt h
    have h2 : ∀ m, 10 ^ m ≤ 256 ^ m := fun m => Nat.pow_le_pow_left (by omega) m
    have h3 : ∀ k n, n < 256 ^ k → k ≤ 100000 → (byL n).length ≤ 100000 := fun k n a b => Nat.le_trans (by_len k n a) b
    exact h3 800 _ (Nat.lt_of_lt_of_le h1 (by unfold top; exact h2 800)) (by omega)
  · simp
theorem tow_room {d : ByteArray} (h : (towA d).2 = true) : ∃ n : Nat, (towA d).1 = (n : Int) ∧ n < 18446744073709551616 := by
  unfold towA at h ⊢
  split at h
  · rename_i c; rw [if_pos c]; exact ⟨_, rfl, c.2⟩
  · cases h
theorem runB_len (mj : Nat) (l : List Int) (h : l.length ≤ 100000) : (runB mj l).length ≤ 104096 := by
  have := jnB_len 100000 [hdB mj l.length, l] [] (fun x hm => by
    rcases List.mem_cons.1 hm with q | q
    · subst q; have := hdB_len mj l.length; omega
    · rw [List.mem_singleton.1 q]; exact h) (by simp)
  exact this
set_option maxHeartbeats 4000000 in
set_option maxRecDepth 100000 in
theorem snat_any (mj tag : Nat) (hm : mj < 8) (ht : tag < 18446744073709551616) (d : ByteArray) {L : Nat} {w : World} (hC : Cv L w) (hL : L ≤ w.heap.size) : Calls Tryz.prog 111 #[.int .i64 (mj : Nat), .int .u64 (tag : Nat), .string d] w fun e w' => BytIs w w' e (natB mj tag d) := by
  have hCx : Hid (∀ x, Below w.heap.size w x → Cv L x ∧ L ≤ x.heap.size) := fun x hx => ⟨hC.on (hx.mono hL), Nat.le_trans hL hx.size⟩
  obtain ⟨_, h2', tp, pp, hv⟩ := hC.1
  have kT := tow_any d w tp pp hv
  unfold natB
  by_cases hok : (towA d).2 = true
  · rw [if_pos hok]
    obtain ⟨n, hn, hn64⟩ := tow_room hok
    rw [hok, hn] at kT
    rw [hn, Int.toNat_natCast]
    have kH : Hid (∀ x, Below w.heap.size w x → Calls Tryz.prog 44 #[.int .i64 (mj : Nat), .int .u64 (n : Nat)] x fun e w' => BytIs x w' e (hdB mj n)) := fun x hx => shead_any mj n hm hn64 (hCx.out x hx).1.2 (hCx.out x hx).2
    generalize hdB mj n = H at *
    clear hok hn hn64 hv h2' hC hL hCx
    unfold BytIs at kH ⊢
    go_enter Tryz.func111, Tryz.ntmps111
    go_wp2_with (first
      | (go_at_call 150; refine kT.mono ?_; rintro e x1 ⟨rfl, hB1⟩)
      | (go_at_call 44; refine (kH.out _ hB1).mono ?_; rintro e x2 ⟨⟨v2, rfl, hO2⟩, hB2⟩))
    go_ret
    exact ⟨⟨_, rfl, hO2.base hB1.size⟩, hB1.trans (hB2.mono hB1.size)⟩
  · rw [if_neg hok]
    have hok' : (towA d).2 = false := by simpa using hok
    rw [hok'] at kT
    have kB : Hid (∀ x, Calls Tryz.prog 151 #[.string d] x fun e w' => (∃ v, e = .returned (.tuple #[v, .int .i64 (tobA d).2]) ∧ OwnsB w' x.heap.size v (tobA d).1) ∧ Below x.heap.size x w') := fun x => tob_any d x
    have kH : Hid (∀ x, Below w.heap.size w x → Calls Tryz.prog 44 #[.int .i64 6, .int .u64 (tag : Nat)] x fun e w' => BytIs x w' e (hdB 6 tag)) := fun x hx => shead_any 6 tag (by omega) ht (hCx.out x hx).1.2 (hCx.out x hx).2
    have hlen := tob_len d
    have kR : Hid (∀ x a n c, Below w.heap.size w x → (tobA d).1.length = n → Bytes x a (tobA d).1 → (n ≤ c ∧ c ≤ maxLen ∧ (a = none → c = 0)) → Calls Tryz.prog 71 #[.int .i64 2, .slice a n c] x fun e w' => BytIs x w' e (runB 2 (tobA d).1)) := fun x a n c hx h1 h2 h3 => srun_any 2 (by omega) a n c (tobA d).1 h1 h2 h3 hlen (hCx.out x hx).1.2 (hCx.out x hx).2
    have hl1 := hdB_len 6 tag
    have hl2 := runB_len 2 _ hlen
    generalize hdB 6 tag = H at *
    generalize runB 2 (tobA d).1 = Rn at *
    have kJ : Hid (∀ x v1 v2, Below w.heap.size w x → Load x x.heap.size v1 H → Load x x.heap.size v2 Rn → Calls Tryz.prog 68 #[.slice (some ⟨x.heap.size, 0, none⟩) 2 2] (x.alloc (.cells #[v1, v2] 22)) fun e w' => BytIs w w' e (jnB [H, Rn] [])) := fun x v1 v2 hx h1 h2 => by
      have hLs := lists_lit (w := x) [v1, v2] [H, Rn] rfl (by simp [maxLen]) (two_at _ (P := fun i u => Load x x.heap.size u ([H, Rn].getD i [])) rfl h1 h2)
      have := sjoin_any (some ⟨x.heap.size, 0, none⟩) 2 2 [H, Rn] 200000 (x.alloc (.cells #[v1, v2] 22)) rfl hLs (Nat.le_refl _) (by omega) (by omega) (fun l hm => by
        rcases List.mem_cons.1 hm with q | q
        · subst q; omega
        · rw [List.mem_singleton.1 q]; omega)
      exact this.mono fun e w' h => h.up (hx.trans ((alloc_below x _).mono hx.size))
    generalize (tobA d).1 = T at *
    generalize (tobA d).2 = y at *
    clear hok hok' hv h2' hC hL hCx hlen hl1 hl2
    unfold BytIs at kH kR
    go_enter Tryz.func111, Tryz.ntmps111
    go_wp2_with (first
      | (go_at_call 150; refine kT.mono ?_; rintro e x1 ⟨rfl, hB1⟩)
      | (go_at_call 151; refine (kB.out _).mono ?_; rintro e x2 ⟨⟨v2, rfl, hO2⟩, hB2⟩; obtain ⟨a2, n2, c2, rfl, hl2, hn2, hc2, hm2, hb2⟩ := hO2.form; have b2 : Hid (Below w.heap.size w x2) := hB1.trans (hB2.mono hB1.size); have O2 : Hid (OwnsB x2 x1.heap.size (.slice a2 n2 c2) T) := hO2; clear hO2 hB2)
      | (go_at_call 44; refine (kH.out _ b2.out).mono ?_; rintro e x3 ⟨⟨v3, rfl, hO3⟩, hB3⟩; have b3 : Hid (Below w.heap.size w x3) := b2.out.trans (hB3.mono b2.out.size); have O3 : Hid (OwnsB x3 x2.heap.size v3 H) := hO3; have hb3 : Hid (Bytes x3 a2 T) := hb2.out.kept hB3; obtain ⟨a3, n3, c3, rfl, -, -, -, -, -⟩ := O3.out.form; clear hO3 hB3)
      | (go_at_call 71; refine (kR.out _ _ _ _ b3.out hl2.out hb3.out ⟨hc2, hm2, hn2.out⟩).mono ?_; rintro e x4 ⟨⟨v4, rfl, hO4⟩, hB4⟩; have b4 : Hid (Below w.heap.size w x4) := b3.out.trans (hB4.mono b3.out.size); have O4 : Hid (OwnsB x4 x3.heap.size v4 Rn) := hO4; have O34 : Hid (OwnsB x4 x2.heap.size (.slice a3 n3 c3) H) := O3.out.below hB4; obtain ⟨a4, n4, c4, rfl, -, -, -, -, -⟩ := O4.out.form; clear hO4 hB4)
      | (go_at_call 68; refine (kJ.out _ _ _ b4.out (load_of_owns O34.out) (load_of_owns O4.out)).mono ?_; rintro e x5 ⟨⟨v5, rfl, hO5⟩, hB5⟩))
    go_ret
    exact ⟨⟨_, rfl, hO5⟩, hB5⟩
/-- The bytes of an Int. -/
def whlB (neg : Bool) (d : ByteArray) : List Int := if neg = true then natB 1 3 (subA d oneS).1 else natB 0 2 d
set_option maxHeartbeats 4000000 in
set_option maxRecDepth 100000 in
theorem swhole_any (neg : Bool) (d : ByteArray) {L : Nat} {w : World} (hC : Cv L w) (hL : L ≤ w.heap.size) : Calls Tryz.prog 67 #[.bool neg, .string d] w fun e w' => BytIs w w' e (whlB neg d) := by
  have kN : Hid (∀ x (s : ByteArray), Below w.heap.size w x → Calls Tryz.prog 111 #[.int .i64 1, .int .u64 3, .string s] x fun e w' => BytIs x w' e (natB 1 3 s)) := fun x s hx => snat_any 1 3 (by omega) (by omega) s (hC.on (hx.mono hL)) (Nat.le_trans hL hx.size)
  have kP := snat_any 0 2 (by omega) (by omega) d hC hL
  have kS := sub_any d oneS w
  unfold whlB oneS at *
  cases neg with
  | true =>
    rw [if_pos rfl]
    generalize (subA d ⟨#[49]⟩).1 = s at *
    generalize (subA d ⟨#[49]⟩).2 = y at *
    have kN1 := fun x hx => kN.out x s hx
    unfold BytIs at kN1 ⊢
    clear kN kP hC hL
    go_enter Tryz.func67, Tryz.ntmps67
    go_wp2_with (first
      | (go_at_call 110; refine kS.mono ?_; rintro e x1 ⟨rfl, hB1⟩)
      | (go_at_call 111; refine (kN1 _ hB1).mono ?_; rintro e x2 ⟨⟨v2, rfl, hO2⟩, hB2⟩))
    go_ret
    exact ⟨⟨_, rfl, hO2.base hB1.size⟩, hB1.trans (hB2.mono hB1.size)⟩
  | false =>
    rw [if_neg (by simp)]
    unfold BytIs at kP ⊢
    clear kN kS hC hL
    go_enter Tryz.func67, Tryz.ntmps67
    go_wp2_with (go_at_call 111; refine kP.mono ?_; rintro e x2 ⟨⟨v2, rfl, hO2⟩, hB2⟩)
    go_ret
    exact ⟨⟨_, rfl, hO2⟩, hB2⟩
/-- The bytes of a Dec's power. -/
def powB (x : Int) : List Int := if x < 0 then hdB 1 (-1 - x).toNat else hdB 0 x.toNat
set_option maxHeartbeats 4000000 in
theorem spow_any (x : Int) (h0 : -9223372036854775808 ≤ x) (h1 : x ≤ 9223372036854775807) {L : Nat} {w : World} (hD : Dt L w) (hL : L ≤ w.heap.size) : Calls Tryz.prog 69 #[.int .i64 x] w fun e w' => BytIs w w' e (powB x) := by
  unfold powB
  by_cases hx : x < 0
  · rw [if_pos hx]
    obtain ⟨n, hn⟩ : ∃ n : Nat, -1 - x = (n : Int) := ⟨(-1 - x).toNat, by omega⟩
    rw [hn, Int.toNat_natCast]
    have kH := shead_any 1 n (by omega) (by omega) hD hL
    have g : decide (x < 0) = true := by simpa using hx
    have w1 : IntKind.i64.wrap (-1 - x) = (n : Int) := by rw [IntKind.wrap_i64]; omega
    have w2 : IntKind.u64.wrap (n : Int) = (n : Int) := by rw [IntKind.wrap_u64]; omega
    generalize hdB 1 n = H at *
    unfold BytIs at kH ⊢
    clear hx hn h0 h1 hD hL
    go_enter Tryz.func69, Tryz.ntmps69
    go_wp2_with (go_at_call 44; refine kH.mono ?_; rintro e x2 ⟨⟨v2, rfl, hO2⟩, hB2⟩)
    go_ret
    exact ⟨⟨_, rfl, hO2⟩, hB2⟩
  · rw [if_neg hx]
    obtain ⟨n, rfl⟩ : ∃ n : Nat, x = (n : Int) := ⟨x.toNat, by omega⟩
    rw [Int.toNat_natCast]
    have kH := shead_any 0 n (by omega) (by omega) hD hL
    have g : decide ((n : Int) < 0) = false := by simp
    have w2 : IntKind.u64.wrap (n : Int) = (n : Int) := by rw [IntKind.wrap_u64]; omega
    generalize hdB 0 n = H at *
    unfold BytIs at kH ⊢
    clear hx h0 h1 hD hL
    go_enter Tryz.func69, Tryz.ntmps69
    go_wp2_with (go_at_call 44; refine kH.mono ?_; rintro e x2 ⟨⟨v2, rfl, hO2⟩, hB2⟩)
    go_ret
    exact ⟨⟨_, rfl, hO2⟩, hB2⟩
/-- The bytes of a Float. -/
def fltB (n : Int) : List Int := fsB 7 (if (narrowA n).2 = 2 then 25 else if (narrowA n).2 = 4 then 26 else 27) :: beB (narrowA n).1.toNat (narrowA n).2.toNat
set_option maxHeartbeats 4000000 in
theorem sflt_any (n : Int) (hn : 0 ≤ n ∧ n < 18446744073709551616) {L : Nat} {w : World} (hD : Dt L w) (hL : L ≤ w.heap.size) : Calls Tryz.prog 70 #[.int .u64 n] w fun e w' => BytIs w w' e (fltB n) := by
  have kN := narrow_any n hn w
  unfold fltB
  have hw : ((narrowA n).2 = 2 ∨ (narrowA n).2 = 4 ∨ (narrowA n).2 = 8) ∧ 0 ≤ (narrowA n).1 := by
    unfold narrowA
    split
    · exact ⟨.inl rfl, (near_room2 hn).1⟩
    split
    · exact ⟨.inr (.inl rfl), (near_room4 hn).1⟩
    · exact ⟨.inr (.inr rfl), hn.1⟩
  generalize narrowA n = R at *
  obtain ⟨k, wd⟩ := R
  simp only at *
  obtain ⟨m, rfl⟩ : ∃ m : Nat, k = (m : Int) := ⟨k.toNat, by omega⟩
  rw [Int.toNat_natCast]
  have kW : Hid (∀ (W i : Nat), Wd W i → ∀ x, Below w.heap.size w x → Calls Tryz.prog 81 #[.int .i64 7, .int .i64 (W : Nat), .int .u64 (m : Nat)] x fun e w' => (∃ v, e = .returned v ∧ OwnsB w' x.heap.size v (fsB 7 (24 + i) :: beB m W)) ∧ Below x.heap.size x w') := fun W i h x hx => swide_any h 7 m (by omega) (hD.on (hx.mono hL)) (Nat.le_trans hL hx.size)
  unfold BytIs
  rcases hw.1 with rfl | rfl | rfl
  · have k2 := kW.out 2 1 (.inr (.inl ⟨rfl, rfl⟩))
    clear kW hw hD hL hn
    go_enter Tryz.func70, Tryz.ntmps70
    go_wp2_with (first
      | (go_at_call 112; refine kN.mono ?_; rintro e x1 ⟨rfl, hB1⟩)
      | (go_at_call 81; refine (k2 _ hB1).mono ?_; rintro e x2 ⟨⟨v2, rfl, hO2⟩, hB2⟩))
    go_ret
    exact ⟨⟨_, rfl, hO2.base hB1.size⟩, hB1.trans (hB2.mono hB1.size)⟩
  · have k2 := kW.out 4 2 (.inr (.inr (.inl ⟨rfl, rfl⟩)))
    clear kW hw hD hL hn
    go_enter Tryz.func70, Tryz.ntmps70
    go_wp2_with (first
      | (go_at_call 112; refine kN.mono ?_; rintro e x1 ⟨rfl, hB1⟩)
      | (go_at_call 81; refine (k2 _ hB1).mono ?_; rintro e x2 ⟨⟨v2, rfl, hO2⟩, hB2⟩))
    go_ret
    exact ⟨⟨_, rfl, hO2.base hB1.size⟩, hB1.trans (hB2.mono hB1.size)⟩
  · have k2 := kW.out 8 3 (.inr (.inr (.inr ⟨rfl, rfl⟩)))
    clear kW hw hD hL hn
    go_enter Tryz.func70, Tryz.ntmps70
    go_wp2_with (first
      | (go_at_call 112; refine kN.mono ?_; rintro e x1 ⟨rfl, hB1⟩)
      | (go_at_call 81; refine (k2 _ hB1).mono ?_; rintro e x2 ⟨⟨v2, rfl, hO2⟩, hB2⟩))
    go_ret
    exact ⟨⟨_, rfl, hO2.base hB1.size⟩, hB1.trans (hB2.mono hB1.size)⟩
end Go.Proofs.YtnjbppfanmmifaaGreatDoor
namespace Go.Proofs.YtnjbppfanmmifaaGreatDoor
open Go.RowKit
set_option linter.unusedVariables false
def prB (f : Tr → List Int) : List Tr → List Tr → List (List Int)
  | a :: l, b :: m => f a :: f b :: prB f l m
  | _, _ => []
/-- THE BYTES OF A TREE. -/
def encF : Nat → Tr → List Int
  | 0, _ => []
  | k + 1, t => if t.kind = 1 then hdB 7 (20 + t.num.toNat) else if t.kind = 2 then whlB t.neg t.dig else if t.kind = 3 then jnB [hdB 6 4, hdB 4 2, powB t.exp, whlB t.neg t.dig] [] else if t.kind = 4 then fltB t.num
    else if t.kind = 5 then runB 3 (bs t.txt) else if t.kind = 6 then runB 2 t.bytes
    else if t.kind = 7 then jnB [hdB 4 t.kids.length, jnB (t.kids.map (encF k)) []] [] else if t.kind = 8 then jnB [hdB 5 t.kids.length, jnB (prB (encF k) t.keys t.kids) []] []
    else if t.kind = 9 then jnB [hdB 6 t.num.toNat, jnB (t.kids.map (encF k)) []] [] else if t.kind = 10 then hdB 7 t.num.toNat else hdB 7 22
/-- What the writer asks of a node. -/
def EG (u : Tr) : Prop := (u.kind = 5 → u.txt.size ≤ 4096) ∧ (u.kind = 6 → u.bytes.length ≤ 4096) ∧ (u.kind = 1 → u.num ≤ 1) ∧ (u.kind = 8 → u.keys.length = u.kids.length)
theorem eg_of {u : Tr} (h : alF u = 0) : EG u := by
  have h' : (if (u.kind = 5 ∧ 4096 < u.txt.size) ∨ (u.kind = 6 ∧ 4096 < u.bytes.length) then (8 : Int)
    else if u.kind = 5 ∧ gtx u.txt = false then 6
    else if u.kind = 2 ∧ (rt u.dig = false ∨ (u.neg = true ∧ u.dig = ⟨#[48]⟩)) then 11
    else if u.kind = 3 ∧ rdN u.neg u.dig u.exp = false then 11
    else if u.odd = true then 12 else 0) = 0 := h
  split at h'
  · cases h'
  rename_i c1
  split at h'
  · cases h'
  split at h'
  · cases h'
  split at h'
  · cases h'
  split at h'
  · cases h'
  rename_i c5
  unfold Tr.odd at c5
  simp at c5
  refine ⟨fun k => by have := fun z => c1 (.inl ⟨k, z⟩); omega, fun k => by have := fun z => c1 (.inr ⟨k, z⟩); omega, fun k => ?_, fun k => ?_⟩
  · have := c5.1.1.1.2 k; omega
  · exact c5.1.1.2 k
theorem whlB_len (neg : Bool) (d : ByteArray) : (whlB neg d).length ≤ 112288 := by
  have h : ∀ mj tag d, (natB mj tag d).length ≤ 112288 := fun mj tag d => by
    unfold natB
    split
    · have := hdB_len mj (towA d).1.toNat; omega
    · have := jnB_len 104096 [hdB 6 tag, runB 2 (tobA d).1] [] (fun x hm => by
        rcases List.mem_cons.1 hm with q | q
        · subst q; have := hdB_len 6 tag; omega
        · rw [List.mem_singleton.1 q]; exact runB_len 2 _ (tob_len d)) (by simp)
      omega
  unfold whlB
  split
  · exact h _ _ _
  · exact h _ _ _
theorem powB_len (x : Int) : (powB x).length ≤ 9 := by
  unfold powB
  split <;> exact hdB_len _ _
theorem fltB_len (x : Int) : (fltB x).length ≤ 9 := by
  unfold fltB narrowA
  split
  · simp [beB_len]
  split
  · simp [beB_len]
  · simp [beB_len]
theorem prB_mem (f : Tr → List Int) (P : List Int → Prop) : ∀ (l m : List Tr), (∀ a ∈ l, P (f a)) → (∀ a ∈ m, P (f a)) → ∀ x ∈ prB f l m, P x
  | [], _, _, _, x, h => by simp [prB] at h
  | _ :: _, [], _, _, x, h => by simp [prB] at h
  | a :: l, b :: m, h1, h2, x, h => by
    rcases List.mem_cons.1 h with q | q
    · rw [q]; exact h1 a List.mem_cons_self
    rcases List.mem_cons.1 q with q | q
    · rw [q]; exact h2 b List.mem_cons_self
    · exact prB_mem f P l m (fun a ha => h1 a (List.mem_cons_of_mem _ ha)) (fun a ha => h2 a (List.mem_cons_of_mem _ ha)) x q
theorem two_len {M : Nat} {a b : List Int} (ha : a.length ≤ M) (hb : b.length ≤ M) : ∀ l ∈ [a, b], l.length ≤ M := fun l hm => by
  rcases List.mem_cons.1 hm with q | q
  · rw [q]; exact ha
  · rw [List.mem_singleton.1 q]; exact hb
theorem encF_len : ∀ (k : Nat) (t : Tr), t.All EG → (encF k t).length ≤ 120000 + 8192 * k := by
  intro k
  induction k with
  | zero => intro t _; simp [encF]
  | succ k ih =>
    intro t hg
    obtain ⟨g, gk, gi⟩ := (Tr.all_eq EG t).1 hg
    have hi : ∀ x ∈ t.kids.map (encF k), x.length ≤ 120000 + 8192 * k := fun x hx => by
      obtain ⟨u, hu, rfl⟩ := List.mem_map.1 hx
      exact ih u (gi u hu)
    have hp : ∀ x ∈ prB (encF k) t.keys t.kids, x.length ≤ 120000 + 8192 * k := prB_mem _ (fun x => x.length ≤ 120000 + 8192 * k) _ _ (fun a ha => ih a (gk a ha)) (fun a ha => ih a (gi a ha))
    have h1 := fun mj n => hdB_len mj n
    have up : ∀ {a b : Nat}, a ≤ b → b ≤ 120000 + 8192 * (k + 1) → a ≤ 120000 + 8192 * (k + 1) := fun h h' => Nat.le_trans h h'
    unfold encF
    split
    · exact up (h1 7 (20 + t.num.toNat)) (by omega)
    split
    · exact up (whlB_len t.neg t.dig) (by omega)
    split
    · exact up (jnB_len 112288 [hdB 6 4, hdB 4 2, powB t.exp, whlB t.neg t.dig] [] (fun x hm => by
        rcases List.mem_cons.1 hm with q | q
        · rw [q]; exact Nat.le_trans (h1 6 4) (by omega)
        rcases List.mem_cons.1 q with q | q
        · rw [q]; exact Nat.le_trans (h1 4 2) (by omega)
        rcases List.mem_cons.1 q with q | q
        · rw [q]; exact Nat.le_trans (powB_len t.exp) (by omega)
        · rw [List.mem_singleton.1 q]; exact whlB_len _ _) (by simp)) (by omega)
    split
    · exact up (fltB_len t.num) (by omega)
    split
    · rename_i h5; exact up (runB_len 3 (bs t.txt) (by rw [bs_len]; exact Nat.le_trans (g.1 h5) (by omega))) (by omega)
    split
    · rename_i h6; exact up (runB_len 2 t.bytes (Nat.le_trans (g.2.1 h6) (by omega))) (by omega)
    split
    · exact up (jnB_len (4096 + (120000 + 8192 * k)) [hdB 4 t.kids.length, jnB (t.kids.map (encF k)) []] [] (two_len (Nat.le_trans (h1 4 t.kids.length) (by omega)) (jnB_len _ _ [] hi (by simp))) (by simp)) (by omega)
    split
    · exact up (jnB_len (4096 + (120000 + 8192 * k)) [hdB 5 t.kids.length, jnB (prB (encF k) t.keys t.kids) []] [] (two_len (Nat.le_trans (h1 5 t.kids.length) (by omega)) (jnB_len _ _ [] hp (by simp))) (by simp)) (by omega)
    split
    · exact up (jnB_len (4096 + (120000 + 8192 * k)) [hdB 6 t.num.toNat, jnB (t.kids.map (encF k)) []] [] (two_len (Nat.le_trans (h1 6 t.num.toNat) (by omega)) (jnB_len _ _ [] hi (by simp))) (by simp)) (by omega)
    split
    · exact up (h1 7 t.num.toNat) (by omega)
    · exact up (h1 7 22) (by omega)
/-- An item is written. -/
def SIt (L k : Nat) : Prop := ∀ (D : Nat) (t : Tr) (b : Nb) (w : World), Nd D w b t → t.deep ≤ k → t.All EG → Cv L w → L ≤ w.heap.size → Calls Tryz.prog 41 #[.agg b.arr] w fun e w' => BytIs w w' e (encF k t)
/-- Where the writing of items stands. -/
def IB (w wr : World) (Ls : List (List Int)) (v : Value) : Prop := OwnsL wr w.heap.size w.heap.size v Ls ∧ Below w.heap.size w wr
theorem rowN_at {D : Nat} {w wr : World} {a : Option Addr} {n c : Nat} {l : List Tr} (h : RowN (Nd D w) w a n c l) (hb : Below w.heap.size w wr) {i : Nat} (hi : i < l.length) : ∃ bk off nb, a = some ⟨bk, off, none⟩ ∧ bk < w.heap.size ∧ (∀ j, j < 9 → wr.cell? ⟨bk, off + (i * 9 + j), none⟩ = (nb : Nb).cells[j]?) ∧ Nd D wr nb l[i] := by
  rcases h.2.2 with h0 | ⟨bk, off, ha, hc⟩
  · subst h0; cases hi
  · obtain ⟨nb, hcl, hN⟩ := hc i hi
    have g0 := hcl 0 (by omega)
    have hbk : bk < w.heap.size := some_block (g0.trans (List.getElem?_eq_getElem (by simp [Nb.cells])))
    exact ⟨bk, off, nb, ha, hbk, fun j hj => by rw [hb.cell (p := ⟨bk, off + (i * 9 + j), none⟩) hbk]; exact hcl j hj, hN.kept hb⟩
set_option maxHeartbeats 8000000 in
set_option maxRecDepth 100000 in
theorem sitems_any {L k D : Nat} (ih : SIt L k) (hk : k ≤ 30) (a : Option Addr) (n c : Nat) (l : List Tr) (w : World) (hR : RowN (Nd D w) w a n c l) (hd : ∀ t ∈ l, t.deep ≤ k ∧ t.All EG) (hC : Cv L w) (hL : L ≤ w.heap.size) (hn : n ≤ 2000000000000) : Calls Tryz.prog 72 #[.slice a n c] w fun e w' => BytIs w w' e (jnB (l.map (encF k)) []) := by
  have hA0 : Hid (IB w w ((l.take 0).map (encF k)) (.slice none 0 0)) := ⟨ownsL_nil _ _ _, Below.refl _ _⟩
  have hlen : l.length = n := hR.1
  have hnc : n ≤ c := hR.2.1.1
  have hcm : c ≤ 9223372036854775807 := by have := hR.2.1.2.1; unfold maxLen at this; omega
  have hX : Hid (l.length = n ∧ RowN (Nd D w) w a n c l ∧ ∀ t ∈ l, t.deep ≤ k ∧ t.All EG) := ⟨hlen, hR, hd⟩
  have hCx : Hid (∀ x, Below w.heap.size w x → Cv L x ∧ L ≤ x.heap.size) := fun x hx => ⟨hC.on (hx.mono hL), Nat.le_trans hL hx.size⟩
  have hI : Hid (SIt L k) := ih
  have hMx : Hid (∀ x ∈ l.map (encF k), x.length ≤ 400000) := fun x hx => by
    obtain ⟨u, hu, rfl⟩ := List.mem_map.1 hx
    have := encF_len k u (hd u hu).2
    omega
  have hnn : Hid (n ≤ 2000000000000) := hn
  unfold BytIs
  clear hR hd hC hL ih hlen hk hn
  go_enter Tryz.func72, Tryz.ntmps72
  go_wp2
  go_loopw [3, 5, 8] (fun s3 _ s8 wr => ∃ (i : Nat), i ≤ n ∧ s8 = .int .i64 i ∧ Hid (IB w wr ((l.take i).map (encF k)) s3)) (fun _ _ i _ => n - (intOf i).toNat)
  case atStart => exact ⟨0, Nat.zero_le _, rfl, hA0⟩
  case round =>
    obtain ⟨i, him, rfl, hP⟩ := hrel
    obtain ⟨av, nv, cv, rfl, -, -, hcv, hmv, -⟩ := hP.out.1.lists
    by_cases hlt : i < n
    · have hz : (i : Int) < (n : Int) := by omega
      have hix : i < l.length := by rw [hX.out.1]; exact hlt
      obtain ⟨bk, off, nb, rfl, hbk, hck, hN⟩ := rowN_at hX.out.2.1 hP.out.2 hix
      obtain ⟨f0, f1, f2, f3, f4, f5, f6, f7, f8⟩ := elem_fields hck
      have wi : IntKind.i64.wrap ((i : Int) + 1) = (i : Int) + 1 := by rw [IntKind.wrap_i64]; omega
      have hA := alloc_below wr (.cells nb.arr 26)
      have hB1 : Hid (Below w.heap.size w (wr.alloc (.cells nb.arr 26))) := hP.out.2.trans (hA.mono hP.out.2.size)
      have kI : Hid (Calls Tryz.prog 41 #[.agg nb.arr] (wr.alloc (.cells nb.arr 26)) fun e w' => BytIs (wr.alloc (.cells nb.arr 26)) w' e (encF k l[i])) := hI.out D l[i] nb _ (hN.kept hA) (hX.out.2.2 _ (List.getElem_mem hix)).1 (hX.out.2.2 _ (List.getElem_mem hix)).2 (hCx.out _ hB1.out).1 (hCx.out _ hB1.out).2
      have hsn : Hid ((l.take i).map (encF k) ++ [encF k l[i]] = (l.take (i + 1)).map (encF k)) := by show _ = _; rw [List.take_succ_eq_append_getElem hix, List.map_append]; rfl
      have O1 : Hid (OwnsL (wr.alloc (.cells nb.arr 26)) w.heap.size w.heap.size (.slice av nv cv) ((l.take i).map (encF k))) := hP.out.1.alloc _
      have hLi : Hid (((l.take i).map (encF k)).length = i) := by show _ = _; rw [List.length_map, List.length_take]; omega
      unfold BytIs at kI
      unfold Nb.arr at kI hB1 O1
      generalize encF k l[i] = E at *
      clear hck hN hbk hA hP
      go_wp2_with (first
        | (go_at_call 41; refine kI.out.mono ?_; rintro e x1 ⟨⟨v1, rfl, hO1⟩, hb1⟩; obtain ⟨a1, n1, c1, rfl, -, -, -, -, -⟩ := hO1.form; have b1 : Hid (Below w.heap.size w x1) := hB1.out.trans (hb1.mono hB1.out.size); have E1 : Hid (Load x1 w.heap.size (.slice a1 n1 c1) E) := load_of_owns hO1; have O2 : Hid (OwnsL x1 w.heap.size w.heap.size (.slice av nv cv) ((l.take i).map (encF k))) := O1.out.below hb1; clear hO1 hb1)
        | (at_builtin; refine wpList_append_loads rfl _ _ rfl w.heap.size w.heap.size (Nat.le_refl _) (.slice av nv cv) ((l.take i).map (encF k)) [E] rfl (O2.out.alloc _) (some ⟨x1.heap.size, 0, none⟩) 1 1 rfl rfl (by simp) (one_load E1.out (0, 0)) (by have := hLi.out; have := hnn.out; simp at *; omega) (Nat.le_trans b1.out.size (alloc_below x1 _).size) ?_; intro v2 x2 hO2 hg2; have b2 : Hid (Below w.heap.size w x2) := grownL_below (b1.out.trans ((alloc_below x1 _).mono b1.out.size)) (O2.out.alloc _) hg2 (Nat.le_trans b1.out.size (alloc_below x1 _).size); have O3 : Hid (OwnsL x2 w.heap.size w.heap.size v2 ((l.take i).map (encF k) ++ [E])) := hO2; clear hO2 hg2))
      go_roundw
      case rel => exact ⟨i + 1, by omega, by go_num, by rw [← hsn.out]; exact ⟨O3.out, b2.out⟩⟩
      case measure => simp [intOf]; omega
    · have hz : ¬ (i : Int) < (n : Int) := by omega
      have hie : (l.take i).map (encF k) = l.map (encF k) := by rw [List.take_of_length_le (by rw [hX.out.1]; omega)]
      have hO := hP.out.1
      rw [hie] at hO
      obtain ⟨ap, np, cp, hv, hl2, _, hc2, hm2, hLs⟩ := hO.lists
      cases hv
      have kJ := sjoin_any av nv cv (l.map (encF k)) 400000 wr hl2.out (hLs.out.old hP.out.2.size) hc2 hm2 (by omega) hMx.out
      have hB : Hid (Below w.heap.size w wr) := hP.out.2
      unfold BytIs at kJ
      clear hO hl2 hc2 hm2 hLs hie hP
      go_wp2_with (go_at_call 68; refine kJ.mono ?_; rintro e x2 ⟨⟨v2, rfl, hO2⟩, hB2⟩)
      go_ret
      exact ⟨⟨_, rfl, hO2.base hB.out.size⟩, hB.out.trans (hB2.mono hB.out.size)⟩
end Go.Proofs.YtnjbppfanmmifaaGreatDoor
namespace Go.Proofs.YtnjbppfanmmifaaGreatDoor
open Go.RowKit
set_option linter.unusedVariables false
/-- 'append(v, x...)' as one step of a region that draws: v the call's own list of loads, x a list of loads. -/
theorem step_append_loads {w : World} {ops : Array Oper} {o : Oper} {a : Act} {K : Act → World → Prop} {Q : Exit → Act → World → Prop} {E : Prop} (hgd : o.guard = none) (s x : Operand)
    (ho : o.op = .call { callee := .builtin .append, args := #[s, x], argTypes := #[123, 123] })
    (rb base : Nat) (hrb : base ≤ rb) (v : Value) (Ls Ms : List (List Int)) (hs : a.eval s = v) (hown : OwnsL w rb base v Ls)
    (ad : Addr) (m c : Nat) (hx : a.eval x = .slice (some ad) m c) (hm : Ms.length = m) (hb : Lists w base (some ad) Ms)
    (hbytes : (Ls.length + Ms.length) * 24 ≤ 140737488355328) (hbase : rb ≤ w.heap.size)
    (h : ∀ v' w', OwnsL w' rb base v' (Ls ++ Ms) → w.grownBy w' v.ownBlock → K (a.put o.dst v') w') :
    if Region.wanted o (yielded ops a.tmps) = true then Oper.wp Tryz.prog o a w K Q else E := by
  have hw : Region.wanted o (yielded ops a.tmps) = true := by simp [Region.wanted, hgd]
  rw [if_pos hw]
  subst hm
  obtain ⟨i, hi, hz, hsz, hby⟩ := info_parts info22
  obtain ⟨vs, hvs, hl⟩ := hown
  obtain ⟨us, hul, huc⟩ : ∃ us : List Value, us.length = Ms.length ∧ ∀ j u, us[j]? = some u → w.cell? (ad.add j) = some u ∧ Load w base u (Ms.getD j []) := by
    rcases hb.2 with rfl | ⟨b, off, us, hx', _, hul, huc⟩
    · exact ⟨[], rfl, by simp⟩
    · cases hx'
      refine ⟨us, hul, fun j u hu => ?_⟩
      have e : (⟨b, off, none⟩ : Addr).add j = ⟨b, off + j, none⟩ := by
        by_cases h0 : j = 0
        · subst h0; simp [Addr.add]
        · simp [Addr.add, h0]
      rw [e]
      exact huc j u hu
  refine wp_append_own w s x 123 ho rb 22 i (.slice none 0 0) 1 24 Tryz.underlying123 hi hz hsz hby rfl (by decide) v Ls.length _ hs hvs ad Ms.length c us hx (by omega) (fun j u hu => (huc j u hu).1) (fun u hu => ?_) ?_ hbytes hbase ?_
  · obtain ⟨j, hj, rfl⟩ := List.mem_iff_getElem.1 hu
    exact load_one (huc j _ (List.getElem?_eq_getElem hj)).2
  · unfold maxLen; omega
  · intro v' w' ho' hg _
    have hk := keep5_row hg hvs hrb
    refine h v' w' ⟨vs ++ us, by rw [List.length_append]; exact ho', fun j u hu => ?_⟩ hg
    have hvl : vs.length = Ls.length := by have := hvs.1; omega
    by_cases hj : j < vs.length
    · rw [List.getElem?_append_left hj] at hu
      have := (hl j u hu).keep hk
      rwa [List.getD_eq_getElem?_getD, List.getElem?_append_left (by omega), ← List.getD_eq_getElem?_getD]
    · rw [List.getElem?_append_right (by omega)] at hu
      have := (huc _ u hu).2.keep hk
      rwa [List.getD_eq_getElem?_getD, List.getElem?_append_right (by omega), ← hvl, ← List.getD_eq_getElem?_getD]
theorem two_loads {w : World} {base : Nat} {u0 u1 : Value} {l0 l1 : List Int} (h0 : Load w base u0 l0) (h1 : Load w base u1 l1) (m : Nat × Nat) : Lists (w.alloc (.cells #[u0, u1] 22 m)) base (some ⟨w.heap.size, 0, none⟩) [l0, l1] := by
  have hbel : Below w.heap.size w (w.alloc (.cells #[u0, u1] 22 m)) := (Below.refl _ _).alloc (Nat.le_refl _) _
  refine ⟨by simp [maxLen], .inr ⟨w.heap.size, 0, [u0, u1], rfl, .inr ⟨_, _, heap_alloc_new w _⟩, rfl, two_at (P := fun i u => (w.alloc (.cells #[u0, u1] 22 m)).cell? ⟨w.heap.size, 0 + i, none⟩ = some u ∧ Load (w.alloc (.cells #[u0, u1] 22 m)) base u ([l0, l1].getD i [])) [u0, u1] rfl ⟨?_, h0.keep (keep5_below hbel base)⟩ ⟨?_, h1.keep (keep5_below hbel base)⟩⟩⟩
  · rw [World.cell?_alloc_mark]; rfl
  · rw [World.cell?_alloc_mark]; rfl
theorem prB_snoc (f : Tr → List Int) : ∀ (l m : List Tr) (a b : Tr), l.length = m.length → prB f (l ++ [a]) (m ++ [b]) = prB f l m ++ [f a, f b]
  | [], [], _, _, _ => rfl
  | [], _ :: _, _, _, h => by cases h
  | _ :: _, [], _, _, h => by cases h
  | x :: l, y :: m, a, b, h => by
    show f x :: f y :: prB f (l ++ [a]) (m ++ [b]) = _
    rw [prB_snoc f l m a b (by simpa using h)]
    rfl
theorem prB_length (f : Tr → List Int) : ∀ (l m : List Tr), (prB f l m).length ≤ 2 * l.length
  | [], _ => by simp [prB]
  | _ :: _, [] => by simp [prB]
  | x :: l, y :: m => by
    have := prB_length f l m
    show (prB f l m).length + 1 + 1 ≤ 2 * (l.length + 1)
    omega
theorem OwnsL.off {w w' : World} {rb base : Nat} {v : Value} {Ls : List (List Int)} (h : OwnsL w rb base v Ls) {x : World} (hg : x.grownBy w' v.ownBlock) {k : Nat} (hk : k < x.heap.size) (hc : k < rb ∨ w.heap.size ≤ k) : w'.heap[k]? = x.heap[k]? := by
  obtain ⟨vs, ho, _⟩ := h
  refine hg.block k hk fun e => ?_
  have := ho.lt k e.symm
  omega
set_option maxRecDepth 100000 in
theorem step_call1 {f : FuncId} {v1 : Value} {w : World} {ops : Array Oper} {o : Oper} {a : Act} {K : Act → World → Prop} {Q : Exit → Act → World → Prop} {E : Prop} {R : Value → World → Prop} (hgd : o.guard = none) (n1 : Nat) (T1 : TypeId)
    (ho : o.op = .call { callee := .value (.func f), args := #[.tmp n1], argTypes := #[T1] }) (hx1 : a.eval (.tmp n1) = v1) (hcf : ∀ args w, (callFunc f args).run Tryz.prog w = .ok (.enter f args) w)
    (k : Calls Tryz.prog f #[v1] w fun e w' => ∃ r, e = .returned r ∧ R r w') (h : ∀ r w', R r w' → K (a.put o.dst r) w') :
    if Region.wanted o (yielded ops a.tmps) = true then Oper.wp Tryz.prog o a w K Q else E := by
  have hw : Region.wanted o (yielded ops a.tmps) = true := by simp [Region.wanted, hgd]
  rw [if_pos hw]
  unfold Oper.wp
  simp [Act.eval] at hx1
  simp [execOp, ho, resolve, invoke, hcf, hx1, go_sem]
  refine Calls.mono (R := fun e w' => ∃ r, e = .returned r ∧ R r w') k ?_
  rintro e w' ⟨r, he, hr⟩
  subst he
  exact h r w' hr
set_option maxHeartbeats 8000000 in
set_option maxRecDepth 100000 in
theorem spairs_any {L k D : Nat} (ih : SIt L k) (hk : k ≤ 30) (a : Option Addr) (n c : Nat) (l : List Tr) (a' : Option Addr) (n' c' : Nat) (m : List Tr) (w : World) (hR : RowN (Nd D w) w a n c l) (hR' : RowN (Nd D w) w a' n' c' m) (hlm : l.length = m.length) (hd : ∀ t ∈ l, t.deep ≤ k ∧ t.All EG) (hd' : ∀ t ∈ m, t.deep ≤ k ∧ t.All EG) (hC : Cv L w) (hL : L ≤ w.heap.size) (hn : n ≤ 2000000000000) : Calls Tryz.prog 73 #[.slice a n c, .slice a' n' c'] w fun e w' => BytIs w w' e (jnB (prB (encF k) l m) []) := by
  have hA0 : Hid (IB w w (prB (encF k) (l.take 0) (m.take 0)) (.slice none 0 0)) := ⟨ownsL_nil _ _ _, Below.refl _ _⟩
  have hlen : l.length = n := hR.1
  obtain rfl : n = n' := by rw [← hlen, hlm]; exact hR'.1
  have hnc : n ≤ c := hR.2.1.1
  have hcm : c ≤ 9223372036854775807 := by have := hR.2.1.2.1; unfold maxLen at this; omega
  have hnc' : n ≤ c' := hR'.2.1.1
  have hcm' : c' ≤ 9223372036854775807 := by have := hR'.2.1.2.1; unfold maxLen at this; omega
  have hX : Hid (l.length = n ∧ RowN (Nd D w) w a n c l ∧ ∀ t ∈ l, t.deep ≤ k ∧ t.All EG) := ⟨hlen, hR, hd⟩
  have hY : Hid (m.length = n ∧ RowN (Nd D w) w a' n c' m ∧ ∀ t ∈ m, t.deep ≤ k ∧ t.All EG) := ⟨hlm ▸ hlen, hR', hd'⟩
  have hCx : Hid (∀ x, Below w.heap.size w x → Cv L x ∧ L ≤ x.heap.size) := fun x hx => ⟨hC.on (hx.mono hL), Nat.le_trans hL hx.size⟩
  have hI : Hid (SIt L k) := ih
  have hMx : Hid (∀ x ∈ prB (encF k) l m, x.length ≤ 400000) := prB_mem _ (fun x => x.length ≤ 400000) _ _ (fun u hu => Nat.le_trans (encF_len k u (hd u hu).2) (by omega)) (fun u hu => Nat.le_trans (encF_len k u (hd' u hu).2) (by omega))
  have hnn : Hid (n ≤ 2000000000000) := hn
  unfold BytIs
  clear hR hR' hd hd' hC hL ih hlen hk hn hlm
  go_enter Tryz.func73, Tryz.ntmps73
  go_wp2
  go_loopw [5, 6, 7, 10] (fun s5 _ _ s10 wr => ∃ (i : Nat), i ≤ n ∧ s10 = .int .i64 i ∧ Hid (IB w wr (prB (encF k) (l.take i) (m.take i)) s5)) (fun _ _ _ i _ => n - (intOf i).toNat)
  case atStart => exact ⟨0, Nat.zero_le _, rfl, hA0⟩
  case round =>
    obtain ⟨i, him, rfl, hP⟩ := hrel
    obtain ⟨av, nv, cv, rfl, -, -, hcv, hmv, -⟩ := hP.out.1.lists
    by_cases hlt : i < n
    · have hz : (i : Int) < (n : Int) := by omega
      have hix : i < l.length := by rw [hX.out.1]; exact hlt
      have hiy : i < m.length := by rw [hY.out.1]; exact hlt
      obtain ⟨bk, off, nb, rfl, hbk, hck, hN⟩ := rowN_at hX.out.2.1 hP.out.2 hix
      obtain ⟨bk', off', nb', rfl, hbk', hck', hN'⟩ := rowN_at hY.out.2.1 hP.out.2 hiy
      obtain ⟨f0, f1, f2, f3, f4, f5, f6, f7, f8⟩ := elem_fields hck
      have wi : IntKind.i64.wrap ((i : Int) + 1) = (i : Int) + 1 := by rw [IntKind.wrap_i64]; omega
      have hA := alloc_below wr (.cells nb.arr 26)
      have hB1 : Hid (Below w.heap.size w (wr.alloc (.cells nb.arr 26))) := hP.out.2.trans (hA.mono hP.out.2.size)
      have SK : Hid (∀ x : World, x.heap[wr.heap.size]? = (wr.alloc (.cells nb.arr 26)).heap[wr.heap.size]? → x.heap[bk']? = (wr.alloc (.cells nb.arr 26)).heap[bk']? → x.cell? ⟨wr.heap.size, 0, none⟩ = some (.int .i64 nb.kind) ∧ x.cell? ⟨wr.heap.size, 1, none⟩ = some (.int .u64 nb.num) ∧ x.cell? ⟨wr.heap.size, 2, none⟩ = some (.bool nb.neg) ∧ x.cell? ⟨wr.heap.size, 3, none⟩ = some (.string nb.dig) ∧ x.cell? ⟨wr.heap.size, 4, none⟩ = some (.int .i64 nb.exp) ∧ x.cell? ⟨wr.heap.size, 5, none⟩ = some (.string nb.txt) ∧ x.cell? ⟨wr.heap.size, 6, none⟩ = some (.slice nb.ab nb.lb nb.cb) ∧ x.cell? ⟨wr.heap.size, 7, none⟩ = some (.slice nb.ak nb.lk nb.ck) ∧ x.cell? ⟨wr.heap.size, 8, none⟩ = some (.slice nb.ai nb.li nb.ci) ∧ x.cell? ⟨bk', off' + i * 9, none⟩ = some (.int .i64 nb'.kind) ∧ x.cell? ⟨bk', off' + i * 9 + 1, none⟩ = some (.int .u64 nb'.num) ∧ x.cell? ⟨bk', off' + i * 9 + 2, none⟩ = some (.bool nb'.neg) ∧ x.cell? ⟨bk', off' + i * 9 + 3, none⟩ = some (.string nb'.dig) ∧ x.cell? ⟨bk', off' + i * 9 + 4, none⟩ = some (.int .i64 nb'.exp) ∧ x.cell? ⟨bk', off' + i * 9 + 5, none⟩ = some (.string nb'.txt) ∧ x.cell? ⟨bk', off' + i * 9 + 6, none⟩ = some (.slice nb'.ab nb'.lb nb'.cb) ∧ x.cell? ⟨bk', off' + i * 9 + 7, none⟩ = some (.slice nb'.ak nb'.lk nb'.ck) ∧ x.cell? ⟨bk', off' + i * 9 + 8, none⟩ = some (.slice nb'.ai nb'.li nb'.ci)) := fun x e1 e2 => by
        obtain ⟨q0, q1, q2, q3, q4, q5, q6, q7, q8⟩ := ((nbox_new wr nb).same e1).fields
        obtain ⟨r0, r1, r2, r3, r4, r5, r6, r7, r8⟩ := elem_fields (w := x) (b := bk') (off := off') (nb := nb') (i := i) fun j hj => by
          rw [World.cell?_of_block (w := wr) (w' := x) (a := ⟨bk', off' + (i * 9 + j), none⟩) (e2.trans (hA.block bk' (Nat.lt_of_lt_of_le hbk' hP.out.2.size)))]; exact hck' j hj
        exact ⟨q0, q1, q2, q3, q4, q5, q6, q7, q8, r0, r1, r2, r3, r4, r5, r6, r7, r8⟩
      have hbw : Hid (bk' < wr.heap.size ∧ bk' < w.heap.size ∧ w.heap.size ≤ wr.heap.size ∧ (wr.alloc (.cells nb.arr 26)).heap.size = wr.heap.size + 1) := ⟨Nat.lt_of_lt_of_le hbk' hP.out.2.size, hbk', hP.out.2.size, by simp⟩
      have kA : Hid (∀ x, Below (wr.alloc (.cells nb.arr 26)).heap.size (wr.alloc (.cells nb.arr 26)) x → Calls Tryz.prog 41 #[.agg nb.arr] x fun e w' => ∃ r, e = .returned r ∧ (OwnsB w' x.heap.size r (encF k l[i]) ∧ Below x.heap.size x w')) := fun x hx => by
        have hb : Below w.heap.size w x := hB1.out.trans (hx.mono hB1.out.size)
        refine Calls.mono ?_ (fun e w' (h : BytIs x w' e (encF k l[i])) => by obtain ⟨⟨v, h1, h2⟩, h3⟩ := h; exact ⟨v, h1, h2, h3⟩)
        exact hI.out D l[i] nb _ ((hN.kept hA).kept hx) (hX.out.2.2 _ (List.getElem_mem hix)).1 (hX.out.2.2 _ (List.getElem_mem hix)).2 (hCx.out _ hb).1 (hCx.out _ hb).2
      have kB : Hid (∀ x, Below (wr.alloc (.cells nb.arr 26)).heap.size (wr.alloc (.cells nb.arr 26)) x → Calls Tryz.prog 41 #[.agg nb'.arr] x fun e w' => ∃ r, e = .returned r ∧ (OwnsB w' x.heap.size r (encF k m[i]) ∧ Below x.heap.size x w')) := fun x hx => by
        have hb : Below w.heap.size w x := hB1.out.trans (hx.mono hB1.out.size)
        refine Calls.mono ?_ (fun e w' (h : BytIs x w' e (encF k m[i])) => by obtain ⟨⟨v, h1, h2⟩, h3⟩ := h; exact ⟨v, h1, h2, h3⟩)
        exact hI.out D m[i] nb' _ ((hN'.kept hA).kept hx) (hY.out.2.2 _ (List.getElem_mem hiy)).1 (hY.out.2.2 _ (List.getElem_mem hiy)).2 (hCx.out _ hb).1 (hCx.out _ hb).2
      have hsn : Hid (prB (encF k) (l.take i) (m.take i) ++ [encF k l[i], encF k m[i]] = prB (encF k) (l.take (i + 1)) (m.take (i + 1))) := by show _ = _; rw [List.take_succ_eq_append_getElem hix, List.take_succ_eq_append_getElem hiy, prB_snoc _ _ _ _ _ (by rw [List.length_take, List.length_take]; omega)]
      have O0 : Hid (OwnsL wr w.heap.size w.heap.size (.slice av nv cv) (prB (encF k) (l.take i) (m.take i))) := hP.out.1
      have O1 : Hid (OwnsL (wr.alloc (.cells nb.arr 26)) w.heap.size w.heap.size (.slice av nv cv) (prB (encF k) (l.take i) (m.take i))) := hP.out.1.alloc _
      have hLi : Hid ((prB (encF k) (l.take i) (m.take i)).length ≤ 2 * i) := by show _ ≤ _; have := prB_length (encF k) (l.take i) (m.take i); rw [List.length_take] at this; omega
      unfold Nb.arr at kA kB hB1 O1 SK hbw
      generalize encF k l[i] = E at *
      generalize encF k m[i] = E' at *
      clear hck hN hck' hN' hbk hbk' hA hP
      go_upto_region 5 with fail
      obtain ⟨q0, q1, q2, q3, q4, q5, q6, q7, q8, r0, r1, r2, r3, r4, r5, r6, r7, r8⟩ := SK.out (wr.alloc (.cells #[.int .i64 nb.kind, .int .u64 nb.num, .bool nb.neg, .string nb.dig, .int .i64 nb.exp, .string nb.txt, .slice nb.ab nb.lb nb.cb, .slice nb.ak nb.lk nb.ck, .slice nb.ai nb.li nb.ci] 26)) rfl rfl
      have hsW : Hid (wr.heap.size ≤ (wr.alloc (.cells #[.int .i64 nb.kind, .int .u64 nb.num, .bool nb.neg, .string nb.dig, .int .i64 nb.exp, .string nb.txt, .slice nb.ab nb.lb nb.cb, .slice nb.ak nb.lk nb.ck, .slice nb.ai nb.li nb.ci] 26)).heap.size) := by have := hbw.out; show _ ≤ _; omega
      generalize wr.alloc (.cells #[.int .i64 nb.kind, .int .u64 nb.num, .bool nb.neg, .string nb.dig, .int .i64 nb.exp, .string nb.txt, .slice nb.ab nb.lb nb.cb, .slice nb.ak nb.lk nb.ck, .slice nb.ai nb.li nb.ci] 26) = W at *
      have bd : Hid (Below W.heap.size W W.drew) := (Below.refl _ _).drew
      have hcf : ∀ args w, (callFunc 41 args).run Tryz.prog w = .ok (.enter 41 args) w := fun _ _ => rfl
      go_region_law (first
        | (refine step_call1 (by rfl) 16 26 (by rfl) (by rfl) hcf (kA.out _ (by first | with_reducible exact bd.out | with_reducible exact Below.refl _ _)) ?_; rintro v1 x1 ⟨hO1, hb1⟩; obtain ⟨a1, n1, c1, rfl, -, -, -, -, -⟩ := hO1.form; have b1 : Hid (Below W.heap.size W x1) := (by first | with_reducible exact hb1 | exact bd.out.trans hb1); have t1 : Hid (x1.heap[wr.heap.size]? = W.heap[wr.heap.size]? ∧ x1.heap[bk']? = W.heap[bk']?) := ⟨b1.out.block _ (by have := hbw.out; omega), b1.out.block _ (by have := hbw.out; omega)⟩; have L1 : Hid (Load x1 w.heap.size (.slice a1 n1 c1) E) := load_of_owns hO1; clear hO1 hb1; obtain ⟨-, -, -, -, -, -, -, -, -, y0, y1, y2, y3, y4, y5, y6, y7, y8⟩ := SK.out x1 t1.out.1 t1.out.2)
        | (refine step_call1 (by rfl) 21 26 (by rfl) (by rfl) hcf (kB.out _ b1.out) ?_; rintro v2 x2 ⟨hO2, hb2⟩; obtain ⟨a2, n2, c2, rfl, -, -, -, -, -⟩ := hO2.form; have b2 : Hid (Below W.heap.size W x2) := b1.out.trans (hb2.mono b1.out.size); have t2 : Hid (x2.heap[wr.heap.size]? = W.heap[wr.heap.size]? ∧ x2.heap[bk']? = W.heap[bk']?) := ⟨b2.out.block _ (by have := hbw.out; omega), b2.out.block _ (by have := hbw.out; omega)⟩; have t4 : Hid ((x2.alloc (.cells #[.slice a1 n1 c1, .slice a2 n2 c2] 22)).heap[wr.heap.size]? = W.heap[wr.heap.size]? ∧ (x2.alloc (.cells #[.slice a1 n1 c1, .slice a2 n2 c2] 22)).heap[bk']? = W.heap[bk']?) := (by have h0 := hbw.out; have h1 := b2.out.size; exact ⟨((alloc_below x2 _).block _ (by omega)).trans t2.out.1, ((alloc_below x2 _).block _ (by omega)).trans t2.out.2⟩); have L2 : Hid (Load x2 w.heap.size (.slice a2 n2 c2) E') := load_of_owns hO2; have L1b : Hid (Load x2 w.heap.size (.slice a1 n1 c1) E) := L1.out.keep (keep5_below hb2 _); have O2 : Hid (OwnsL x2 w.heap.size w.heap.size (.slice av nv cv) (prB (encF k) (l.take i) (m.take i))) := O1.out.below b2.out; have s2 : Hid (w.heap.size ≤ x2.heap.size) := Nat.le_trans hB1.out.size b2.out.size; clear hO2 hb2 L1)
        | (refine step_append_loads (by rfl) _ _ (by rfl) w.heap.size w.heap.size (Nat.le_refl _) (.slice av nv cv) (prB (encF k) (l.take i) (m.take i)) [E, E'] (by rfl) (O2.out.alloc _) ⟨x2.heap.size, 0, none⟩ 2 2 (by rfl) rfl (two_loads L1b.out L2.out (0, 0)) (by have := hLi.out; have := hnn.out; simp at *; omega) (Nat.le_trans s2.out (alloc_below x2 _).size) ?_; intro v3 x3 hO3 hg3; have c3 : Hid (Below w.heap.size w x3) := grownL_below ((hB1.out.trans (b2.out.mono hB1.out.size)).trans ((alloc_below x2 _).mono s2.out)) (O2.out.alloc _) hg3 (Nat.le_trans s2.out (alloc_below x2 _).size); have O3 : Hid (OwnsL x3 w.heap.size w.heap.size v3 (prB (encF k) (l.take i) (m.take i) ++ [E, E'])) := hO3; have b3 : Hid (x3.heap[wr.heap.size]? = W.heap[wr.heap.size]? ∧ x3.heap[bk']? = W.heap[bk']?) := (by have h0 := hbw.out; have h1 := b2.out.size; have h2 := (alloc_below x2 (.cells #[.slice a1 n1 c1, .slice a2 n2 c2] 22)).size; exact ⟨(O0.out.off hg3 (by omega) (.inr (Nat.le_refl _))).trans t4.out.1, (O0.out.off hg3 (by omega) (.inl h0.2.1)).trans t4.out.2⟩); clear hO3 hg3))
      all_goals
        go_wp2_with fail
        go_roundw
        case rel => exact ⟨i + 1, by omega, by go_num, by rw [← hsn.out]; exact ⟨O3.out, c3.out⟩⟩
        case measure => simp [intOf]; omega
    · have hz : ¬ (i : Int) < (n : Int) := by omega
      have hie : prB (encF k) (l.take i) (m.take i) = prB (encF k) l m := by rw [List.take_of_length_le (by rw [hX.out.1]; omega), List.take_of_length_le (by rw [hY.out.1]; omega)]
      have hO := hP.out.1
      rw [hie] at hO
      obtain ⟨ap, np, cp, hv, hl2, _, hc2, hm2, hLs⟩ := hO.lists
      cases hv
      have kJ := sjoin_any av nv cv (prB (encF k) l m) 400000 wr hl2.out (hLs.out.old hP.out.2.size) hc2 hm2 (by omega) hMx.out
      have hB : Hid (Below w.heap.size w wr) := hP.out.2
      unfold BytIs at kJ
      clear hO hl2 hc2 hm2 hLs hie hP
      go_wp2_with (go_at_call 68; refine kJ.mono ?_; rintro e x2 ⟨⟨v2, rfl, hO2⟩, hB2⟩)
      go_ret
      exact ⟨⟨_, rfl, hO2.base hB.out.size⟩, hB.out.trans (hB2.mono hB.out.size)⟩
end Go.Proofs.YtnjbppfanmmifaaGreatDoor
namespace Go.Proofs.YtnjbppfanmmifaaGreatDoor
open Go.RowKit
set_option linter.unusedVariables false
theorem nd_num {D : Nat} {w : World} {b : Nb} {t : Tr} (hN : Nd (D + 1) w b t) : b.num = ((t.num.toNat : Nat) : Int) ∧ t.num.toNat < 18446744073709551616 := by
  have h := hN.2.1.2.1
  rw [hN.1.2.1]
  simp [Lit.wf, show IntKind.u64.min = 0 from by decide, show IntKind.u64.max = 18446744073709551615 from by decide] at h
  omega
theorem nd_exp {D : Nat} {w : World} {b : Nb} {t : Tr} (hN : Nd (D + 1) w b t) : -9223372036854775808 ≤ t.exp ∧ t.exp ≤ 9223372036854775807 := by
  have h := hN.2.1.2.2.1
  simp [Lit.wf, show IntKind.i64.min = -9223372036854775808 from by decide, show IntKind.i64.max = 9223372036854775807 from by decide] at h
  omega
set_option maxHeartbeats 8000000 in
set_option maxRecDepth 100000 in
theorem sitem_k1 {L k D : Nat} {t : Tr} {b : Nb} {w : World} (hN : Nd (D + 1) w b t) (hK : t.kind = 1) (hg : EG t) (hC : Cv L w) (hL : L ≤ w.heap.size) : Calls Tryz.prog 41 #[.agg b.arr] w fun e w' => BytIs w w' e (encF (k + 1) t) := by
  have hk : b.kind = 1 := hN.1.1.trans hK
  have hE : encF (k + 1) t = hdB 7 (20 + t.num.toNat) := by rw [encF]; simp [hK]
  have hCx : ∀ x, Below w.heap.size w x → Cv L x ∧ L ≤ x.heap.size := fun x hx => ⟨hC.on (hx.mono hL), Nat.le_trans hL hx.size⟩
  have B0 : Hid (Below w.heap.size w (w.alloc (.cells b.arr 26))) := alloc_below w _
  obtain ⟨a0, a1, a2, a3, a4, a5, a6, a7, a8⟩ := (nbox_new w b).fields
  obtain ⟨hnum, hn64⟩ := nd_num hN
  have hx := nd_exp hN
  have hneg : b.neg = t.neg := hN.1.2.2.1
  have hdig : b.dig = t.dig := hN.1.2.2.2.1
  have htxt : b.txt = t.txt := hN.1.2.2.2.2.2
  have wu : IntKind.u64.wrap (20 + b.num) = 20 + b.num := by rw [IntKind.wrap_u64]; have := hg.2.2.1 hK; omega
  have kX : Hid (∀ x, Below w.heap.size w x → Calls Tryz.prog 44 #[.int .i64 7, .int .u64 (20 + b.num)] x fun e w' => BytIs w w' e (hdB 7 (20 + t.num.toNat))) := fun x hx' => by
    have := shead_any 7 (20 + t.num.toNat) (by omega) (by have := hg.2.2.1 hK; omega) (hCx x hx').1.2 (hCx x hx').2
    rw [show (20 + b.num : Int) = (((20 + t.num.toNat : Nat) : Nat) : Int) by rw [hnum]; omega]
    exact this.mono fun e w' h => h.up hx'
  rw [hE]
  have e1 : (b.kind == 1) = true := by rw [hk]; decide
  generalize hdB 7 (20 + t.num.toNat) = X at *
  unfold BytIs at kX ⊢
  clear hN hK hg hC hL hE hCx hnum hn64 hx hneg hdig htxt hk
  go_enter Tryz.func41, Tryz.ntmps41
  go_wp2_with (go_at_call 44; refine (kX.out _ (by exact B0.out)).mono ?_; rintro e x1 ⟨⟨v1, rfl, hO1⟩, hb1⟩)
  go_ret
  exact ⟨⟨_, rfl, hO1⟩, hb1⟩
set_option maxHeartbeats 8000000 in
set_option maxRecDepth 100000 in
theorem sitem_k2 {L k D : Nat} {t : Tr} {b : Nb} {w : World} (hN : Nd (D + 1) w b t) (hK : t.kind = 2) (hg : EG t) (hC : Cv L w) (hL : L ≤ w.heap.size) : Calls Tryz.prog 41 #[.agg b.arr] w fun e w' => BytIs w w' e (encF (k + 1) t) := by
  have hk : b.kind = 2 := hN.1.1.trans hK
  have hE : encF (k + 1) t = whlB t.neg t.dig := by rw [encF]; simp [hK]
  have hCx : ∀ x, Below w.heap.size w x → Cv L x ∧ L ≤ x.heap.size := fun x hx => ⟨hC.on (hx.mono hL), Nat.le_trans hL hx.size⟩
  have B0 : Hid (Below w.heap.size w (w.alloc (.cells b.arr 26))) := alloc_below w _
  obtain ⟨a0, a1, a2, a3, a4, a5, a6, a7, a8⟩ := (nbox_new w b).fields
  obtain ⟨hnum, hn64⟩ := nd_num hN
  have hx := nd_exp hN
  have hneg : b.neg = t.neg := hN.1.2.2.1
  have hdig : b.dig = t.dig := hN.1.2.2.2.1
  have htxt : b.txt = t.txt := hN.1.2.2.2.2.2
  have kX : Hid (∀ x, Below w.heap.size w x → Calls Tryz.prog 67 #[.bool b.neg, .string b.dig] x fun e w' => BytIs w w' e (whlB t.neg t.dig)) := fun x hx' => by
    rw [hneg, hdig]
    exact (swhole_any t.neg t.dig (hCx x hx').1 (hCx x hx').2).mono fun e w' h => h.up hx'
  rw [hE]
  have e1 : (b.kind == 1) = false := by rw [hk]; decide
  have e2 : (b.kind == 2) = true := by rw [hk]; decide
  generalize whlB t.neg t.dig = X at *
  unfold BytIs at kX ⊢
  clear hN hK hg hC hL hE hCx hnum hn64 hx hneg hdig htxt hk
  go_enter Tryz.func41, Tryz.ntmps41
  go_wp2_with (go_at_call 67; refine (kX.out _ (by exact B0.out)).mono ?_; rintro e x1 ⟨⟨v1, rfl, hO1⟩, hb1⟩)
  go_ret
  exact ⟨⟨_, rfl, hO1⟩, hb1⟩
set_option maxHeartbeats 8000000 in
set_option maxRecDepth 100000 in
theorem sitem_k4 {L k D : Nat} {t : Tr} {b : Nb} {w : World} (hN : Nd (D + 1) w b t) (hK : t.kind = 4) (hg : EG t) (hC : Cv L w) (hL : L ≤ w.heap.size) : Calls Tryz.prog 41 #[.agg b.arr] w fun e w' => BytIs w w' e (encF (k + 1) t) := by
  have hk : b.kind = 4 := hN.1.1.trans hK
  have hE : encF (k + 1) t = fltB t.num := by rw [encF]; simp [hK]
  have hCx : ∀ x, Below w.heap.size w x → Cv L x ∧ L ≤ x.heap.size := fun x hx => ⟨hC.on (hx.mono hL), Nat.le_trans hL hx.size⟩
  have B0 : Hid (Below w.heap.size w (w.alloc (.cells b.arr 26))) := alloc_below w _
  obtain ⟨a0, a1, a2, a3, a4, a5, a6, a7, a8⟩ := (nbox_new w b).fields
  obtain ⟨hnum, hn64⟩ := nd_num hN
  have hx := nd_exp hN
  have hneg : b.neg = t.neg := hN.1.2.2.1
  have hdig : b.dig = t.dig := hN.1.2.2.2.1
  have htxt : b.txt = t.txt := hN.1.2.2.2.2.2
  have kX : Hid (∀ x, Below w.heap.size w x → Calls Tryz.prog 70 #[.int .u64 b.num] x fun e w' => BytIs w w' e (fltB t.num)) := fun x hx' => by
    rw [hN.1.2.1]
    exact (sflt_any t.num (by have := hN.1.2.1; omega) (hCx x hx').1.2 (hCx x hx').2).mono fun e w' h => h.up hx'
  rw [hE]
  have e1 : (b.kind == 1) = false := by rw [hk]; decide
  have e2 : (b.kind == 2) = false := by rw [hk]; decide
  have e3 : (b.kind == 3) = false := by rw [hk]; decide
  have e4 : (b.kind == 4) = true := by rw [hk]; decide
  generalize fltB t.num = X at *
  unfold BytIs at kX ⊢
  clear hN hK hg hC hL hE hCx hnum hn64 hx hneg hdig htxt hk
  go_enter Tryz.func41, Tryz.ntmps41
  go_wp2_with (go_at_call 70; refine (kX.out _ (by exact B0.out)).mono ?_; rintro e x1 ⟨⟨v1, rfl, hO1⟩, hb1⟩)
  go_ret
  exact ⟨⟨_, rfl, hO1⟩, hb1⟩
set_option maxHeartbeats 8000000 in
set_option maxRecDepth 100000 in
theorem sitem_k6 {L k D : Nat} {t : Tr} {b : Nb} {w : World} (hN : Nd (D + 1) w b t) (hK : t.kind = 6) (hg : EG t) (hC : Cv L w) (hL : L ≤ w.heap.size) : Calls Tryz.prog 41 #[.agg b.arr] w fun e w' => BytIs w w' e (encF (k + 1) t) := by
  have hk : b.kind = 6 := hN.1.1.trans hK
  have hE : encF (k + 1) t = runB 2 t.bytes := by rw [encF]; simp [hK]
  have hCx : ∀ x, Below w.heap.size w x → Cv L x ∧ L ≤ x.heap.size := fun x hx => ⟨hC.on (hx.mono hL), Nat.le_trans hL hx.size⟩
  have B0 : Hid (Below w.heap.size w (w.alloc (.cells b.arr 26))) := alloc_below w _
  obtain ⟨a0, a1, a2, a3, a4, a5, a6, a7, a8⟩ := (nbox_new w b).fields
  obtain ⟨hnum, hn64⟩ := nd_num hN
  have hx := nd_exp hN
  have hneg : b.neg = t.neg := hN.1.2.2.1
  have hdig : b.dig = t.dig := hN.1.2.2.2.1
  have htxt : b.txt = t.txt := hN.1.2.2.2.2.2
  have kX : Hid (∀ x, Below w.heap.size w x → Calls Tryz.prog 71 #[.int .i64 2, .slice b.ab b.lb b.cb] x fun e w' => BytIs w w' e (runB 2 t.bytes)) := fun x hx' => by
    have hB := hN.2.2.1
    exact (srun_any 2 (by omega) b.ab b.lb b.cb t.bytes hB.1 (hB.2.2.kept hx') ⟨hB.2.1.1, hB.2.1.2.1, hB.2.1.2.2.1⟩ (Nat.le_trans (hg.2.1 hK) (by omega)) (hCx x hx').1.2 (hCx x hx').2).mono fun e w' h => h.up hx'
  rw [hE]
  have e1 : (b.kind == 1) = false := by rw [hk]; decide
  have e2 : (b.kind == 2) = false := by rw [hk]; decide
  have e3 : (b.kind == 3) = false := by rw [hk]; decide
  have e4 : (b.kind == 4) = false := by rw [hk]; decide
  have e5 : (b.kind == 5) = false := by rw [hk]; decide
  have e6 : (b.kind == 6) = true := by rw [hk]; decide
  generalize runB 2 t.bytes = X at *
  unfold BytIs at kX ⊢
  clear hN hK hg hC hL hE hCx hnum hn64 hx hneg hdig htxt hk
  go_enter Tryz.func41, Tryz.ntmps41
  go_wp2_with (go_at_call 71; refine (kX.out _ (by exact B0.out)).mono ?_; rintro e x1 ⟨⟨v1, rfl, hO1⟩, hb1⟩)
  go_ret
  exact ⟨⟨_, rfl, hO1⟩, hb1⟩
set_option maxHeartbeats 8000000 in
set_option maxRecDepth 100000 in
theorem sitem_k10 {L k D : Nat} {t : Tr} {b : Nb} {w : World} (hN : Nd (D + 1) w b t) (hK : t.kind = 10) (hg : EG t) (hC : Cv L w) (hL : L ≤ w.heap.size) : Calls Tryz.prog 41 #[.agg b.arr] w fun e w' => BytIs w w' e (encF (k + 1) t) := by
  have hk : b.kind = 10 := hN.1.1.trans hK
  have hE : encF (k + 1) t = hdB 7 t.num.toNat := by rw [encF]; simp [hK]
  have hCx : ∀ x, Below w.heap.size w x → Cv L x ∧ L ≤ x.heap.size := fun x hx => ⟨hC.on (hx.mono hL), Nat.le_trans hL hx.size⟩
  have B0 : Hid (Below w.heap.size w (w.alloc (.cells b.arr 26))) := alloc_below w _
  obtain ⟨a0, a1, a2, a3, a4, a5, a6, a7, a8⟩ := (nbox_new w b).fields
  obtain ⟨hnum, hn64⟩ := nd_num hN
  have hx := nd_exp hN
  have hneg : b.neg = t.neg := hN.1.2.2.1
  have hdig : b.dig = t.dig := hN.1.2.2.2.1
  have htxt : b.txt = t.txt := hN.1.2.2.2.2.2
  have kX : Hid (∀ x, Below w.heap.size w x → Calls Tryz.prog 44 #[.int .i64 7, .int .u64 b.num] x fun e w' => BytIs w w' e (hdB 7 t.num.toNat)) := fun x hx' => by
    rw [hnum]
    exact (shead_any 7 t.num.toNat (by omega) hn64 (hCx x hx').1.2 (hCx x hx').2).mono fun e w' h => h.up hx'
  rw [hE]
  have e1 : (b.kind == 1) = false := by rw [hk]; decide
  have e2 : (b.kind == 2) = false := by rw [hk]; decide
  have e3 : (b.kind == 3) = false := by rw [hk]; decide
  have e4 : (b.kind == 4) = false := by rw [hk]; decide
  have e5 : (b.kind == 5) = false := by rw [hk]; decide
  have e6 : (b.kind == 6) = false := by rw [hk]; decide
  have e7 : (b.kind == 7) = false := by rw [hk]; decide
  have e8 : (b.kind == 8) = false := by rw [hk]; decide
  have e9 : (b.kind == 9) = false := by rw [hk]; decide
  have e10 : (b.kind == 10) = true := by rw [hk]; decide
  generalize hdB 7 t.num.toNat = X at *
  unfold BytIs at kX ⊢
  clear hN hK hg hC hL hE hCx hnum hn64 hx hneg hdig htxt hk
  go_enter Tryz.func41, Tryz.ntmps41
  go_wp2_with (go_at_call 44; refine (kX.out _ (by exact B0.out)).mono ?_; rintro e x1 ⟨⟨v1, rfl, hO1⟩, hb1⟩)
  go_ret
  exact ⟨⟨_, rfl, hO1⟩, hb1⟩
set_option maxHeartbeats 8000000 in
set_option maxRecDepth 100000 in
theorem sitem_k0 {L k D : Nat} {t : Tr} {b : Nb} {w : World} (hN : Nd (D + 1) w b t) (hK : ∀ j : Int, 1 ≤ j → j ≤ 10 → t.kind ≠ j) (hC : Cv L w) (hL : L ≤ w.heap.size) : Calls Tryz.prog 41 #[.agg b.arr] w fun e w' => BytIs w w' e (encF (k + 1) t) := by
  have hk : b.kind = t.kind := hN.1.1
  have n1 := hK 1 (by omega) (by omega)
  have n2 := hK 2 (by omega) (by omega)
  have n3 := hK 3 (by omega) (by omega)
  have n4 := hK 4 (by omega) (by omega)
  have n5 := hK 5 (by omega) (by omega)
  have n6 := hK 6 (by omega) (by omega)
  have n7 := hK 7 (by omega) (by omega)
  have n8 := hK 8 (by omega) (by omega)
  have n9 := hK 9 (by omega) (by omega)
  have n10 := hK 10 (by omega) (by omega)
  have hE : encF (k + 1) t = hdB 7 22 := by rw [encF]; simp [n1, n2, n3, n4, n5, n6, n7, n8, n9, n10]
  have e1 : (b.kind == 1) = false := by rw [hk]; simpa using n1
  have e2 : (b.kind == 2) = false := by rw [hk]; simpa using n2
  have e3 : (b.kind == 3) = false := by rw [hk]; simpa using n3
  have e4 : (b.kind == 4) = false := by rw [hk]; simpa using n4
  have e5 : (b.kind == 5) = false := by rw [hk]; simpa using n5
  have e6 : (b.kind == 6) = false := by rw [hk]; simpa using n6
  have e7 : (b.kind == 7) = false := by rw [hk]; simpa using n7
  have e8 : (b.kind == 8) = false := by rw [hk]; simpa using n8
  have e9 : (b.kind == 9) = false := by rw [hk]; simpa using n9
  have e10 : (b.kind == 10) = false := by rw [hk]; simpa using n10
  have B0 : Hid (Below w.heap.size w (w.alloc (.cells b.arr 26))) := alloc_below w _
  obtain ⟨a0, a1, a2, a3, a4, a5, a6, a7, a8⟩ := (nbox_new w b).fields
  have kX : Hid (∀ x, Below w.heap.size w x → Calls Tryz.prog 44 #[.int .i64 7, .int .u64 22] x fun e w' => BytIs w w' e (hdB 7 22)) := fun x hx' => (shead_any 7 22 (by omega) (by omega) (hC.on (hx'.mono hL)).2 (Nat.le_trans hL hx'.size)).mono fun e w' h => h.up hx'
  rw [hE]
  generalize hdB 7 22 = X at *
  unfold BytIs at kX ⊢
  clear hN hK hC hL hE hk n1 n2 n3 n4 n5 n6 n7 n8 n9 n10
  go_enter Tryz.func41, Tryz.ntmps41
  go_wp2_with (go_at_call 44; refine (kX.out _ (by exact B0.out)).mono ?_; rintro e x1 ⟨⟨v1, rfl, hO1⟩, hb1⟩)
  go_ret
  exact ⟨⟨_, rfl, hO1⟩, hb1⟩
set_option maxHeartbeats 8000000 in
set_option maxRecDepth 100000 in
theorem sitem_k5 {L k D : Nat} {t : Tr} {b : Nb} {w : World} (hN : Nd (D + 1) w b t) (hK : t.kind = 5) (hg : EG t) (hC : Cv L w) (hL : L ≤ w.heap.size) : Calls Tryz.prog 41 #[.agg b.arr] w fun e w' => BytIs w w' e (encF (k + 1) t) := by
  have hk : b.kind = 5 := hN.1.1.trans hK
  have hE : encF (k + 1) t = runB 3 (bs t.txt) := by rw [encF]; simp [hK]
  have hal := alloc_below w (.cells b.arr 26)
  have htxt : b.txt = t.txt := hN.1.2.2.2.2.2
  have hsz : b.txt.size ≤ 4096 := by rw [htxt]; exact hg.1 hK
  obtain ⟨a0, a1, a2, a3, a4, a5, a6, a7, a8⟩ := (nbox_new w b).fields
  have hcv := Lib.run_convert_string_bytes (P := Tryz.prog) (w.alloc (.cells b.arr 26)) 9 22 5 b.txt Tryz.underlying9 Tryz.underlying22 Tryz.underlying5
  have BC : Below (w.alloc (.cells b.arr 26)).heap.size (w.alloc (.cells b.arr 26)) (Lib.bytesWorld (w.alloc (.cells b.arr 26)) 5 b.txt) := conv_below _ _
  have B1 : Below w.heap.size w (Lib.bytesWorld (w.alloc (.cells b.arr 26)) 5 b.txt) := hal.trans (BC.mono hal.size)
  obtain ⟨gC, nC, cC, hvC, hlC, hcC, hcC', hBC⟩ := (own_conv (w.alloc (.cells b.arr 26)) b.txt (by omega)).form
  have hvC' : (Value.slice (some ⟨(w.alloc (.cells b.arr 26)).heap.size, 0, none⟩) b.txt.size (grownCap (w.alloc (.cells b.arr 26)) b.txt.size 0 5)) = Value.slice (some ⟨gC, 0, none⟩) nC cC := hvC
  rw [hvC'] at hcv
  have kX := (srun_any 3 (by omega) (some ⟨gC, 0, none⟩) nC cC (bs b.txt) (w := Lib.bytesWorld (w.alloc (.cells b.arr 26)) 5 b.txt) hlC.out hBC.out ⟨hcC, by have := hcC'; unfold maxLen; omega, fun h => by cases h⟩ (by rw [bs_len]; omega) (hC.on (B1.mono hL)).2 (Nat.le_trans hL B1.size)).mono fun e w' h => BytIs.up h B1
  rw [hE, ← htxt]
  have e1 : (b.kind == 1) = false := by rw [hk]; decide
  have e2 : (b.kind == 2) = false := by rw [hk]; decide
  have e3 : (b.kind == 3) = false := by rw [hk]; decide
  have e4 : (b.kind == 4) = false := by rw [hk]; decide
  have e5 : (b.kind == 5) = true := by rw [hk]; decide
  generalize runB 3 (bs b.txt) = X at *
  generalize Lib.bytesWorld (w.alloc (.cells b.arr 26)) 5 b.txt = W1 at *
  unfold BytIs at kX ⊢
  clear hN hK hg hC hL hE htxt hk hvC hvC' hlC hBC BC B1 hal hsz
  go_enter Tryz.func41, Tryz.ntmps41
  go_wp2_with (go_at_call 71; refine kX.mono ?_; rintro e x1 ⟨⟨v1, rfl, hO1⟩, hb1⟩)
  go_ret
  exact ⟨⟨_, rfl, hO1⟩, hb1⟩
end Go.Proofs.YtnjbppfanmmifaaGreatDoor
