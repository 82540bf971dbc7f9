/-
  A digit of base 16, four of them: gantlineref09.hex, unit.
-/
import Derived.Test.YtmlacmoembjeoaaGreatDoorG40
namespace Go.Proofs.YtmlacmoembjeoaaGreatDoor
open Go.RowKit
set_option linter.unusedVariables false
/-- A digit of base 16; -1: it is none. -/
def hxI (c : Int) : Int := if 48 ≤ c ∧ c ≤ 57 then c - 48 else if 97 ≤ c ∧ c ≤ 102 then c - 87 else if 65 ≤ c ∧ c ≤ 70 then c - 55 else -1
def hexV (zs : List Int) (p : Nat) : Int := if p < zs.length then hxI (zs.getD p 0) else -1
theorem hxI_bd (c : Int) : -1 ≤ hxI c ∧ hxI c ≤ 15 := by
  unfold hxI
  repeat' split
  all_goals omega
theorem hexV_bd (zs : List Int) (p : Nat) : -1 ≤ hexV zs p ∧ hexV zs p ≤ 15 := by
  unfold hexV
  split
  · exact hxI_bd _
  · omega
set_option maxHeartbeats 400000 in
set_option maxRecDepth 100000 in
theorem vhex_any (a : Option Addr) (n cap : Nat) (zs : List Int) (p : Nat) (w : World) (hl : zs.length = n) (hb : Bytes w a zs) (hc : n ≤ cap) :
    Calls Tryz.prog 105 #[.slice a n cap, .int .i64 (p : Nat)] w fun e w' => e = .returned (.int .i64 (hexV zs p)) ∧ w' = w := by
  by_cases hp : p < n
  · obtain ⟨x, off, rfl, hcell, h0, h1⟩ := byte_at hb (p := p) (by omega)
    have hR : hexV zs p = hxI (zs.getD p 0) := by unfold hexV; rw [if_pos (by omega)]
    rw [hR]
    generalize zs.getD p 0 = z at *
    have hz : (p : Int) < (n : Int) := by omega
    clear hb hl hR hp
    have w1 : IntKind.u8.wrap (z - 48) = (z - 48) % 256 := rfl
    by_cases g1 : 48 ≤ z ∧ z ≤ 57
    · have E : Hid (hxI z = z - 48) := by show _ = _; unfold hxI; rw [if_pos g1]
      have f0 : decide ((48 : Int) ≤ z) = true := by simp; omega
      have f1 : decide (z ≤ (57 : Int)) = true := by simp; omega
      have v1 : IntKind.u8.wrap (z - 48) = z - 48 := by rw [w1]; omega
      have v2 : IntKind.i64.wrap (z - 48) = z - 48 := by rw [IntKind.wrap_i64]; omega
      clear g1 w1
      go_enter Tryz.func105, Tryz.ntmps105
      go_wp2
      go_ret
      exact ⟨by rw [E.out]; rfl, rfl⟩
    by_cases g2 : 97 ≤ z ∧ z ≤ 102
    · have E : Hid (hxI z = z - 97 + 10) := by show _ = _; unfold hxI; rw [if_neg (by omega), if_pos g2]; omega
      have f0 : decide ((48 : Int) ≤ z) = true := by simp; omega
      have f1 : decide (z ≤ (57 : Int)) = false := by simp; omega
      have f2 : decide ((97 : Int) ≤ z) = true := by simp; omega
      have f3 : decide (z ≤ (102 : Int)) = true := by simp; omega
      have v1 : IntKind.u8.wrap (z - 97) = z - 97 := by show (z - 97) % 256 = _; omega
      have v2 : IntKind.i64.wrap (z - 97) = z - 97 := by rw [IntKind.wrap_i64]; omega
      have v3 : IntKind.i64.wrap (z - 97 + 10) = z - 97 + 10 := by rw [IntKind.wrap_i64]; omega
      clear g2 w1
      go_enter Tryz.func105, Tryz.ntmps105
      go_wp2
      go_ret
      exact ⟨by rw [E.out]; rfl, rfl⟩
    by_cases g3 : 65 ≤ z ∧ z ≤ 70
    · have E : Hid (hxI z = z - 65 + 10) := by show _ = _; unfold hxI; rw [if_neg (by omega), if_neg (by omega), if_pos g3]; omega
      have f0 : decide ((48 : Int) ≤ z) = true := by simp; omega
      have f1 : decide (z ≤ (57 : Int)) = false := by simp; omega
      have f2 : decide ((97 : Int) ≤ z) = false := by simp; omega
      have f3 : decide ((65 : Int) ≤ z) = true := by simp; omega
      have f4 : decide (z ≤ (70 : Int)) = true := by simp; omega
      have v1 : IntKind.u8.wrap (z - 65) = z - 65 := by show (z - 65) % 256 = _; omega
      have v2 : IntKind.i64.wrap (z - 65) = z - 65 := by rw [IntKind.wrap_i64]; omega
      have v3 : IntKind.i64.wrap (z - 65 + 10) = z - 65 + 10 := by rw [IntKind.wrap_i64]; omega
      clear g3 w1
      go_enter Tryz.func105, Tryz.ntmps105
      go_wp2
      go_ret
      exact ⟨by rw [E.out]; rfl, rfl⟩
    have E : Hid (hxI z = -1) := by show _ = _; unfold hxI; rw [if_neg g1, if_neg g2, if_neg g3]
    by_cases g4 : z < 48
    · have f0 : decide ((48 : Int) ≤ z) = false := by simp; omega
      have f1 : decide ((97 : Int) ≤ z) = false := by simp; omega
      have f2 : decide ((65 : Int) ≤ z) = false := by simp; omega
      clear g1 g2 g3 g4 w1
      go_enter Tryz.func105, Tryz.ntmps105
      go_wp2
      go_ret
      exact ⟨by rw [E.out]; rfl, rfl⟩
    by_cases g5 : z < 65
    · have f0 : decide ((48 : Int) ≤ z) = true := by simp; omega
      have f1 : decide (z ≤ (57 : Int)) = false := by simp; omega
      have f2 : decide ((97 : Int) ≤ z) = false := by simp; omega
      have f3 : decide ((65 : Int) ≤ z) = false := by simp; omega
      clear g1 g2 g3 g5 w1
      go_enter Tryz.func105, Tryz.ntmps105
      go_wp2
      go_ret
      exact ⟨by rw [E.out]; rfl, rfl⟩
    by_cases g6 : z < 97
    · have f0 : decide ((48 : Int) ≤ z) = true := by simp; omega
      have f1 : decide (z ≤ (57 : Int)) = false := by simp; omega
      have f2 : decide ((97 : Int) ≤ z) = false := by simp; omega
      have f3 : decide ((65 : Int) ≤ z) = true := by simp; omega
      have f4 : decide (z ≤ (70 : Int)) = false := by simp; omega
      clear g1 g2 g3 g6 w1
      go_enter Tryz.func105, Tryz.ntmps105
      go_wp2
      go_ret
      exact ⟨by rw [E.out]; rfl, rfl⟩
    have f0 : decide ((48 : Int) ≤ z) = true := by simp; omega
    have f1 : decide (z ≤ (57 : Int)) = false := by simp; omega
    have f2 : decide ((97 : Int) ≤ z) = true := by simp; omega
    have f3 : decide (z ≤ (102 : Int)) = false := by simp; omega
    have f4 : decide ((65 : Int) ≤ z) = true := by simp; omega
    have f5 : decide (z ≤ (70 : Int)) = false := by simp; omega
    clear g1 g2 g3 g4 g5 g6 w1
    go_enter Tryz.func105, Tryz.ntmps105
    go_wp2
    go_ret
    exact ⟨by rw [E.out]; rfl, rfl⟩
  · have hR : hexV zs p = -1 := by unfold hexV; rw [if_neg (by omega)]
    rw [hR]
    have hz : ¬ (p : Int) < (n : Int) := by omega
    have hz2 : (n : Int) ≤ (p : Int) := by omega
    clear hb hl hR hp
    go_enter Tryz.func105, Tryz.ntmps105
    go_wp2
    go_ret
    exact ⟨rfl, rfl⟩
/-- Is a digit wrong there? -/
def badU (low : Bool) (i : Nat) (m d : Int) : Bool := decide (d < 0) || (low && (decide (i = 0) && decide (d ≠ 13))) || (low && (decide (i = 1) && decide (m < 220))) || (!low && (decide (i = 1) && (decide (220 ≤ m) && decide (m ≤ 223))))
def unitF (zs : List Int) (p : Nat) (low : Bool) : Nat → Nat → Int → Int × Int
  | 0, _, n => (n, -1)
  | k + 1, i, n => if badU low i (n * 16 + hexV zs (p + i)) (hexV zs (p + i)) = true then (0, ((p + i : Nat) : Int)) else unitF zs p low k (i + 1) (n * 16 + hexV zs (p + i))
set_option maxHeartbeats 2000000 in
set_option maxRecDepth 100000 in
theorem vunit_any (a : Option Addr) (n cap : Nat) (zs : List Int) (p : Nat) (low : Bool) (w : World) (hl : zs.length = n) (hb : Bytes w a zs) (hc : n ≤ cap) (hm : cap ≤ 140737488351232) (hp : p ≤ n + 100) :
    Calls Tryz.prog 82 #[.slice a n cap, .int .i64 (p : Nat), .bool low] w fun e w' => e = .returned (.tuple #[.int .i64 (unitF zs p low 4 0 0).1, .int .i64 (unitF zs p low 4 0 0).2]) ∧ w' = w := by
  have kH : Hid (∀ q : Nat, Calls Tryz.prog 105 #[.slice a n cap, .int .i64 (q : Nat)] w fun e w' => e = .returned (.int .i64 (hexV zs q)) ∧ w' = w) := fun q => vhex_any a n cap zs q w hl hb hc
  obtain ⟨RA, hRA⟩ : ∃ RA, unitF zs p low 4 0 0 = RA := ⟨_, rfl⟩
  rw [hRA]
  have HR : Hid (unitF zs p low 4 0 0 = RA) := hRA
  clear hRA hl hb
  go_enter Tryz.func82, Tryz.ntmps82
  go_wp2
  go_loopw [8, 9] (fun u v wr => ∃ (i : Nat) (m : Int), i ≤ 4 ∧ u = .int .i64 m ∧ v = .int .i64 i ∧ wr = w ∧ 0 ≤ m ∧ m < 65536 ∧ m < 16 ^ i ∧ Hid (unitF zs p low (4 - i) i m = RA)) (fun _ v _ => 4 - (intOf v).toNat)
  case atStart => exact ⟨0, 0, by omega, rfl, rfl, rfl, by omega, by omega, by decide, HR⟩
  case round =>
    obtain ⟨i, m, hi, rfl, rfl, hwr, hm0, hm1, hm2, hU⟩ := hrel
    obtain rfl : w = wr := hwr.symm
    rcases i with _ | _ | _ | _ | _ | i
    · have kh := kH.out (p + 0)
      have hd := hexV_bd zs (p + 0)
      have hU2 : (if badU low 0 (m * 16 + hexV zs (p + 0)) (hexV zs (p + 0)) = true then (0, ((p + 0 : Nat) : Int)) else unitF zs p low 3 1 (m * 16 + hexV zs (p + 0))) = RA := hU.out
      generalize hexV zs (p + 0) = d at *
      have hm3 : m < 1 := by simpa using hm2
      have kh' : Calls Tryz.prog 105 #[.slice a n cap, .int .i64 ((p : Int))] w fun e w' => e = .returned (.int .i64 d) ∧ w' = w := kh
      have v1 : IntKind.i64.wrap (m * 16) = m * 16 := by rw [IntKind.wrap_i64]; omega
      have v2 : IntKind.i64.wrap (m * 16 + d) = m * 16 + d := by rw [IntKind.wrap_i64]; omega
      have v3 : IntKind.i64.wrap ((p : Int)) = (p : Int) := by rw [IntKind.wrap_i64]; omega
      clear kh hU hm2
      by_cases hneg : d < 0
      · clear hm1
        have E : Hid (RA = (0, ((p + 0 : Nat) : Int))) := by show _ = _; rw [← hU2, if_pos (by unfold badU; simp [hneg])]
        have f0 : decide (d < (0 : Int)) = true := by simp; omega
        clear hU2
        go_wp2_with (go_at_call 105; refine kh'.mono ?_; rintro e w1 ⟨rfl, hw⟩; obtain rfl : w = w1 := hw.symm; clear kh' hw)
        go_ret2
        exact ⟨by rw [E.out]; rfl, rfl⟩
      · have f9 : decide (d < (0 : Int)) = false := by simp; omega
        cases low with
        | true =>
          by_cases h13 : d = 13
          · have g13 : (d != 13) = false := by simpa using h13
            have U : Hid (unitF zs p true 3 1 (m * 16 + d) = RA) := by show _ = _; rw [← hU2, if_neg (by unfold badU; simp [h13])]
            clear h13
            have b1 : 0 ≤ m * 16 + d := by omega
            have b2 : m * 16 + d < 16 := by omega
            clear hU2
            go_wp2_with (go_at_call 105; refine kh'.mono ?_; rintro e w1 ⟨rfl, hw⟩; obtain rfl : w = w1 := hw.symm; clear kh' hw)
            go_roundw
            case rel => exact ⟨1, m * 16 + d, by omega, (by first | rfl | go_num), (by first | rfl | go_num), (by first | rfl | trivial), b1, by omega, by simpa using b2, U⟩
            case measure => simp [intOf]
          · have g13 : (d != 13) = true := by simpa using h13
            have E : Hid (RA = (0, ((p + 0 : Nat) : Int))) := by show _ = _; rw [← hU2, if_pos (by unfold badU; simp [h13])]
            clear hU2
            go_wp2_with (go_at_call 105; refine kh'.mono ?_; rintro e w1 ⟨rfl, hw⟩; obtain rfl : w = w1 := hw.symm; clear kh' hw)
            go_ret2
            exact ⟨by rw [E.out]; rfl, rfl⟩
        | false =>
          have U : Hid (unitF zs p false 3 1 (m * 16 + d) = RA) := by show _ = _; rw [← hU2, if_neg (by unfold badU; simp; omega)]
          have b1 : 0 ≤ m * 16 + d := by omega
          have b2 : m * 16 + d < 16 := by omega
          clear hU2
          go_wp2_with (go_at_call 105; refine kh'.mono ?_; rintro e w1 ⟨rfl, hw⟩; obtain rfl : w = w1 := hw.symm; clear kh' hw)
          go_roundw
          case rel => exact ⟨1, m * 16 + d, by omega, (by first | rfl | go_num), (by first | rfl | go_num), (by first | rfl | trivial), b1, by omega, by simpa using b2, U⟩
          case measure => simp [intOf]
    · have kh := kH.out (p + 1)
      have hd := hexV_bd zs (p + 1)
      have hU2 : (if badU low 1 (m * 16 + hexV zs (p + 1)) (hexV zs (p + 1)) = true then (0, ((p + 1 : Nat) : Int)) else unitF zs p low 2 2 (m * 16 + hexV zs (p + 1))) = RA := hU.out
      generalize hexV zs (p + 1) = d at *
      have hm3 : m < 16 := by simpa using hm2
      have kh' : Calls Tryz.prog 105 #[.slice a n cap, .int .i64 ((p : Int) + 1)] w fun e w' => e = .returned (.int .i64 d) ∧ w' = w := kh
      have v1 : IntKind.i64.wrap (m * 16) = m * 16 := by rw [IntKind.wrap_i64]; omega
      have v2 : IntKind.i64.wrap (m * 16 + d) = m * 16 + d := by rw [IntKind.wrap_i64]; omega
      have v3 : IntKind.i64.wrap ((p : Int) + 1) = (p : Int) + 1 := by rw [IntKind.wrap_i64]; omega
      clear kh hU hm2
      by_cases hneg : d < 0
      · clear hm1
        have E : Hid (RA = (0, ((p + 1 : Nat) : Int))) := by show _ = _; rw [← hU2, if_pos (by unfold badU; simp [hneg])]
        have f0 : decide (d < (0 : Int)) = true := by simp; omega
        clear hU2
        go_wp2_with (go_at_call 105; refine kh'.mono ?_; rintro e w1 ⟨rfl, hw⟩; obtain rfl : w = w1 := hw.symm; clear kh' hw)
        go_ret2
        exact ⟨by rw [E.out]; rfl, rfl⟩
      · have f9 : decide (d < (0 : Int)) = false := by simp; omega
        cases low with
        | true =>
          by_cases h2 : m * 16 + d < 220
          · have g2 : decide (m * 16 + d < (220 : Int)) = true := by simp; omega
            have E : Hid (RA = (0, ((p + 1 : Nat) : Int))) := by show _ = _; rw [← hU2, if_pos (by unfold badU; simp [h2])]
            clear hU2
            go_wp2_with (go_at_call 105; refine kh'.mono ?_; rintro e w1 ⟨rfl, hw⟩; obtain rfl : w = w1 := hw.symm; clear kh' hw)
            go_ret2
            exact ⟨by rw [E.out]; rfl, rfl⟩
          · have g2 : decide (m * 16 + d < (220 : Int)) = false := by simp; omega
            have U : Hid (unitF zs p true 2 2 (m * 16 + d) = RA) := by show _ = _; rw [← hU2, if_neg (by unfold badU; simp [h2]; omega)]
            have b1 : 0 ≤ m * 16 + d := by omega
            have b2 : m * 16 + d < 256 := by omega
            clear hU2
            go_wp2_with (go_at_call 105; refine kh'.mono ?_; rintro e w1 ⟨rfl, hw⟩; obtain rfl : w = w1 := hw.symm; clear kh' hw)
            go_roundw
            case rel => exact ⟨2, m * 16 + d, by omega, (by first | rfl | go_num), (by first | rfl | go_num), (by first | rfl | trivial), b1, by omega, by simpa using b2, U⟩
            case measure => simp [intOf]
        | false =>
          by_cases h2 : 220 ≤ m * 16 + d
          · have g2 : decide ((220 : Int) ≤ m * 16 + d) = true := by simp; omega
            by_cases h3 : m * 16 + d ≤ 223
            · have g3 : decide (m * 16 + d ≤ (223 : Int)) = true := by simp; omega
              have E : Hid (RA = (0, ((p + 1 : Nat) : Int))) := by show _ = _; rw [← hU2, if_pos (by unfold badU; simp [h2, h3])]
              clear hU2
              go_wp2_with (go_at_call 105; refine kh'.mono ?_; rintro e w1 ⟨rfl, hw⟩; obtain rfl : w = w1 := hw.symm; clear kh' hw)
              go_ret2
              exact ⟨by rw [E.out]; rfl, rfl⟩
            · have g3 : decide (m * 16 + d ≤ (223 : Int)) = false := by simp; omega
              have U : Hid (unitF zs p false 2 2 (m * 16 + d) = RA) := by show _ = _; rw [← hU2, if_neg (by unfold badU; simp [h2, h3]; omega)]
              have b1 : 0 ≤ m * 16 + d := by omega
              have b2 : m * 16 + d < 256 := by omega
              clear hU2
              go_wp2_with (go_at_call 105; refine kh'.mono ?_; rintro e w1 ⟨rfl, hw⟩; obtain rfl : w = w1 := hw.symm; clear kh' hw)
              go_roundw
              case rel => exact ⟨2, m * 16 + d, by omega, (by first | rfl | go_num), (by first | rfl | go_num), (by first | rfl | trivial), b1, by omega, by simpa using b2, U⟩
              case measure => simp [intOf]
          · have g2 : decide ((220 : Int) ≤ m * 16 + d) = false := by simp; omega
            have U : Hid (unitF zs p false 2 2 (m * 16 + d) = RA) := by show _ = _; rw [← hU2, if_neg (by unfold badU; simp [h2]; omega)]
            have b1 : 0 ≤ m * 16 + d := by omega
            have b2 : m * 16 + d < 256 := by omega
            clear hU2
            go_wp2_with (go_at_call 105; refine kh'.mono ?_; rintro e w1 ⟨rfl, hw⟩; obtain rfl : w = w1 := hw.symm; clear kh' hw)
            go_roundw
            case rel => exact ⟨2, m * 16 + d, by omega, (by first | rfl | go_num), (by first | rfl | go_num), (by first | rfl | trivial), b1, by omega, by simpa using b2, U⟩
            case measure => simp [intOf]
    · have kh := kH.out (p + 2)
      have hd := hexV_bd zs (p + 2)
      have hU2 : (if badU low 2 (m * 16 + hexV zs (p + 2)) (hexV zs (p + 2)) = true then (0, ((p + 2 : Nat) : Int)) else unitF zs p low 1 3 (m * 16 + hexV zs (p + 2))) = RA := hU.out
      generalize hexV zs (p + 2) = d at *
      have hm3 : m < 256 := by simpa using hm2
      have kh' : Calls Tryz.prog 105 #[.slice a n cap, .int .i64 ((p : Int) + 2)] w fun e w' => e = .returned (.int .i64 d) ∧ w' = w := kh
      have v1 : IntKind.i64.wrap (m * 16) = m * 16 := by rw [IntKind.wrap_i64]; omega
      have v2 : IntKind.i64.wrap (m * 16 + d) = m * 16 + d := by rw [IntKind.wrap_i64]; omega
      have v3 : IntKind.i64.wrap ((p : Int) + 2) = (p : Int) + 2 := by rw [IntKind.wrap_i64]; omega
      clear kh hU hm2
      by_cases hneg : d < 0
      · clear hm1
        have E : Hid (RA = (0, ((p + 2 : Nat) : Int))) := by show _ = _; rw [← hU2, if_pos (by unfold badU; simp [hneg])]
        have f0 : decide (d < (0 : Int)) = true := by simp; omega
        clear hU2
        go_wp2_with (go_at_call 105; refine kh'.mono ?_; rintro e w1 ⟨rfl, hw⟩; obtain rfl : w = w1 := hw.symm; clear kh' hw)
        go_ret2
        exact ⟨by rw [E.out]; rfl, rfl⟩
      · have f9 : decide (d < (0 : Int)) = false := by simp; omega
        cases low with
        | true =>
          have U : Hid (unitF zs p true 1 3 (m * 16 + d) = RA) := by show _ = _; rw [← hU2, if_neg (by unfold badU; simp; omega)]
          have b1 : 0 ≤ m * 16 + d := by omega
          have b2 : m * 16 + d < 4096 := by omega
          clear hU2
          go_wp2_with (go_at_call 105; refine kh'.mono ?_; rintro e w1 ⟨rfl, hw⟩; obtain rfl : w = w1 := hw.symm; clear kh' hw)
          go_roundw
          case rel => exact ⟨3, m * 16 + d, by omega, (by first | rfl | go_num), (by first | rfl | go_num), (by first | rfl | trivial), b1, by omega, by simpa using b2, U⟩
          case measure => simp [intOf]
        | false =>
          have U : Hid (unitF zs p false 1 3 (m * 16 + d) = RA) := by show _ = _; rw [← hU2, if_neg (by unfold badU; simp; omega)]
          have b1 : 0 ≤ m * 16 + d := by omega
          have b2 : m * 16 + d < 4096 := by omega
          clear hU2
          go_wp2_with (go_at_call 105; refine kh'.mono ?_; rintro e w1 ⟨rfl, hw⟩; obtain rfl : w = w1 := hw.symm; clear kh' hw)
          go_roundw
          case rel => exact ⟨3, m * 16 + d, by omega, (by first | rfl | go_num), (by first | rfl | go_num), (by first | rfl | trivial), b1, by omega, by simpa using b2, U⟩
          case measure => simp [intOf]
    · have kh := kH.out (p + 3)
      have hd := hexV_bd zs (p + 3)
      have hU2 : (if badU low 3 (m * 16 + hexV zs (p + 3)) (hexV zs (p + 3)) = true then (0, ((p + 3 : Nat) : Int)) else unitF zs p low 0 4 (m * 16 + hexV zs (p + 3))) = RA := hU.out
      generalize hexV zs (p + 3) = d at *
      have hm3 : m < 4096 := by simpa using hm2
      have kh' : Calls Tryz.prog 105 #[.slice a n cap, .int .i64 ((p : Int) + 3)] w fun e w' => e = .returned (.int .i64 d) ∧ w' = w := kh
      have v1 : IntKind.i64.wrap (m * 16) = m * 16 := by rw [IntKind.wrap_i64]; omega
      have v2 : IntKind.i64.wrap (m * 16 + d) = m * 16 + d := by rw [IntKind.wrap_i64]; omega
      have v3 : IntKind.i64.wrap ((p : Int) + 3) = (p : Int) + 3 := by rw [IntKind.wrap_i64]; omega
      clear kh hU hm2
      by_cases hneg : d < 0
      · clear hm1
        have E : Hid (RA = (0, ((p + 3 : Nat) : Int))) := by show _ = _; rw [← hU2, if_pos (by unfold badU; simp [hneg])]
        have f0 : decide (d < (0 : Int)) = true := by simp; omega
        clear hU2
        go_wp2_with (go_at_call 105; refine kh'.mono ?_; rintro e w1 ⟨rfl, hw⟩; obtain rfl : w = w1 := hw.symm; clear kh' hw)
        go_ret2
        exact ⟨by rw [E.out]; rfl, rfl⟩
      · have f9 : decide (d < (0 : Int)) = false := by simp; omega
        cases low with
        | true =>
          have U : Hid (unitF zs p true 0 4 (m * 16 + d) = RA) := by show _ = _; rw [← hU2, if_neg (by unfold badU; simp; omega)]
          have b1 : 0 ≤ m * 16 + d := by omega
          have b2 : m * 16 + d < 65536 := by omega
          clear hU2
          go_wp2_with (go_at_call 105; refine kh'.mono ?_; rintro e w1 ⟨rfl, hw⟩; obtain rfl : w = w1 := hw.symm; clear kh' hw)
          go_roundw
          case rel => exact ⟨4, m * 16 + d, by omega, (by first | rfl | go_num), (by first | rfl | go_num), (by first | rfl | trivial), b1, by omega, by simpa using b2, U⟩
          case measure => simp [intOf]
        | false =>
          have U : Hid (unitF zs p false 0 4 (m * 16 + d) = RA) := by show _ = _; rw [← hU2, if_neg (by unfold badU; simp; omega)]
          have b1 : 0 ≤ m * 16 + d := by omega
          have b2 : m * 16 + d < 65536 := by omega
          clear hU2
          go_wp2_with (go_at_call 105; refine kh'.mono ?_; rintro e w1 ⟨rfl, hw⟩; obtain rfl : w = w1 := hw.symm; clear kh' hw)
          go_roundw
          case rel => exact ⟨4, m * 16 + d, by omega, (by first | rfl | go_num), (by first | rfl | go_num), (by first | rfl | trivial), b1, by omega, by simpa using b2, U⟩
          case measure => simp [intOf]
    · have E : Hid (RA = (m, -1)) := by show _ = _; rw [← hU.out]; rfl
      clear hU hm2
      go_wp2
      go_ret2
      exact ⟨by rw [E.out]; rfl, rfl⟩
    · exact absurd hi (by omega)
end Go.Proofs.YtmlacmoembjeoaaGreatDoor
