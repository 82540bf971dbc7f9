/-
  What stands behind a backslash: gantlineref09.escape.
  Escapes as the document reads them, and as the row of states does: the same.
  What a backslash means, as the document reads it, and as the row of states does: the same.
  The first character, in the program.
-/
import Derived.Test.YtmlacmoembjeoaaGreatDoorG41
import Derived.Test.YtmlacmoembjeoaaGreatDoorG9
namespace Go.Proofs.YtmlacmoembjeoaaGreatDoor
open Go.RowKit
set_option linter.unusedVariables false
/-- Which short escape it is; 8: none. -/
def ixE (c : Nat) : Nat := if c = 34 then 0 else if c = 92 then 1 else if c = 47 then 2 else if c = 98 then 3 else if c = 102 then 4 else if c = 110 then 5 else if c = 114 then 6 else if c = 116 then 7 else 8
def toE (k : Nat) : Nat := if k = 0 then 34 else if k = 1 then 92 else if k = 2 then 47 else if k = 3 then 8 else if k = 4 then 12 else if k = 5 then 10 else if k = 6 then 13 else 9
theorem ixE_le (c : Nat) : ixE c ≤ 8 := by
  unfold ixE
  repeat' split
  all_goals omega
theorem fromE (k : Nat) (h : k < (⟨#[34, 92, 47, 98, 102, 110, 114, 116]⟩ : ByteArray).size) : ixE (((⟨#[34, 92, 47, 98, 102, 110, 114, 116]⟩ : ByteArray)[k]'h).toNat) = k := by
  have h8 : k < 8 := h
  rcases k with _ | _ | _ | _ | _ | _ | _ | _ | k
  all_goals first | rfl | omega
theorem fromE' (c k : Nat) (h : k < (⟨#[34, 92, 47, 98, 102, 110, 114, 116]⟩ : ByteArray).size) (hk : ixE c = k) : ((⟨#[34, 92, 47, 98, 102, 110, 114, 116]⟩ : ByteArray)[k]'h).toNat = c := by
  have h8 : k < 8 := h
  have hc : c = 34 ∨ c = 92 ∨ c = 47 ∨ c = 98 ∨ c = 102 ∨ c = 110 ∨ c = 114 ∨ c = 116 := by
    unfold ixE at hk
    repeat' split at hk
    all_goals omega
  rcases hc with rfl | rfl | rfl | rfl | rfl | rfl | rfl | rfl
  all_goals (obtain rfl := hk.symm; rfl)
theorem toE_byte (k : Nat) (h : k < (⟨#[34, 92, 47, 8, 12, 10, 13, 9]⟩ : ByteArray).size) : ((⟨#[34, 92, 47, 8, 12, 10, 13, 9]⟩ : ByteArray)[k]'h).toNat = toE k := by
  have h8 : k < 8 := h
  rcases k with _ | _ | _ | _ | _ | _ | _ | _ | k
  all_goals first | rfl | omega
theorem unit_bd (zs : List Int) (p : Nat) (low : Bool) : ∀ (k i : Nat) (n : Int), 0 ≤ n → n < 16 ^ i → ((unitF zs p low k i n).2 = -1 → 0 ≤ (unitF zs p low k i n).1 ∧ (unitF zs p low k i n).1 < 16 ^ (i + k)) ∧ ((unitF zs p low k i n).2 = -1 ∨ (0 ≤ (unitF zs p low k i n).2 ∧ (unitF zs p low k i n).2 < p + i + k)) := by
  intro k
  induction k with
  | zero => intro i n h0 h1; exact ⟨fun _ => ⟨h0, by show n < 16 ^ (i + 0); simpa using h1⟩, .inl rfl⟩
  | succ k ih =>
    intro i n h0 h1
    unfold unitF
    have hd := hexV_bd zs (p + i)
    generalize hexV zs (p + i) = d at *
    by_cases hb : badU low i (n * 16 + d) d = true
    · rw [if_pos hb]
      exact ⟨fun h => by have h' : ((p + i : Nat) : Int) = -1 := h; omega, .inr ⟨by show (0 : Int) ≤ ((p + i : Nat) : Int); omega, by show ((p + i : Nat) : Int) < _; omega⟩⟩
    · rw [if_neg hb]
      have hd0 : 0 ≤ d := by
        rcases Int.lt_or_le d 0 with h | h
        · exfalso; apply hb; unfold badU; simp [h]
        · exact h
      have hp : (16 : Int) ^ (i + 1) = 16 ^ i * 16 := by rw [Int.pow_succ]
      have := ih (i + 1) (n * 16 + d) (by omega) (by rw [hp]; omega)
      rw [show i + 1 + k = i + (k + 1) by omega] at this
      refine ⟨this.1, ?_⟩
      rcases this.2 with h | h
      · exact .inl h
      · exact .inr ⟨h.1, by have := h.2; omega⟩
/-- Behind a backslash and an u. -/
def escX (zs : List Int) (p : Nat) : Int × Int × Int :=
  if (unitF zs (p + 1) false 4 0 0).2 ≠ -1 then (0, 0, (unitF zs (p + 1) false 4 0 0).2)
  else if (unitF zs (p + 1) false 4 0 0).1 < 55296 ∨ 57343 < (unitF zs (p + 1) false 4 0 0).1 then ((unitF zs (p + 1) false 4 0 0).1, ((p + 5 : Nat) : Int), -1)
  else if isB zs (p + 5) 92 = false then (0, 0, ((p + 5 : Nat) : Int))
  else if isB zs (p + 6) 117 = false then (0, 0, ((p + 6 : Nat) : Int))
  else if (unitF zs (p + 7) true 4 0 0).2 ≠ -1 then (0, 0, (unitF zs (p + 7) true 4 0 0).2)
  else (65536 + ((unitF zs (p + 1) false 4 0 0).1 - 55296) * 1024 + (unitF zs (p + 7) true 4 0 0).1 - 56320, ((p + 11 : Nat) : Int), -1)
def escW (zs : List Int) (p C : Nat) : Int × Int × Int := if ixE C < 8 then (((toE (ixE C) : Nat) : Int), ((p + 1 : Nat) : Int), -1) else if C ≠ 117 then (0, 0, ((p : Nat) : Int)) else escX zs p
/-- WHAT A BACKSLASH MEANS: the character, the place behind it, where it goes wrong. -/
def escV (zs : List Int) (p : Nat) : Int × Int × Int := if zs.length ≤ p then (0, 0, ((p : Nat) : Int)) else escW zs p (zs.getD p 0).toNat
theorem below_drewN {B : Nat} {a w : World} (h : Below B a w) (n : Nat) : Below B a (w.drewN n) := ⟨h.os, h.tape, h.output, h.size, h.block⟩
set_option maxHeartbeats 2000000 in
set_option maxRecDepth 100000 in
theorem vesc_any (a : Option Addr) (n cap : Nat) (zs : List Int) (p : Nat) (w : World) (hl : zs.length = n) (hb : Bytes w a zs) (hc : n ≤ cap) (hm : cap ≤ 140737488351232) (hp : p ≤ n + 1) :
    Calls Tryz.prog 58 #[.slice a n cap, .int .i64 (p : Nat)] w fun e w' => e = .returned (.tuple #[.int .i64 (escV zs p).1, .int .i64 (escV zs p).2.1, .int .i64 (escV zs p).2.2]) ∧ Below w.heap.size w w' := by
  have kU : Hid (∀ (q : Nat) (low : Bool) (w' : World), Below w.heap.size w w' → q ≤ n + 100 → Calls Tryz.prog 82 #[.slice a n cap, .int .i64 (q : Nat), .bool low] w' fun e w'' => e = .returned (.tuple #[.int .i64 (unitF zs q low 4 0 0).1, .int .i64 (unitF zs q low 4 0 0).2]) ∧ w'' = w') := fun q low w' h hq => vunit_any a n cap zs q low w' hl (hb.kept h) hc hm hq
  have hby : Hid (∀ (q : Nat) (w' : World), Below w.heap.size w w' → q < n → ∃ x off, a = some ⟨x, off, none⟩ ∧ w'.cell? ⟨x, off + q, none⟩ = some (.int .u8 (zs.getD q 0)) ∧ 0 ≤ zs.getD q 0 ∧ zs.getD q 0 < 256) := fun q w' h hq => byte_at (hb.kept h) (by omega)
  obtain ⟨RA, hRA⟩ : ∃ RA, escV zs p = RA := ⟨_, rfl⟩
  rw [hRA]
  have HR : Hid (escV zs p = RA) := hRA
  have HL : Hid (zs.length = n) := hl
  clear hRA hl hb
  by_cases hpn : n ≤ p
  · have E : Hid (RA = (0, 0, ((p : Nat) : Int))) := by show _ = _; rw [← HR.out]; unfold escV; rw [if_pos (by rw [HL.out]; exact hpn)]
    have z1 : (n : Int) ≤ (p : Int) := by omega
    clear hpn HR
    go_enter Tryz.func58, Tryz.ntmps58
    go_wp2
    go_ret3
    exact ⟨by rw [E.out]; rfl, Below.refl _ _⟩
  have hpn' : p < n := by omega
  have z1 : ¬ (n : Int) ≤ (p : Int) := by omega
  have z2 : (p : Int) < (n : Int) := by omega
  obtain ⟨x, off, rfl, _, hz0, hz1⟩ := hby.out p w (Below.refl _ _) hpn'
  obtain ⟨C, hC⟩ : ∃ C : Nat, zs.getD p 0 = (C : Int) := ⟨(zs.getD p 0).toNat, by omega⟩
  have R1 : Hid (escW zs p C = RA) := by
    show _ = _
    rw [← HR.out]
    unfold escV
    rw [if_neg (by rw [HL.out]; omega), hC, Int.toNat_natCast]
  have hcl : Hid (∀ w' : World, Below w.heap.size w w' → w'.cell? ⟨x, off + p, none⟩ = some (.int .u8 (C : Int))) := fun w' h => by
    obtain ⟨x', off', e, h1, _⟩ := hby.out p w' h hpn'
    cases e
    rw [h1, hC]
  have hC8 : C < 256 := by omega
  have wp1 : IntKind.i64.wrap ((p : Int) + 1) = (p : Int) + 1 := by rw [IntKind.wrap_i64]; omega
  have hix := ixE_le C
  clear HR hC hz0 hz1 hpn
  go_enter Tryz.func58, Tryz.ntmps58
  go_wp2
  go_loopw [9] (fun u wi => ∃ k : Nat, k ≤ ixE C ∧ u = .int .i64 k ∧ Hid (Below w.heap.size w wi)) (fun u _ => ixE C - (intOf u).toNat)
  case atStart => exact ⟨0, Nat.zero_le _, rfl, Below.refl _ _⟩
  case round =>
    obtain ⟨k, hk, rfl, hB⟩ := hrel
    have c0 := hcl.out wr hB.out
    by_cases hk2 : k < ixE C
    · have v1 : (k : Int) < 8 := by omega
      have hks : k < (⟨#[34, 92, 47, 98, 102, 110, 114, 116]⟩ : ByteArray).size := by show k < 8; omega
      have hfb := fromE k hks
      have v2 : ((C : Int) == ((((⟨#[34, 92, 47, 98, 102, 110, 114, 116]⟩ : ByteArray)[k]'hks).toNat : Nat) : Int)) = false := by
        simp only [beq_eq_false_iff_ne, ne_eq]
        intro h
        have h' := Int.ofNat.inj h
        rw [← h'] at hfb
        omega
      clear hfb
      go_wp2
      go_quiet (fail)
      have B2 : Hid (Below w.heap.size w (wr.drewN nq)) := below_drewN hB.out nq
      generalize wr.drewN nq = wx at *
      go_wp2
      go_roundw
      case rel => exact ⟨k + 1, by omega, by go_num, B2⟩
      case measure => simp [intOf]; omega
    · have hkx : k = ixE C := by omega
      by_cases h8 : k < 8
      · have v1 : (k : Int) < 8 := by omega
        have hks : k < (⟨#[34, 92, 47, 98, 102, 110, 114, 116]⟩ : ByteArray).size := h8
        have hib := fromE' C k hks hkx.symm
        have hkt : k < (⟨#[34, 92, 47, 8, 12, 10, 13, 9]⟩ : ByteArray).size := h8
        have htb := toE_byte k hkt
        have v2 : ((C : Int) == ((((⟨#[34, 92, 47, 98, 102, 110, 114, 116]⟩ : ByteArray)[k]'hks).toNat : Nat) : Int)) = true := by rw [hib]; simp
        have E : Hid (RA = (((toE k : Nat) : Int), ((p + 1 : Nat) : Int), -1)) := by
          show _ = _
          rw [← R1.out]
          unfold escW
          rw [← hkx, if_pos h8]
        have hT : toE k < 128 := by
          unfold toE
          repeat' split
          all_goals omega
        have v3 : IntKind.i64.wrap ((((⟨#[34, 92, 47, 8, 12, 10, 13, 9]⟩ : ByteArray)[k]'hkt).toNat : Nat) : Int) = ((toE k : Nat) : Int) := by rw [htb, IntKind.wrap_i64]; omega
        clear hib htb hkx hk hk2 hT R1
        go_wp2
        go_quiet (fail)
        have B2 : Hid (Below w.heap.size w (wr.drewN nq)) := below_drewN hB.out nq
        generalize wr.drewN nq = wx at *
        go_wp2
        go_ret3
        exact ⟨by rw [E.out]; rfl, B2.out⟩
      · obtain rfl : k = 8 := by omega
        have R2 : Hid ((if C ≠ 117 then (0, 0, ((p : Nat) : Int)) else escX zs p) = RA) := by
          show _ = _
          rw [← R1.out]
          unfold escW
          rw [if_neg (show ¬ ixE C < 8 by omega)]
        clear hkx hk hk2 h8 R1
        by_cases h117 : C = 117
        · subst h117
          have R3 : Hid (escX zs p = RA) := by have := R2.out; rw [if_neg (by decide)] at this; exact this
          clear R2
          have ku := kU.out (p + 1) false wr hB.out (by omega)
          have hbd := unit_bd zs (p + 1) false 4 0 0 (by omega) (by decide)
          obtain ⟨⟨n1, d1⟩, hU⟩ : ∃ U, unitF zs (p + 1) false 4 0 0 = U := ⟨_, rfl⟩
          rw [hU] at ku hbd
          have HU : Hid (unitF zs (p + 1) false 4 0 0 = (n1, d1)) := hU
          have ku' : Calls Tryz.prog 82 #[.slice (some ⟨x, off, none⟩) n cap, .int .i64 ((p : Int) + 1), .bool false] wr fun e w'' => e = .returned (.tuple #[.int .i64 n1, .int .i64 d1]) ∧ w'' = wr := ku
          simp only at hbd
          clear ku hU
          by_cases hd1 : d1 = -1
          · subst hd1
            obtain ⟨hn0, hn1⟩ := hbd.1 rfl
            have hn2 : n1 < 65536 := by simpa using hn1
            clear hbd hn1
            have w5 : IntKind.i64.wrap ((p : Int) + 5) = (p : Int) + 5 := by rw [IntKind.wrap_i64]; omega
            by_cases hlo : n1 < 55296
            · have E : Hid (RA = (n1, ((p + 5 : Nat) : Int), -1)) := by show _ = _; rw [← R3.out]; unfold escX; rw [HU.out, if_neg (by simp), if_pos (.inl hlo)]
              have f1 : decide (n1 < (55296 : Int)) = true := by simp; omega
              clear hlo R3 HU
              go_wp2_with (go_at_call 82; refine ku'.mono ?_; rintro e w1 ⟨rfl, hw⟩; obtain rfl : wr = w1 := hw.symm; clear ku' hw)
              go_ret3
              exact ⟨by rw [E.out]; rfl, hB.out⟩
            have f1 : decide (n1 < (55296 : Int)) = false := by simp; omega
            by_cases hhi : 57343 < n1
            · have E : Hid (RA = (n1, ((p + 5 : Nat) : Int), -1)) := by show _ = _; rw [← R3.out]; unfold escX; rw [HU.out, if_neg (by simp), if_pos (.inr hhi)]
              have f2 : decide ((57343 : Int) < n1) = true := by simp; omega
              clear hlo hhi R3 HU
              go_wp2_with (go_at_call 82; refine ku'.mono ?_; rintro e w1 ⟨rfl, hw⟩; obtain rfl : wr = w1 := hw.symm; clear ku' hw)
              go_ret3
              exact ⟨by rw [E.out]; rfl, hB.out⟩
            have f2 : decide ((57343 : Int) < n1) = false := by simp; omega
            have R4 : Hid ((if isB zs (p + 5) 92 = false then ((0, 0, ((p + 5 : Nat) : Int)) : Int × Int × Int) else if isB zs (p + 6) 117 = false then (0, 0, ((p + 6 : Nat) : Int)) else if (unitF zs (p + 7) true 4 0 0).2 ≠ -1 then (0, 0, (unitF zs (p + 7) true 4 0 0).2) else (65536 + (n1 - 55296) * 1024 + (unitF zs (p + 7) true 4 0 0).1 - 56320, ((p + 11 : Nat) : Int), -1)) = RA) := by
              show _ = _
              rw [← R3.out]
              unfold escX
              rw [HU.out, if_neg (show ¬ ((n1, -1) : Int × Int).2 ≠ -1 by simp), if_neg (show ¬ (((n1, -1) : Int × Int).1 < 55296 ∨ 57343 < ((n1, -1) : Int × Int).1) from fun h => h.elim hlo hhi)]
            have w6 : IntKind.i64.wrap ((p : Int) + 5 + 1) = (p : Int) + 5 + 1 := by rw [IntKind.wrap_i64]; omega
            have w7 : IntKind.i64.wrap ((p : Int) + 5 + 2) = (p : Int) + 5 + 2 := by rw [IntKind.wrap_i64]; omega
            have w11 : IntKind.i64.wrap ((p : Int) + 5 + 6) = (p : Int) + 5 + 6 := by rw [IntKind.wrap_i64]; omega
            clear R3 HU
            by_cases h5 : p + 5 < n
            · obtain ⟨x5, o5, e5, c5, g5, g6⟩ := hby.out (p + 5) wr hB.out h5
              cases e5
              have hI5 : isB zs (p + 5) 92 = (zs.getD (p + 5) 0 == 92) := by unfold isB; rw [decide_eq_true (by rw [HL.out]; exact h5)]; rfl
              rw [hI5] at R4
              generalize zs.getD (p + 5) 0 = y5 at *
              have c5' : wr.cell? ⟨x, off + (p + 5), none⟩ = some (.int .u8 y5) := c5
              have l5 : ¬ (n : Int) ≤ (p : Int) + 5 := by omega
              have l5' : (p : Int) + 5 < (n : Int) := by omega
              have l5z : 0 ≤ (p : Int) + 5 := by omega
              by_cases h92 : y5 = 92
              · subst h92
                have R5 : Hid ((if isB zs (p + 6) 117 = false then ((0, 0, ((p + 6 : Nat) : Int)) : Int × Int × Int) else if (unitF zs (p + 7) true 4 0 0).2 ≠ -1 then (0, 0, (unitF zs (p + 7) true 4 0 0).2) else (65536 + (n1 - 55296) * 1024 + (unitF zs (p + 7) true 4 0 0).1 - 56320, ((p + 11 : Nat) : Int), -1)) = RA) := by have := R4.out; rw [if_neg (by decide)] at this; exact this
                clear R4 hI5
                by_cases h6 : p + 6 < n
                · obtain ⟨x6, o6, e6, c6, g7, g8⟩ := hby.out (p + 6) wr hB.out h6
                  cases e6
                  have hI6 : isB zs (p + 6) 117 = (zs.getD (p + 6) 0 == 117) := by unfold isB; rw [decide_eq_true (by rw [HL.out]; exact h6)]; rfl
                  rw [hI6] at R5
                  generalize zs.getD (p + 6) 0 = y6 at *
                  have c6' : wr.cell? ⟨x, off + (p + 5 + 1), none⟩ = some (.int .u8 y6) := c6
                  have l6 : ¬ (n : Int) ≤ (p : Int) + 5 + 1 := by omega
                  have l6' : (p : Int) + 5 + 1 < (n : Int) := by omega
                  have l6z : 0 ≤ (p : Int) + 5 + 1 := by omega
                  by_cases h117 : y6 = 117
                  · subst h117
                    have R6 : Hid ((if (unitF zs (p + 7) true 4 0 0).2 ≠ -1 then ((0, 0, (unitF zs (p + 7) true 4 0 0).2) : Int × Int × Int) else (65536 + (n1 - 55296) * 1024 + (unitF zs (p + 7) true 4 0 0).1 - 56320, ((p + 11 : Nat) : Int), -1)) = RA) := by have := R5.out; rw [if_neg (by decide)] at this; exact this
                    have kv := kU.out (p + 7) true wr hB.out (by omega)
                    have hbv := unit_bd zs (p + 7) true 4 0 0 (by omega) (by decide)
                    obtain ⟨⟨m1, d2⟩, hV⟩ : ∃ U, unitF zs (p + 7) true 4 0 0 = U := ⟨_, rfl⟩
                    rw [hV] at kv hbv R6
                    have kv' : Calls Tryz.prog 82 #[.slice (some ⟨x, off, none⟩) n cap, .int .i64 ((p : Int) + 5 + 2), .bool true] wr fun e w'' => e = .returned (.tuple #[.int .i64 m1, .int .i64 d2]) ∧ w'' = wr := kv
                    simp only at hbv R6
                    clear kv hV R5 hI6
                    by_cases hd2 : d2 = -1
                    · subst hd2
                      obtain ⟨hm0, hm1⟩ := hbv.1 rfl
                      have hm2 : m1 < 65536 := by simpa using hm1
                      have E : Hid (RA = (65536 + (n1 - 55296) * 1024 + m1 - 56320, ((p + 11 : Nat) : Int), -1)) := by have := R6.out; rw [if_neg (by simp)] at this; exact this.symm
                      have r1 : IntKind.i64.wrap (n1 - 55296) = n1 - 55296 := by rw [IntKind.wrap_i64]; omega
                      have r2 : IntKind.i64.wrap ((n1 - 55296) * 1024) = (n1 - 55296) * 1024 := by rw [IntKind.wrap_i64]; omega
                      have r3 : IntKind.i64.wrap (65536 + (n1 - 55296) * 1024) = 65536 + (n1 - 55296) * 1024 := by rw [IntKind.wrap_i64]; omega
                      have r4 : IntKind.i64.wrap (65536 + (n1 - 55296) * 1024 + m1) = 65536 + (n1 - 55296) * 1024 + m1 := by rw [IntKind.wrap_i64]; omega
                      have r5 : IntKind.i64.wrap (65536 + (n1 - 55296) * 1024 + m1 - 56320) = 65536 + (n1 - 55296) * 1024 + m1 - 56320 := by rw [IntKind.wrap_i64]; omega
                      clear hbv hm1 hm2 hm0 R6 hlo hhi hn0 hn2
                      go_wp2_with (first
                        | (go_at_call 82; guard_hyp ku'; refine ku'.mono ?_; rintro e w1 ⟨rfl, hw⟩; obtain rfl : wr = w1 := hw.symm; clear ku' hw)
                        | (go_at_call 82; refine kv'.mono ?_; rintro e w2 ⟨rfl, hw⟩; obtain rfl : wr = w2 := hw.symm; clear kv' hw))
                      go_ret3
                      exact ⟨by rw [E.out]; rfl, hB.out⟩
                    · have E : Hid (RA = (0, 0, d2)) := by have := R6.out; rw [if_pos hd2] at this; exact this.symm
                      have g9 : decide ((0 : Int) ≤ d2) = true := by
                        rcases hbv.2 with h | h
                        · exact absurd h hd2
                        · simp; exact h.1
                      clear hd2 hbv R6 hlo hhi
                      go_wp2_with (first
                        | (go_at_call 82; guard_hyp ku'; refine ku'.mono ?_; rintro e w1 ⟨rfl, hw⟩; obtain rfl : wr = w1 := hw.symm; clear ku' hw)
                        | (go_at_call 82; refine kv'.mono ?_; rintro e w2 ⟨rfl, hw⟩; obtain rfl : wr = w2 := hw.symm; clear kv' hw))
                      go_ret3
                      exact ⟨by rw [E.out]; rfl, hB.out⟩
                  · have E : Hid (RA = (0, 0, ((p + 6 : Nat) : Int))) := by have := R5.out; rw [if_pos (by simpa using h117)] at this; exact this.symm
                    have g117 : (y6 != 117) = true := by simpa using h117
                    clear h117 R5 hI6 hlo hhi
                    go_wp2_with (go_at_call 82; guard_hyp ku'; refine ku'.mono ?_; rintro e w1 ⟨rfl, hw⟩; obtain rfl : wr = w1 := hw.symm; clear ku' hw)
                    go_ret3
                    exact ⟨by rw [E.out]; rfl, hB.out⟩
                · have E : Hid (RA = (0, 0, ((p + 6 : Nat) : Int))) := by
                    have := R5.out
                    rw [if_pos (by unfold isB; rw [decide_eq_false (by rw [HL.out]; omega)]; rfl)] at this
                    exact this.symm
                  have l6 : (n : Int) ≤ (p : Int) + 5 + 1 := by omega
                  clear h6 R5 hlo hhi
                  go_wp2_with (go_at_call 82; guard_hyp ku'; refine ku'.mono ?_; rintro e w1 ⟨rfl, hw⟩; obtain rfl : wr = w1 := hw.symm; clear ku' hw)
                  go_ret3
                  exact ⟨by rw [E.out]; rfl, hB.out⟩
              · have E : Hid (RA = (0, 0, ((p + 5 : Nat) : Int))) := by have := R4.out; rw [if_pos (by simpa using h92)] at this; exact this.symm
                have g92 : (y5 != 92) = true := by simpa using h92
                clear h92 R4 hI5 hlo hhi
                go_wp2_with (go_at_call 82; refine ku'.mono ?_; rintro e w1 ⟨rfl, hw⟩; obtain rfl : wr = w1 := hw.symm; clear ku' hw)
                go_ret3
                exact ⟨by rw [E.out]; rfl, hB.out⟩
            · have E : Hid (RA = (0, 0, ((p + 5 : Nat) : Int))) := by
                have := R4.out
                rw [if_pos (by unfold isB; rw [decide_eq_false (by rw [HL.out]; omega)]; rfl)] at this
                exact this.symm
              have l5 : (n : Int) ≤ (p : Int) + 5 := by omega
              clear h5 R4 hlo hhi
              go_wp2_with (go_at_call 82; refine ku'.mono ?_; rintro e w1 ⟨rfl, hw⟩; obtain rfl : wr = w1 := hw.symm; clear ku' hw)
              go_ret3
              exact ⟨by rw [E.out]; rfl, hB.out⟩
          · have E : Hid (RA = (0, 0, d1)) := by show _ = _; rw [← R3.out]; unfold escX; rw [HU.out, if_pos hd1]
            have g1 : decide ((0 : Int) ≤ d1) = true := by
              rcases hbd.2 with h | h
              · exact absurd h hd1
              · simp; exact h.1
            clear hd1 hbd R3 HU
            go_wp2_with (go_at_call 82; refine ku'.mono ?_; rintro e w1 ⟨rfl, hw⟩; obtain rfl : wr = w1 := hw.symm; clear ku' hw)
            go_ret3
            exact ⟨by rw [E.out]; rfl, hB.out⟩
        · have E : Hid (RA = (0, 0, ((p : Nat) : Int))) := by have := R2.out; rw [if_pos h117] at this; exact this.symm
          have g1 : ((C : Int) != 117) = true := by simp; omega
          clear h117 R2
          go_wp2
          go_ret3
          exact ⟨by rw [E.out]; rfl, hB.out⟩
end Go.Proofs.YtmlacmoembjeoaaGreatDoor
namespace Go.Proofs.YtmlacmoembjeoaaGreatDoor
open Go.RowKit
set_option linter.unusedVariables false
section
variable {zs : List Int}
theorem vs_out {q : Nat} (s : RS) (h : zs.length ≤ q) : (strL (zs.drop q) q s).2.2.1 ≠ 0 := by rw [List.drop_eq_nil_of_le h, str_nil]; simp
theorem drop_byte {q : Nat} (hz : ∀ c ∈ zs, 0 ≤ c ∧ c < 256) (h : q < zs.length) : ∃ C : Nat, zs.getD q 0 = (C : Int) ∧ C < 256 ∧ zs.drop q = (C : Int) :: zs.drop (q + 1) ∧ nth (zs.drop q) 0 = C := by
  have hm : zs.getD q 0 ∈ zs := by rw [List.getD_eq_getElem?_getD, List.getElem?_eq_getElem h]; exact List.getElem_mem h
  have hb := hz _ hm
  have e : zs.drop q = zs.getD q 0 :: zs.drop (q + 1) := by rw [List.drop_eq_getElem_cons h, List.getD_eq_getElem?_getD, List.getElem?_eq_getElem h]; rfl
  refine ⟨(zs.getD q 0).toNat, by omega, by omega, ?_, ?_⟩
  · rw [show (((zs.getD q 0).toNat : Nat) : Int) = zs.getD q 0 by omega]; exact e
  · rw [nth_drop]; rfl
theorem take_not5 {s : RS} {r : Nat} (q0 : s.q ≠ 0) (q4 : s.q ≤ 4) : (takeR s r).q ≠ 5 := fun h => by
  have := take_five q4 h
  subst this
  unfold takeR at h
  rw [if_neg q0] at h
  by_cases h1 : s.q = 1
  · rw [if_pos h1] at h; simp [shortM, putR] at h
  rw [if_neg h1] at h
  by_cases h2 : s.q = 2
  · rw [if_pos h2] at h; simp [hexD] at h
  rw [if_neg h2] at h
  by_cases h3 : s.q = 3
  · rw [if_pos h3] at h; simp at h
  rw [if_neg h3, if_pos (by omega)] at h
  simp at h
/-- Within an escape: one byte more. -/
theorem vs_in {q : Nat} (hz : ∀ c ∈ zs, 0 ≤ c ∧ c < 256) (h : q < zs.length) {C : Nat} (hC : zs.getD q 0 = (C : Int)) {s : RS} (q0 : s.q ≠ 0) (q4 : s.q ≤ 4) :
    (C < 128 → (takeR s C).q ≠ 6 → strL (zs.drop q) q s = strL (zs.drop (q + 1)) (q + 1) (takeR s C)) ∧ ((128 ≤ C ∨ (takeR s C).q = 6) → (strL (zs.drop q) q s).2.2.1 ≠ 0) := by
  obtain ⟨C', e1, e2, e3, e4⟩ := drop_byte hz h
  obtain rfl : C = C' := by rw [hC] at e1; omega
  have hne : zs.drop q ≠ [] := by rw [e3]; simp
  have hg : C < 128 → Good (zs.drop q) ∧ lenB (zs.drop q) = 1 ∧ valB (zs.drop q) = C := fun hc => by
    have hl : lenB (zs.drop q) = 1 := by unfold lenB; rw [e4]; unfold lenN; rw [if_pos hc]
    have hg : Good (zs.drop q) := by
      refine ⟨?_, ?_, ?_, ?_⟩
      · show lenB (zs.drop q) ≠ 0; omega
      · intro h2; have : 2 ≤ lenB (zs.drop q) := h2; omega
      · intro h2; have : 3 ≤ lenB (zs.drop q) := h2; omega
      · intro h2; have : 4 ≤ lenB (zs.drop q) := h2; omega
    exact ⟨hg, hl, by rw [(lenB_one hg (by omega)).1, e4]⟩
  refine ⟨fun hc h6 => ?_, fun hx => ?_⟩
  · obtain ⟨g1, g2, g3⟩ := hg hc
    rw [str_on hne g1 (by rw [g3]; exact take_not5 q0 q4) (by rw [g3]; exact h6), g2, g3, List.drop_drop]
  · by_cases hc : C < 128
    · obtain ⟨g1, g2, g3⟩ := hg hc
      rcases hx with hx | hx
      · omega
      · rw [str_wrong hne g1 (by rw [g3]; exact hx)]; simp
    · by_cases h2 : 2 ≤ lenB (zs.drop q)
      · rw [show (strL (zs.drop q) q s).2.2.1 = ((strL (zs.drop q) q s).2.2).1 from rfl, str_big hne q0 q4 h2]; simp
      · have h0 : lenB (zs.drop q) = 0 := by
          unfold lenB at h2 ⊢
          rw [e4] at h2 ⊢
          rcases len_cases C with ⟨k, _⟩ | ⟨k, _⟩ | ⟨k, _⟩ | ⟨k, _⟩ | ⟨k, _⟩ <;> omega
        have hb : ¬ Good (zs.drop q) := fun g => g.1 h0
        rw [str_bad hne hb]
        show (brkR (zs.drop q) q (s.q == 0)).1 ≠ 0
        unfold brkR
        repeat' split
        all_goals simp
theorem hex_some {q : Nat} {C : Nat} (h : q < zs.length) (hC : zs.getD q 0 = (C : Int)) : (∀ d : Nat, hexV zs q = (d : Int) → C < 128 ∧ hexD C = some d) ∧ (hexV zs q < 0 → hexD C = none) := by
  unfold hexV
  rw [if_pos h, hC]
  unfold hxI hexD
  by_cases h1 : 48 ≤ C ∧ C ≤ 57
  · rw [if_pos (by omega), if_pos h1]
    exact ⟨fun d e => ⟨by omega, by congr 1; omega⟩, fun e => by omega⟩
  rw [if_neg (by omega), if_neg h1]
  by_cases h2 : 97 ≤ C ∧ C ≤ 102
  · rw [if_pos (by omega), if_pos h2]
    exact ⟨fun d e => ⟨by omega, by congr 1; omega⟩, fun e => by omega⟩
  rw [if_neg (by omega), if_neg h2]
  by_cases h3 : 65 ≤ C ∧ C ≤ 70
  · rw [if_pos (by omega), if_pos h3]
    exact ⟨fun d e => ⟨by omega, by congr 1; omega⟩, fun e => by omega⟩
  rw [if_neg (by omega), if_neg h3]
  exact ⟨fun d e => by omega, fun _ => rfl⟩
/-- What is known of a number of i digits. -/
def PfU (f i m : Nat) : Prop := (i = 0 → m = 0) ∧ (i = 1 → m < 16 ∧ (f ≠ 0 → m = 13)) ∧ (i = 2 → m < 256 ∧ (f = 0 → m < 220 ∨ 224 ≤ m) ∧ (f ≠ 0 → 220 ≤ m ∧ m < 224)) ∧ (i = 3 → m < 4096 ∧ (f = 0 → m < 3520 ∨ 3584 ≤ m) ∧ (f ≠ 0 → 3520 ≤ m ∧ m < 3584)) ∧ (i = 4 → m < 65536 ∧ (f = 0 → m < 56320 ∨ 57344 ≤ m) ∧ (f ≠ 0 → 56320 ≤ m ∧ m < 57344))
theorem may_eq (f i m d : Nat) (hi : i < 4) (hd : d < 16) (hp : PfU f i m) : (badU (f != 0) i ((m : Int) * 16 + d) d = true ↔ mayGo f (m * 16 + d) (i + 1) = false) ∧ (mayGo f (m * 16 + d) (i + 1) = true → PfU f (i + 1) (m * 16 + d)) := by
  obtain ⟨p0, p1, p2, p3, _⟩ := hp
  have hdn : decide ((d : Int) < 0) = false := by simp
  unfold badU mayGo
  rw [hdn]
  rcases i with _ | _ | _ | _ | i
  · have hm := p0 rfl
    subst hm
    rw [show 16 ^ (4 - (0 + 1)) = 4096 from rfl]
    by_cases hf : f = 0
    · subst hf
      have : (0 * 16 + d) * 4096 < 56320 ∨ 57344 < (0 * 16 + d + 1) * 4096 := by omega
      refine ⟨by simp; omega, fun _ => ⟨by omega, fun _ => ⟨by omega, fun h => absurd rfl h⟩, by omega, by omega, by omega⟩⟩
    · rw [if_neg hf]
      have hb : (f != 0) = true := by simpa using hf
      rw [hb]
      refine ⟨by simp; omega, fun h => ⟨by omega, fun _ => ⟨by omega, fun _ => by simp at h; omega⟩, by omega, by omega, by omega⟩⟩
  · obtain ⟨a1, a2⟩ := p1 rfl
    rw [show 16 ^ (4 - (1 + 1)) = 256 from rfl]
    by_cases hf : f = 0
    · subst hf
      refine ⟨by simp; omega, fun h => ⟨by omega, by omega, fun _ => ⟨by omega, fun _ => by simp at h; omega, fun h => absurd rfl h⟩, by omega, by omega⟩⟩
    · rw [if_neg hf]
      have hb : (f != 0) = true := by simpa using hf
      have hm := a2 hf
      subst hm
      rw [hb]
      refine ⟨by simp; omega, fun h => ⟨by omega, by omega, fun _ => ⟨by omega, fun h0 => absurd h0 hf, fun _ => by simp at h; omega⟩, by omega, by omega⟩⟩
  · obtain ⟨a1, a2, a3⟩ := p2 rfl
    rw [show 16 ^ (4 - (2 + 1)) = 16 from rfl]
    by_cases hf : f = 0
    · subst hf
      have := a2 rfl
      refine ⟨by simp; omega, fun h => ⟨by omega, by omega, by omega, fun _ => ⟨by omega, fun _ => by omega, fun h => absurd rfl h⟩, by omega⟩⟩
    · rw [if_neg hf]
      have hb : (f != 0) = true := by simpa using hf
      have := a3 hf
      rw [hb]
      refine ⟨by simp; omega, fun h => ⟨by omega, by omega, by omega, fun _ => ⟨by omega, fun h0 => absurd h0 hf, fun _ => by omega⟩, by omega⟩⟩
  · obtain ⟨a1, a2, a3⟩ := p3 rfl
    rw [show 16 ^ (4 - (3 + 1)) = 1 from rfl]
    by_cases hf : f = 0
    · subst hf
      have := a2 rfl
      refine ⟨by simp; omega, fun h => ⟨by omega, by omega, by omega, by omega, fun _ => ⟨by omega, fun _ => by omega, fun h => absurd rfl h⟩⟩⟩
    · rw [if_neg hf]
      have hb : (f != 0) = true := by simpa using hf
      have := a3 hf
      rw [hb]
      refine ⟨by simp; omega, fun h => ⟨by omega, by omega, by omega, by omega, fun _ => ⟨by omega, fun h0 => absurd h0 hf, fun _ => by omega⟩⟩⟩
  · omega
/-- The state behind four digits. -/
def finU (f N : Nat) (x : List Int) : RS := if f ≠ 0 then ⟨0, 0, 0, 0, x ++ encL (65536 + (f - 55296) * 1024 + N - 56320)⟩ else if 55296 ≤ N ∧ N < 57344 then ⟨3, 0, 0, N, x⟩ else ⟨0, 0, 0, 0, x ++ encL N⟩
theorem unit_str (hz : ∀ c ∈ zs, 0 ≤ c ∧ c < 256) (f : Nat) (x : List Int) (p : Nat) : ∀ (k i m : Nat), i + k = 4 → PfU f i m →
    ((unitF zs p (f != 0) k i (m : Int)).2 = -1 → ∃ N : Nat, (unitF zs p (f != 0) k i (m : Int)).1 = (N : Int) ∧ PfU f 4 N ∧ (0 < k → p + 4 ≤ zs.length) ∧ strL (zs.drop (p + i)) (p + i) (if k = 0 then finU f N x else ⟨2, m, i, f, x⟩) = strL (zs.drop (p + 4)) (p + 4) (finU f N x)) ∧
    ((unitF zs p (f != 0) k i (m : Int)).2 ≠ -1 → (strL (zs.drop (p + i)) (p + i) ⟨2, m, i, f, x⟩).2.2.1 ≠ 0) := by
  intro k
  induction k with
  | zero =>
    intro i m hi hp
    obtain rfl : i = 4 := by omega
    exact ⟨fun _ => ⟨m, rfl, hp, fun h => by omega, by rw [if_pos rfl]⟩, fun h => absurd rfl h⟩
  | succ k ih =>
    intro i m hi hp
    unfold unitF
    have hbd := hexV_bd zs (p + i)
    rcases Nat.lt_or_ge (p + i) zs.length with hl | hl
    · obtain ⟨C, e1, e2, e3, e4⟩ := drop_byte hz hl
      have hx := hex_some hl e1
      have hv := vs_in hz hl e1 (s := ⟨2, m, i, f, x⟩) (by simp) (by simp)
      have ht : takeR ⟨2, m, i, f, x⟩ C = match hexD C with | some d => digR ⟨2, m, i, f, x⟩ d | none => ⟨6, m, i, f, x⟩ := rfl
      by_cases hn : hexV zs (p + i) < 0
      · have hb : badU (f != 0) i ((m : Int) * 16 + hexV zs (p + i)) (hexV zs (p + i)) = true := by unfold badU; simp [hn]
        rw [if_pos hb]
        refine ⟨fun h => by have h' : ((p + i : Nat) : Int) = -1 := h; omega, fun _ => hv.2 (.inr ?_)⟩
        rw [ht, hx.2 hn]
      · obtain ⟨d, hd⟩ : ∃ d : Nat, hexV zs (p + i) = (d : Int) := ⟨(hexV zs (p + i)).toNat, by omega⟩
        have hd16 : d < 16 := by omega
        obtain ⟨hc, hxd⟩ := hx.1 d hd
        have ht : takeR ⟨2, m, i, f, x⟩ C = digR ⟨2, m, i, f, x⟩ d := by rw [ht, hxd]
        rw [hd]
        obtain ⟨m1, m2⟩ := may_eq f i m d (by omega) hd16 hp
        by_cases hm : mayGo f (m * 16 + d) (i + 1) = true
        · have hb : ¬ badU (f != 0) i ((m : Int) * 16 + d) d = true := fun h => by have := m1.1 h; rw [hm] at this; cases this
          rw [if_neg hb]
          have hP := m2 hm
          have hcast : (m : Int) * 16 + (d : Int) = ((m * 16 + d : Nat) : Int) := by omega
          rw [hcast]
          have ihk := ih (i + 1) (m * 16 + d) (by omega) hP
          have hdig : digR ⟨2, m, i, f, x⟩ d = if i + 1 < 4 then ⟨2, m * 16 + d, i + 1, f, x⟩ else finU f (m * 16 + d) x := by
            unfold digR finU
            rw [if_neg (show ¬ mayGo f (m * 16 + d) (i + 1) = false by rw [hm]; simp)]
          rw [hdig] at ht
          rcases k with _ | k
          · obtain rfl : i = 3 := by omega
            rw [if_neg (by omega)] at ht
            have hq6 : (finU f (m * 16 + d) x).q ≠ 6 := by
              unfold finU
              repeat' split
              all_goals simp
            have hs := hv.1 hc (by rw [ht]; exact hq6)
            rw [ht] at hs
            obtain ⟨N, n1, n2, n3, n4⟩ := ihk.1 rfl
            obtain rfl : m * 16 + d = N := by have : ((m * 16 + d : Nat) : Int) = (N : Int) := n1; omega
            exact ⟨fun _ => ⟨m * 16 + d, rfl, n2, fun _ => by omega, by rw [if_neg (by omega)]; exact hs⟩, fun h => absurd rfl h⟩
          · rw [if_pos (by omega)] at ht
            have hs := hv.1 hc (by rw [ht]; simp)
            rw [ht] at hs
            refine ⟨fun h => ?_, fun h => ?_⟩
            · obtain ⟨N, n1, n2, n3, n4⟩ := ihk.1 h
              rw [if_neg (by omega)] at n4
              exact ⟨N, n1, n2, fun _ => n3 (by omega), by rw [if_neg (by omega)]; exact hs.trans n4⟩
            · rw [hs]; exact ihk.2 h
        · have hm' : mayGo f (m * 16 + d) (i + 1) = false := by simpa using hm
          have hb := m1.2 hm'
          rw [if_pos hb]
          refine ⟨fun h => by have h' : ((p + i : Nat) : Int) = -1 := h; omega, fun _ => hv.2 (.inr ?_)⟩
          rw [ht]
          unfold digR
          simp only
          rw [if_pos hm']
    · have hn : hexV zs (p + i) = -1 := by unfold hexV; rw [if_neg (by omega)]
      have hb : badU (f != 0) i ((m : Int) * 16 + hexV zs (p + i)) (hexV zs (p + i)) = true := by unfold badU; rw [hn]; simp
      rw [if_pos hb]
      exact ⟨fun h => by have h' : ((p + i : Nat) : Int) = -1 := h; omega, fun _ => vs_out _ hl⟩
end
end Go.Proofs.YtmlacmoembjeoaaGreatDoor
namespace Go.Proofs.YtmlacmoembjeoaaGreatDoor
open Go.RowKit
set_option linter.unusedVariables false
theorem esc_bd (zs : List Int) (p : Nat) : (escV zs p).2.2 = -1 ∨ 0 ≤ (escV zs p).2.2 := by
  have h1 := (unit_bd zs (p + 1) false 4 0 0 (by omega) (by decide)).2
  have h2 := (unit_bd zs (p + 7) true 4 0 0 (by omega) (by decide)).2
  unfold escV escW escX
  repeat' split
  all_goals first
    | exact .inl rfl
    | exact .inr (Int.natCast_nonneg _)
    | (rcases h1 with h | h; exact .inl h; exact .inr h.1)
    | (rcases h2 with h | h; exact .inl h; exact .inr h.1)
theorem short_take (x : List Int) {C : Nat} (h : ixE C < 8) : takeR ⟨1, 0, 0, 0, x⟩ C = ⟨0, 0, 0, 0, x ++ encL (toE (ixE C))⟩ ∧ C < 128 ∧ Right (toE (ixE C)) := by
  have hc : C = 34 ∨ C = 92 ∨ C = 47 ∨ C = 98 ∨ C = 102 ∨ C = 110 ∨ C = 114 ∨ C = 116 := by
    unfold ixE at h
    repeat' split at h
    all_goals omega
  rcases hc with rfl | rfl | rfl | rfl | rfl | rfl | rfl | rfl
  all_goals exact ⟨rfl, by decide, by unfold Right; decide⟩
theorem short_not (x : List Int) {C : Nat} (h : ¬ ixE C < 8) (hu : C ≠ 117) : (takeR ⟨1, 0, 0, 0, x⟩ C).q = 6 := by
  have hc : C ≠ 34 ∧ C ≠ 92 ∧ C ≠ 47 ∧ C ≠ 98 ∧ C ≠ 102 ∧ C ≠ 110 ∧ C ≠ 114 ∧ C ≠ 116 := by
    refine ⟨?_, ?_, ?_, ?_, ?_, ?_, ?_, ?_⟩
    all_goals (rintro rfl; exact h (by decide))
  obtain ⟨c1, c2, c3, c4, c5, c6, c7, c8⟩ := hc
  have hs : shortM C = none := by unfold shortM; rw [if_neg c1, if_neg c2, if_neg c4, if_neg c5, if_neg c6, if_neg c7, if_neg c8]
  show (if C = 117 then (⟨2, 0, 0, 0, x⟩ : RS) else if C = 47 then putR ⟨1, 0, 0, 0, x⟩ 47 else match shortM C with | some m => putR ⟨1, 0, 0, 0, x⟩ m | none => ⟨6, 0, 0, 0, x⟩).q = 6
  rw [if_neg hu, if_neg c3, hs]
theorem pf_zero (f : Nat) : PfU f 0 0 := ⟨fun _ => rfl, by omega, by omega, by omega, by omega⟩
theorem isB_not {zs : List Int} {q : Nat} {c : Int} (h : isB zs q c = false) (hl : q < zs.length) : zs.getD q 0 ≠ c := fun e => by
  have := isB_iff.2 ⟨hl, e⟩
  rw [h] at this
  cases this
theorem pair_eq (N M : Nat) (h : 55296 ≤ N) (h2 : 56320 ≤ M) : 65536 + ((N : Int) - 55296) * 1024 + (M : Int) - 56320 = ((65536 + (N - 55296) * 1024 + M - 56320 : Nat) : Int) := by omega
theorem pair_right (N M : Nat) (h : 55296 ≤ N) (h1 : N < 56320) (h2 : 56320 ≤ M) (h3 : M < 57344) : Right (65536 + (N - 55296) * 1024 + M - 56320) := ⟨by omega, by omega⟩
/-- WHAT A BACKSLASH MEANS. -/
theorem esc_str {zs : List Int} (hz : ∀ c ∈ zs, 0 ≤ c ∧ c < 256) (p : Nat) (x : List Int) :
    ((escV zs p).2.2 = -1 → ∃ r nx : Nat, (escV zs p).1 = (r : Int) ∧ (escV zs p).2.1 = (nx : Int) ∧ Right r ∧ p < nx ∧ nx ≤ zs.length ∧ strL (zs.drop p) p ⟨1, 0, 0, 0, x⟩ = strL (zs.drop nx) nx ⟨0, 0, 0, 0, x ++ encL r⟩) ∧
    ((escV zs p).2.2 ≠ -1 → (strL (zs.drop p) p ⟨1, 0, 0, 0, x⟩).2.2.1 ≠ 0) := by
  unfold escV
  by_cases hp : zs.length ≤ p
  · rw [if_pos hp]
    exact ⟨fun h => by have h' : ((p : Nat) : Int) = -1 := h; omega, fun _ => vs_out _ hp⟩
  rw [if_neg hp]
  have hl : p < zs.length := by omega
  obtain ⟨C, e1, e2, e3, e4⟩ := drop_byte hz hl
  have hv := vs_in hz hl e1 (s := ⟨1, 0, 0, 0, x⟩) (by simp) (by simp)
  rw [e1, Int.toNat_natCast]
  unfold escW
  by_cases h8 : ixE C < 8
  · rw [if_pos h8]
    obtain ⟨t1, t2, t3⟩ := short_take x h8
    refine ⟨fun _ => ⟨toE (ixE C), p + 1, rfl, rfl, t3, by omega, by omega, ?_⟩, fun h => absurd rfl h⟩
    have := hv.1 t2 (by rw [t1]; simp)
    rw [this, t1]
  rw [if_neg h8]
  by_cases hu : C ≠ 117
  · rw [if_pos hu]
    exact ⟨fun h => by have h' : ((p : Nat) : Int) = -1 := h; omega, fun _ => hv.2 (.inr (short_not x h8 hu))⟩
  rw [if_neg hu]
  have hu' : C = 117 := by omega
  subst hu'
  have t0 : takeR ⟨1, 0, 0, 0, x⟩ 117 = ⟨2, 0, 0, 0, x⟩ := rfl
  have s0 := hv.1 (by decide) (by rw [t0]; simp)
  rw [t0] at s0
  have U := unit_str hz 0 x (p + 1) 4 0 0 rfl (pf_zero 0)
  have e0 : ((0 : Nat) != 0) = false := rfl
  rw [e0] at U
  have ez : (((0 : Nat) : Nat) : Int) = 0 := rfl
  rw [ez] at U
  unfold escX
  by_cases hU : (unitF zs (p + 1) false 4 0 0).2 ≠ -1
  · rw [if_pos hU]
    exact ⟨fun h => absurd h hU, fun _ => by rw [s0]; exact U.2 hU⟩
  rw [if_neg hU]
  obtain ⟨N, n1, n2, n3, n4⟩ := U.1 (by simpa using hU)
  rw [if_neg (by decide)] at n4
  have n5 := n3 (by decide)
  obtain ⟨b1, b2, _⟩ := n2.2.2.2.2 rfl
  have b3 := b2 rfl
  have s1 : strL (zs.drop p) p ⟨1, 0, 0, 0, x⟩ = strL (zs.drop (p + 5)) (p + 5) (finU 0 N x) := s0.trans n4
  rw [n1]
  by_cases hN : ((N : Nat) : Int) < 55296 ∨ 57343 < ((N : Nat) : Int)
  · rw [if_pos hN]
    refine ⟨fun _ => ⟨N, p + 5, rfl, rfl, ⟨by omega, by omega⟩, by omega, by omega, ?_⟩, fun h => absurd rfl h⟩
    rw [s1]
    unfold finU
    rw [if_neg (by simp), if_neg (by omega)]
  rw [if_neg hN]
  have hf3 : finU 0 N x = ⟨3, 0, 0, N, x⟩ := by unfold finU; rw [if_neg (by simp), if_pos (by omega)]
  rw [hf3] at s1
  have hN1 : 55296 ≤ N ∧ N < 56320 := ⟨by omega, by omega⟩
  have hp11 : p < p + 11 := by omega
  by_cases h5 : isB zs (p + 5) 92 = false
  · rw [if_pos h5]
    refine ⟨fun h => by have h' : ((p + 5 : Nat) : Int) = -1 := h; omega, fun _ => ?_⟩
    rw [s1]
    rcases Nat.lt_or_ge (p + 5) zs.length with hl5 | hl5
    · obtain ⟨C5, f1, f2, f3, f4⟩ := drop_byte hz hl5
      refine (vs_in hz hl5 f1 (s := ⟨3, 0, 0, N, x⟩) (by simp) (by simp)).2 (.inr ?_)
      have := isB_not h5 hl5
      rw [f1] at this
      show (if C5 = 92 then 4 else 6) = 6
      rw [if_neg (by omega)]
    · exact vs_out _ hl5
  rw [if_neg h5]
  obtain ⟨hl5, f1⟩ := isB_iff.1 (by simpa using h5 : isB zs (p + 5) 92 = true)
  have s2 : strL (zs.drop (p + 5)) (p + 5) ⟨3, 0, 0, N, x⟩ = strL (zs.drop (p + 6)) (p + 6) ⟨4, 0, 0, N, x⟩ := (vs_in hz hl5 (C := 92) f1 (s := ⟨3, 0, 0, N, x⟩) (by simp) (by simp)).1 (by decide) (by show (4 : Nat) ≠ 6; decide)
  by_cases h6 : isB zs (p + 6) 117 = false
  · rw [if_pos h6]
    refine ⟨fun h => by have h' : ((p + 6 : Nat) : Int) = -1 := h; omega, fun _ => ?_⟩
    rw [s1, s2]
    rcases Nat.lt_or_ge (p + 6) zs.length with hl6 | hl6
    · obtain ⟨C6, g1, g2, g3, g4⟩ := drop_byte hz hl6
      refine (vs_in hz hl6 g1 (s := ⟨4, 0, 0, N, x⟩) (by simp) (by simp)).2 (.inr ?_)
      have := isB_not h6 hl6
      rw [g1] at this
      show (if C6 = 117 then 2 else 6) = 6
      rw [if_neg (by omega)]
    · exact vs_out _ hl6
  rw [if_neg h6]
  obtain ⟨hl6, g1⟩ := isB_iff.1 (by simpa using h6 : isB zs (p + 6) 117 = true)
  have s3 : strL (zs.drop (p + 6)) (p + 6) ⟨4, 0, 0, N, x⟩ = strL (zs.drop (p + 7)) (p + 7) ⟨2, 0, 0, N, x⟩ := (vs_in hz hl6 (C := 117) g1 (s := ⟨4, 0, 0, N, x⟩) (by simp) (by simp)).1 (by decide) (by show (2 : Nat) ≠ 6; decide)
  have hN0 : N ≠ 0 := by omega
  have V := unit_str hz N x (p + 7) 4 0 0 rfl (pf_zero N)
  have eN : (N != 0) = true := by simpa using hN0
  rw [eN, ez] at V
  by_cases hV : (unitF zs (p + 7) true 4 0 0).2 ≠ -1
  · rw [if_pos hV]
    exact ⟨fun h => absurd h hV, fun _ => by rw [s1, s2, s3]; exact V.2 hV⟩
  rw [if_neg hV]
  obtain ⟨M, m1, m2, m3, m4⟩ := V.1 (by simpa using hV)
  rw [if_neg (by decide)] at m4
  have m5 := m3 (by decide)
  obtain ⟨_, _, q3⟩ := m2.2.2.2.2 rfl
  have q4 := q3 hN0
  have hl11 : p + 11 ≤ zs.length := m5
  rw [m1]
  refine ⟨fun _ => ⟨65536 + (N - 55296) * 1024 + M - 56320, p + 11, pair_eq N M hN1.1 q4.1, rfl, pair_right N M hN1.1 hN1.2 q4.1 q4.2, hp11, hl11, ?_⟩, fun h => absurd rfl h⟩
  rw [s1, s2, s3, show p + 7 = p + 7 + 0 from rfl, m4]
  unfold finU
  rw [if_pos hN0]
end Go.Proofs.YtmlacmoembjeoaaGreatDoor
namespace Go.Proofs.YtmlacmoembjeoaaGreatDoor
open Go.RowKit

/-- The first character and its length; 0 and 0 where there is none. -/
def fstL (zs : List Int) : Nat := if zs ≠ [] ∧ goodB zs = true then valB zs else 0
def widL (zs : List Int) : Nat := if zs ≠ [] ∧ goodB zs = true then lenB zs else 0
theorem fst_good {zs : List Int} (h0 : zs ≠ []) (h : Good zs) : fstL zs = valB zs ∧ widL zs = lenB zs := by
  unfold fstL widL
  rw [if_pos ⟨h0, goodB_yes h⟩, if_pos ⟨h0, goodB_yes h⟩]
  exact ⟨rfl, rfl⟩
theorem fst_bad {zs : List Int} (h : zs = [] ∨ ¬ Good zs) : fstL zs = 0 ∧ widL zs = 0 := by
  have h1 : ¬ (zs ≠ [] ∧ goodB zs = true) := fun k => by
    rcases h with h | h
    · exact k.1 h
    · have := k.2
      rw [goodB_no h] at this
      cases this
  unfold fstL widL
  rw [if_neg h1, if_neg h1]
  exact ⟨rfl, rfl⟩
end Go.Proofs.YtmlacmoembjeoaaGreatDoor
