/-
  Bytes turned: the calls modulo and turned.
-/
import Derived.Test.YtfipdldoklkciaaLkd
namespace Go.Proofs.Ytfipdldoklkciaa
open Go.RowKit
set_option linter.unusedVariables false
set_option maxHeartbeats 2000000 in
theorem turned_any (a : Option Addr) (n c : Nat) (zs : List Int) (x : Int) (y : Nat) (w : World) (hn : zs.length = n) (h0 : a = none → c = 0) (hle : n ≤ c) (hb : Bytes w a zs) (h4 : 4 ≤ n) (hl : n ≤ 100000) (hx : (Lit.int .i64 x).wf = true) (hy : y < 4294967296) :
    Calls Try.prog 74 #[.slice a n c, .int .i64 x, .int .u32 (y : Nat)] w fun e w' => ∃ v, e = .returned v ∧ Hid (OwnsB w' w.heap.size v (turnL zs (x % ((n : Int) - 3)).toNat y)) ∧ Hid (Below w.heap.size w w') := by
  have kc := clone_any a n c zs w hn h0 hle hb hl
  have hl1 : Hid (zs.length = n) := hn
  obtain ⟨m, hm⟩ : ∃ m : Nat, (n : Int) - 3 = (m : Nat) := ⟨n - 3, by omega⟩
  have hmp : 0 < m := by omega
  have hm' : Hid ((n : Int) - 3 = (m : Nat)) := hm
  obtain ⟨t, ht, htn⟩ : ∃ t : Nat, x % (m : Int) = (t : Int) ∧ t + 4 ≤ n := by
    have q0 := Int.emod_nonneg x (show (m : Int) ≠ 0 by omega)
    have q1 := Int.emod_lt_of_pos x (show 0 < (m : Int) by omega)
    exact ⟨(x % (m : Int)).toNat, (Int.toNat_of_nonneg q0).symm, by omega⟩
  rw [hm, ht]
  have km' : Hid (∀ w, Calls Try.prog 102 #[.int .i64 x, .int .i64 (m : Nat)] w fun e w' => e = .returned (.int .i64 (t : Nat)) ∧ w' = w) := fun w => by have := mod_any x m w hmp (by omega) hx; rw [show (x % (m : Int)).toNat = t by omega] at this; exact this
  have htn' : Hid (t + 4 ≤ n) := htn
  have e1 : IntKind.i64.wrap ((n : Int) - 4 + 1) = (m : Int) := by rw [IntKind.wrap_i64]; omega
  have e2 : IntKind.i64.wrap ((n : Int) - 4) = (n : Int) - 4 := by rw [IntKind.wrap_i64]; omega
  obtain ⟨p, c0, c1, c2, c3, r, hL, hpl⟩ := split4 zs t (by omega)
  have hT : turnL zs (t : Int).toNat y = p ++ (qs c0 c1 c2 c3 y 4 ++ r) := by rw [show (t : Int).toNat = t by omega, hL, ← hpl]; exact turnL_of p r c0 c1 c2 c3 y
  rw [hT]
  have hpl' : Hid (p.length = t) := hpl
  have hL' : Hid (zs = p ++ ([c0, c1, c2, c3] ++ r)) := hL
  have hn3 : Hid (n ≤ 100000) := hl
  clear hn h0 hle hb h4 hl hx hm hmp ht htn hpl hL hT
  go_enter Try.func74, Try.ntmps74
  go_wp2_with fail
  refine kc.mono ?_
  rintro e w1 ⟨v, rfl, ho1, hb1⟩
  obtain ⟨g, n1, cap1, rfl, hO, hln, hc1, hm1⟩ := ho1.out.row (by have := hl1.out; have := htn'.out; omega)
  have hnn : n1 = n := by rw [← hln.out]; exact hl1.out
  subst hnn
  have hO' : Hid (OwnR w1 w.heap.size g n1 cap1 (p ++ (qs c0 c1 c2 c3 y 0 ++ r))) := by have := hO.out; rw [hL'.out] at this; exact this
  clear kc ho1 hO hln hL' hl1
  go_wp2_with (go_at_call 102; refine (km'.out _).mono ?_; rintro e w2 ⟨rfl, hw2⟩; obtain rfl := hw2.symm; clear hw2 km')
  go_loopw [17] (fun i wr => ∃ k : Nat, k ≤ 4 ∧ i = .int .i64 k ∧ OwnR wr w.heap.size g n1 cap1 (p ++ (qs c0 c1 c2 c3 y k ++ r)) ∧ Below w.heap.size w wr) (fun i _ => 4 - (intOf i).toNat)
  case atStart => exact ⟨0, by omega, rfl, hO'.out, hb1.out⟩
  case round =>
    obtain ⟨k, hk, rfl, hOr, hbr⟩ := hrel
    have hn2 := hn3.out
    have htn := htn'.out
    by_cases hlt4 : k < 4
    · rcases (show k = 0 ∨ k = 1 ∨ k = 2 ∨ k = 3 by omega) with rfl | rfl | rfl | rfl
      · have hcl : wr.cell? ⟨g, t, none⟩ = some (.int .u8 c0) := mid_cell hOr 0 _ c0 (by simp [qs]) rfl (by have := hpl'.out; omega)
        have hfr : wr.frozen? ⟨g, t, none⟩ = false := hOr.frozen _
        have i0 : (0 : Int) ≤ (t : Int) := by omega
        have i1 : (t : Int) < (n1 : Int) := by omega
        go_wp2
        go_region
        go_wp2
        go_roundw
        case rel => exact ⟨1, by omega, rfl, turn_row hOr 0 _ c0 ((y : Int) % 256) _ (by simp [qs]) rfl (by omega) rfl (by have := hpl'.out; omega), (hbr.setCell (by exact hOr.2.2.2) _).drew⟩
        case measure => simp [intOf]
      · have hcl : wr.cell? ⟨g, t + 1, none⟩ = some (.int .u8 c1) := mid_cell hOr 1 _ c1 (by simp [qs]) rfl (by have := hpl'.out; omega)
        have hfr : wr.frozen? ⟨g, t + 1, none⟩ = false := hOr.frozen _
        have i0 : (0 : Int) ≤ (t : Int) + 1 := by omega
        have i1 : (t : Int) + 1 < (n1 : Int) := by omega
        go_wp2
        go_region
        go_wp2
        go_roundw
        case rel => exact ⟨2, by omega, rfl, turn_row hOr 1 _ c1 ((y : Int) / 256 % 256) _ (by simp [qs]) rfl (by omega) rfl (by have := hpl'.out; omega), (hbr.setCell (by exact hOr.2.2.2) _).drew⟩
        case measure => simp [intOf]
      · have hcl : wr.cell? ⟨g, t + 2, none⟩ = some (.int .u8 c2) := mid_cell hOr 2 _ c2 (by simp [qs]) rfl (by have := hpl'.out; omega)
        have hfr : wr.frozen? ⟨g, t + 2, none⟩ = false := hOr.frozen _
        have i0 : (0 : Int) ≤ (t : Int) + 2 := by omega
        have i1 : (t : Int) + 2 < (n1 : Int) := by omega
        go_wp2
        go_region
        go_wp2
        go_roundw
        case rel => exact ⟨3, by omega, rfl, turn_row hOr 2 _ c2 ((y : Int) / 65536 % 256) _ (by simp [qs]) rfl (by omega) rfl (by have := hpl'.out; omega), (hbr.setCell (by exact hOr.2.2.2) _).drew⟩
        case measure => simp [intOf]
      · have hcl : wr.cell? ⟨g, t + 3, none⟩ = some (.int .u8 c3) := mid_cell hOr 3 _ c3 (by simp [qs]) rfl (by have := hpl'.out; omega)
        have hfr : wr.frozen? ⟨g, t + 3, none⟩ = false := hOr.frozen _
        have i0 : (0 : Int) ≤ (t : Int) + 3 := by omega
        have i1 : (t : Int) + 3 < (n1 : Int) := by omega
        go_wp2
        go_region
        go_wp2
        go_roundw
        case rel => exact ⟨4, by omega, rfl, turn_row hOr 3 _ c3 ((y : Int) / 16777216) _ (by simp [qs]) rfl (by omega) rfl (by have := hpl'.out; omega), (hbr.setCell (by exact hOr.2.2.2) _).drew⟩
        case measure => simp [intOf]
    · obtain rfl : k = 4 := by omega
      have hO4 : Hid (OwnsB wr w.heap.size (.slice (some ⟨g, 0, none⟩) n1 cap1) (p ++ (qs c0 c1 c2 c3 y 4 ++ r))) := hOr.owns
      have hB4 : Hid (Below w.heap.size w wr) := hbr
      clear hOr hO' hbr
      go_wp2_with fail
      go_ret
      exact ⟨_, rfl, hO4, hB4⟩
end Go.Proofs.Ytfipdldoklkciaa
