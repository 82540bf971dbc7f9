/-
  An ack taken.
-/
import Derived.Test.YtfipdldoklkciaaSdg
namespace Go.Proofs.Ytfipdldoklkciaa
open Go.RowKit
set_option linter.unusedVariables false
def bitB (bits : Int) (i : Nat) : Bool := Go.bits .and .u64 (bits / 2 ^ i) 1 == 1
def bitsA (s : St) (ack bits : Int) : Nat → St
  | 0 => s
  | i + 1 => if bitB bits i = true then beyA (bitsA s ack bits i) (ack + 2 + (i : Int)) else bitsA s ack bits i
def popsF : Nat → St → St
  | 0, s => s
  | k + 1, s => match s.L s.base with
    | some e => if e.there = true then popsF k (finA s s.base) else s
    | none => s
def limA (s : St) (credit : Int) : St := { s with lim := max s.lim credit }
def ackA (s : St) (ack bits credit : Int) : St := limA (popsF 64 (bitsA (finA s ack) ack bits 64)) credit
theorem bey_nxt (s : St) (z : Int) : (beyA s z).nxt = s.nxt := by unfold beyA; split <;> rfl
theorem bits_nxt (s : St) (ack bits : Int) : ∀ i, (bitsA s ack bits i).nxt = s.nxt
  | 0 => rfl
  | i + 1 => by
    unfold bitsA
    split
    · rw [bey_nxt]; exact bits_nxt s ack bits i
    · exact bits_nxt s ack bits i
theorem lim_ok {s : St} {credit : Int} (h : Ok s) (hc : credit ≤ 4611686018427387904) : Ok (limA s credit) := by
  obtain ⟨w1, w2, b1, b2, few, l1, l2, inn, ent⟩ := h
  refine ⟨w1, w2, b1, b2, few, ?_, ?_, inn, ent⟩
  · show s.nxt - 1 ≤ max s.lim credit
    omega
  · show max s.lim credit ≤ _
    omega
theorem sd_lim {w : World} {B sb mb : Nat} {s : St} {credit : Int} (h : Sd w B sb mb s) (hc : credit ≤ 4611686018427387904) : Sd (w.setCell ⟨sb, 2, none⟩ (.int .i64 (max s.lim credit))) B sb mb (limA s credit) :=
  ⟨lim_ok h.ok hc, h.hs, h.hm, h.blk.set 2 _, h.mp.set h.ne 2 _, fun z e he => (h.ld z e he).k2 (K2.set w 2 _)⟩
theorem ack_bad {B sb mb : Nat} {s : St} {w : World} (ack bits credit : Int) (h : Sd w B sb mb s) (hE : mayB s ack credit = false) :
    Calls Try.prog 55 #[.pointer (some ⟨sb, 0, none⟩), .int .i64 ack, .int .u64 bits, .int .i64 credit] w fun e w' => e = .returned (.int .i64 1) ∧ w' = w := by
  have k1 := made_yes sb w h.c0
  have k2 := may_any ack credit h
  rw [hE] at k2
  clear h hE
  go_enter Try.func55, Try.ntmps55
  go_wp2_with (first | (go_at_call 89; refine k1.mono ?_; rintro e w1 ⟨rfl, hw1⟩; obtain rfl := hw1.symm) | (go_at_call 90; refine k2.mono ?_; rintro e w1 ⟨rfl, hw1⟩; obtain rfl := hw1.symm))
  go_ret
  all_goals simp_all
theorem Sd.cell4 {w : World} {B sb mb : Nat} {s : St} (h : Sd w B sb mb s) : cellI w sb 4 = s.nxt := by unfold cellI; rw [h.c4]
theorem field3 (e : Ent) (w : World) : (Instr.field 145 (.agg #[.slice e.a e.n e.c, .int .i64 e.time, .int .i64 e.wait, .bool e.there]) 3).run Try.prog w = .ok (.bool e.there) w := by kernel_rfl
theorem field3z (w : World) : (Instr.field 145 (.agg #[.slice none 0 0, .int .i64 0, .int .i64 0, .bool false]) 3).run Try.prog w = .ok (.bool false) w := by kernel_rfl
theorem ack_ok {B sb mb : Nat} {s : St} {w : World} (ack bits credit : Int) (h : Sd w B sb mb s) (hE : mayB s ack credit = true) :
    Calls Try.prog 55 #[.pointer (some ⟨sb, 0, none⟩), .int .i64 ack, .int .u64 bits, .int .i64 credit] w fun e w' => e = .returned (.int .i64 0) ∧ Hid (Sd w' B sb mb (ackA s ack bits credit)) ∧ Hid (K2 sb mb w w') := by
  have k1 := made_yes sb w h.c0
  have k2 := may_any ack credit h
  rw [hE] at k2
  have hk : ack < s.nxt := by simp [mayB] at hE; omega
  have hm : Hid (0 ≤ ack ∧ ack ≤ 4611686018427387904 ∧ credit ≤ 4611686018427387904) := by
    have := h.ok.l1; have := h.ok.l2
    simp [mayB] at hE
    show _ ∧ _ ∧ _
    omega
  have k3 := finish_any ack h hk
  have hR : Hid (popsF 64 (bitsA (finA s ack) ack bits 64) = popsF 64 (bitsA (finA s ack) ack bits 64)) := rfl
  have hA : Hid (ackA s ack bits credit = limA (popsF 64 (bitsA (finA s ack) ack bits 64)) credit) := rfl
  have hN : Hid ((finA s ack).nxt = s.nxt) := rfl
  clear h hE hk
  generalize finA s ack = s1 at *
  go_enter Try.func55, Try.ntmps55
  go_wp2_with (first | (go_at_call 89; refine k1.mono ?_; rintro e w1 ⟨rfl, hw1⟩; obtain rfl := hw1.symm; clear k1 hw1) | (go_at_call 90; refine k2.mono ?_; rintro e w1 ⟨rfl, hw1⟩; obtain rfl := hw1.symm; clear k2 hw1) | (go_at_call 91; refine k3.mono ?_; rintro e w1 ⟨rfl, hS1, hK1⟩; clear k3))
  go_loopw [9, 21] (fun _ s21 wr => ∃ i : Nat, i ≤ 64 ∧ s21 = .int .i64 (i : Nat) ∧ Hid (Sd wr B sb mb (bitsA s1 ack bits i)) ∧ Hid (K2 sb mb w wr)) (fun _ i _ => 64 - (intOf i).toNat)
  case atStart => exact ⟨0, by omega, rfl, hS1, hK1⟩
  case round =>
    obtain ⟨i, hi, rfl, hS, hK⟩ := hrel
    by_cases hlt : i < 64
    · have hd : decide ((i : Int) < 64) = true := by simp; omega
      have hwr1 : IntKind.i64.wrap (ack + 2) = ack + 2 := by have := hm.out; rw [IntKind.wrap_i64]; omega
      have hwr2 : IntKind.i64.wrap (ack + 2 + (i : Int)) = ack + 2 + (i : Int) := by have := hm.out; rw [IntKind.wrap_i64]; omega
      cases hb : bitB bits i with
      | true =>
        have hbit : (Go.bits .and .u64 (bits / 2 ^ i) 1 == 1) = true := hb
        have k4 := bey_any (ack + 2 + (i : Int)) hS.out (by have := hm.out; omega)
        have hE : Hid (bitsA s1 ack bits (i + 1) = beyA (bitsA s1 ack bits i) (ack + 2 + (i : Int))) := by show _ = _; rw [bitsA, if_pos hb]
        clear hb
        go_wp2_with (go_at_call 92; refine k4.mono ?_; rintro e w4 ⟨rfl, hS4, hK4⟩)
        exact ⟨⟨i + 1, by omega, by simp, by rw [hE.out]; exact hS4, hK.out.trans hK4.out⟩, by simp [intOf]; omega⟩
      | false =>
        have hbit : (Go.bits .and .u64 (bits / 2 ^ i) 1 == 1) = false := hb
        have hE : Hid (bitsA s1 ack bits (i + 1) = bitsA s1 ack bits i) := by show _ = _; rw [bitsA, if_neg (by simp [hb])]
        clear hb
        go_wp2
        exact ⟨⟨i + 1, by omega, by simp, by rw [hE.out]; exact hS, hK⟩, by simp [intOf]; omega⟩
    · have hd : decide ((i : Int) < 64) = false := by simp; omega
      obtain rfl : i = 64 := by omega
      have hfew : Hid (∃ k, k = 64 ∧ ((bitsA s1 ack bits 64).nxt - (bitsA s1 ack bits 64).base) < (k : Nat)) := by
        have := hS.out.ok.few; have := hS.out.ok.w2
        exact ⟨64, rfl, by omega⟩
      generalize bitsA s1 ack bits 64 = s2 at *
      clear hlt hi
      go_wp2
      go_loopw [] (fun wr => ∃ (s' : St) (k : Nat), Hid (Sd wr B sb mb s') ∧ Hid (popsF k s' = popsF 64 s2) ∧ Hid (s'.nxt - s'.base < (k : Nat)) ∧ Hid (K2 sb mb w wr)) (fun wr => (cellI wr sb 4 - cellI wr sb 3).toNat)
      case atStart =>
        obtain ⟨k, rfl, hk⟩ := hfew.out
        exact ⟨s2, 64, hS, rfl, hk, hK⟩
      case round =>
        obtain ⟨s', k, hS', hp, hk, hK'⟩ := hrel
        have c2 := hS'.out.c2
        have c3 := hS'.out.c3
        have c5 := hS'.out.c5
        have f2 := hS'.out.blk.fz 2
        have hrg : -9223372036854775808 ≤ s'.base ∧ s'.base < 9223372036854775808 := by
          have := hS'.out.ok.b1; have := hS'.out.ok.b2; have := hS'.out.ok.l1; have := hS'.out.ok.l2
          omega
        have hl := hS'.out.mp.drew.look hrg
        have hcr : Hid (credit ≤ 4611686018427387904) := hm.out.2.2
        clear hrg hfew hS hd
        cases k with
        | zero => have := hS'.out.ok.b2; have := hk.out; simp at this; omega
        | succ k =>
        cases hL : s'.L s'.base with
        | none =>
          have hp' : Hid (s' = popsF 64 s2) := by have := hp.out; rw [popsF, hL] at this; exact this
          have hf := field3z
          rw [show s'.f s'.base = none by simp [St.f, hL]] at hl
          simp only [Option.getD_none, zE] at hl
          clear hL hp hk
          go_wp2
          go_region
          go_wp2
          go_ret
          refine ⟨rfl, ?_, ?_⟩
          · rw [hA.out, ← hp'.out]
            exact sd_lim hS'.out.drew hcr.out
          · exact hK'.out.drew.trans (K2.set _ 2 _)
        | some e =>
          have hf := field3 e
          rw [show s'.f s'.base = some e.val by simp [St.f, hL]] at hl
          simp only [Option.getD_some, Ent.val] at hl
          cases ht : e.there with
          | false =>
            have hp' : Hid (s' = popsF 64 s2) := by have := hp.out; rw [popsF, hL] at this; simp [ht] at this; exact this
            rw [ht] at hl hf
            clear hL hp hk ht
            go_wp2
            go_region
            go_wp2
            go_ret
            refine ⟨rfl, ?_, ?_⟩
            · rw [hA.out, ← hp'.out]
              exact sd_lim hS'.out.drew hcr.out
            · exact hK'.out.drew.trans (K2.set _ 2 _)
          | true =>
            have hp' : Hid (popsF k (finA s' s'.base) = popsF 64 s2) := by have := hp.out; rw [popsF, hL] at this; simp [ht] at this; exact this
            rw [ht] at hl hf
            have hb := (hS'.out.ok.inn s'.base).1 (by rw [hL]; rfl)
            have k5 := finish_any s'.base hS'.out.drew hb.2
            have hlt' : Hid (s'.base < s'.nxt) := hb.2
            have e3 : Hid (cellI wr sb 3 = s'.base) := hS'.out.cell3
            have e4 : Hid (cellI wr sb 4 = s'.nxt) := hS'.out.cell4
            have eb : Hid ((finA s' s'.base).base = s'.base + 1) := by show (if s'.base ≤ s'.base then _ else _) = _; rw [if_pos (Int.le_refl _)]
            clear hL hp ht hb
            go_wp2
            go_region
            go_wp2_with (go_at_call 91; refine k5.mono ?_; rintro e w5 ⟨rfl, hS5, hK5⟩)
            refine ⟨⟨_, _, _, _, _, _, _, _, _, _, _, _, _, _, _, _, ⟨finA s' s'.base, k, hS5, hp', ?_, hK'.out.drew.trans hK5.out⟩, rfl⟩, ?_⟩
            · have h6 : s'.nxt - s'.base < ((k + 1 : Nat) : Int) := hk.out
              have h7 := eb.out
              show (finA s' s'.base).nxt - (finA s' s'.base).base < (k : Int)
              rw [h7]
              show s'.nxt - (s'.base + 1) < (k : Int)
              omega
            · rw [hS5.out.cell3, hS5.out.cell4, e3.out, e4.out, eb.out]
              show (s'.nxt - (s'.base + 1)).toNat < _
              have := hlt'.out
              omega
end Go.Proofs.Ytfipdldoklkciaa
