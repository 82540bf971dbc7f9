/-
  A sender that begins anew.
-/
import Derived.Test.YtfipdldoklkciaaSdi
namespace Go.Proofs.Ytfipdldoklkciaa
open Go.RowKit
set_option linter.unusedVariables false
def ren (now : Int) (e : Ent) : Ent := { e with time := now, wait := 1, there := false }
def resU (s : St) (now q : Int) : St := { s with L := fun z => if z < q then (s.L z).map (ren now) else s.L z }
def lim2 (s : St) (credit : Int) : St := { s with lim := max credit (s.nxt - 1) }
def resA (s : St) (ack credit now : Int) : St := lim2 (resU (finA s ack) now s.nxt) credit
theorem res_none {s : St} {now : Int} (h : Ok s) : resU s now s.base = s := by
  refine St.ext' rfl rfl rfl rfl fun z => ?_
  show (if z < s.base then (s.L z).map (ren now) else s.L z) = s.L z
  split
  · have := h.inn z
    cases hL : s.L z with
    | none => rfl
    | some e => rw [hL] at this; simp at this; omega
  · rfl
theorem res_step {s : St} {now q : Int} {e : Ent} (hL : s.L q = some e) : setA (resU s now q) q (ren now e) = resU s now (q + 1) := by
  refine St.ext' rfl rfl rfl rfl fun z => ?_
  show (if z = q then some (ren now e) else if z < q then (s.L z).map (ren now) else s.L z) = if z < q + 1 then (s.L z).map (ren now) else s.L z
  by_cases hz : z = q
  · subst hz
    rw [if_pos rfl, if_pos (by omega), hL]; rfl
  · rw [if_neg hz]
    by_cases hq : z < q
    · rw [if_pos hq, if_pos (by omega)]
    · rw [if_neg hq, if_neg (by omega)]
theorem res_at {s : St} {now q : Int} : (resU s now q).L q = s.L q := by
  show (if q < q then (s.L q).map (ren now) else s.L q) = s.L q
  rw [if_neg (by omega)]
theorem sd_lim2 {w : World} {B sb mb : Nat} {s : St} {credit : Int} (h : Sd w B sb mb s) (hc : credit ≤ 4611686018427387904) : Sd (w.setCell ⟨sb, 2, none⟩ (.int .i64 (max credit (s.nxt - 1)))) B sb mb (lim2 s credit) := by
  refine ⟨?_, h.hs, h.hm, h.blk.set 2 _, h.mp.set h.ne 2 _, fun z e he => (h.ld z e he).k2 (K2.set w 2 _)⟩
  obtain ⟨w1, w2, b1, b2, few, l1, l2, inn, ent⟩ := h.ok
  refine ⟨w1, w2, b1, b2, few, ?_, ?_, inn, ent⟩
  · show s.nxt - 1 ≤ max credit (s.nxt - 1)
    omega
  · show max credit (s.nxt - 1) ≤ _
    omega
theorem res_bad {B sb mb : Nat} {s : St} {w : World} (ack credit now : Int) (h : Sd w B sb mb s) (hE : (timeB now && mayB s ack credit) = false) :
    Calls Try.prog 75 #[.pointer (some ⟨sb, 0, none⟩), .int .i64 ack, .int .i64 credit, .int .i64 now] w fun e w' => e = .returned (.int .i64 1) ∧ w' = w := by
  have k1 := made_yes sb w h.c0
  have k2 := may_any ack credit h
  have k3 := time_any now w
  cases ht : timeB now with
  | false =>
    rw [ht] at k3
    clear h hE k2 ht
    go_enter Try.func75, Try.ntmps75
    go_wp2_with (first | (go_at_call 89; refine k1.mono ?_; rintro e w1 ⟨rfl, hw1⟩; obtain rfl := hw1.symm) | (go_at_call 95; refine k3.mono ?_; rintro e w1 ⟨rfl, hw1⟩; obtain rfl := hw1.symm))
    go_ret
    all_goals simp_all
  | true =>
    rw [ht] at k3 hE
    rw [show mayB s ack credit = false by simpa using hE] at k2
    clear h hE ht
    go_enter Try.func75, Try.ntmps75
    go_wp2_with (first | (go_at_call 89; refine k1.mono ?_; rintro e w1 ⟨rfl, hw1⟩; obtain rfl := hw1.symm) | (go_at_call 95; refine k3.mono ?_; rintro e w1 ⟨rfl, hw1⟩; obtain rfl := hw1.symm) | (go_at_call 90; refine k2.mono ?_; rintro e w1 ⟨rfl, hw1⟩; obtain rfl := hw1.symm))
    go_ret
    all_goals simp_all
theorem field0 (e : Ent) (w : World) : (Instr.field 145 (.agg #[.slice e.a e.n e.c, .int .i64 e.time, .int .i64 e.wait, .bool e.there]) 0).run Try.prog w = .ok (.slice e.a e.n e.c) w := by kernel_rfl
set_option maxHeartbeats 1000000 in
theorem res_ok {B sb mb : Nat} {s : St} {w : World} (ack credit now : Int) (h : Sd w B sb mb s) (hE : (timeB now && mayB s ack credit) = true) :
    Calls Try.prog 75 #[.pointer (some ⟨sb, 0, none⟩), .int .i64 ack, .int .i64 credit, .int .i64 now] w fun e w' => e = .returned (.int .i64 0) ∧ Hid (Sd w' B sb mb (resA s ack credit now)) ∧ Hid (K2 sb mb w w') := by
  obtain ⟨ht, hM⟩ : timeB now = true ∧ mayB s ack credit = true := by simpa using hE
  have k1 := made_yes sb w h.c0
  have k2 := may_any ack credit h
  have k3 := time_any now w
  rw [hM] at k2
  rw [ht] at k3
  have hm : Hid (0 ≤ now ∧ now ≤ 1099511627776 ∧ credit ≤ 4611686018427387904) := by
    simp [mayB] at hM
    simp [timeB] at ht
    show _ ∧ _ ∧ _
    omega
  have k4 := finish_any ack h (by simp [mayB] at hM; omega)
  have hA : Hid (resA s ack credit now = lim2 (resU (finA s ack) now (finA s ack).nxt) credit) := rfl
  clear h hE ht hM
  generalize finA s ack = s1 at *
  go_enter Try.func75, Try.ntmps75
  go_wp2_with (first | (go_at_call 89; refine k1.mono ?_; rintro e w1 ⟨rfl, hw1⟩; obtain rfl := hw1.symm; clear k1 hw1) | (go_at_call 95; refine k3.mono ?_; rintro e w1 ⟨rfl, hw1⟩; obtain rfl := hw1.symm; clear k3 hw1) | (go_at_call 90; refine k2.mono ?_; rintro e w1 ⟨rfl, hw1⟩; obtain rfl := hw1.symm; clear k2 hw1) | (go_at_call 91; refine k4.mono ?_; rintro e w1 ⟨rfl, hS1, hK1⟩; clear k4; have c31 := hS1.out.c3))
  go_loopw [9] (fun s9 wr => ∃ q : Int, s9 = .int .i64 q ∧ Hid (s1.base ≤ q ∧ q ≤ s1.nxt) ∧ Hid (Sd wr B sb mb (resU s1 now q)) ∧ Hid (K2 sb mb w wr)) (fun q _ => (s1.nxt - intOf q).toNat)
  case atStart => exact ⟨s1.base, rfl, ⟨Int.le_refl _, hS1.out.ok.b2⟩, (by show Sd _ _ _ _ _; rw [res_none hS1.out.ok]; exact hS1.out), hK1⟩
  case round =>
    obtain ⟨q, rfl, hq, hS, hK⟩ := hrel
    have c4 : wr.cell? ⟨sb, 4, none⟩ = some (.int .i64 s1.nxt) := hS.out.c4
    have c5 := hS.out.c5
    by_cases hlt : q < s1.nxt
    · have hd : decide (q < s1.nxt) = true := by simp; omega
      have hrg : Hid (-9223372036854775808 ≤ q ∧ q < 9223372036854775808) := by
        have := hS1.out.ok.b1; have := hS1.out.ok.l1; have := hS1.out.ok.l2; have := hq.out
        show _ ∧ _; omega
      have hwr : IntKind.i64.wrap (q + 1) = q + 1 := by
        have := hS1.out.ok.b1; have := hS1.out.ok.l1; have := hS1.out.ok.l2; have := hq.out
        rw [IntKind.wrap_i64]; omega
      have hl := hS.out.mp.drew.look hrg.out
      cases hL : s1.L q with
      | none => have := (hS1.out.ok.inn q).2 ⟨hq.out.1, hlt⟩; rw [hL] at this; cases this
      | some e =>
      have hL2 : Hid ((resU s1 now q).L q = some e) := res_at.trans hL
      have hst : Hid (setA (resU s1 now q) q (ren now e) = resU s1 now (q + 1)) := res_step hL
      have hf := field0 e
      rw [show (resU s1 now q).f q = some e.val by simp [St.f, hL2.out]] at hl
      simp only [Option.getD_some, Ent.val] at hl
      have hsz : Hid (((resU s1 now q).nxt - (resU s1 now q).base).toNat < 1000) := by have := hS.out.ok.few; have := hS.out.ok.w2; show _ < _; omega
      have SK : Hid (∀ w', Below wr.heap.size wr w' → w'.cell? ⟨sb, 5, none⟩ = some (.map (some mb))) := fun w' hb => (hS.out.kept hb).c5
      have hB1 : Hid (Below wr.heap.size wr wr) := Below.refl _ _
      have hlt' : Hid (q < s1.nxt) := hlt
      clear hL hlt hS1 c31 hK1
      go_wp2
      go_region_held3 (fun wx => wx.cell? ⟨sb, 5, none⟩ = some (.map (some mb))) ((first | with_reducible exact cc5 | ((with_reducible refine SK.out _ ?_); (repeat' with_reducible first | exact hB1.out | exact hB4.out | refine Below.drew ?_)))) (first
        | (go_at_call 96; refine (outF_any _ _ _ _ _).mono ?_; rintro e w4 ⟨rfl, hb4⟩; have hB4 : Hid (Below wr.heap.size wr w4) := hB1.out.drew.trans hb4; have hS4 : Hid (Sd w4 B sb mb (resU s1 now q)) := hS.out.kept hB4.out; obtain ⟨w5, hr, hm4, hg⟩ := hS4.out.mp.store hsz.out hrg.out (ren now e).val; simp only [ren, Ent.val] at hr; have hS5 : Hid (Sd w5 B sb mb (resU s1 now (q + 1))) := (by show Sd _ _ _ _ _; rw [← hst.out]; exact sd_put hS4.out hL2.out rfl rfl rfl rfl ⟨hm.out.1, (by have := hm.out.2.1; show now ≤ _; omega), (by show (1 : Int) ≤ 1; omega), (by show (1 : Int) ≤ 64; omega)⟩ hm4 hg); have hK5 : Hid (K2 sb mb w w5) := hK.out.trans ((K2.of_below hB4.out).trans (K2.of_g hg)); have cc5 := hS5.out.c5; clear hm4 hg hb4))
      go_wp2
      exact ⟨⟨q + 1, rfl, ⟨(by have := hq.out; omega), (by have := hlt'.out; omega)⟩, hS5, hK5⟩, by have := hlt'.out; show (s1.nxt - (q + 1)).toNat < (s1.nxt - q).toNat; omega⟩
    · have hd : decide (q < s1.nxt) = false := by simp; omega
      obtain rfl : q = s1.nxt := by have := hq.out; omega
      have k5 : Calls Try.prog 103 #[.pointer (some ⟨sb, 0, none⟩)] wr fun e w' => e = .returned (.int .i64 (s1.nxt - 1)) ∧ w' = wr := last_any (s := resU s1 now s1.nxt) hS.out
      have f2 := hS.out.blk.fz 2
      have c2 := hS.out.c2
      clear hlt hS1 c31 hK1 c5
      go_wp2_with (go_at_call 103; refine k5.mono ?_; rintro e w1 ⟨rfl, hw1⟩; obtain rfl := hw1.symm)
      go_ret
      refine ⟨rfl, ?_, ?_⟩
      · rw [hA.out]
        exact sd_lim2 hS.out hm.out.2.2
      · exact hK.out.trans (K2.set _ 2 _)
end Go.Proofs.Ytfipdldoklkciaa
