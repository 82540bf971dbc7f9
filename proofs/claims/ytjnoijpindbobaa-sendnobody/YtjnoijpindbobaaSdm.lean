/-
  The probe: two loads are told, and one is done.
-/
import Derived.Test.YtjnoijpindbobaaSdl
import Derived.Lib.SlBytesConst
import Derived.Lib.SmallJoins
namespace Go.Proofs.Ytjnoijpindbobaa
open Go.RowKit
set_option linter.unusedVariables false
theorem bit_zero (i : Nat) : bitB 0 i = false := by
  unfold bitB
  rw [Int.zero_ediv]
  decide
theorem bits_zero (s : St) (ack : Int) : ∀ i, bitsA s ack 0 i = s
  | 0 => rfl
  | i + 1 => by rw [bitsA, if_neg (by simp [bit_zero])]; exact bits_zero s ack i
/-- A sender of no loads, with a limit. -/
def s0 (win lim : Int) : St := ⟨win, lim, 1, 1, fun _ => none⟩
theorem s0_ok {win lim : Int} (h1 : 1 ≤ win) (h2 : win ≤ 32) (h3 : 0 ≤ lim) (h4 : lim ≤ 4611686018427387904) : Ok (s0 win lim) :=
  ⟨h1, h2, by simp [s0], by simp [s0], by show (1 : Int) - 1 ≤ win; omega, by show (1 : Int) - 1 ≤ lim; omega, h4, (fun z => by constructor <;> intro h <;> simp [s0] at h ⊢ <;> omega), by simp [s0]⟩
theorem ack_s0 {win c : Int} (h1 : 1 ≤ win) (h2 : win ≤ 32) (hc : 0 ≤ c) : ackA (s0 win 0) 0 0 c = s0 win c := by
  unfold ackA
  rw [fin_none (s0_ok h1 h2 (by omega) (by omega)) (by show ¬ (1 : Int) ≤ 0; omega), bits_zero]
  show limA (s0 win 0) c = _
  refine St.ext' rfl ?_ rfl rfl fun _ => rfl
  show max 0 c = c
  omega
theorem may_s0 {win c : Int} (hc : 0 ≤ c) (hc' : c ≤ 4611686018427387904) : mayB (s0 win 0) 0 c = true := by simp [mayB, s0]; omega
theorem same_any (a1 a2 : Option Addr) (n1 n2 c1 c2 : Nat) (z1 z2 : List Int) (w : World) (h1 : Bytes w a1 z1) (h2 : Bytes w a2 z2) (hl1 : z1.length = n1) (hl2 : z2.length = n2) :
    Calls Try.prog 17 #[.slice a1 n1 c1, .slice a2 n2 c2] w fun e w' => e = .returned (.bool (decide (z1 = z2))) ∧ w' = w := by
  have k1 := conv_str h1 n1 c1 hl1
  have k2 := conv_str h2 n2 c2 hl2
  have k3 := str_eq h1.1 h2.1
  clear h1 h2 hl1 hl2
  go_enter Try.func17, Try.ntmps17
  go_wp2
  go_ret
  all_goals simp_all
theorem alive_pure (e1 e2 : Ent) (h1 : e1.zs = [97] ∧ e1.time = 0 ∧ e1.wait = 1 ∧ e1.there = false) (h2 : e2.zs = [98] ∧ e2.time = 0 ∧ e2.wait = 1 ∧ e2.there = false) (hO : Ok (addA (addA (s0 4 2) e1) e2)) :
    dueL (addA (addA (s0 4 2) e1) e2) 0 2 = [(1, [97]), (2, [98])] ∧ mayB (dueA (addA (addA (s0 4 2) e1) e2) 0) 1 3 = true ∧ (ackA (dueA (addA (addA (s0 4 2) e1) e2) 0) 1 0 3).nxt - (ackA (dueA (addA (addA (s0 4 2) e1) e2) 0) 1 0 3).base = 1 := by
  have t1 : tellB 0 e1 = true := by simp [tellB, h1]
  have t2 : tellB 0 e2 = true := by simp [tellB, h2]
  refine ⟨?_, ?_, ?_⟩
  · simp [dueL, addA, s0, t1, t2, h1, h2]
  · simp [mayB, dueA, dueU, addA, s0]
  · unfold ackA
    rw [bits_zero]
    have hL : (finA (dueA (addA (addA (s0 4 2) e1) e2) 0) 1).L 2 = some (nxtE 0 e2) := by simp [finA, dueA, dueU, addA, s0, dueE, t2]
    have hb : (finA (dueA (addA (addA (s0 4 2) e1) e2) 0) 1).base = 2 := by simp [finA, dueA, dueU, addA, s0]
    have hth : (nxtE 0 e2).there = false := h2.2.2.2
    rw [popsF, hb, hL]
    simp only [hth]
    show (limA (finA (dueA (addA (addA (s0 4 2) e1) e2) 0) 1) 3).nxt - (limA (finA (dueA (addA (addA (s0 4 2) e1) e2) 0) 1) 3).base = 1
    show (finA (dueA (addA (addA (s0 4 2) e1) e2) 0) 1).nxt - (finA (dueA (addA (addA (s0 4 2) e1) e2) 0) 1).base = 1
    rw [hb]
    simp [finA, dueA, dueU, addA, s0]
theorem one_mark (w : World) (n : Int) (h0 : 0 ≤ n) (h1 : n < 256) : Bytes (w.alloc (.cells #[.int .u8 n] 5 (1, 2))) (some ⟨w.heap.size, 0, none⟩) [n] := by
  refine ⟨by simp; omega, by simp [maxLen], .inr ⟨w.heap.size, 0, rfl, fun i hi => ?_⟩⟩
  have : i = 0 := by simp at hi; omega
  subst this
  exact World.cell?_alloc_mark w _ 5 (1, 2) 0
set_option maxHeartbeats 1000000 in
theorem alive_any (w : World) : Calls Try.prog 9 #[] w fun e w' => e = .returned (.bool true) ∧ Hid (Below w.heap.size w w') := by
  go_enter Try.func9, Try.ntmps9
  go_wp2_with fail
  refine (new_yes 4 w (by decide) (by decide)).mono ?_
  rintro e w1 ⟨rfl, hS1, hB1⟩
  have hS1' : Hid (Sd w1 w.heap.size (w.heap.size + 1) w.heap.size (s0 4 0)) := hS1
  clear hS1
  generalize hsb : w.heap.size + 1 = sb at *
  have hN : Hid (w.heap.size ≤ sb) := by show _ ≤ _; omega
  clear hsb
  have kc := fun (w : World) (C : Array Value) (n c : Nat) => Lib.run_convert_bytes_const (P := Try.prog) w 29 5 C n c Try.underlying29 Try.underlying5
  have k2 := ack_ok 0 0 2 hS1'.out (may_s0 (by decide) (by decide))
  rw [ack_s0 (by decide) (by decide) (by decide)] at k2
  go_wp2_with (go_at_call 18; refine k2.mono ?_; rintro e w2 ⟨rfl, hS2, hK2⟩; clear k2)
  have hN2 : Hid (w.heap.size ≤ w2.heap.size) := Nat.le_trans hB1.out.size hK2.out.size
  have hB2 : Hid (Below w.heap.size w w2) := hK2.out.below hB1.out hB1.out.size hN.out (Nat.le_refl _)
  refine (push_ok (some ⟨w2.heap.size, 0, none⟩) 1 1 [97] 0 (hS2.out.alloc (.cells #[.int .u8 97] 5 (1, 2))) (by decide) (by have := hN2.out; simp; omega) rfl (by simp) (one_mark _ _ (by decide) (by decide))).mono ?_
  rintro e w3 ⟨rfl, e1, he1, hS3, hK3⟩
  have hN3 : Hid (w.heap.size ≤ w3.heap.size) := by have := hN2.out; have := hK3.out.size; simp at this; show _ ≤ _; omega
  have hB3 : Hid (Below w.heap.size w w3) := hK3.out.below (hB2.out.alloc hN2.out _) (by have := hN2.out; simp; omega) hN.out (Nat.le_refl _)
  clear hS1' hS2 hK2 hB1 hB2 hK3
  go_wp2_with fail
  refine (push_ok (some ⟨w3.heap.size, 0, none⟩) 1 1 [98] 0 (hS3.out.alloc (.cells #[.int .u8 98] 5 (1, 2))) (by rfl) (by have := hN3.out; simp; omega) rfl (by simp) (one_mark _ _ (by decide) (by decide))).mono ?_
  rintro e w4 ⟨rfl, e2, he2, hS4, hK4⟩
  have hN4 : Hid (w.heap.size ≤ w4.heap.size) := by have := hN3.out; have := hK4.out.size; simp at this; show _ ≤ _; omega
  have hB4 : Hid (Below w.heap.size w w4) := hK4.out.below (hB3.out.alloc hN3.out _) (by have := hN3.out; simp; omega) hN.out (Nat.le_refl _)
  obtain ⟨p1, p2, p3⟩ := alive_pure e1 e2 ⟨he1.out.1, he1.out.2.1, he1.out.2.2.1, he1.out.2.2.2.1⟩ ⟨he2.out.1, he2.out.2.1, he2.out.2.2.1, he2.out.2.2.2.1⟩ hS4.out.ok
  have hp1 : Hid (dueL (addA (addA (s0 4 2) e1) e2) 0 2 = [(1, [97]), (2, [98])]) := p1
  have hp2 : Hid (mayB (dueA (addA (addA (s0 4 2) e1) e2) 0) 1 3 = true) := p2
  have hp3 : Hid ((ackA (dueA (addA (addA (s0 4 2) e1) e2) 0) 1 0 3).nxt - (ackA (dueA (addA (addA (s0 4 2) e1) e2) 0) 1 0 3).base = 1) := p3
  have hx : (addA (s0 4 2) e1).nxt = 2 := rfl
  have hE5 : Hid (pushE (addA (addA (s0 4 2) e1) e2) 1 0 = 13) := rfl
  have hX5 : Hid ((addA (addA (s0 4 2) e1) e2).nxt - (addA (addA (s0 4 2) e1) e2).base = 2) := rfl
  rw [hx]
  clear hS3 hB3 hK4 p1 p2 p3 he1 he2 hx
  generalize addA (addA (s0 4 2) e1) e2 = s2 at *
  go_wp2_with fail
  refine (push_bad (some ⟨w4.heap.size, 0, none⟩) 1 1 0 (hS4.out.alloc (.cells #[.int .u8 99] 5 (1, 2))) (by rw [hE5.out]; decide) (by decide)).mono ?_
  rw [hE5.out]
  rintro e w5 ⟨rfl, hb5⟩
  have hS5 : Hid (Sd w5 w.heap.size sb w.heap.size s2) := (hS4.out.alloc _).kept hb5.out
  have hN5 : Hid (w.heap.size ≤ w5.heap.size) := by have := hN4.out; have := hb5.out.size; simp at this; show _ ≤ _; omega
  have hB5 : Hid (Below w.heap.size w w5) := (hB4.out.alloc hN4.out _).trans (hb5.out.mono (by have := hN4.out; simp; omega))
  clear hS4 hB4 hb5
  go_wp2_with fail
  refine (due_ok 0 hS5.out (by decide)).mono ?_
  rintro e w6 ⟨v, L, rfl, hT6, hL6, hS6, hU6, hK6⟩
  have hB6 : Hid (Below w.heap.size w w6) := hK6.out.below hB5.out hN5.out hN.out (Nat.le_refl _)
  have hN6 : Hid (w.heap.size ≤ w6.heap.size) := Nat.le_trans hN5.out hK6.out.size
  have hL6' : Hid (plainT L = [(1, [97]), (2, [98])]) := by show _ = _; rw [hL6.out, hX5.out]; exact hp1.out
  obtain ⟨q1, q2, rfl, hq1, hq2⟩ : ∃ q1 q2, L = [q1, q2] ∧ (q1.1, q1.2.2) = ((1 : Int), [(97 : Int)]) ∧ (q2.1, q2.2.2) = ((2 : Int), [(98 : Int)]) := by
    have := hL6'.out
    match L with
    | [] => simp [plainT] at this
    | [q] => simp [plainT] at this
    | [q1, q2] => simp [plainT] at this; exact ⟨q1, q2, rfl, by simp [this], by simp [this]⟩
    | q1 :: q2 :: q3 :: l => simp [plainT] at this
  obtain ⟨g, cap, hv, hg1, hg2, hc⟩ := hT6.out.cells (i := 1) (p := q2) rfl
  obtain ⟨n2, v2, z2⟩ := q2
  simp only [Prod.mk.injEq] at hq2
  obtain ⟨rfl, rfl⟩ := hq2
  have ho2 : OwnsB w6 w5.heap.size v2 [98] := hT6.out.2 (2, v2, [98]) (by simp)
  obtain ⟨a2, c2, rfl, hnil2, ⟨hle2, hmx2⟩, hby2, hat2⟩ := ho2.shape
  have hcs := conv_str hby2 1 c2 rfl
  have d3 : w6.cell? ⟨g, 12, none⟩ = some (.int .i64 2) := hc 3 (by decide)
  have d8 : w6.cell? ⟨g, 17, none⟩ = some (.slice a2 1 c2) := hc 8 (by decide)
  have hstr : ((strOfNums [98]).toList == [98]) = true := by rw [ByteArray.toList_eq, strOfNums_data]; decide
  have hcap : (2 : Nat) ≤ cap ∧ cap ≤ 9223372036854775807 := by
    obtain ⟨a9, n9, c9, e9, h9, h10, h11⟩ := hT6.out.form
    rw [hv] at e9
    cases e9
    exact ⟨h10, h11⟩
  obtain ⟨hcap1, hcap2⟩ := hcap
  subst hv
  have k7 := ack_ok 1 0 3 hS6.out hp2.out
  clear hc ho2 hnil2 hle2 hmx2 hby2 hat2 hq1 hL6 hL6' hT6 hS5 hB5 hK6 hg1 hg2
  go_wp2_with (first | (go_at_call 18; refine k7.mono ?_; rintro e w7 ⟨rfl, hS7, hK7⟩; clear k7; have k8 := out_any hS7.out; rw [hp3.out] at k8; have hB7 : Hid (Below w.heap.size w w7) := hK7.out.below hB6.out hN6.out hN.out (Nat.le_refl _)) | (go_at_call 11; refine k8.mono ?_; rintro e w8 ⟨rfl, hw8⟩; obtain rfl := hw8.symm))
  go_ret
  exact ⟨rfl, hB7⟩
end Go.Proofs.Ytjnoijpindbobaa
