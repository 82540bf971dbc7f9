/-
  A load that is out is told again.
-/
import Derived.Test.YtjnoijpindbobaaSdn
namespace Go.Proofs.Ytjnoijpindbobaa
open Go.RowKit
set_option linter.unusedVariables false
/-- One load that is out, and when it was told last. -/
def Ag (s : St) (i : Nat) (last : Int) : Prop := s.base = 1 ∧ s.nxt = 2 ∧ (0 ≤ last ∧ last ≤ i) ∧ ∃ e, s.L 1 = some e ∧ e.there = false ∧ e.time ≤ last + 64 ∧ 1 ≤ e.wait ∧ e.wait ≤ 64
theorem ag_told {s : St} {i : Nat} {last : Int} {e : Ent} (h : Ag s i last) (hL : s.L 1 = some e) (ht : e.time ≤ (i : Int)) : Ag (dueA s i) (i + 1) i ∧ ∃ z, dueL s i 1 = [(1, z)] := by
  obtain ⟨h1, h2, h3, e', hL', h4, h5, h6, h7⟩ := h
  rw [hL] at hL'
  cases hL'
  have htl : tellB i e = true := by simp [tellB, h4]; omega
  refine ⟨⟨h1, h2, by omega, nxtE i e, ?_, h4, ?_, ?_, ?_⟩, e.zs, ?_⟩
  · show (if (1 : Int) < s.nxt then (s.L 1).map (dueE i) else s.L 1) = _
    rw [h2, if_pos (by omega), hL]
    show some (dueE i e) = _
    unfold dueE
    rw [if_pos htl]
  · show (i : Int) + e.wait ≤ (i : Int) + 64
    omega
  · show 1 ≤ min (2 * e.wait) 64
    omega
  · show min (2 * e.wait) 64 ≤ 64
    omega
  · simp [dueL, h1, hL, htl]
theorem ag_not {s : St} {i : Nat} {last : Int} {e : Ent} (h : Ag s i last) (hL : s.L 1 = some e) (ht : ¬ e.time ≤ (i : Int)) : Ag (dueA s i) (i + 1) last ∧ dueL s i 1 = [] := by
  obtain ⟨h1, h2, h3, e', hL', h4, h5, h6, h7⟩ := h
  rw [hL] at hL'
  cases hL'
  have htl : tellB i e = false := by simp [tellB, h4]; omega
  refine ⟨⟨h1, h2, by omega, e, ?_, h4, h5, h6, h7⟩, ?_⟩
  · show (if (1 : Int) < s.nxt then (s.L 1).map (dueE i) else s.L 1) = _
    rw [h2, if_pos (by omega), hL]
    show some (dueE i e) = _
    unfold dueE
    rw [if_neg (by simp [htl])]
  · simp [dueL, h1, hL, htl]
set_option maxHeartbeats 1000000 in
theorem wagain (a : Option Addr) (len cap : Nat) (z : List Int) (ticks before : Int) (w : World) (h0 : IsRow .u8 w a len cap z) (h1 : (Lit.int .u16 ticks).wf = true) (h2 : (Lit.int .u8 before).wf = true) :
    Calls Try.prog 5 #[.slice a len cap, .int .u16 ticks, .int .u8 before] w fun e w' => e = .returned (.bool true) ∧ Below w.heap.size w w' := by
  have ht : 0 ≤ ticks ∧ ticks < 65536 := by
    simp [Lit.wf, show IntKind.u16.min = 0 from by decide, show IntKind.u16.max = 65535 from by decide] at h1
    omega
  have hbf : 0 ≤ before ∧ before < 256 := by
    simp [Lit.wf, show IntKind.u8.min = 0 from by decide, show IntKind.u8.max = 255 from by decide] at h2
    omega
  obtain ⟨t, rfl⟩ : ∃ t : Nat, ticks = (t : Int) := ⟨ticks.toNat, by omega⟩
  obtain ⟨bf, rfl⟩ : ∃ t : Nat, before = (t : Int) := ⟨before.toNat, by omega⟩
  have hby := bytes_of_row h0
  have hnil := nil_cap h0
  have hcm := row_le h0
  have hby' : Hid ((z.take len).length = len ∧ Bytes w a (z.take len)) := hby
  have hnil' : Hid (a = none → cap = 0) := hnil
  have hcm' : (len : Int) ≤ 9223372036854775807 := by have := hcm.1; have := hcm.2; unfold maxLen at this; omega
  clear h0 h1 h2 hby hnil hcm
  go_enter Try.func5, Try.ntmps5
  go_wp2_with fail
  refine (new_yes 2 w (by decide) (by decide)).mono ?_
  rintro e w1 ⟨rfl, hS1, hB1⟩
  have hS1' : Hid (Sd w1 w.heap.size (w.heap.size + 1) w.heap.size (s0 2 0)) := hS1
  clear hS1
  generalize hsb : w.heap.size + 1 = sb at *
  have hN : Hid (w.heap.size ≤ sb) := by show _ ≤ _; omega
  clear hsb
  have k2 := ack_ok 0 0 9 hS1'.out (may_s0 (by decide) (by decide))
  rw [ack_s0 (by decide) (by decide) (by decide)] at k2
  go_wp2_with (first | (go_at_call 18; refine k2.mono ?_; rintro e w2 ⟨rfl, hS2, hK2⟩; clear k2) | (go_at_call 9; refine (alive_any w2).mono ?_; rintro e w3 ⟨rfl, hb3⟩; have hS3 : Hid (Sd w3 w.heap.size sb w.heap.size (s0 2 9)) := hS2.out.kept hb3.out; have hB3 : Hid (Below w.heap.size w w3) := (hK2.out.below hB1.out hB1.out.size hN.out (Nat.le_refl _)).trans (hb3.out.mono (Nat.le_trans hB1.out.size hK2.out.size)); clear hS2 hK2 hb3 hB1) | fail)
  have hS3' := hS3.out
  by_cases hl : 1200 < len
  · have hE : pushE (s0 2 9) len 0 = 8 := by unfold pushE; rw [if_neg (by decide), if_pos hl]
    have k4 := push_bad a len cap 0 hS3' (by rw [hE]; decide) hcm'
    rw [hE] at k4
    refine k4.mono ?_
    rintro e w4 ⟨rfl, hb4⟩
    have hB4 : Hid (Below w.heap.size w w4) := hB3.out.trans (hb4.out.mono hB3.out.size)
    clear hS3 hS3' hb4 hB3 hl hE k4 ht hbf
    go_wp2
    go_ret
    exact ⟨rfl, hB4.out⟩
  · have hE : pushE (s0 2 9) len 0 = 0 := by
      unfold pushE
      rw [if_neg (by decide), if_neg hl, if_neg (by show ¬ ((9 : Int) < 1 ∨ (2 : Int) ≤ 1 - 1); omega)]
    refine (push_ok a len cap (z.take len) 0 hS3' hE hB3.out.size hby'.out.1 hnil'.out (hby'.out.2.kept hB3.out)).mono ?_
    rintro e w4 ⟨rfl, en, hen, hS4, hK4⟩
    have hAg : Hid (Ag (addA (s0 2 9) en) 0 0) := ⟨rfl, rfl, by omega, en, by show (if (1 : Int) = 1 then some en else none) = _; rw [if_pos rfl], hen.out.2.2.2.1, by rw [hen.out.2.1]; omega, by rw [hen.out.2.2.1]; omega, by rw [hen.out.2.2.1]; omega⟩
    have hB4 : Hid (Below w.heap.size w w4) := hK4.out.below hB3.out hB3.out.size hN.out (Nat.le_refl _)
    generalize addA (s0 2 9) en = s4 at *
    obtain ⟨M, hM⟩ : ∃ M : Nat, Hid (M = t % 2000 + bf ∧ M < 2256) := ⟨_, rfl, by omega⟩
    have hM9 : Hid (M < 2256) := hM.out.2
    clear hS3 hS3' hB3 hl hE hK4 hen
    go_wp2
    have hsum : (t : Int) % 2000 + (bf : Int) = (M : Int) := by have := hM.out; omega
    rw [hsum]
    clear hsum ht hbf hcm' hby' hnil' hS1'
    clear hM
    have hM : Hid (M < 2256) := hM9.out
    go_loopw [11, 12, 13, 49] (fun s11 _ _ s49 wr => ∃ (i : Nat) (s : St) (last : Int), i ≤ M ∧ s49 = .int .i64 (i : Nat) ∧ s11 = .int .i64 last ∧ Hid (Ag s i last) ∧ Hid (Sd wr w.heap.size sb w.heap.size s) ∧ Hid (Below w.heap.size w wr)) (fun _ _ _ i _ => M - (intOf i).toNat)
    case atStart => exact ⟨0, s4, 0, Nat.zero_le _, rfl, rfl, hAg, hS4, hB4⟩
    case round =>
      obtain ⟨i, s, last, hi, rfl, rfl, hG, hS, hB⟩ := hrel
      clear hS4 hB4 hAg
      by_cases hlt : i < M
      · have hd : decide ((i : Int) < (M : Int)) = true := by simp; omega
        have hbd : Hid (i < 2256) := by have := hM.out; show _ < _; omega
        have hwi : IntKind.i64.wrap ((i : Int) + 1) = (i : Int) + 1 := by have := hbd.out; rw [IntKind.wrap_i64]; omega
        have htm : timeB (i : Int) = true := by have := hbd.out; simp [timeB]; omega
        obtain ⟨e, hL⟩ : ∃ e, s.L 1 = some e := by obtain ⟨_, _, _, e, h, _⟩ := hG.out; exact ⟨e, h⟩
        have k5 := due_ok (i : Int) hS.out htm
        rw [show (s.nxt - s.base).toNat = 1 by rw [hG.out.1, hG.out.2.1]; rfl] at k5
        by_cases ht1 : e.time ≤ (i : Int)
        · obtain ⟨hG2, z1, hz1⟩ := ag_told hG.out hL ht1
          have hG2' : Hid (Ag (dueA s i) (i + 1) i) := hG2
          have hw0 : IntKind.i64.wrap ((i : Int) - (i : Int)) = 0 := by rw [IntKind.wrap_i64]; omega
          have hz1' : Hid (dueL s i 1 = [(1, z1)]) := hz1
          clear hG2 hz1 ht1 hL htm
          go_wp2_with (go_at_call 16; refine k5.mono ?_; rintro e5 w5 ⟨v5, L5, rfl, hT5, hL5, hS5, hU5, hK5⟩; obtain ⟨a5, n5, c5, rfl, hn5, hc5, hm5⟩ := hT5.out.form; obtain rfl : n5 = 1 := (by rw [hn5, show L5.length = (plainT L5).length by simp [plainT], hL5.out, hz1'.out]; rfl); have hB5 : Hid (Below w.heap.size w w5) := hK5.out.below hB.out hB.out.size hN.out (Nat.le_refl _); clear hn5 k5 hK5)
          exact ⟨⟨i + 1, _, _, by omega, by simp, rfl, hG2', hS5, hB5⟩, by simp [intOf]; omega⟩
        · obtain ⟨hG2, hz1⟩ := ag_not hG.out hL ht1
          have hG2' : Hid (Ag (dueA s i) (i + 1) last) := hG2
          have hlast : Hid (0 ≤ last ∧ last ≤ i ∧ (i : Int) < last + 64) := by
            obtain ⟨_, _, h3, e', hL', _, h5, _⟩ := hG.out
            rw [hL] at hL'
            cases hL'
            show _ ∧ _ ∧ _
            omega
          have hw0 : IntKind.i64.wrap ((i : Int) - last) = (i : Int) - last := by have := hlast.out; have := hbd.out; rw [IntKind.wrap_i64]; omega
          have hd2 : decide ((i : Int) - last > 64) = false := by have := hlast.out; simp; omega
          have hz1' : Hid (dueL s i 1 = []) := hz1
          clear hG2 hz1 ht1 hL htm
          go_wp2_with (go_at_call 16; refine k5.mono ?_; rintro e5 w5 ⟨v5, L5, rfl, hT5, hL5, hS5, hU5, hK5⟩; obtain ⟨a5, n5, c5, rfl, hn5, hc5, hm5⟩ := hT5.out.form; obtain rfl : n5 = 0 := (by rw [hn5, show L5.length = (plainT L5).length by simp [plainT], hL5.out, hz1'.out]; rfl); have hB5 : Hid (Below w.heap.size w w5) := hK5.out.below hB.out hB.out.size hN.out (Nat.le_refl _); clear hn5 k5 hK5)
          exact ⟨⟨i + 1, _, _, by omega, by simp, rfl, hG2', hS5, hB5⟩, by simp [intOf]; omega⟩
      · have hd : decide ((i : Int) < (M : Int)) = false := by simp; omega
        go_wp2
        go_ret
        exact ⟨rfl, hB.out⟩
end Go.Proofs.Ytjnoijpindbobaa
