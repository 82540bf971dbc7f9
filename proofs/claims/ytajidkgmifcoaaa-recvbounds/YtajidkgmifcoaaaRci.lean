/-
  Never more than window held; neither the ack nor the credit falls.
-/
import Derived.Test.YtajidkgmifcoaaaRch
namespace Go.Proofs.Ytajidkgmifcoaaa
open Go.RowKit
set_option linter.unusedVariables false

set_option maxRecDepth 100000 in
set_option maxHeartbeats 2000000 in
theorem wbounds (win : Int) (a : Option Addr) (len cap : Nat) (L : List Ac) (w : World) (hA : AcArg w a len cap L) (hr : len ≤ 4398046511104) :
    Calls Try.prog 5 #[.int .i64 win, .slice a len cap] w fun e w' => e = .returned (.bool true) ∧ Below w.heap.size w w' := by
  by_cases hw : 1 ≤ win ∧ win ≤ 32
  · have hwin : Hid (1 ≤ win ∧ win ≤ 32) := hw
    obtain ⟨hlen, hlc, hcm, hnil, hAc⟩ := hA
    have hAc' : Hid (Acs w a L) := hAc
    have hlen' : Hid (L.length = len) := hlen
    have hr' : Hid (len ≤ 4398046511104) := hr
    clear hAc hlen hw hr
    go_enter Try.func5, Try.ntmps5
    go_wp2_with fail
    refine (new_yes win w hwin.out.1 hwin.out.2).mono ?_
    rintro e w1 ⟨rfl, hS1, hB1⟩
    generalize hrb : w.heap.size = rb at *
    have hN : Hid (w.heap.size = rb) := hrb
    clear hrb
    go_wp2_with (go_at_call 11; refine (alive_any w1).mono ?_; rintro e w2 ⟨rfl, hb2⟩)
    have hS2 : Hid (Rv w2 rb (r0 win)) := hS1.out.kept hb2.out
    have hB2 : Hid (Below rb w w2) := hB1.out.trans (hb2.out.mono (by have := hB1.out.size; rw [hN.out] at this; exact this))
    clear hS1 hb2 hB1
    go_loopw [7, 8, 33] (fun s7 s8 s33 wr => ∃ (i : Nat) (s : Rc), i ≤ len ∧ s33 = .int .i64 (i : Nat) ∧ s7 = .int .i64 (ackN s) ∧ s8 = .int .i64 (s.tk + s.win) ∧ Hid (s.win = win ∧ s.tk ≤ (i : Int)) ∧ Hid (Rv wr rb s) ∧ Hid (Below rb w wr)) (fun _ _ i _ => len - (intOf i).toNat)
    case atStart => exact ⟨0, r0 win, Nat.zero_le _, rfl, by rw [show ackN (r0 win) = 0 from rfl], by show _ = Value.int .i64 (0 + win); rw [Int.zero_add], ⟨rfl, Int.le_refl _⟩, hS2, hB2⟩
    case round =>
      obtain ⟨i, s, hi, rfl, rfl, rfl, hsw, hS, hB⟩ := hrel
      clear hS2 hB2
      by_cases hlt : i < len
      · have hd : decide ((i : Int) < (len : Int)) = true := by simp; omega
        obtain ⟨x, hx⟩ : ∃ x, L[i]? = some x := ⟨L[i]'(by rw [hlen'.out]; exact hlt), List.getElem?_eq_getElem _⟩
        have hz : Hid (rb ≤ wr.heap.size) := by have := hB.out.size; rw [hN.out] at this; exact this
        have hBw : Below w.heap.size w wr := by rw [hN.out]; exact hB.out
        obtain ⟨b, off, rfl, hbl, hc, hV⟩ := acs_at (hAc'.out.kept hBw) hx
        have d0 : wr.cell? ⟨b, off + i * 2, none⟩ = some (.int .i64 x.seq) := hc 0 (by decide)
        have d1 : wr.cell? ⟨b, off + i * 2 + 1, none⟩ = some (.slice x.a x.zs.length x.cap) := hc 1 (by decide)
        have hV' : Hid (AcV wr x) := hV
        have hal : Hid (Below wr.heap.size wr (wr.alloc (.cells #[.int .i64 x.seq, .slice x.a x.zs.length x.cap] 35))) := (Below.refl _ _).alloc (Nat.le_refl _) _
        have hSA : Hid (Rv (wr.alloc (.cells #[.int .i64 x.seq, .slice x.a x.zs.length x.cap] 35)) rb s) := hS.out.kept hal.out
        have hBA : Hid (Below rb w (wr.alloc (.cells #[.int .i64 x.seq, .slice x.a x.zs.length x.cap] 35))) := hB.out.trans (hal.out.mono hz.out)
        have hzA : Hid (rb ≤ (wr.alloc (.cells #[.int .i64 x.seq, .slice x.a x.zs.length x.cap] 35)).heap.size) := Nat.le_trans hz.out hal.out.size
        have htk : Hid (s.tk < 4611686018427387904) := by have := hsw.out.2; have := hr'.out; show _ < _; omega
        clear hc hV hx hBw hbl
        -- what stands behind either call
        have rest : Hid (∀ (s' : Rc) (w3 : World), Rv w3 rb s' → Below rb w w3 → s'.win = win → s'.tk ≤ ((i + 1 : Nat) : Int) → ackN s ≤ ackN s' → s.tk + s.win ≤ s'.tk + s'.win →
            (decide (ackN s' < ackN s) = false ∧ decide (s'.tk + s'.win < s.tk + s.win) = false ∧ IntKind.i64.wrap (s'.tk + s'.win - ackN s') = s'.tk + s'.win - ackN s' ∧ decide (s'.tk + s'.win - ackN s' > win) = false ∧ decide (s'.tk + s'.win < ackN s') = false
              ∧ decide ((hld s' : Int) > win) = false ∧ decide ((rdy s' : Int) > (hld s' : Int)) = false ∧ IntKind.i64.wrap (s'.tk + (rdy s' : Int)) = ackN s' ∧ decide (win < 64) = true ∧ ackB s' / 2 ^ win.toNat = 0)) := by
          intro s' w3 hR hBw he1 he2 he3 he4
          have o1 := hR.ok.w1
          have o2 := hR.ok.w2
          have o3 := hR.ok.t1
          have o4 := hR.ok.t2
          have o5 := rdy_le hR.ok
          have o6 := rdy_hld hR.ok
          have o7 := hld_le hR.ok
          have o8 := ackB_low hR.ok
          rw [he1] at o8
          have o9 : ackN s' = s'.tk + (rdy s' : Int) := rfl
          refine ⟨by simp; omega, by simp; omega, by rw [IntKind.wrap_i64]; omega, by simp; omega, by simp; omega, by simp; omega, by simp; omega, by rw [IntKind.wrap_i64]; omega, by simp; omega, o8⟩
        by_cases hq : x.seq = -7
        · have dq : (x.seq == -7) = true := by simp [hq]
          have k := take_step hSA.out htk.out
          clear hq
          go_wp2_with (go_at_call 12; refine k.mono ?_; rintro e w3 ⟨v, rfl, hS3, hK3⟩; clear k)
          have hC : Hid (At w w3 rb (takeS s)) := (At.turn ⟨hSA.out, hBA.out, hzA.out⟩ hS3.out hK3.out)
          obtain ⟨f1, f2, f3, f4, f5, f6, f7, f8, f9, f10⟩ := rest.out (takeS s) w3 hC.out.rv hC.out.bel (by rw [takeS_win]; exact hsw.out.1) (by have := (takeS_tk s).2; have := hsw.out.2; omega) (by rw [ack_take hSA.out.ok hS3.out.ok]; exact Int.le_refl _) (by rw [takeS_win]; have := (takeS_tk s).1; omega)
          have hsw3 : Hid (((takeS s)).win = win ∧ ((takeS s)).tk ≤ ((i + 1 : Nat) : Int)) := ⟨by rw [takeS_win]; exact hsw.out.1, by have := (takeS_tk s).2; have := hsw.out.2; omega⟩
          have f11 : decide (win < 0) = false := by have := hwin.out; simp; omega
          clear rest hSA hBA hzA hal hS hB hz hS3 hK3 hV' d0 d1 dq htk hsw
          generalize (takeS s) = s' at *
          have g0 := hwin.out
          have f12 : rdy s' ≤ hld s' := rdy_hld hC.out.rv.ok
          go_wp2_with (first
            | (go_at_call 17; refine (ack_k hC.out.rv).mono ?_; rintro e wn ⟨rfl, hbn⟩; have hC : Hid (At w wn rb s') := hC.out.step hbn.out; clear hbn)
            | (go_at_call 22; refine (held_any hC.out.rv).mono ?_; rintro e wn ⟨rfl, hbn⟩; have hC : Hid (At w wn rb s') := hC.out.step hbn.out; clear hbn)
            | (go_at_call 20; refine (ready_k hC.out.rv).mono ?_; rintro e wn ⟨rfl, hbn⟩; have hC : Hid (At w wn rb s') := hC.out.step hbn.out; clear hbn)
            | (go_at_call 19; refine (taken_any hC.out.rv).mono ?_; rintro e wn ⟨rfl, hbn⟩; obtain rfl := hbn.symm; clear hbn))
          exact ⟨⟨i + 1, s', by omega, by simp, rfl, rfl, hsw3, hC.out.rv, hC.out.bel⟩, by simp [intOf]; omega⟩
        · have dq : (x.seq == -7) = false := by simpa using hq
          have k := data_step x.seq x.a x.zs.length x.cap x.zs hSA.out rfl hV'.out.2.2.2 (hV'.out.1.kept hal.out)
          clear hq
          go_wp2_with (go_at_call 15; refine k.mono ?_; rintro e w3 ⟨rfl, hS3, hK3⟩; clear k)
          have hC : Hid (At w w3 rb (dataS s x.seq x.zs)) := (At.turn ⟨hSA.out, hBA.out, hzA.out⟩ hS3.out hK3.out)
          obtain ⟨f1, f2, f3, f4, f5, f6, f7, f8, f9, f10⟩ := rest.out (dataS s x.seq x.zs) w3 hC.out.rv hC.out.bel (by rw [dataS_win]; exact hsw.out.1) (by rw [dataS_tk]; have := hsw.out.2; omega) (ack_data hSA.out.ok hS3.out.ok) (by rw [dataS_win, dataS_tk]; exact Int.le_refl _)
          have hsw3 : Hid (((dataS s x.seq x.zs)).win = win ∧ ((dataS s x.seq x.zs)).tk ≤ ((i + 1 : Nat) : Int)) := ⟨by rw [dataS_win]; exact hsw.out.1, by rw [dataS_tk]; have := hsw.out.2; omega⟩
          have f11 : decide (win < 0) = false := by have := hwin.out; simp; omega
          clear rest hSA hBA hzA hal hS hB hz hS3 hK3 hV' d0 d1 dq htk hsw
          generalize (dataS s x.seq x.zs) = s' at *
          have g0 := hwin.out
          have f12 : rdy s' ≤ hld s' := rdy_hld hC.out.rv.ok
          go_wp2_with (first
            | (go_at_call 17; refine (ack_k hC.out.rv).mono ?_; rintro e wn ⟨rfl, hbn⟩; have hC : Hid (At w wn rb s') := hC.out.step hbn.out; clear hbn)
            | (go_at_call 22; refine (held_any hC.out.rv).mono ?_; rintro e wn ⟨rfl, hbn⟩; have hC : Hid (At w wn rb s') := hC.out.step hbn.out; clear hbn)
            | (go_at_call 20; refine (ready_k hC.out.rv).mono ?_; rintro e wn ⟨rfl, hbn⟩; have hC : Hid (At w wn rb s') := hC.out.step hbn.out; clear hbn)
            | (go_at_call 19; refine (taken_any hC.out.rv).mono ?_; rintro e wn ⟨rfl, hbn⟩; obtain rfl := hbn.symm; clear hbn))
          exact ⟨⟨i + 1, s', by omega, by simp, rfl, rfl, hsw3, hC.out.rv, hC.out.bel⟩, by simp [intOf]; omega⟩
      · have hd : decide ((i : Int) < (len : Int)) = false := by simp; omega
        go_wp2
        go_ret
        exact ⟨rfl, by rw [hN.out]; exact hB.out⟩
  · have hno : win < 1 ∨ 32 < win := by omega
    clear hA hw
    go_enter Try.func5, Try.ntmps5
    go_wp2_with fail
    refine (new_no win w hno).mono ?_
    rintro e w1 ⟨rfl, hw1⟩
    obtain rfl := hw1.symm
    go_wp2_with (go_at_call 11; refine (alive_any w).mono ?_; rintro e w2 ⟨rfl, hb2⟩)
    go_ret
    exact ⟨rfl, hb2.out⟩
end Go.Proofs.Ytajidkgmifcoaaa
