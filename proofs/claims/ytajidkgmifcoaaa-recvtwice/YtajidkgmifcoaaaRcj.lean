/-
  A load that comes again, or that is refused, turns nothing.
-/
import Derived.Test.YtajidkgmifcoaaaRch
namespace Go.Proofs.Ytajidkgmifcoaaa
open Go.RowKit
set_option linter.unusedVariables false

theorem dataE_cases (s : Rc) (z : Int) (n : Nat) : dataE s z n = 0 ∨ dataE s z n = 1 ∨ dataE s z n = 8 ∨ dataE s z n = 13 ∨ dataE s z n = 17 := by
  unfold dataE
  repeat' split
  all_goals omega
/-- A number that was refused is refused again; one that came is old. -/
theorem again_old {s : Rc} {z : Int} {zs : List Int} (h : dataE s z zs.length = 0) : dataE (dataS s z zs) z 3 = 17 := by
  have hz := dataE_ok h
  unfold dataS
  rw [if_pos h]
  unfold dataE
  rw [if_neg (by omega), if_neg (by decide), if_pos (.inr (by show (if z = z then some zs else s.L z).isSome = true; rw [if_pos rfl]; rfl))]
theorem again_same {s : Rc} {z : Int} {zs : List Int} (h0 : dataE s z zs.length ≠ 0) (h8 : dataE s z zs.length ≠ 8) : dataE (dataS s z zs) z 3 = dataE s z zs.length := by
  unfold dataS
  rw [if_neg h0]
  unfold dataE at h0 h8 ⊢
  by_cases h1 : z < 1
  · rw [if_pos h1, if_pos h1]
  · rw [if_neg h1] at h0 h8
    rw [if_neg h1, if_neg h1, if_neg (by decide)]
    by_cases h2 : 1200 < zs.length
    · rw [if_pos h2] at h8; exact absurd rfl h8
    · rw [if_neg h2]
theorem bytes_three (w : World) : Bytes (w.alloc (.cells #[.int .u8 1, .int .u8 2, .int .u8 3] 5)) (some ⟨w.heap.size, 0, none⟩) [1, 2, 3] := by
  refine ⟨by simp, by simp [maxLen], .inr ⟨w.heap.size, 0, rfl, fun i hi => ?_⟩⟩
  rw [World.cell?_alloc_mark]
  match i, hi with
  | 0, _ => rfl
  | 1, _ => rfl
  | 2, _ => rfl
set_option maxRecDepth 100000 in
set_option maxHeartbeats 2000000 in
theorem wtwice (win : Int) (a : Option Addr) (len cap : Nat) (L : List Ac) (w : World) (hA : AcArg w a len cap L) (hr : len ≤ 4398046511104) :
    Calls Try.prog 7 #[.int .i64 win, .slice a len cap] w fun e w' => e = .returned (.bool true) ∧ Below w.heap.size w w' := by
  by_cases hw : 1 ≤ win ∧ win ≤ 32
  · have hwin : Hid (1 ≤ win ∧ win ≤ 32) := hw
    obtain ⟨hlen, hlc, hcm, hnil, hAc⟩ := hA
    have hAc' : Hid (Acs w a L) := hAc
    have hlen' : Hid (L.length = len) := hlen
    have hr' : Hid (len ≤ 4398046511104) := hr
    clear hAc hlen hw hr
    go_enter Try.func7, Try.ntmps7
    go_wp2_with fail
    refine (new_yes win w hwin.out.1 hwin.out.2).mono ?_
    rintro e w1 ⟨rfl, hS1, hB1⟩
    generalize hrb : w.heap.size = rb at *
    have hN : Hid (w.heap.size = rb) := hrb
    clear hrb
    go_wp2_with (go_at_call 11; refine (alive_any w1).mono ?_; rintro e w2 ⟨rfl, hb2⟩)
    have hS2 : Hid (Rv w2 rb (r0 win)) := hS1.out.kept hb2.out
    have hB2 : Hid (Below rb w w2) := hB1.out.trans (hb2.out.mono (by have := hB1.out.size; rw [hN.out] at this; exact this))
    clear hS1 hb2 hB1
    go_loopw [35] (fun s35 wr => ∃ (i : Nat) (s : Rc), i ≤ len ∧ s35 = .int .i64 (i : Nat) ∧ Hid (s.win = win ∧ s.tk ≤ (i : Int)) ∧ Hid (Rv wr rb s) ∧ Hid (Below rb w wr)) (fun i _ => len - (intOf i).toNat)
    case atStart => exact ⟨0, r0 win, Nat.zero_le _, rfl, ⟨rfl, Int.le_refl _⟩, hS2, hB2⟩
    case round =>
      obtain ⟨i, s, hi, rfl, hsw, hS, hB⟩ := hrel
      clear hS2 hB2
      by_cases hlt : i < len
      · have hd : decide ((i : Int) < (len : Int)) = true := by simp; omega
        obtain ⟨x, hx⟩ : ∃ x, L[i]? = some x := ⟨L[i]'(by rw [hlen'.out]; exact hlt), List.getElem?_eq_getElem _⟩
        have hz : Hid (rb ≤ wr.heap.size) := by have := hB.out.size; rw [hN.out] at this; exact this
        have hBw : Below w.heap.size w wr := by rw [hN.out]; exact hB.out
        obtain ⟨b, off, rfl, hbl, hc, hV⟩ := acs_at (hAc'.out.kept hBw) hx
        have d0 : wr.cell? ⟨b, off + i * 2, none⟩ = some (.int .i64 x.seq) := hc 0 (by decide)
        have d1 : wr.cell? ⟨b, off + i * 2 + 1, none⟩ = some (.slice x.a x.zs.length x.cap) := hc 1 (by decide)
        have hV' : Hid (AcV wr x) := hV
        have hal : Hid (Below wr.heap.size wr (wr.alloc (.cells #[.int .i64 x.seq, .slice x.a x.zs.length x.cap] 35))) := (Below.refl _ _).alloc (Nat.le_refl _) _
        have hSA : Hid (Rv (wr.alloc (.cells #[.int .i64 x.seq, .slice x.a x.zs.length x.cap] 35)) rb s) := hS.out.kept hal.out
        have hBA : Hid (Below rb w (wr.alloc (.cells #[.int .i64 x.seq, .slice x.a x.zs.length x.cap] 35))) := hB.out.trans (hal.out.mono hz.out)
        have hzA : Hid (rb ≤ (wr.alloc (.cells #[.int .i64 x.seq, .slice x.a x.zs.length x.cap] 35)).heap.size) := Nat.le_trans hz.out hal.out.size
        have htk : Hid (s.tk < 4611686018427387904) := by have := hsw.out.2; have := hr'.out; show _ < _; omega
        clear hc hV hx hBw hbl
        by_cases hq : x.seq = -7
        · have dq : (x.seq == -7) = true := by simp [hq]
          have k := take_step hSA.out htk.out
          clear hq
          go_wp2_with (go_at_call 12; refine k.mono ?_; rintro e w3 ⟨v, rfl, hS3, hK3⟩; clear k)
          have hC : Hid (At w w3 rb (takeS s)) := (At.turn ⟨hSA.out, hBA.out, hzA.out⟩ hS3.out hK3.out)
          exact ⟨⟨i + 1, takeS s, by omega, by simp, ⟨by rw [takeS_win]; exact hsw.out.1, by have := (takeS_tk s).2; have := hsw.out.2; omega⟩, hC.out.rv, hC.out.bel⟩, by simp [intOf]; omega⟩
        · have dq : (x.seq == -7) = false := by simpa using hq
          have k := data_step x.seq x.a x.zs.length x.cap x.zs hSA.out rfl hV'.out.2.2.2 (hV'.out.1.kept hal.out)
          have hE2 := fun (w3 : World) (h : Rv w3 rb (dataS s x.seq x.zs)) => data_step x.seq (some ⟨w3.heap.size, 0, none⟩) 3 3 [1, 2, 3] (h.alloc (.cells #[.int .u8 1, .int .u8 2, .int .u8 3] 5)) rfl (by simp) (bytes_three _)
          have hO := @again_old s x.seq x.zs
          have hSm := @again_same s x.seq x.zs
          have hD : Hid (dataE (dataS s x.seq x.zs) x.seq 3 ≠ 0 → dataS (dataS s x.seq x.zs) x.seq [1, 2, 3] = dataS s x.seq x.zs) := fun h => by
            show (if dataE (dataS s x.seq x.zs) x.seq 3 = 0 then _ else _) = _
            rw [if_neg h]
          have hsw2 : Hid ((dataS s x.seq x.zs).win = win ∧ (dataS s x.seq x.zs).tk ≤ ((i + 1 : Nat) : Int)) := ⟨by rw [dataS_win]; exact hsw.out.1, by rw [dataS_tk]; have := hsw.out.2; omega⟩
          have hsw3 : Hid ((dataS (dataS s x.seq x.zs) x.seq [1, 2, 3]).win = win ∧ (dataS (dataS s x.seq x.zs) x.seq [1, 2, 3]).tk ≤ ((i + 1 : Nat) : Int)) := ⟨by rw [dataS_win]; exact hsw2.out.1, by rw [dataS_tk]; exact hsw2.out.2⟩
          have hq := dataE_cases s x.seq x.zs.length
          generalize dataS (dataS s x.seq x.zs) x.seq [1, 2, 3] = s2 at *
          generalize dataE (dataS s x.seq x.zs) x.seq 3 = E2 at *
          generalize dataS s x.seq x.zs = s1 at *
          generalize dataE s x.seq x.zs.length = E1 at *
          have hA0 : Hid (At w (wr.alloc (.cells #[.int .i64 x.seq, .slice x.a x.zs.length x.cap] 35)) rb s) := ⟨hSA.out, hBA.out, hzA.out⟩
          have hBk : Hid (Blk (wr.alloc (.cells #[.int .i64 x.seq, .slice x.a x.zs.length x.cap] 35)) wr.heap.size #[.int .i64 x.seq, .slice x.a x.zs.length x.cap] 35) := blk_new _ _ _
          have hne : Hid (wr.heap.size ≠ rb) := by have := hS.out.lt; show _ ≠ _; omega
          clear hSA hBA hzA hal hS hB hz hV' htk hsw
          rcases hq with rfl | rfl | rfl | rfl | rfl
          · obtain rfl : E2 = 17 := hO rfl
            obtain rfl : s1 = s2 := (hD.out (by decide)).symm
            clear hO hSm hD
            go_wp2_with (go_at_call 15; refine k.mono ?_; rintro e w3 ⟨rfl, hS3, hK3⟩; clear k)
            have hC : Hid (At w w3 rb s1) := hA0.out.turn hS3.out hK3.out
            have hBk3 : Hid (Blk w3 wr.heap.size #[.int .i64 x.seq, .slice x.a x.zs.length x.cap] 35) := (hK3.out.block _ hBk.out.lt hne.out hne.out).trans hBk.out
            clear hA0 hS3 hK3 hBk
            refine (ack_k hC.out.rv).mono ?_
            rintro e w4 ⟨rfl, hb4⟩
            have hC4 : Hid (At w w4 rb s1) := hC.out.step hb4.out
            have y0 : w4.cell? ⟨wr.heap.size, 0, none⟩ = some (.int .i64 x.seq) := (hBk3.out.kept hb4.out).cell 0
            clear hC hb4 hBk3
            have k := hE2 w4 hC4.out.rv
            clear hE2
            go_wp2_with fail
            refine k.mono ?_
            rintro e w5 ⟨rfl, hS5, hK5⟩
            have hC5 : Hid (At w w5 rb s1) := (hC4.out.step ((Below.refl _ _).alloc (Nat.le_refl _) _)).turn hS5.out hK5.out
            clear k hC4 hS5 hK5
            go_wp2_with (go_at_call 17; refine (ack_k hC5.out.rv).mono ?_; rintro e w6 ⟨rfl, hb6⟩; have hC6 : Hid (At w w6 rb s1) := hC5.out.step hb6.out; clear hb6)
            exact ⟨⟨i + 1, s1, by omega, by simp, hsw3, hC6.out.rv, hC6.out.bel⟩, by simp [intOf]; omega⟩
          · obtain rfl : E2 = 1 := hSm (by decide) (by decide)
            obtain rfl : s1 = s2 := (hD.out (by decide)).symm
            clear hO hSm hD
            go_wp2_with (go_at_call 15; refine k.mono ?_; rintro e w3 ⟨rfl, hS3, hK3⟩; clear k)
            have hC : Hid (At w w3 rb s1) := hA0.out.turn hS3.out hK3.out
            have hBk3 : Hid (Blk w3 wr.heap.size #[.int .i64 x.seq, .slice x.a x.zs.length x.cap] 35) := (hK3.out.block _ hBk.out.lt hne.out hne.out).trans hBk.out
            clear hA0 hS3 hK3 hBk
            refine (ack_k hC.out.rv).mono ?_
            rintro e w4 ⟨rfl, hb4⟩
            have hC4 : Hid (At w w4 rb s1) := hC.out.step hb4.out
            have y0 : w4.cell? ⟨wr.heap.size, 0, none⟩ = some (.int .i64 x.seq) := (hBk3.out.kept hb4.out).cell 0
            clear hC hb4 hBk3
            have k := hE2 w4 hC4.out.rv
            clear hE2
            go_wp2_with fail
            refine k.mono ?_
            rintro e w5 ⟨rfl, hS5, hK5⟩
            have hC5 : Hid (At w w5 rb s1) := (hC4.out.step ((Below.refl _ _).alloc (Nat.le_refl _) _)).turn hS5.out hK5.out
            clear k hC4 hS5 hK5
            go_wp2_with (go_at_call 17; refine (ack_k hC5.out.rv).mono ?_; rintro e w6 ⟨rfl, hb6⟩; have hC6 : Hid (At w w6 rb s1) := hC5.out.step hb6.out; clear hb6)
            exact ⟨⟨i + 1, s1, by omega, by simp, hsw3, hC6.out.rv, hC6.out.bel⟩, by simp [intOf]; omega⟩
          · clear hO hSm hD
            go_wp2_with (go_at_call 15; refine k.mono ?_; rintro e w3 ⟨rfl, hS3, hK3⟩; clear k)
            have hC : Hid (At w w3 rb s1) := hA0.out.turn hS3.out hK3.out
            have hBk3 : Hid (Blk w3 wr.heap.size #[.int .i64 x.seq, .slice x.a x.zs.length x.cap] 35) := (hK3.out.block _ hBk.out.lt hne.out hne.out).trans hBk.out
            clear hA0 hS3 hK3 hBk
            refine (ack_k hC.out.rv).mono ?_
            rintro e w4 ⟨rfl, hb4⟩
            have hC4 : Hid (At w w4 rb s1) := hC.out.step hb4.out
            have y0 : w4.cell? ⟨wr.heap.size, 0, none⟩ = some (.int .i64 x.seq) := (hBk3.out.kept hb4.out).cell 0
            clear hC hb4 hBk3
            have k := hE2 w4 hC4.out.rv
            clear hE2
            go_wp2_with fail
            refine k.mono ?_
            rintro e w5 ⟨rfl, hS5, hK5⟩
            have hC5 : Hid (At w w5 rb s2) := (hC4.out.step ((Below.refl _ _).alloc (Nat.le_refl _) _)).turn hS5.out hK5.out
            clear k hC4 hS5 hK5
            go_wp2_with (go_at_call 17; refine (ack_k hC5.out.rv).mono ?_; rintro e w6 ⟨rfl, hb6⟩; have hC6 : Hid (At w w6 rb s2) := hC5.out.step hb6.out; clear hb6)
            exact ⟨⟨i + 1, s2, by omega, by simp, hsw3, hC6.out.rv, hC6.out.bel⟩, by simp [intOf]; omega⟩
          · obtain rfl : E2 = 13 := hSm (by decide) (by decide)
            obtain rfl : s1 = s2 := (hD.out (by decide)).symm
            clear hO hSm hD
            go_wp2_with (go_at_call 15; refine k.mono ?_; rintro e w3 ⟨rfl, hS3, hK3⟩; clear k)
            have hC : Hid (At w w3 rb s1) := hA0.out.turn hS3.out hK3.out
            have hBk3 : Hid (Blk w3 wr.heap.size #[.int .i64 x.seq, .slice x.a x.zs.length x.cap] 35) := (hK3.out.block _ hBk.out.lt hne.out hne.out).trans hBk.out
            clear hA0 hS3 hK3 hBk
            refine (ack_k hC.out.rv).mono ?_
            rintro e w4 ⟨rfl, hb4⟩
            have hC4 : Hid (At w w4 rb s1) := hC.out.step hb4.out
            have y0 : w4.cell? ⟨wr.heap.size, 0, none⟩ = some (.int .i64 x.seq) := (hBk3.out.kept hb4.out).cell 0
            clear hC hb4 hBk3
            have k := hE2 w4 hC4.out.rv
            clear hE2
            go_wp2_with fail
            refine k.mono ?_
            rintro e w5 ⟨rfl, hS5, hK5⟩
            have hC5 : Hid (At w w5 rb s1) := (hC4.out.step ((Below.refl _ _).alloc (Nat.le_refl _) _)).turn hS5.out hK5.out
            clear k hC4 hS5 hK5
            go_wp2_with (go_at_call 17; refine (ack_k hC5.out.rv).mono ?_; rintro e w6 ⟨rfl, hb6⟩; have hC6 : Hid (At w w6 rb s1) := hC5.out.step hb6.out; clear hb6)
            exact ⟨⟨i + 1, s1, by omega, by simp, hsw3, hC6.out.rv, hC6.out.bel⟩, by simp [intOf]; omega⟩
          · obtain rfl : E2 = 17 := hSm (by decide) (by decide)
            obtain rfl : s1 = s2 := (hD.out (by decide)).symm
            clear hO hSm hD
            go_wp2_with (go_at_call 15; refine k.mono ?_; rintro e w3 ⟨rfl, hS3, hK3⟩; clear k)
            have hC : Hid (At w w3 rb s1) := hA0.out.turn hS3.out hK3.out
            have hBk3 : Hid (Blk w3 wr.heap.size #[.int .i64 x.seq, .slice x.a x.zs.length x.cap] 35) := (hK3.out.block _ hBk.out.lt hne.out hne.out).trans hBk.out
            clear hA0 hS3 hK3 hBk
            refine (ack_k hC.out.rv).mono ?_
            rintro e w4 ⟨rfl, hb4⟩
            have hC4 : Hid (At w w4 rb s1) := hC.out.step hb4.out
            have y0 : w4.cell? ⟨wr.heap.size, 0, none⟩ = some (.int .i64 x.seq) := (hBk3.out.kept hb4.out).cell 0
            clear hC hb4 hBk3
            have k := hE2 w4 hC4.out.rv
            clear hE2
            go_wp2_with fail
            refine k.mono ?_
            rintro e w5 ⟨rfl, hS5, hK5⟩
            have hC5 : Hid (At w w5 rb s1) := (hC4.out.step ((Below.refl _ _).alloc (Nat.le_refl _) _)).turn hS5.out hK5.out
            clear k hC4 hS5 hK5
            go_wp2_with (go_at_call 17; refine (ack_k hC5.out.rv).mono ?_; rintro e w6 ⟨rfl, hb6⟩; have hC6 : Hid (At w w6 rb s1) := hC5.out.step hb6.out; clear hb6)
            exact ⟨⟨i + 1, s1, by omega, by simp, hsw3, hC6.out.rv, hC6.out.bel⟩, by simp [intOf]; omega⟩
      · have hd : decide ((i : Int) < (len : Int)) = false := by simp; omega
        go_wp2
        go_ret
        exact ⟨rfl, by rw [hN.out]; exact hB.out⟩
  · have hno : win < 1 ∨ 32 < win := by omega
    clear hA hw
    go_enter Try.func7, Try.ntmps7
    go_wp2_with fail
    refine (new_no win w hno).mono ?_
    rintro e w1 ⟨rfl, hw1⟩
    obtain rfl := hw1.symm
    go_wp2_with (go_at_call 11; refine (alive_any w).mono ?_; rintro e w2 ⟨rfl, hb2⟩)
    go_ret
    exact ⟨rfl, hb2.out⟩
end Go.Proofs.Ytajidkgmifcoaaa
