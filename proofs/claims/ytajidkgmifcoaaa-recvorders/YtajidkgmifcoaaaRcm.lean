/-
  The walk of the law on orders.
-/
import Derived.Test.YtajidkgmifcoaaaRcl
namespace Go.Proofs.Ytajidkgmifcoaaa
open Go.RowKit
set_option linter.unusedVariables false
set_option maxRecDepth 100000 in
set_option maxHeartbeats 2000000 in
theorem worders (win : Int) (a : Option Addr) (len cap : Nat) (L : List Ac) (w : World) (hA : AcArg w a len cap L) (hr : len ≤ 4398046511104) :
    Calls Try.prog 4 #[.int .i64 win, .slice a len cap] w fun e w' => e = .returned (.bool true) ∧ Below w.heap.size w w' := by
  by_cases hw : 1 ≤ win ∧ win ≤ 32
  · have hwin : Hid (1 ≤ win ∧ win ≤ 32) := hw
    obtain ⟨hlen, hlc, hcm, hnil, hAc⟩ := hA
    have hAc' : Hid (Acs w a L) := hAc
    have hlen' : Hid (L.length = len) := hlen
    have hr' : Hid (len ≤ 4398046511104) := hr
    clear hAc hlen hw hr
    go_enter Try.func4, Try.ntmps4
    go_wp2_with fail
    refine (new_yes win w hwin.out.1 hwin.out.2).mono ?_
    rintro e w1 ⟨rfl, hS1, hB1⟩
    generalize hrb : w.heap.size = rb at *
    have hN : Hid (w.heap.size = rb) := hrb
    clear hrb
    have hmk := fun x => run_makeMap (P := Try.prog) 46 x
    go_wp2_with (go_at_call 11; refine (alive_any w1).mono ?_; rintro e w2 ⟨rfl, hb2⟩; have hS2 : Hid (Rv w2 rb (r0 win)) := hS1.out.kept hb2.out; have hB2 : Hid (Below rb w w2) := hB1.out.trans (hb2.out.mono (by have := hB1.out.size; rw [hN.out] at this; exact this)); clear hS1 hb2 hB1)
    have hI0 : Hid (OI w (w2.alloc (.map #[] 0)) rb w2.heap.size 0 win (r0 win) (fun _ => none) (fun _ => none) 0) := by
      have hz : rb ≤ w2.heap.size := by have := hB2.out.size; rw [hN.out] at this; exact this
      exact ⟨⟨hS2.out.alloc _, hB2.out.alloc hz _, by simp; omega⟩, mapI_new w2, hS2.out.lt, Nat.le_refl _, rfl, Int.le_refl _, fun z _ => rfl, fun z _ => rfl, fun z l h => by cases h⟩
    generalize hmb : w2.heap.size = mb at *
    clear hS2 hB2 hmk hmb
    go_loopw [8, 36] (fun s8 s36 wr => ∃ (i : Nat) (s : Rc) (f : Int → Option Value) (P : Int → Option (List Int)) (n : Nat), i ≤ len ∧ s36 = .int .i64 (i : Nat) ∧ s8 = .int .i64 s.tk ∧ Hid (OI w wr rb mb i win s f P n)) (fun _ i _ => len - (intOf i).toNat)
    case atStart => exact ⟨0, r0 win, _, _, _, Nat.zero_le _, rfl, rfl, hI0⟩
    case round =>
      obtain ⟨i, s, f, P, n, hi, rfl, rfl, hI⟩ := hrel
      clear hI0
      by_cases hlt : i < len
      · have hd : decide ((i : Int) < (len : Int)) = true := by simp; omega
        obtain ⟨x, hx⟩ : ∃ x, L[i]? = some x := ⟨L[i]'(by rw [hlen'.out]; exact hlt), List.getElem?_eq_getElem _⟩
        have hBw : Hid (Below w.heap.size w wr) := by rw [hN.out]; exact hI.out.at_.bel
        obtain ⟨b, off, rfl, hbl, hc, hV⟩ := acs_at hAc'.out hx
        have d0 : wr.cell? ⟨b, off + i * 2, none⟩ = some (.int .i64 x.seq) := by rw [hBw.out.cell (p := ⟨b, off + i * 2, none⟩) hbl]; exact hc 0 (by decide)
        have d1 : wr.cell? ⟨b, off + i * 2 + 1, none⟩ = some (.slice x.a x.zs.length x.cap) := by rw [hBw.out.cell (p := ⟨b, off + i * 2 + 1, none⟩) hbl]; exact hc 1 (by decide)
        have hV' : Hid (AcV w x) := hV
        have hal : Hid (Below wr.heap.size wr (wr.alloc (.cells #[.int .i64 x.seq, .slice x.a x.zs.length x.cap] 35))) := (Below.refl _ _).alloc (Nat.le_refl _) _
        have hIA : Hid (OI w (wr.alloc (.cells #[.int .i64 x.seq, .slice x.a x.zs.length x.cap] 35)) rb mb i win s f P n) := hI.out.step hal.out
        have hVA : Hid (AcV (wr.alloc (.cells #[.int .i64 x.seq, .slice x.a x.zs.length x.cap] 35)) x) := (hV'.out.kept hBw.out).kept hal.out
        have hBk : Hid (Blk (wr.alloc (.cells #[.int .i64 x.seq, .slice x.a x.zs.length x.cap] 35)) wr.heap.size #[.int .i64 x.seq, .slice x.a x.zs.length x.cap] 35) := blk_new _ _ _
        have hne : Hid (wr.heap.size ≠ rb) := by have := hI.out.at_.rv.lt; show _ ≠ _; omega
        have htk : Hid (0 ≤ s.tk ∧ s.tk < 4611686018427387904) := ⟨hI.out.at_.rv.ok.t1, by have := hI.out.tk; have := hr'.out; omega⟩
        clear hc hV hx hbl hI hal
        by_cases hq : x.seq = -7
        · have dq : (x.seq != -7) = false := by simp [hq]
          have hw1 : IntKind.i64.wrap (s.tk + 1) = s.tk + 1 := by have := htk.out; rw [IntKind.wrap_i64]; omega
          clear hq
          cases hL : s.L (s.tk + 1) with
          | none =>
            have hP : P (s.tk + 1) = none := by rw [hIA.out.hL _ (by omega)]; exact hL
            have hf := hIA.out.no _ hP
            have k := take_k hIA.out.at_.rv hL
            clear hP hL
            go_wp2_with fail
            refine k.mono ?_
            rintro e w3 ⟨rfl, hb3⟩
            have hI3 : Hid (OI w w3 rb mb i win s f P n) := hIA.out.step hb3.out
            have hlk := hI3.out.mp.look2 (z := s.tk + 1) (by have := htk.out; omega)
            rw [hf] at hlk
            simp only [Option.getD_none, Option.isSome_none, zE] at hlk
            have kS := same_any none none 0 0 0 0 [] [] w3 ⟨by simp, by simp, .inl rfl⟩ ⟨by simp, by simp, .inl rfl⟩ rfl rfl
            rw [show decide (([] : List Int) = []) = true by simp] at kS
            clear hIA hb3 hf k hBk hVA hV'
            go_wp2_with (go_at_call 14; refine kS.mono ?_; rintro e wn ⟨rfl, hbn⟩; obtain rfl := hbn.symm; clear hbn kS)
            exact ⟨⟨i + 1, s, f, P, n, by omega, by simp, rfl, hI3.out.more⟩, by simp [intOf]; omega⟩
          | some l =>
            have hP : P (s.tk + 1) = some l := by rw [hIA.out.hL _ (by omega)]; exact hL
            obtain ⟨u, hf, ua, uc, rfl, ub, u0, ul, um⟩ := hIA.out.yes _ _ hP
            have k := take_yes l hIA.out.at_.rv htk.out.2 hL
            have ub' : Hid (Bytes w ua l) := ub
            clear hP hL ub
            go_wp2_with fail
            refine k.mono ?_
            rintro e w3 ⟨g3, n3, c3, rfl, hS3, hR3, hK3⟩
            have hI3 : Hid (OI w w3 rb mb (i + 1) win (takeA s) f P n) := hIA.out.take hR3.out hK3.out
            have hlk := hI3.out.mp.look2 (z := s.tk + 1) (by have := htk.out; omega)
            rw [hf] at hlk
            simp only [Option.getD_some, Option.isSome_some] at hlk
            have kS := same_any (some ⟨g3, 0, none⟩) ua n3 l.length c3 uc l l w3 hS3.out.by_ (ub'.out.kept (by rw [hN.out]; exact hI3.out.at_.bel)) hS3.out.len rfl
            rw [show decide (l = l) = true by simp] at kS
            have hle := hS3.out.le
            have hmx := hS3.out.mx
            clear hIA hf k hBk hVA hV' hS3 hR3 hK3 ub'
            go_wp2_with (go_at_call 14; refine kS.mono ?_; rintro e wn ⟨rfl, hbn⟩; obtain rfl := hbn.symm; clear hbn kS)
            exact ⟨⟨i + 1, takeA s, f, P, n, by omega, by simp, rfl, hI3⟩, by simp [intOf]; omega⟩
        · have dq : (x.seq != -7) = true := by simpa using hq
          clear hq
          by_cases he : dataE s x.seq x.zs.length = 0
          · have k := data_ok x.seq x.a x.zs.length x.cap x.zs hIA.out.at_.rv he rfl hVA.out.2.2.2 hVA.out.1
            have h1 := dataE_ok he
            have hz : Hid (-9223372036854775808 ≤ x.seq ∧ x.seq < 9223372036854775808) := by have := htk.out; have := hIA.out.at_.rv.ok.w2; show _ ∧ _; omega
            have hP : P x.seq = none := by
              rw [hIA.out.hL _ h1.2.2.1]
              cases hL : s.L x.seq with
              | none => rfl
              | some l => have := h1.2.2.2.2; rw [hL] at this; cases this
            have hf := hIA.out.no _ hP
            have hlt2 : Hid (s.tk < x.seq) := h1.2.2.1
            have hu : Hid (LdO w (.slice x.a x.zs.length x.cap) x.zs) := ⟨x.a, x.cap, rfl, hV'.out.1, hV'.out.2.2.2, hV'.out.2.1, hV'.out.2.2.1⟩
            clear hP h1 he
            go_wp2_with fail
            refine k.mono ?_
            rintro e w3 ⟨rfl, hS3, hK3⟩
            have hBk3 : Hid (Blk w3 wr.heap.size #[.int .i64 x.seq, .slice x.a x.zs.length x.cap] 35) := (hK3.out.block _ hBk.out.lt hne.out hne.out).trans hBk.out
            have hm3 : Hid (MapI w3 mb f n) := hIA.out.mp.k2 hK3.out (by have := hIA.out.hm; omega)
            have hA3 : Hid (At w w3 rb (putA s x.seq x.zs)) := hIA.out.at_.turn hS3.out hK3.out
            have hlk := hm3.out.look2 hz.out
            rw [hf] at hlk
            simp only [Option.getD_none, Option.isSome_none, zE] at hlk
            obtain ⟨w5, hst, hm5, hg5⟩ := hm3.out.store (by have := hIA.out.few; have := hr'.out; omega) hz.out (.slice x.a x.zs.length x.cap)
            rw [hf] at hm5
            have y0 : w3.cell? ⟨wr.heap.size, 0, none⟩ = some (.int .i64 x.seq) := hBk3.out.cell 0
            have y1 : w3.cell? ⟨wr.heap.size, 1, none⟩ = some (.slice x.a x.zs.length x.cap) := hBk3.out.cell 1
            have hI5 : Hid (OI w w5 rb mb (i + 1) win (putA s x.seq x.zs) (put f x.seq (some (.slice x.a x.zs.length x.cap))) (fun z => if z = x.seq then some x.zs else P z) (if (none : Option Value).isSome then n else n + 1)) :=
              OI.put hIA.out hlt2.out hm5 (by simp) hg5 hA3.out hu.out
            clear hIA hm3 hA3 hm5 hg5 hBk hVA hV' hS3 hK3 hBk3 hu k hf
            go_wp2_with fail
            exact ⟨⟨i + 1, putA s x.seq x.zs, _, _, _, by omega, by simp, rfl, hI5⟩, by simp [intOf]; omega⟩
          · have k := data_k x.seq x.a x.zs.length x.cap hIA.out.at_.rv he (by have := hVA.out.1.2.1; unfold maxLen at this; omega)
            have hE : (dataE s x.seq x.zs.length == 0) = false := by simpa using he
            clear he
            generalize dataE s x.seq x.zs.length = E1 at *
            go_wp2_with (go_at_call 15; refine k.mono ?_; rintro e w3 ⟨rfl, hb3⟩; clear k; have hI3 : Hid (OI w w3 rb mb i win s f P n) := hIA.out.step hb3.out; clear hIA hb3)
            exact ⟨⟨i + 1, s, f, P, n, by omega, by simp, rfl, hI3.out.more⟩, by simp [intOf]; omega⟩
      · have hd : decide ((i : Int) < (len : Int)) = false := by simp; omega
        have kT := taken_any hI.out.at_.rv
        go_wp2_with (go_at_call 19; refine kT.mono ?_; rintro e wn ⟨rfl, hbn⟩; obtain rfl := hbn.symm; clear hbn kT)
        go_ret
        exact ⟨rfl, by rw [hN.out]; exact hI.out.at_.bel⟩
  · have hno : win < 1 ∨ 32 < win := by omega
    clear hA hw
    go_enter Try.func4, Try.ntmps4
    go_wp2_with fail
    refine (new_no win w hno).mono ?_
    rintro e w1 ⟨rfl, hw1⟩
    obtain rfl := hw1.symm
    go_wp2_with (go_at_call 11; refine (alive_any w).mono ?_; rintro e w2 ⟨rfl, hb2⟩)
    go_ret
    exact ⟨rfl, hb2.out⟩
end Go.Proofs.Ytajidkgmifcoaaa
