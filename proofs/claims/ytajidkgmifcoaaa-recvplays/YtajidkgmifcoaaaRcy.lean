/-
  A receiver answers every call as the document says.
-/
import Derived.Test.YtajidkgmifcoaaaRcx
import Derived.Deep.Cut
namespace Go.Proofs.Ytajidkgmifcoaaa
open Go.RowKit
set_option linter.unusedVariables false
theorem has_r0 (win : Int) (k : Nat) : has (r0 win) k = false := rfl
theorem dm_new {w : World} {g n D : Nat} (win : Int) (hn : (n : Int) = win) (h1 : 1 ≤ win) (h2 : win ≤ 32) (hO : OwnsC w D (.slice (some ⟨g, 0, none⟩) n n) (List.replicate n (false, .slice none 0 0, []))) (hD : D ≤ w.heap.size) :
    Dm (w.alloc (.cells #[.int .i64 win, .int .i64 0, .slice (some ⟨g, 0, none⟩) n n] 29)) w.heap.size D (r0 win) := by
  refine ⟨hD, r0_ok h1 h2, g, n, n, _, blk_new _ _ _, hO.kept ((Below.refl _ _).alloc (Nat.le_refl _) _), hn, by simp, Nat.le_refl _, by omega, fun k p hk => ?_⟩
  have hlt : k < n := by have := (List.getElem?_eq_some_iff.1 hk).1; simpa using this
  rw [List.getElem?_replicate, if_pos hlt] at hk
  cases hk
  exact ⟨rfl, fun h => by cases h⟩
set_option maxRecDepth 100000 in
set_option maxHeartbeats 4000000 in
theorem wplays (win : Int) (a : Option Addr) (len cap : Nat) (L : List Ac) (w : World) (hA : AcArg w a len cap L) (hQ : ∀ x ∈ L, x.seq ≤ 9223372036854775807) (hr : len ≤ 4398046511104) :
    Calls Try.prog 3 #[.int .i64 win, .slice a len cap] w fun e w' => e = .returned (.bool true) ∧ Below w.heap.size w w' := by
  by_cases hw : 1 ≤ win ∧ win ≤ 32
  · have hwin : Hid (1 ≤ win ∧ win ≤ 32) := hw
    obtain ⟨hlen, hlc, hcm, hnil, hAc⟩ := hA
    have hAc' : Hid (Acs w a L) := hAc
    have hlen' : Hid (L.length = len) := hlen
    have hr' : Hid (len ≤ 4398046511104) := hr
    have hQ' : Hid (∀ x ∈ L, x.seq ≤ 9223372036854775807) := hQ
    obtain ⟨nw, hnw⟩ : ∃ nw : Nat, (nw : Int) = win := ⟨win.toNat, by omega⟩
    have hnw' : Hid ((nw : Int) = win) := hnw
    clear hAc hlen hw hr hQ hnw
    go_enter Try.func3, Try.ntmps3
    go_wp2_with fail
    refine (new_yes win w hwin.out.1 hwin.out.2).mono ?_
    rintro e w1 ⟨rfl, hS1, hB1⟩
    generalize hrb : w.heap.size = rb at *
    have hN : Hid (w.heap.size = rb) := hrb
    clear hrb
    have hA1 : Hid (At w w1 rb (r0 win)) := ⟨hS1.out, hB1.out, by have := hB1.out.size; rw [hN.out] at this; exact this⟩
    clear hS1 hB1
    have kM := mnew_yes nw w1 (by have := hnw'.out; have := hwin.out; omega) (by have := hnw'.out; have := hwin.out; omega)
    rw [hnw'.out] at kM
    go_wp2_with fail
    refine kM.mono ?_
    rintro e w2 ⟨g, rfl, hO2, hb2⟩
    have hrD : Hid (rb < w1.heap.size) := hA1.out.rv.lt
    have hA2 : Hid (At w w2 rb (r0 win)) := hA1.out.step hb2.out
    have hD2 : Hid (w1.heap.size ≤ w2.heap.size) := hb2.out.size
    generalize w1.heap.size = D at *
    have hM3 : Hid (Dm (w2.alloc (.cells #[.int .i64 win, .int .i64 0, .slice (some ⟨g, 0, none⟩) nw nw] 29)) w2.heap.size D (r0 win)) := dm_new win hnw'.out hwin.out.1 hwin.out.2 hO2.out hD2.out
    have hA3 : Hid (At w (w2.alloc (.cells #[.int .i64 win, .int .i64 0, .slice (some ⟨g, 0, none⟩) nw nw] 29)) rb (r0 win)) := hA2.out.step ((Below.refl _ _).alloc (Nat.le_refl _) _)
    clear kM hO2 hb2 hA1 hA2 hD2
    go_wp2_with (go_at_call 11; refine (alive_any _).mono ?_; rintro e w4 ⟨rfl, hb4⟩; have hA4 : Hid (At w w4 rb (r0 win)) := hA3.out.step hb4.out; have hM4 : Hid (Dm w4 w2.heap.size D (r0 win)) := hM3.out.kept hb4.out; clear hA3 hM3 hb4)
    generalize w2.heap.size = mb at *
    go_loopw [49] (fun s49 wr => ∃ (i : Nat) (s : Rc), i ≤ len ∧ s49 = .int .i64 (i : Nat) ∧ Hid (s.win = win ∧ s.tk ≤ (i : Int)) ∧ Hid (At w wr rb s) ∧ Hid (Dm wr mb D s)) (fun j _ => len - (intOf j).toNat)
    case atStart => exact ⟨0, r0 win, Nat.zero_le _, rfl, ⟨rfl, Int.le_refl _⟩, hA4, hM4⟩
    case round =>
      obtain ⟨i, s, hi, rfl, hsw, hA, hM⟩ := hrel
      clear hA4 hM4
      by_cases hlt : i < len
      · have hd : decide ((i : Int) < (len : Int)) = true := by simp; omega
        obtain ⟨x, hx⟩ : ∃ x, L[i]? = some x := ⟨L[i]'(by rw [hlen'.out]; exact hlt), List.getElem?_eq_getElem _⟩
        have hBw : Hid (Below w.heap.size w wr) := by rw [hN.out]; exact hA.out.bel
        obtain ⟨b, off, rfl, hbl, hc, hV⟩ := acs_at hAc'.out hx
        have d0 : wr.cell? ⟨b, off + i * 2, none⟩ = some (.int .i64 x.seq) := by rw [hBw.out.cell (p := ⟨b, off + i * 2, none⟩) hbl]; exact hc 0 (by decide)
        have d1 : wr.cell? ⟨b, off + i * 2 + 1, none⟩ = some (.slice x.a x.zs.length x.cap) := by rw [hBw.out.cell (p := ⟨b, off + i * 2 + 1, none⟩) hbl]; exact hc 1 (by decide)
        have hV' : Hid (AcV w x) := hV
        have hxq : Hid (x.seq ≤ 9223372036854775807) := hQ'.out x (List.mem_of_getElem? hx)
        have hP : Hid (PJ w (wr.alloc (.cells #[.int .i64 x.seq, .slice x.a x.zs.length x.cap] 35)) rb mb D wr.heap.size #[.int .i64 x.seq, .slice x.a x.zs.length x.cap] s s) :=
          ⟨hA.out.step ((Below.refl _ _).alloc (Nat.le_refl _) _), hM.out.kept ((Below.refl _ _).alloc (Nat.le_refl _) _), blk_new _ _ _, hrD.out, by have := hA.out.rv.lt; omega⟩
        have htk : Hid (0 ≤ s.tk ∧ s.tk < 4611686018427387904) := ⟨hA.out.rv.ok.t1, by have := hsw.out.2; have := hr'.out; omega⟩
        have hmx : Hid (mb < wr.heap.size) := hM.out.lt
        clear hc hV hx hbl hA hM
        by_cases hq : x.seq = -7
        · have dq : (x.seq == -7) = true := by simp [hq]
          clear hq hxq
          cases hL : s.L (s.tk + 1) with
          | none =>
            have k := take_k hP.out.at_.rv hL
            have hL' : Hid (s.L (s.tk + 1) = none) := hL
            have hs2 : Hid (s.win = win ∧ s.tk ≤ ((i + 1 : Nat) : Int)) := ⟨hsw.out.1, by have := hsw.out.2; omega⟩
            generalize hbx : wr.heap.size = bx at *
            clear hL
            go_wp2_with fail
            refine k.mono ?_
            rintro e w3 ⟨rfl, hb3⟩
            have hP3 : Hid (PJ w w3 rb mb D bx #[.int .i64 x.seq, .slice x.a x.zs.length x.cap] s s) := hP.out.step hb3.out
            have kM := mtake_no hP3.out.dm hL'.out
            have kS := same_any none none 0 0 0 0 [] [] w3 ⟨by simp, by simp, .inl rfl⟩ ⟨by simp, by simp, .inl rfl⟩ rfl rfl
            rw [show decide (([] : List Int) = []) = true by simp] at kS
            clear hP hb3 k d0 d1 hV' htk
            go_upto_region 19 with (first
              | (go_at_call 13; refine kM.mono ?_; rintro e wn ⟨rfl, hbn⟩; obtain rfl := hbn.symm; clear hbn kM)
              | (go_at_call 14; refine kS.mono ?_; rintro e wn ⟨rfl, hbn⟩; obtain rfl := hbn.symm; clear hbn kS)
              | (go_at_call 17; refine (PJ.ack hP3.out).mono ?_; rintro e w6 ⟨rfl, hP6⟩)
              | (go_at_call 18; refine (PJ.mack hP6.out).mono ?_; rintro e w7 ⟨rfl, hP7⟩))
            clear hP6 hP3
            have TK : Hid (∀ wX, PJ w wX rb mb D bx #[.int .i64 x.seq, .slice x.a x.zs.length x.cap] s s → wX.cell? ⟨mb, 1, none⟩ = some (.int .i64 s.tk)) := fun wX h => h.tk
            have k1 : Hid (∀ wX, PJ w wX rb mb D bx #[.int .i64 x.seq, .slice x.a x.zs.length x.cap] s s → Calls Try.prog 19 #[.pointer (some ⟨rb, 0, none⟩)] wX fun e w' => e = .returned (.int .i64 s.tk) ∧ Hid (PJ w w' rb mb D bx #[.int .i64 x.seq, .slice x.a x.zs.length x.cap] s s)) := fun wX h => h.taken
            have k2 : Hid (∀ wX, PJ w wX rb mb D bx #[.int .i64 x.seq, .slice x.a x.zs.length x.cap] s s → Calls Try.prog 20 #[.pointer (some ⟨rb, 0, none⟩)] wX fun e w' => e = .returned (.int .i64 (rdy s)) ∧ Hid (PJ w w' rb mb D bx #[.int .i64 x.seq, .slice x.a x.zs.length x.cap] s s)) := fun wX h => h.ready
            have k3 : Hid (∀ wX, PJ w wX rb mb D bx #[.int .i64 x.seq, .slice x.a x.zs.length x.cap] s s → Calls Try.prog 21 #[.pointer (some ⟨mb, 0, none⟩)] wX fun e w' => e = .returned (.int .i64 (rdy s)) ∧ Hid (PJ w w' rb mb D bx #[.int .i64 x.seq, .slice x.a x.zs.length x.cap] s s)) := fun wX h => h.mready
            have k4 : Hid (∀ wX, PJ w wX rb mb D bx #[.int .i64 x.seq, .slice x.a x.zs.length x.cap] s s → Calls Try.prog 22 #[.pointer (some ⟨rb, 0, none⟩)] wX fun e w' => e = .returned (.int .i64 (hld s)) ∧ Hid (PJ w w' rb mb D bx #[.int .i64 x.seq, .slice x.a x.zs.length x.cap] s s)) := fun wX h => h.held
            have k5 : Hid (∀ wX, PJ w wX rb mb D bx #[.int .i64 x.seq, .slice x.a x.zs.length x.cap] s s → Calls Try.prog 23 #[.pointer (some ⟨mb, 0, none⟩)] wX fun e w' => e = .returned (.int .i64 (hld s)) ∧ Hid (PJ w w' rb mb D bx #[.int .i64 x.seq, .slice x.a x.zs.length x.cap] s s)) := fun wX h => h.mheld
            have hPn : Hid (PJ w w7.drew rb mb D bx #[.int .i64 x.seq, .slice x.a x.zs.length x.cap] s s) := hP7.out.drew
            clear hP7
            generalize rdy s = ry at *
            generalize hld s = hy at *
            generalize ackN s = ka at *
            generalize ackB s = kb at *
            go_region_held3 (fun wX => wX.cell? ⟨mb, 1, none⟩ = some (.int .i64 s.tk)) (with_reducible exact TK.out _ hPn.out) (first
              | (go_at_call 19; refine (k1.out _ hPn.out).mono ?_; rintro e wn ⟨rfl, hPn⟩)
              | (go_at_call 20; refine (k2.out _ hPn.out).mono ?_; rintro e wn ⟨rfl, hPn⟩)
              | (go_at_call 21; refine (k3.out _ hPn.out).mono ?_; rintro e wn ⟨rfl, hPn⟩)
              | (go_at_call 22; refine (k4.out _ hPn.out).mono ?_; rintro e wn ⟨rfl, hPn⟩)
              | (go_at_call 23; refine (k5.out _ hPn.out).mono ?_; rintro e wn ⟨rfl, hPn⟩))
            all_goals
              clear k1 k2 k3 k4 k5 TK
              go_wp2_with fail
              exact ⟨⟨i + 1, s, by omega, by simp, hs2, hPn.out.at_, hPn.out.dm⟩, by simp [intOf]; omega⟩
          | some l =>
            have k := take_yes l hP.out.at_.rv htk.out.2 hL
            have hL' : Hid (s.L (s.tk + 1) = some l) := hL
            have hs2 : Hid ((takeA s).win = win ∧ (takeA s).tk ≤ ((i + 1 : Nat) : Int)) := ⟨hsw.out.1, by show s.tk + 1 ≤ _; have := hsw.out.2; omega⟩
            have hup : Hid (mb < (wr.alloc (.cells #[.int .i64 x.seq, .slice x.a x.zs.length x.cap] 35)).heap.size) := by have := hmx.out; show mb < _; simp; omega
            generalize hbx : wr.heap.size = bx at *
            clear hL
            go_wp2_with fail
            refine k.mono ?_
            rintro e w3 ⟨g3, n3, c3, rfl, hS3, hR3, hK3⟩
            have hP3 : Hid (PJ w w3 rb mb D bx #[.int .i64 x.seq, .slice x.a x.zs.length x.cap] (takeA s) s) := hP.out.turn hR3.out hK3.out
            have hle := hS3.out.le
            have hmx3 := hS3.out.mx
            have kM := mtake_yes l hP3.out.dm htk.out.2 hL'.out
            clear k hP hR3 hK3
            go_wp2_with fail
            refine kM.mono ?_
            rintro e w4 ⟨a4, n4, c4, rfl, hB4, hn4, hle4, hmx4, hD4, hK4⟩
            have hP4 : Hid (PJ w w4 rb mb D bx #[.int .i64 x.seq, .slice x.a x.zs.length x.cap] (takeA s) (takeA s)) := hP3.out.took hD4.out hK4.out
            have hb3 : Bytes w4 (some ⟨g3, 0, none⟩) l := hS3.out.by_.k2 hK4.out (fun y hy => by
              have h1 := (hS3.out.at_ y hy).1
              have h2 := hup.out
              exact ⟨by omega, by omega⟩)
            have kS := same_any (some ⟨g3, 0, none⟩) a4 n3 n4 c3 c4 l l w4 hb3 hB4.out hS3.out.len hn4.out
            rw [show decide (l = l) = true by simp] at kS
            clear kM hP3 hS3 hB4 hn4 hD4 hK4 hb3 hup hL' htk d0 d1 hV' hsw
            generalize takeA s = s' at *
            go_upto_region 19 with (first
              | (go_at_call 14; refine kS.mono ?_; rintro e wn ⟨rfl, hbn⟩; obtain rfl := hbn.symm; clear hbn kS)
              | (go_at_call 17; refine (PJ.ack hP4.out).mono ?_; rintro e w6 ⟨rfl, hP6⟩)
              | (go_at_call 18; refine (PJ.mack hP6.out).mono ?_; rintro e w7 ⟨rfl, hP7⟩))
            clear hP6 hP4
            have TK : Hid (∀ wX, PJ w wX rb mb D bx #[.int .i64 x.seq, .slice x.a x.zs.length x.cap] s' s' → wX.cell? ⟨mb, 1, none⟩ = some (.int .i64 s'.tk)) := fun wX h => h.tk
            have k1 : Hid (∀ wX, PJ w wX rb mb D bx #[.int .i64 x.seq, .slice x.a x.zs.length x.cap] s' s' → Calls Try.prog 19 #[.pointer (some ⟨rb, 0, none⟩)] wX fun e w' => e = .returned (.int .i64 s'.tk) ∧ Hid (PJ w w' rb mb D bx #[.int .i64 x.seq, .slice x.a x.zs.length x.cap] s' s')) := fun wX h => h.taken
            have k2 : Hid (∀ wX, PJ w wX rb mb D bx #[.int .i64 x.seq, .slice x.a x.zs.length x.cap] s' s' → Calls Try.prog 20 #[.pointer (some ⟨rb, 0, none⟩)] wX fun e w' => e = .returned (.int .i64 (rdy s')) ∧ Hid (PJ w w' rb mb D bx #[.int .i64 x.seq, .slice x.a x.zs.length x.cap] s' s')) := fun wX h => h.ready
            have k3 : Hid (∀ wX, PJ w wX rb mb D bx #[.int .i64 x.seq, .slice x.a x.zs.length x.cap] s' s' → Calls Try.prog 21 #[.pointer (some ⟨mb, 0, none⟩)] wX fun e w' => e = .returned (.int .i64 (rdy s')) ∧ Hid (PJ w w' rb mb D bx #[.int .i64 x.seq, .slice x.a x.zs.length x.cap] s' s')) := fun wX h => h.mready
            have k4 : Hid (∀ wX, PJ w wX rb mb D bx #[.int .i64 x.seq, .slice x.a x.zs.length x.cap] s' s' → Calls Try.prog 22 #[.pointer (some ⟨rb, 0, none⟩)] wX fun e w' => e = .returned (.int .i64 (hld s')) ∧ Hid (PJ w w' rb mb D bx #[.int .i64 x.seq, .slice x.a x.zs.length x.cap] s' s')) := fun wX h => h.held
            have k5 : Hid (∀ wX, PJ w wX rb mb D bx #[.int .i64 x.seq, .slice x.a x.zs.length x.cap] s' s' → Calls Try.prog 23 #[.pointer (some ⟨mb, 0, none⟩)] wX fun e w' => e = .returned (.int .i64 (hld s')) ∧ Hid (PJ w w' rb mb D bx #[.int .i64 x.seq, .slice x.a x.zs.length x.cap] s' s')) := fun wX h => h.mheld
            have hPn : Hid (PJ w w7.drew rb mb D bx #[.int .i64 x.seq, .slice x.a x.zs.length x.cap] s' s') := hP7.out.drew
            clear hP7
            generalize rdy s' = ry at *
            generalize hld s' = hy at *
            generalize ackN s' = ka at *
            generalize ackB s' = kb at *
            go_region_held3 (fun wX => wX.cell? ⟨mb, 1, none⟩ = some (.int .i64 s'.tk)) (with_reducible exact TK.out _ hPn.out) (first
              | (go_at_call 19; refine (k1.out _ hPn.out).mono ?_; rintro e wn ⟨rfl, hPn⟩)
              | (go_at_call 20; refine (k2.out _ hPn.out).mono ?_; rintro e wn ⟨rfl, hPn⟩)
              | (go_at_call 21; refine (k3.out _ hPn.out).mono ?_; rintro e wn ⟨rfl, hPn⟩)
              | (go_at_call 22; refine (k4.out _ hPn.out).mono ?_; rintro e wn ⟨rfl, hPn⟩)
              | (go_at_call 23; refine (k5.out _ hPn.out).mono ?_; rintro e wn ⟨rfl, hPn⟩))
            all_goals
              clear k1 k2 k3 k4 k5 TK
              go_wp2_with fail
              exact ⟨⟨i + 1, s', by omega, by simp, hs2, hPn.out.at_, hPn.out.dm⟩, by simp [intOf]; omega⟩
        · have dq : (x.seq == -7) = false := by simpa using hq
          have hs2 : Hid ((dataS s x.seq x.zs).win = win ∧ (dataS s x.seq x.zs).tk ≤ ((i + 1 : Nat) : Int)) := ⟨by rw [dataS_win]; exact hsw.out.1, by rw [dataS_tk]; have := hsw.out.2; omega⟩
          clear hq
          have SK : Hid (∀ wX s1 s2, PJ w wX rb mb D wr.heap.size #[.int .i64 x.seq, .slice x.a x.zs.length x.cap] s1 s2 → wX.cell? ⟨wr.heap.size, 0, none⟩ = some (.int .i64 x.seq) ∧ wX.cell? ⟨wr.heap.size, 1, none⟩ = some (.slice x.a x.zs.length x.cap)) := fun wX s1 s2 h => h.S
          have kR : Hid (∀ wX s2, PJ w wX rb mb D wr.heap.size #[.int .i64 x.seq, .slice x.a x.zs.length x.cap] s s2 → Calls Try.prog 15 #[.pointer (some ⟨rb, 0, none⟩), .int .i64 x.seq, .slice x.a x.zs.length x.cap] wX fun e w' => e = .returned (.int .i64 (dataE s x.seq x.zs.length)) ∧ Hid (PJ w w' rb mb D wr.heap.size #[.int .i64 x.seq, .slice x.a x.zs.length x.cap] (dataS s x.seq x.zs) s2)) := fun wX s2 h => h.data x hV'.out hN.out
          have kD : Hid (∀ wX s1, PJ w wX rb mb D wr.heap.size #[.int .i64 x.seq, .slice x.a x.zs.length x.cap] s1 s → Calls Try.prog 16 #[.pointer (some ⟨mb, 0, none⟩), .int .i64 x.seq, .slice x.a x.zs.length x.cap] wX fun e w' => e = .returned (.int .i64 (dataE s x.seq x.zs.length)) ∧ Hid (PJ w w' rb mb D wr.heap.size #[.int .i64 x.seq, .slice x.a x.zs.length x.cap] s1 (dataS s x.seq x.zs))) := fun wX s1 h => h.mdata x hV'.out hxq.out hN.out
          generalize dataS s x.seq x.zs = s' at *
          generalize dataE s x.seq x.zs.length = E1 at *
          generalize hbx : wr.heap.size = bx at *
          go_upto_region 15 with fail
          have hPd := hP.out.drew
          have hP1 : Hid (PJ w (wr.alloc (.cells #[.int .i64 x.seq, .slice x.a x.zs.length x.cap] 35)).drew rb mb D bx #[.int .i64 x.seq, .slice x.a x.zs.length x.cap] s s) := hPd
          clear hPd
          generalize wr.alloc (.cells #[.int .i64 x.seq, .slice x.a x.zs.length x.cap] 35) = wA at *
          go_region_held3 (fun wX => wX.cell? ⟨bx, 0, none⟩ = some (.int .i64 x.seq) ∧ wX.cell? ⟨bx, 1, none⟩ = some (.slice x.a x.zs.length x.cap)) ((first | with_reducible exact SK.out _ _ _ hP4.out | with_reducible exact SK.out _ _ _ hP3.out | with_reducible exact SK.out _ _ _ hP2.out | with_reducible exact SK.out _ _ _ hP1.out)) (first
            | (go_at_call 15; first | (refine (kR.out _ _ hP1.out).mono ?_; rintro e w3 ⟨rfl, hP2⟩) | (refine (kR.out _ _ hP3.out).mono ?_; rintro e w5 ⟨rfl, hP4⟩) | fail)
            | (go_at_call 16; first | (refine (kD.out _ _ hP1.out).mono ?_; rintro e w3 ⟨rfl, hP3⟩) | (refine (kD.out _ _ hP2.out).mono ?_; rintro e w5 ⟨rfl, hP4⟩) | fail))
          all_goals
            clear hP hP1 kR kD SK
            go_upto_region 19 with (first
              | (go_at_call 17; refine (PJ.ack hP4.out).mono ?_; rintro e w6 ⟨rfl, hP6⟩)
              | (go_at_call 18; refine (PJ.mack hP6.out).mono ?_; rintro e w7 ⟨rfl, hP7⟩))
            clear hP6 hP4
            have TK : Hid (∀ wX, PJ w wX rb mb D bx #[.int .i64 x.seq, .slice x.a x.zs.length x.cap] s' s' → wX.cell? ⟨mb, 1, none⟩ = some (.int .i64 s'.tk)) := fun wX h => h.tk
            have k1 : Hid (∀ wX, PJ w wX rb mb D bx #[.int .i64 x.seq, .slice x.a x.zs.length x.cap] s' s' → Calls Try.prog 19 #[.pointer (some ⟨rb, 0, none⟩)] wX fun e w' => e = .returned (.int .i64 s'.tk) ∧ Hid (PJ w w' rb mb D bx #[.int .i64 x.seq, .slice x.a x.zs.length x.cap] s' s')) := fun wX h => h.taken
            have k2 : Hid (∀ wX, PJ w wX rb mb D bx #[.int .i64 x.seq, .slice x.a x.zs.length x.cap] s' s' → Calls Try.prog 20 #[.pointer (some ⟨rb, 0, none⟩)] wX fun e w' => e = .returned (.int .i64 (rdy s')) ∧ Hid (PJ w w' rb mb D bx #[.int .i64 x.seq, .slice x.a x.zs.length x.cap] s' s')) := fun wX h => h.ready
            have k3 : Hid (∀ wX, PJ w wX rb mb D bx #[.int .i64 x.seq, .slice x.a x.zs.length x.cap] s' s' → Calls Try.prog 21 #[.pointer (some ⟨mb, 0, none⟩)] wX fun e w' => e = .returned (.int .i64 (rdy s')) ∧ Hid (PJ w w' rb mb D bx #[.int .i64 x.seq, .slice x.a x.zs.length x.cap] s' s')) := fun wX h => h.mready
            have k4 : Hid (∀ wX, PJ w wX rb mb D bx #[.int .i64 x.seq, .slice x.a x.zs.length x.cap] s' s' → Calls Try.prog 22 #[.pointer (some ⟨rb, 0, none⟩)] wX fun e w' => e = .returned (.int .i64 (hld s')) ∧ Hid (PJ w w' rb mb D bx #[.int .i64 x.seq, .slice x.a x.zs.length x.cap] s' s')) := fun wX h => h.held
            have k5 : Hid (∀ wX, PJ w wX rb mb D bx #[.int .i64 x.seq, .slice x.a x.zs.length x.cap] s' s' → Calls Try.prog 23 #[.pointer (some ⟨mb, 0, none⟩)] wX fun e w' => e = .returned (.int .i64 (hld s')) ∧ Hid (PJ w w' rb mb D bx #[.int .i64 x.seq, .slice x.a x.zs.length x.cap] s' s')) := fun wX h => h.mheld
            have hPn : Hid (PJ w w7.drew rb mb D bx #[.int .i64 x.seq, .slice x.a x.zs.length x.cap] s' s') := hP7.out.drew
            clear hP7
            generalize rdy s' = ry at *
            generalize hld s' = hy at *
            generalize ackN s' = ka at *
            generalize ackB s' = kb at *
            go_region_held3 (fun wX => wX.cell? ⟨mb, 1, none⟩ = some (.int .i64 s'.tk)) (with_reducible exact TK.out _ hPn.out) (first
              | (go_at_call 19; refine (k1.out _ hPn.out).mono ?_; rintro e wn ⟨rfl, hPn⟩)
              | (go_at_call 20; refine (k2.out _ hPn.out).mono ?_; rintro e wn ⟨rfl, hPn⟩)
              | (go_at_call 21; refine (k3.out _ hPn.out).mono ?_; rintro e wn ⟨rfl, hPn⟩)
              | (go_at_call 22; refine (k4.out _ hPn.out).mono ?_; rintro e wn ⟨rfl, hPn⟩)
              | (go_at_call 23; refine (k5.out _ hPn.out).mono ?_; rintro e wn ⟨rfl, hPn⟩))
            all_goals
              clear k1 k2 k3 k4 k5 TK
              go_wp2_with fail
              exact ⟨⟨i + 1, s', by omega, by simp, hs2, hPn.out.at_, hPn.out.dm⟩, by simp [intOf]; omega⟩
      · have hd : decide ((i : Int) < (len : Int)) = false := by simp; omega
        go_wp2
        go_ret
        exact ⟨rfl, by rw [hN.out]; exact hA.out.bel⟩
  · have hno : win < 1 ∨ 32 < win := by omega
    clear hA hw
    go_enter Try.func3, Try.ntmps3
    go_wp2_with fail
    refine (new_no win w hno).mono ?_
    rintro e w1 ⟨rfl, hw1⟩
    obtain rfl := hw1.symm
    go_wp2_with fail
    refine (mnew_no win w hno).mono ?_
    rintro e w2 ⟨rfl, hb2⟩
    have hb3 : Hid (Below w.heap.size w (w2.alloc (.cells #[.int .i64 0, .int .i64 0, .slice none 0 0] 29))) := hb2.out.alloc hb2.out.size _
    go_wp2_with (go_at_call 11; refine (alive_any _).mono ?_; rintro e w4 ⟨rfl, hb4⟩)
    go_ret
    exact ⟨rfl, hb3.out.trans (hb4.out.mono hb3.out.size)⟩
end Go.Proofs.Ytajidkgmifcoaaa
