/-
  The walk of the law on forged and turned datagrams.
-/
import Derived.Test.YtfipdldoklkciaaLlm
namespace Go.Proofs.Ytfipdldoklkciaa
open Go.RowKit
set_option linter.unusedVariables false
structure FL (w wr : World) (B : Nat) (q : Qb) (L : Lk) : Prop where
  lm : Lm wr B q L
  bel : Below B w wr
  fg : Fg L 77 8
theorem FL.step {w wr w' : World} {B : Nat} {q : Qb} {L : Lk} (h : FL w wr B q L) (hb : Below wr.heap.size wr w') : FL w w' B q L := ⟨h.lm.kept hb, h.bel.trans (hb.mono h.lm.B_le), h.fg⟩
theorem FL.turn {w wr w' : World} {B : Nat} {q : Qb} {L L' : Lk} (h : FL w wr B q L) (hL : Lm w' B q L') (hK : K4 q wr w') (hf : Fg L' 77 8) : FL w w' B q L' := ⟨hL, hK.below h.bel h.lm.B_le h.lm, hf⟩
theorem f_send {w wr : World} {B : Nat} {q : Qb} {L : Lk} (h : FL w wr B q L) (a : Option Addr) (n c : Nat) (zs : List Int) (hn : zs.length = n) (h0 : a = none → c = 0) (hb : Bytes wr a zs) :
    Calls Try.prog 26 #[.pointer (some ⟨q.lb, 0, none⟩), .slice a n c] wr fun e w' => ∃ E : Int, e = .returned (.int .i64 E) ∧ Hid (∃ L', FL w w' B q L') := by
  refine (send_any a n c zs h.lm h.lm.B_le hn h0 hb).mono ?_
  rintro e w' ⟨rfl, hR, hK⟩
  refine ⟨_, rfl, ?_⟩
  by_cases hE : sendE L zs.length = 0
  · obtain ⟨en, e1, e2, e3, e4, hL⟩ := hR.out.2 hE
    exact ⟨_, h.turn hL hK.out (fg_send h.fg ⟨fun k => absurd hE k, fun _ => ⟨en, e1, e2, e3, e4, rfl⟩⟩)⟩
  · exact ⟨L, h.turn (hR.out.1 hE) hK.out h.fg⟩
theorem f_tick {w wr : World} {B : Nat} {q : Qb} {L : Lk} (h : FL w wr B q L) :
    Calls Try.prog 27 #[.pointer (some ⟨q.lb, 0, none⟩)] wr fun e w' => e = .returned (.tuple #[]) ∧ Hid (∃ L', FL w w' B q L') := by
  have h1 := h.fg.ep
  have h2 : L.r.tk = 0 := by rw [h.fg.rr]; rfl
  refine (tick_any h.lm (by omega) (by omega)).mono ?_
  rintro e w' ⟨rfl, hT, hK⟩
  refine ⟨rfl, ?_⟩
  by_cases hE : 1099511627776 ≤ L.now
  · exact ⟨L, h.turn (hT.out.1 hE) hK.out h.fg⟩
  · obtain ⟨gs, g, e1, e2, e3, hL⟩ := hT.out.2 (by omega)
    exact ⟨_, h.turn hL hK.out (fg_tick h.lm.p h.fg ⟨fun k => absurd k hE, fun _ => ⟨gs, g, e1, e2, e3, rfl⟩⟩)⟩
theorem f_forge {w wr : World} {B : Nat} {q : Qb} {L : Lk} (h : FL w wr B q L) (k : Int) (a : Option Addr) (n c : Nat) (zs : List Int) (hn : zs.length = n) (h0 : a = none → c = 0) (hb : Bytes wr a zs) (hc : n ≤ c) (hcm : c ≤ 9223372036854775807) :
    Calls Try.prog 31 #[.pointer (some ⟨q.lb, 0, none⟩), .int .i64 k, .slice a n c] wr fun e w' => ∃ E : Int, e = .returned (.int .i64 E) ∧ Hid (∃ L', FL w w' B q L') := by
  refine (forge_any k a n c zs h.lm hn h0 hb hc hcm).mono ?_
  rintro e w' ⟨rfl, hR, hK⟩
  obtain ⟨L', h1, h2⟩ := hR.out
  exact ⟨_, rfl, L', h.turn h2 hK.out (fg_forge h.fg h1)⟩
theorem f_turn {w wr : World} {B : Nat} {q : Qb} {L : Lk} (h : FL w wr B q L) (n i x y : Int) (hx : (Lit.int .i64 x).wf = true) (hy : 0 ≤ y ∧ y < 4294967296) :
    Calls Try.prog 32 #[.pointer (some ⟨q.lb, 0, none⟩), .int .i64 n, .int .i64 i, .int .i64 x, .int .u32 y] wr fun e w' => e = .returned (.int .i64 (turnE L n i)) ∧ Hid (∃ L', TurnS L L' n i x y.toNat ∧ FL w w' B q L') := by
  refine (kturn_int n i x y h.lm (h.fg.k h.lm) hx hy).mono ?_
  rintro e w' ⟨rfl, hR, hK⟩
  obtain ⟨L', h1, h2⟩ := hR.out
  exact ⟨rfl, L', h1, h.turn h2 hK.out (fg_turn h.lm.p h.fg (by omega) h1)⟩
theorem f_drop {w wr : World} {B : Nat} {q : Qb} {L : Lk} (h : FL w wr B q L) (n i : Int) :
    Calls Try.prog 33 #[.pointer (some ⟨q.lb, 0, none⟩), .int .i64 n, .int .i64 i] wr fun e w' => ∃ E : Int, e = .returned (.int .i64 E) ∧ Hid (FL w w' B q (dropS L n i)) := by
  refine (drop_any n i h.lm).mono ?_
  rintro e w' ⟨rfl, hL, hK⟩
  exact ⟨_, rfl, h.turn hL.out hK.out (fg_drop h.fg n i)⟩
theorem f_way {w wr : World} {B : Nat} {q : Qb} {L : Lk} (h : FL w wr B q L) :
    Calls Try.prog 22 #[.pointer (some ⟨q.lb, 0, none⟩), .int .i64 0] wr fun e w' => e = .returned (.int .i64 (L.n0.length : Nat)) ∧ Hid (FL w w' B q L) := by
  refine (way0 h.lm).mono ?_
  rintro e w' ⟨rfl, hb⟩
  exact ⟨rfl, h.step hb.out⟩
theorem f_spo (L : Lk) : Spo L L.n0.length := ⟨Nat.le_refl _, fun j g hj hg => by rw [List.getElem?_eq_none hj] at hg; cases hg⟩
/-- One round of the third loop. -/
theorem f_spoT {w wr : World} {B : Nat} {q : Qb} {L : Lk} {i : Nat} (h : FL w wr B q L) (hs : Spo L (i + 1)) :
    Calls Try.prog 32 #[.pointer (some ⟨q.lb, 0, none⟩), .int .i64 0, .int .i64 (i : Nat), .int .i64 0, .int .u32 0] wr fun e w' => ∃ E : Int, e = .returned (.int .i64 E) ∧ ((E = 0 ∧ Hid (∃ L', FL w w' B q L' ∧ Spo (dropS L' 0 (i : Nat)) i)) ∨ (E ≠ 0 ∧ Hid (∃ L', FL w w' B q L' ∧ Spo L' i))) := by
  refine (f_turn h 0 (i : Nat) 0 0 (by decide) (by decide)).mono ?_
  rintro e w' ⟨rfl, hR⟩
  obtain ⟨L', h1, h2⟩ := hR.out
  obtain ⟨a, b⟩ := spo_step h.fg hs h1
  refine ⟨_, rfl, ?_⟩
  by_cases hE : turnE L 0 (i : Nat) = 0
  · exact .inl ⟨hE, L', h2, a hE⟩
  · exact .inr ⟨hE, L', h2, b hE⟩
theorem f_del {w wr : World} {B : Nat} {q : Qb} {L : Lk} {n : Nat} (h : FL w wr B q L) (hs : Spo L 0) (hn : L.n0.length = n + 1) :
    Calls Try.prog 28 #[.pointer (some ⟨q.lb, 0, none⟩), .int .i64 0, .int .i64 0] wr fun e w' => ∃ E : Int, e = .returned (.int .i64 E) ∧ (E == 0) = false ∧ Hid (∃ L', FL w w' B q L' ∧ Spo L' 0 ∧ L'.n0.length = n) := by
  obtain ⟨a1, a2, a3, a4⟩ := spo_del h.fg hs (by omega)
  refine (del_any 0 0 h.lm).mono ?_
  rintro e w' ⟨rfl, hL, hK⟩
  exact ⟨_, rfl, by simpa using a1, _, h.turn hL.out hK.out a2, a3, by omega⟩
theorem f_end {w wr : World} {B : Nat} {q : Qb} {L : Lk} (h : FL w wr B q L) :
    Calls Try.prog 29 #[.pointer (some ⟨q.lb, 0, none⟩)] wr fun e w' => ∃ a n c, e = .returned (.tuple #[.slice a n c, .bool false]) ∧ Hid (∃ L', FL w w' B q L') := by
  have hr := h.fg.rr
  have h2 : L.r.tk = 0 := by rw [hr]; rfl
  refine (poll_any h.lm (by omega)).mono ?_
  rintro e w' ⟨hP, hL, hK⟩
  obtain ⟨a, n, c, rfl, _⟩ := hP.out
  have e1 : (L.r.L (L.r.tk + 1)).isSome = false := by rw [hr]; rfl
  have e2 : takeS L.r = L.r := by unfold takeS; rw [e1]; rfl
  have hL' : Lm w' B q { L with r := takeS L.r } := hL.out
  rw [e2] at hL'
  exact ⟨a, n, c, by rw [e1], L, h.turn hL' hK.out h.fg⟩
theorem f_held {w wr : World} {B : Nat} {q : Qb} {L : Lk} (h : FL w wr B q L) :
    Calls Try.prog 25 #[.pointer (some ⟨q.lb, 0, none⟩)] wr fun e w' => e = .returned (.int .i64 0) ∧ Hid (FL w w' B q L) := by
  have k := kheld_any h.lm
  rw [h.fg.rr, show ((hld (r0 8) : Nat) : Int) = 0 from by decide] at k
  refine k.mono ?_
  rintro e w' ⟨rfl, hb⟩
  exact ⟨rfl, h.step hb.out⟩
theorem f_got {w wr : World} {B : Nat} {q : Qb} {L : Lk} (h : FL w wr B q L) :
    Calls Try.prog 21 #[.pointer (some ⟨q.lb, 0, none⟩)] wr fun e w' => e = .returned (.int .i64 0) ∧ Hid (FL w w' B q L) := by
  have k := got_any h.lm
  rw [h.fg.rr, show (r0 8).tk = 0 from rfl] at k
  refine k.mono ?_
  rintro e w' ⟨rfl, rfl⟩
  exact ⟨rfl, h⟩
set_option maxRecDepth 100000 in
set_option maxHeartbeats 4000000 in
theorem wforged (a : Option Addr) (len cap : Nat) (Ls : List Bl) (a2 : Option Addr) (len2 cap2 : Nat) (Ts : List Ty) (w : World) (hA : BlArg w a len cap Ls) (hT : TyArg w a2 len2 cap2 Ts) :
    Calls Try.prog 9 #[.slice a len cap, .slice a2 len2 cap2] w fun e w' => e = .returned (.bool true) ∧ Below w.heap.size w w' := by
  obtain ⟨hlen, hlc, hcm, hnil, hBl⟩ := hA
  obtain ⟨hlen2, hlc2, hcm2, hnil2, hTy⟩ := hT
  have hBl' : Hid (Bls w a Ls) := hBl
  have hTy' : Hid (Tys w a2 Ts) := hTy
  have hlen' : Hid (Ls.length = len) := hlen
  have hlen2' : Hid (Ts.length = len2) := hlen2
  clear hBl hTy hlen hlen2
  go_enter Try.func9, Try.ntmps9
  go_wp2_with fail
  refine (knew_yes 8 77 w (by decide) (by decide) (by decide) (by decide)).mono ?_
  rintro e w1 ⟨q, rfl, hL1, hB1⟩
  generalize hrb : w.heap.size = B at *
  have hN : Hid (w.heap.size = B) := hrb
  clear hrb
  have hI1 : Hid (FL w w1 B q (l0 77 8)) := ⟨hL1.out, hB1.out, fg_start 77 8⟩
  clear hL1 hB1
  go_wp2_with (go_at_call 30; refine (goes_any w1).mono ?_; rintro e w2 ⟨rfl, hb2⟩)
  have hI2 : Hid (∃ L, FL w w2 B q L) := ⟨_, hI1.out.step hb2.out⟩
  clear hI1 hb2
  go_loopw [31] (fun s31 wr => ∃ (i : Nat), i ≤ len ∧ s31 = .int .i64 (i : Nat) ∧ Hid (∃ L, FL w wr B q L)) (fun i _ => len - (intOf i).toNat)
  case atStart => exact ⟨0, Nat.zero_le _, rfl, hI2⟩
  case round =>
    obtain ⟨i, hi, rfl, hI⟩ := hrel
    clear hI2
    by_cases hlt : i < len
    · have hd : decide ((i : Int) < (len : Int)) = true := by simp; omega
      obtain ⟨x, hx⟩ : ∃ x, Ls[i]? = some x := ⟨Ls[i]'(by rw [hlen'.out]; exact hlt), List.getElem?_eq_getElem _⟩
      obtain ⟨L, hL⟩ := hI.out
      have hBw : Below w.heap.size w wr := by rw [hN.out]; exact hL.bel
      obtain ⟨b, off, rfl, hbl, hc, hV⟩ := bls_at (hBl'.out.kept hBw) hx
      have kS := f_send hL x.a x.zs.length x.cap x.zs rfl hV.2.2.2 hV.1
      clear hV hx hBw hbl hL hI
      go_wp2_with (go_at_call 26; refine kS.mono ?_; rintro e w3 ⟨E, rfl, hI3⟩; clear kS)
      exact ⟨⟨i + 1, by omega, by simp, hI3⟩, by simp [intOf]; omega⟩
    · have hd : decide ((i : Int) < (len : Int)) = false := by simp; omega
      obtain ⟨L, hL⟩ := hI.out
      have kT := f_tick hL
      clear hL hI
      go_wp2_with (go_at_call 27; refine kT.mono ?_; rintro e w4 ⟨rfl, hI4⟩; clear kT)
      go_loopw [43] (fun s43 wy => ∃ (j : Nat), j ≤ len2 ∧ s43 = .int .i64 (j : Nat) ∧ Hid (∃ L, FL w wy B q L)) (fun j _ => len2 - (intOf j).toNat)
      case atStart => exact ⟨0, Nat.zero_le _, rfl, hI4⟩
      case round =>
        obtain ⟨j, hj, rfl, hJ⟩ := hrel
        clear hI4
        by_cases hjl : j < len2
        · have hd2 : decide ((j : Int) < (len2 : Int)) = true := by simp; omega
          obtain ⟨x, hx⟩ : ∃ x, Ts[j]? = some x := ⟨Ts[j]'(by rw [hlen2'.out]; exact hjl), List.getElem?_eq_getElem _⟩
          obtain ⟨L, hL⟩ := hJ.out
          have hBw : Below w.heap.size w wr := by rw [hN.out]; exact hL.bel
          obtain ⟨b, off, rfl, hbl, hc, hV⟩ := tys_at (hTy'.out.kept hBw) hx
          have d0 : _ = some (Value.int .i64 x.net) := hc 0 (by decide)
          have d1 : _ = some (Value.int .i64 x.i) := hc 1 (by decide)
          have d2 : _ = some (Value.int .i64 x.at_) := hc 2 (by decide)
          have d3 : _ = some (Value.int .u32 x.by_) := hc 3 (by decide)
          have d4 : _ = some (Value.slice x.a x.n x.c) := hc 4 (by decide)
          rw [Nat.add_zero] at d0
          have kA : Hid (∀ y, Below wr.heap.size wr y → FL w y B q L ∧ TyW y x) := fun y hy => ⟨hL.step hy, hV.kept hy⟩
          clear hc hV hx hBw hbl hL hJ
          by_cases h0 : x.by_ = 0
          · have dy : (x.by_ == 0) = true := by simpa using h0
            have kF := fun y hy => f_forge (kA.out y hy).1 x.net x.a x.n x.c x.zs (kA.out y hy).2.len (kA.out y hy).2.nil (kA.out y hy).2.by_ (kA.out y hy).2.le (kA.out y hy).2.mx
            have kF' : Hid (∀ y, Below wr.heap.size wr y → Calls Try.prog 31 #[.pointer (some ⟨q.lb, 0, none⟩), .int .i64 x.net, .slice x.a x.n x.c] y fun e w' => ∃ E : Int, e = .returned (.int .i64 E) ∧ Hid (∃ L', FL w w' B q L')) := kF
            clear kF h0 kA
            go_wp2_with (go_at_call 31; refine (kF'.out _ (by repeat' with_reducible first | exact Below.refl _ _ | refine Below.drew ?_ | refine Below.drN ?_ _ | refine Below.al ?_ _)).mono ?_; rintro e w5 ⟨E, rfl, hI5⟩; clear kF' d0 d1 d2 d3 d4)
            exact ⟨⟨j + 1, by omega, by simp, hI5⟩, by simp [intOf]; omega⟩
          · have dy : (x.by_ == 0) = false := by simpa using h0
            have kF := fun y hy => f_turn (kA.out y hy).1 x.net x.i x.at_ x.by_ (kA.out y hy).2.at_ (kA.out y hy).2.u32
            generalize hTE : turnE L x.net x.i = E at *
            have kF' : Hid (∀ y, Below wr.heap.size wr y → Calls Try.prog 32 #[.pointer (some ⟨q.lb, 0, none⟩), .int .i64 x.net, .int .i64 x.i, .int .i64 x.at_, .int .u32 x.by_] y fun e w' => e = .returned (.int .i64 E) ∧ Hid (∃ L', TurnS L L' x.net x.i x.at_ x.by_.toNat ∧ FL w w' B q L')) := kF
            clear kF h0 kA hTE
            go_wp2_with (go_at_call 32; refine (kF'.out _ (by repeat' with_reducible first | exact Below.refl _ _ | refine Below.drew ?_ | refine Below.drN ?_ _ | refine Below.al ?_ _)).mono ?_; rintro e w5 ⟨rfl, hI5⟩; clear kF' d0 d1 d2 d3 d4)
            have hI6 : Hid (∃ L, FL w w5 B q L) := by obtain ⟨L', _, h⟩ := hI5.out; exact ⟨L', h⟩
            exact ⟨⟨j + 1, by omega, by simp, hI6⟩, by simp [intOf]; omega⟩
        · have hd2 : decide ((j : Int) < (len2 : Int)) = false := by simp; omega
          obtain ⟨L, hL⟩ := hJ.out
          have kW := f_way hL
          have hS : Hid (Spo L L.n0.length) := f_spo L
          have hl : L.n0.length ≤ 256 := hL.lm.p.f0
          generalize hnn : L.n0.length = nn at *
          clear hL hJ hnn
          go_wp2_with (go_at_call 22; refine kW.mono ?_; rintro e w6 ⟨rfl, hI6⟩; clear kW)
          go_loopw [11] (fun s11 wz => ∃ (i : Nat), i ≤ 256 ∧ s11 = .int .i64 (i : Nat) ∧ Hid (∃ L, FL w wz B q L ∧ Spo L i)) (fun i _ => (intOf i).toNat)
          case atStart => exact ⟨nn, hl, rfl, L, hI6.out, hS.out⟩
          case round =>
            obtain ⟨i, hi, rfl, hK⟩ := hrel
            clear hI6 hS
            match i, hi with
            | k + 1, hi =>
              have hd3 : decide ((((k + 1 : Nat) : Nat) : Int) > 0) = true := by rw [decide_eq_true_iff]; omega
              obtain ⟨L, hL, hSp⟩ := hK.out
              have kU := f_spoT hL hSp
              have e1 : IntKind.i64.wrap ((((k + 1 : Nat) : Nat) : Int) - 1) = ((k : Nat) : Int) := by rw [IntKind.wrap_i64]; omega
              clear hL hSp hK
              go_wp2_with fail
              refine kU.mono ?_
              rintro e w7 ⟨E, rfl, hE | hE⟩
              · obtain ⟨rfl, h7⟩ := hE
                obtain ⟨L', h8, h9⟩ := h7.out
                have kD := f_drop h8 0 (k : Nat)
                have h9' : Hid (Spo (dropS L' 0 (k : Nat)) k) := h9
                generalize dropS L' 0 (k : Nat) = L2 at *
                clear h7 h8 h9 kU
                go_wp2_with (go_at_call 33; refine kD.mono ?_; rintro e w8 ⟨E, rfl, hI8⟩; clear kD)
                exact ⟨⟨k, by omega, rfl, L2, hI8.out, h9'.out⟩, by first | (simp [intOf]; done) | (simp [intOf]; omega)⟩
              · obtain ⟨hE, h7⟩ := hE
                have dE : (E == 0) = false := by simpa using hE
                clear hE kU
                go_wp2_with fail
                exact ⟨⟨k, by omega, rfl, h7⟩, by first | (simp [intOf]; done) | (simp [intOf]; omega)⟩
            | 0, hi =>
              obtain ⟨L, hL, hSp⟩ := hK.out
              have kW := f_way hL
              have hSp' : Hid (Spo L 0) := hSp
              generalize hnn : L.n0.length = n2 at *
              have hnn' : Hid (L.n0.length = n2) := hnn
              have hl2 : n2 ≤ 256 := by have := hL.lm.p.f0; omega
              clear hL hK hnn hSp
              go_wp2_with (go_at_call 22; refine kW.mono ?_; rintro e w9 ⟨rfl, hI9⟩; clear kW)
              go_loopw [12] (fun s12 wv => ∃ (n : Nat), n ≤ 256 ∧ s12 = .int .i64 (n : Nat) ∧ Hid (∃ L, FL w wv B q L ∧ Spo L 0 ∧ L.n0.length = n)) (fun n _ => (intOf n).toNat)
              case atStart => exact ⟨n2, hl2, rfl, L, hI9.out, hSp'.out, hnn'.out⟩
              case round =>
                obtain ⟨n, hn, rfl, hM⟩ := hrel
                clear hI9 hSp' hnn'
                match n, hn with
                | m + 1, hn =>
                  have hd4 : decide ((((m + 1 : Nat) : Nat) : Int) > 0) = true := by rw [decide_eq_true_iff]; omega
                  obtain ⟨L, hL, hSp, hlm⟩ := hM.out
                  have kD := f_del hL hSp hlm
                  have e1 : IntKind.i64.wrap ((((m + 1 : Nat) : Nat) : Int) - 1) = ((m : Nat) : Int) := by rw [IntKind.wrap_i64]; omega
                  clear hL hSp hM hlm
                  go_wp2_with (go_at_call 28; refine kD.mono ?_; rintro e wa ⟨E, rfl, dE, hIa⟩; clear kD)
                  exact ⟨⟨m, by omega, rfl, hIa⟩, by first | (simp [intOf]; done) | (simp [intOf]; omega)⟩
                | 0, hn =>
                  obtain ⟨L, hL, _, _⟩ := hM.out
                  have kP := f_end hL
                  clear hL hM
                  go_wp2_with fail
                  refine kP.mono ?_
                  rintro e wb ⟨a9, n9, c9, rfl, hIb⟩
                  obtain ⟨L', hL'⟩ := hIb.out
                  have kH := f_held hL'
                  have kG : Hid (∀ y, FL w y B q L' → Calls Try.prog 21 #[.pointer (some ⟨q.lb, 0, none⟩)] y fun e w' => e = .returned (.int .i64 0) ∧ Hid (FL w w' B q L')) := fun y hy => f_got hy
                  clear kP hIb hL'
                  go_wp2_with (first
                    | (go_at_call 25; refine kH.mono ?_; rintro e wc ⟨rfl, hIc⟩; clear kH)
                    | (go_at_call 21; refine (kG.out _ hIc.out).mono ?_; rintro e wd ⟨rfl, hId⟩; clear kG))
                  go_ret
                  exact ⟨rfl, by rw [hN.out]; exact hId.out.bel⟩
end Go.Proofs.Ytfipdldoklkciaa
