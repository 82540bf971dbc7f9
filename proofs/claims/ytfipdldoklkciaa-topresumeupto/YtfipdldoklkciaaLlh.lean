/-
  Never more than window held, or taken and not answered, or more than 256 on one way.
-/
import Derived.Test.YtfipdldoklkciaaLlf
import Derived.Test.YtfipdldoklkciaaLlg
import Derived.Test.YtfipdldoklkciaaLku
namespace Go.Proofs.Ytfipdldoklkciaa
open Go.RowKit
set_option linter.unusedVariables false
/-- A link in memory with what always holds of it. -/
structure LkI (w wr : World) (B : Nat) (q : Qb) (L : Lk) (win : Int) (k : Nat) : Prop where
  lm : Lm wr B q L
  bel : Below B w wr
  inv : ∃ S, Inv L win S k
theorem LkI.step {w wr w' : World} {B : Nat} {q : Qb} {L : Lk} {win : Int} {k : Nat} (h : LkI w wr B q L win k) (hb : Below wr.heap.size wr w') : LkI w w' B q L win k :=
  ⟨h.lm.kept hb, h.bel.trans (hb.mono h.lm.B_le), h.inv⟩
theorem Lm.dok {w : World} {B : Nat} {q : Qb} {L : Lk} {win : Int} {S : List (List Int)} {k : Nat} (h : Lm w B q L) (hI : Inv L win S k) (hk : k ≤ 1000000000000000) : DoK L := hI.k h.p hk (fun g hg => (h.gr g hg).len)
/-- What a law may look at, behind an act. -/
structure Looks (w : World) (B : Nat) (q : Qb) (M : Lk) (win : Int) (k H : Nat) (NX TK : Int) (W0 W1 : Nat) : Prop where
  held : ∀ x, LkI w x B q M win k → Calls Try.prog 25 #[.pointer (some ⟨q.lb, 0, none⟩)] x fun e w' => e = .returned (.int .i64 (H : Nat)) ∧ Hid (LkI w w' B q M win k)
  sent : ∀ x, LkI w x B q M win k → Calls Try.prog 20 #[.pointer (some ⟨q.lb, 0, none⟩)] x fun e w' => e = .returned (.int .i64 NX) ∧ Hid (LkI w w' B q M win k)
  got : ∀ x, LkI w x B q M win k → Calls Try.prog 21 #[.pointer (some ⟨q.lb, 0, none⟩)] x fun e w' => e = .returned (.int .i64 TK) ∧ Hid (LkI w w' B q M win k)
  way0 : ∀ x, LkI w x B q M win k → Calls Try.prog 22 #[.pointer (some ⟨q.lb, 0, none⟩), .int .i64 0] x fun e w' => e = .returned (.int .i64 (W0 : Nat)) ∧ Hid (LkI w w' B q M win k)
  way1 : ∀ x, LkI w x B q M win k → Calls Try.prog 22 #[.pointer (some ⟨q.lb, 0, none⟩), .int .i64 1] x fun e w' => e = .returned (.int .i64 (W1 : Nat)) ∧ Hid (LkI w w' B q M win k)
theorem looks (w : World) (B : Nat) (q : Qb) (M : Lk) (win : Int) (k : Nat) : Looks w B q M win k (hld M.r) (M.s.nxt - 1) M.r.tk M.n0.length M.n1.length := by
  generalize hH : hld M.r = H
  refine ⟨fun x h => ?_, fun x h => ?_, fun x h => ?_, fun x h => ?_, fun x h => ?_⟩
  · have k := kheld_any h.lm
    rw [hH] at k
    refine k.mono ?_
    rintro e w' ⟨he, hb⟩
    exact ⟨he, h.step hb.out⟩
  · refine (sent_any h.lm).mono ?_
    rintro e w' ⟨he, rfl⟩
    exact ⟨he, h⟩
  · refine (got_any h.lm).mono ?_
    rintro e w' ⟨he, rfl⟩
    exact ⟨he, h⟩
  · refine (Go.Proofs.Ytfipdldoklkciaa.way0 h.lm).mono ?_
    rintro e w' ⟨he, hb⟩
    exact ⟨he, h.step hb.out⟩
  · refine (Go.Proofs.Ytfipdldoklkciaa.way1 h.lm).mono ?_
    rintro e w' ⟨he, hb⟩
    exact ⟨he, h.step hb.out⟩
theorem LkI.look {w wr : World} {B : Nat} {q : Qb} {L : Lk} {win : Int} {k : Nat} (h : LkI w wr B q L win k) (hw : win ≤ 32) :
    ∃ (H : Nat) (NX TK : Int) (W0 W1 : Nat), Hid (Looks w B q L win k H NX TK W0 W1) ∧ decide (((H : Nat) : Int) < 0) = false ∧ decide (((H : Nat) : Int) > win) = false ∧ IntKind.i64.wrap (NX - TK) = NX - TK ∧ decide (NX - TK > win) = false ∧ decide (NX < TK) = false ∧ decide (((W0 : Nat) : Int) > 256) = false ∧ decide (((W1 : Nat) : Int) > 256) = false := by
  obtain ⟨S, hI⟩ := h.inv
  have p := h.lm.p
  have a1 := hld_le p.ro
  have a2 := hI.rw
  have a3 := p.so.l1
  have a4 := hI.lm
  have a5 := hI.nx
  have a6 := hI.tk
  have a7 := p.f0
  have a8 := p.f1
  have a9 := p.ro.t1
  have b1 := p.ro.t2
  refine ⟨_, _, _, _, _, looks w B q L win k, by simp, by simp; omega, by rw [IntKind.wrap_i64]; omega, by simp; omega, by simp; omega, by simp; omega, by simp; omega⟩
set_option maxRecDepth 100000 in
set_option maxHeartbeats 2000000 in
theorem wbounds (win tok : Int) (a : Option Addr) (len cap : Nat) (L : List Ac) (w : World) (hA : AcArg w a len cap L) (hr : len ≤ 2199023255552) (ht : 0 ≤ tok ∧ tok < 18446744073709551616) :
    Calls Try.prog 7 #[.int .i64 win, .int .u64 tok, .slice a len cap] w fun e w' => e = .returned (.bool true) ∧ Below w.heap.size w w' := by
  by_cases hw : 1 ≤ win ∧ win ≤ 32
  · have hwin : Hid (1 ≤ win ∧ win ≤ 32 ∧ 0 ≤ tok ∧ tok < 18446744073709551616) := ⟨hw.1, hw.2, ht⟩
    obtain ⟨hlen, hlc, hcm, hnil, hAc⟩ := hA
    have hAc' : Hid (Acs w a L) := hAc
    have hlen' : Hid (L.length = len) := hlen
    have hr' : Hid (len ≤ 2199023255552) := hr
    clear hAc hlen hw hr ht
    go_enter Try.func7, Try.ntmps7
    go_wp2_with fail
    refine (knew_yes win tok w hwin.out.1 hwin.out.2.1 hwin.out.2.2.1 hwin.out.2.2.2).mono ?_
    rintro e w1 ⟨q, rfl, hL1, hB1⟩
    generalize hrb : w.heap.size = B at *
    have hN : Hid (w.heap.size = B) := hrb
    clear hrb
    have hI1 : Hid (LkI w w1 B q (l0 tok win) win 0) := ⟨hL1.out, hB1.out, [], inv_start tok win⟩
    clear hL1 hB1
    go_wp2_with (go_at_call 17; refine (alive_any w1).mono ?_; rintro e w2 ⟨rfl, hb2⟩)
    have hI2 : Hid (LkI w w2 B q (l0 tok win) win 0) := hI1.out.step hb2.out
    clear hI1 hb2
    generalize l0 tok win = L0 at *
    go_loopw [30] (fun s30 wr => ∃ (i : Nat) (M : Lk), i ≤ len ∧ s30 = .int .i64 (i : Nat) ∧ Hid (LkI w wr B q M win i)) (fun i _ => len - (intOf i).toNat)
    case atStart => exact ⟨0, L0, Nat.zero_le _, rfl, hI2⟩
    case round =>
      obtain ⟨i, M, hi, rfl, hI⟩ := hrel
      clear hI2
      by_cases hlt : i < len
      · have hd : decide ((i : Int) < (len : Int)) = true := by simp; omega
        obtain ⟨x, hx⟩ : ∃ x, L[i]? = some x := ⟨L[i]'(by rw [hlen'.out]; exact hlt), List.getElem?_eq_getElem _⟩
        have hBw : Below w.heap.size w wr := by rw [hN.out]; exact hI.out.bel
        obtain ⟨b, off, rfl, hbl, hc, hV⟩ := acs_at (hAc'.out.kept hBw) hx
        have d0 : wr.cell? ⟨b, off + i * 6, none⟩ = some (.int .i64 x.kind) := hc 0 (by decide)
        have d1 : wr.cell? ⟨b, off + i * 6 + 1, none⟩ = some (.int .i64 x.net) := hc 1 (by decide)
        have d2 : wr.cell? ⟨b, off + i * 6 + 2, none⟩ = some (.int .i64 x.i) := hc 2 (by decide)
        have d3 : wr.cell? ⟨b, off + i * 6 + 3, none⟩ = some (.int .i64 x.at_) := hc 3 (by decide)
        have d4 : wr.cell? ⟨b, off + i * 6 + 4, none⟩ = some (.int .u32 x.by_) := hc 4 (by decide)
        have d5 : wr.cell? ⟨b, off + i * 6 + 5, none⟩ = some (.slice x.a x.n x.c) := hc 5 (by decide)
        have hal : Hid (Below wr.heap.size wr (wr.alloc (.cells #[.int .i64 x.kind, .int .i64 x.net, .int .i64 x.i, .int .i64 x.at_, .int .u32 x.by_, .slice x.a x.n x.c] 49))) := (Below.refl _ _).alloc (Nat.le_refl _) _
        have hIA : Hid (LkI w (wr.alloc (.cells #[.int .i64 x.kind, .int .i64 x.net, .int .i64 x.i, .int .i64 x.at_, .int .u32 x.by_, .slice x.a x.n x.c] 49)) B q M win i) := hI.out.step hal.out
        obtain ⟨S, hS⟩ := hIA.out.inv
        have hkk : i ≤ 1000000000000000 := by have := hr'.out; omega
        have hV' : AcW (wr.alloc (.cells #[.int .i64 x.kind, .int .i64 x.net, .int .i64 x.i, .int .i64 x.at_, .int .u32 x.by_, .slice x.a x.n x.c] 49)) x := hV.kept hal.out
        have hu : x.by_.toNat < 4294967296 := by have := hV.u32; omega
        have k := does_any x hIA.out.lm hV' (hIA.out.lm.dok hS hkk)
        have hnx : Hid (∀ (M' : Lk) (b : List Int) (ok : Bool) (e : Int) w3, DoS M x M' b ok e → Lm w3 B q M' → K4 q (wr.alloc (.cells #[.int .i64 x.kind, .int .i64 x.net, .int .i64 x.i, .int .i64 x.at_, .int .u32 x.by_, .slice x.a x.n x.c] 49)) w3 → LkI w w3 B q M' win (i + 1)) := fun M' b ok e w3 h1 h2 h3 => ⟨h2, h3.below hIA.out.bel hIA.out.lm.B_le hIA.out.lm, ⟨_, (inv_step hIA.out.lm.p h2.p hS hkk hu h1).1⟩⟩
        unfold Ac.val at k
        clear hc hV hx hBw hbl hS hV' hu hkk hI hal hIA
        go_wp2_with fail
        refine k.mono ?_
        rintro e w3 hR
        obtain ⟨M', a9, n9, c9, b9, ok, k9, rfl, hd9, hL9, hS9, hK9⟩ := hR.out
        have hI3 : Hid (LkI w w3 B q M' win (i + 1)) := hnx.out M' b9 ok k9 w3 hd9 hL9 hK9
        obtain ⟨H, NX, TK, W0, W1, hlk, f1, f2, f3, f4, f5, f6, f7⟩ := hI3.out.look hwin.out.2.1
        have hlw : Hid (∀ x, LkI w x B q M' win (i + 1) → Calls Try.prog 22 #[.pointer (some ⟨q.lb, 0, none⟩), .int .i64 0] x fun e w' => e = .returned (.int .i64 (W0 : Nat)) ∧ Hid (LkI w w' B q M' win (i + 1))) := hlk.out.way0
        clear k hR hd9 hL9 hS9 hK9 hnx d0 d1 d2 d3 d4 d5
        go_wp2_with (first
          | (go_at_call 25; refine (hlk.out.held _ hI3.out).mono ?_; rintro e wn ⟨rfl, hbn⟩; clear hI3; have hI3 : Hid (LkI w wn B q M' win (i + 1)) := hbn; clear hbn)
          | (go_at_call 20; refine (hlk.out.sent _ hI3.out).mono ?_; rintro e wn ⟨rfl, hbn⟩; clear hI3; have hI3 : Hid (LkI w wn B q M' win (i + 1)) := hbn; clear hbn)
          | (go_at_call 21; refine (hlk.out.got _ hI3.out).mono ?_; rintro e wn ⟨rfl, hbn⟩; clear hI3; have hI3 : Hid (LkI w wn B q M' win (i + 1)) := hbn; clear hbn)
          | (go_at_call 22; refine (hlw.out _ hI3.out).mono ?_; rintro e wn ⟨rfl, hbn⟩; clear hI3 hlw; have hI3 : Hid (LkI w wn B q M' win (i + 1)) := hbn; clear hbn)
          | (go_at_call 22; refine (hlk.out.way1 _ hI3.out).mono ?_; rintro e wn ⟨rfl, hbn⟩; clear hI3; have hI3 : Hid (LkI w wn B q M' win (i + 1)) := hbn; clear hbn))
        exact ⟨⟨i + 1, M', by omega, by simp, hI3⟩, by simp [intOf]; omega⟩
      · have hd : decide ((i : Int) < (len : Int)) = false := by simp; omega
        go_wp2
        go_ret
        exact ⟨rfl, by rw [hN.out]; exact hI.out.bel⟩
  · have hno : win < 1 ∨ 32 < win := by omega
    clear hA hw
    go_enter Try.func7, Try.ntmps7
    go_wp2_with fail
    refine (knew_no win tok w hno).mono ?_
    rintro e w1 ⟨rfl, hw1⟩
    obtain rfl := hw1.symm
    go_wp2_with (go_at_call 17; refine (alive_any w).mono ?_; rintro e w2 ⟨rfl, hb2⟩)
    go_ret
    exact ⟨rfl, hb2.out⟩
end Go.Proofs.Ytfipdldoklkciaa
