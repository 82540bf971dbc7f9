/-
  What Poll answered are the first loads that Send took, in order.
-/
import Derived.Test.YtfipdldoklkciaaLlj
namespace Go.Proofs.Ytfipdldoklkciaa
open Go.RowKit
set_option linter.unusedVariables false
/-- What a law sees of who watches a link. -/
structure Seen (w0 w' : World) (B : Nat) (q : Qb) (g : Nat) (win : Int) (k : Nat) (NX TK : Int) (v : Value) (n : Nat) : Prop where
  wt : ∃ L S, Wt w0 w' B q g L win S k
  c1 : w'.cell? ⟨g, 1, none⟩ = some v
  c2 : w'.cell? ⟨g, 2, none⟩ = some (.int .i64 TK)
  kN : Calls Try.prog 20 #[.pointer (some ⟨q.lb, 0, none⟩)] w' fun e w2 => e = .returned (.int .i64 NX) ∧ w2 = w'
  kT : Calls Try.prog 21 #[.pointer (some ⟨q.lb, 0, none⟩)] w' fun e w2 => e = .returned (.int .i64 TK) ∧ w2 = w'
  eN : NX = (n : Int)
theorem Wt.seen {w0 w' : World} {B : Nat} {q : Qb} {g : Nat} {L : Lk} {win : Int} {S : List (List Int)} {k : Nat} (h : Wt w0 w' B q g L win S k) : ∃ NX TK a n c, Seen w0 w' B q g win k NX TK (.slice a n c) n := by
  obtain ⟨v, hb, ho⟩ := h.wb
  obtain ⟨a, n, c, rfl, hn, _, _⟩ := ho.form
  have hnx := h.inv.nx
  exact ⟨L.s.nxt - 1, L.r.tk, a, n, c, ⟨L, S, h⟩, hb.cell 1, hb.cell 2, sent_any h.lm, got_any h.lm, by omega⟩
set_option maxRecDepth 100000 in
set_option maxHeartbeats 2000000 in
theorem wprefix (win tok : Int) (a : Option Addr) (len cap : Nat) (L : List Ac) (w : World) (hA : AcArg w a len cap L) (hr : len ≤ 2199023255552) (ht : 0 ≤ tok ∧ tok < 18446744073709551616) :
    Calls Try.prog 5 #[.int .i64 win, .int .u64 tok, .slice a len cap] w fun e w' => e = .returned (.bool true) ∧ Below w.heap.size w w' := by
  by_cases hw : 1 ≤ win ∧ win ≤ 32
  · have hwin : Hid (1 ≤ win ∧ win ≤ 32 ∧ 0 ≤ tok ∧ tok < 18446744073709551616) := ⟨hw.1, hw.2, ht⟩
    obtain ⟨hlen, hlc, hcm, hnil, hAc⟩ := hA
    have hAc' : Hid (Acs w a L) := hAc
    have hlen' : Hid (L.length = len) := hlen
    have hr' : Hid (len ≤ 2199023255552) := hr
    clear hAc hlen hw hr ht
    go_enter Try.func5, Try.ntmps5
    go_wp2_with fail
    refine (knew_yes win tok w hwin.out.1 hwin.out.2.1 hwin.out.2.2.1 hwin.out.2.2.2).mono ?_
    rintro e w1 ⟨q, rfl, hL1, hB1⟩
    generalize hrb : w.heap.size = B at *
    have hN : Hid (w.heap.size = B) := hrb
    clear hrb
    have hI1 : Hid (LkI w w1 B q (l0 tok win) win 0) := ⟨hL1.out, hB1.out, [], inv_start tok win⟩
    clear hL1 hB1
    go_wp2_with (go_at_call 17; refine (alive_any w1).mono ?_; rintro e w2 ⟨rfl, hb2⟩)
    have hI2 : Hid (LkI w w2 B q (l0 tok win) win 0) := hI1.out.step hb2.out
    clear hI1 hb2
    generalize hgz : w2.heap.size = g at *
    have hW3 : Hid (∃ L0 S, Wt w (w2.alloc (.cells #[.pointer (some ⟨q.lb, 0, none⟩), .slice none 0 0, .int .i64 0] 46)) B q g L0 win S 0) := by
      have hal : Below w2.heap.size w2 (w2.alloc (.cells #[.pointer (some ⟨q.lb, 0, none⟩), .slice none 0 0, .int .i64 0] 46)) := (Below.refl _ _).alloc (Nat.le_refl _) _
      have h3 := hI2.out.step hal
      have hb := blk_new w2 #[.pointer (some ⟨q.lb, 0, none⟩), .slice none 0 0, .int .i64 0] 46
      rw [hgz] at hb
      exact ⟨l0 tok win, [], h3.lm, h3.bel, inv_start tok win, ⟨.slice none 0 0, hb, ownsO_nil _ _⟩, by rw [← hgz]; exact hI2.out.lm.B_le⟩
    generalize w2.alloc (.cells #[.pointer (some ⟨q.lb, 0, none⟩), .slice none 0 0, .int .i64 0] 46) = W3 at *
    clear hI2 hgz
    go_loopw [33] (fun s33 wr => ∃ (i : Nat), i ≤ len ∧ s33 = .int .i64 (i : Nat) ∧ Hid (∃ M S, Wt w wr B q g M win S i)) (fun i _ => len - (intOf i).toNat)
    case atStart => exact ⟨0, Nat.zero_le _, rfl, hW3⟩
    case round =>
      obtain ⟨i, hi, rfl, hI⟩ := hrel
      clear hW3
      by_cases hlt : i < len
      · have hd : decide ((i : Int) < (len : Int)) = true := by simp; omega
        obtain ⟨x, hx⟩ : ∃ x, L[i]? = some x := ⟨L[i]'(by rw [hlen'.out]; exact hlt), List.getElem?_eq_getElem _⟩
        obtain ⟨M, S, hM⟩ := hI.out
        have hBw : Below w.heap.size w wr := by rw [hN.out]; exact hM.bel
        have hV0 : AcW w x := by obtain ⟨_, _, _, _, _, h⟩ := acs_at hAc'.out hx; exact h
        obtain ⟨b, off, rfl, hbl, hc, hV⟩ := acs_at (hAc'.out.kept hBw) hx
        have d0 : wr.cell? ⟨b, off + i * 6, none⟩ = some (.int .i64 x.kind) := hc 0 (by decide)
        have d1 : wr.cell? ⟨b, off + i * 6 + 1, none⟩ = some (.int .i64 x.net) := hc 1 (by decide)
        have d2 : wr.cell? ⟨b, off + i * 6 + 2, none⟩ = some (.int .i64 x.i) := hc 2 (by decide)
        have d3 : wr.cell? ⟨b, off + i * 6 + 3, none⟩ = some (.int .i64 x.at_) := hc 3 (by decide)
        have d4 : wr.cell? ⟨b, off + i * 6 + 4, none⟩ = some (.int .u32 x.by_) := hc 4 (by decide)
        have d5 : wr.cell? ⟨b, off + i * 6 + 5, none⟩ = some (.slice x.a x.n x.c) := hc 5 (by decide)
        have hal : Hid (Below wr.heap.size wr (wr.alloc (.cells #[.int .i64 x.kind, .int .i64 x.net, .int .i64 x.i, .int .i64 x.at_, .int .u32 x.by_, .slice x.a x.n x.c] 49))) := (Below.refl _ _).alloc (Nat.le_refl _) _
        have hbA := blk_new wr #[.int .i64 x.kind, .int .i64 x.net, .int .i64 x.i, .int .i64 x.at_, .int .u32 x.by_, .slice x.a x.n x.c] 49
        have hkk : i ≤ 2199023255552 := by have := hr'.out; omega
        have kS : Hid (∀ y, Below wr.heap.size wr y → Calls Try.prog 19 #[.pointer (some ⟨g, 0, none⟩), .agg #[.int .i64 x.kind, .int .i64 x.net, .int .i64 x.i, .int .i64 x.at_, .int .u32 x.by_, .slice x.a x.n x.c]] y fun e w' => e = .returned (.bool true) ∧ Hid (∃ NX TK a n c, Seen w w' B q g win (i + 1) NX TK (.slice a n c) n)) := fun y hy => by
          refine (wstep x (hM.kept hy) (hV.kept hy) hV0.by_ (fun z hz hne => ?_) hkk).mono ?_
          · rw [← hN.out]
            rcases hV0.by_.2.2 with h0 | ⟨b0, off0, h1, h2⟩
            · exact absurd h0 hne
            · rw [h1] at hz
              obtain rfl := Option.some.inj hz
              have hb0 := hV0.by_
              rw [h1] at hb0
              exact hb0.lt hne
          · rintro e w' ⟨he, L', S', h'⟩
            exact ⟨he, h'.seen⟩
        have e0 : _ = some (Value.int .i64 x.kind) := hbA.cell 0
        have e1 : _ = some (Value.int .i64 x.net) := hbA.cell 1
        have e2 : _ = some (Value.int .i64 x.i) := hbA.cell 2
        have e3 : _ = some (Value.int .i64 x.at_) := hbA.cell 3
        have e4 : _ = some (Value.int .u32 x.by_) := hbA.cell 4
        have e5 : _ = some (Value.slice x.a x.n x.c) := hbA.cell 5
        clear hc hV hV0 hx hBw hbl hM hI hbA hkk
        go_wp2_with fail
        generalize wr.alloc (.cells #[.int .i64 x.kind, .int .i64 x.net, .int .i64 x.i, .int .i64 x.at_, .int .u32 x.by_, .slice x.a x.n x.c] 49) = W at *
        clear d0 d1 d2 d3 d4 d5
        go_region_with (first | (go_at_call 19; refine (kS.out _ (by repeat' with_reducible first | exact hal.out | refine Below.drew ?_ | refine Below.drN ?_ _)).mono ?_; rintro e w3 ⟨rfl, hE3⟩; clear kS; obtain ⟨NX, TK, va, vn, vc, hse⟩ := hE3.out; have f1 := hse.c1; have f2 := hse.c2; have f3 : (NX != ((vn : Nat) : Int)) = false := (by simp [hse.eN]); have f4 : (TK != TK) = false := (by simp); have k5 := hse.kN; have k6 := hse.kT; have hwt : Hid (∃ L S, Wt w w3 B q g L win S (i + 1)) := hse.wt; clear hse hE3 e0 e1 e2 e3 e4 e5) | (go_at_call 20; refine k5.mono ?_; rintro e wn ⟨rfl, hwn⟩; obtain rfl := hwn.symm; clear hwn k5) | (go_at_call 21; refine k6.mono ?_; rintro e wn ⟨rfl, hwn⟩; obtain rfl := hwn.symm; clear hwn k6))
        all_goals
          go_wp2
          exact ⟨⟨i + 1, by omega, by simp, hwt⟩, by simp [intOf]; omega⟩
      · have hd : decide ((i : Int) < (len : Int)) = false := by simp; omega
        obtain ⟨M, S, hM⟩ := hI.out
        have hB : Hid (Below B w wr) := hM.bel
        clear hM hI
        go_wp2
        go_ret
        exact ⟨rfl, by rw [hN.out]; exact hB.out⟩
  · have hno : win < 1 ∨ 32 < win := by omega
    clear hA hw
    go_enter Try.func5, Try.ntmps5
    go_wp2_with fail
    refine (knew_no win tok w hno).mono ?_
    rintro e w1 ⟨rfl, hw1⟩
    obtain rfl := hw1.symm
    go_wp2_with (go_at_call 17; refine (alive_any w).mono ?_; rintro e w2 ⟨rfl, hb2⟩)
    go_ret
    exact ⟨rfl, hb2.out⟩
end Go.Proofs.Ytfipdldoklkciaa
