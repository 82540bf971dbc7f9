/-
  Behind any script, 66 fair rounds bring over all loads that were taken.
-/
import Derived.Test.YtfipdldoklkciaaLqe
import Derived.Test.YtfipdldoklkciaaLlf
import Derived.Test.YtfipdldoklkciaaLku
namespace Go.Proofs.Ytfipdldoklkciaa
open Go.RowKit
set_option linter.unusedVariables false
theorem del_now (L : Lk) (n i : Int) : (delS L n i).2.now = L.now := by
  have hn : ∀ G, (netS L n G).now = L.now := fun G => by unfold netS; split <;> rfl
  unfold delS
  split
  · rename_i g hg
    split
    · have e0 := hn ((netL L n).eraseIdx i.toNat)
      generalize netS L n ((netL L n).eraseIdx i.toNat) = L1 at *
      rcases del_case L1 n g.zs with e | ⟨_, _, ⟨_, e⟩ | ⟨_, e⟩⟩
      · rw [e]; exact e0
      · rw [e]
        generalize dataS L1.r (upG g.zs).seq (upG g.zs).zs = r2
        exact e0
      · rw [e]
        generalize ackS L1.s (upG g.zs).ack (upG g.zs).bits (upG g.zs).cred = s2
        exact e0
    · rfl
  · rfl
theorem dos_now {L L' : Lk} {x : Ac} {b : List Int} {ok : Bool} {e : Int} (d : DoS L x L' b ok e) : L'.now ≤ L.now + 1 := by
  have hn : ∀ n G, (netS L n G).now = L.now := fun n G => by unfold netS; split <;> rfl
  cases d with
  | send _ hs =>
    by_cases hE : sendE L x.zs.length = 0
    · obtain ⟨en, _, _, _, _, rfl⟩ := hs.2 hE
      show L.now ≤ L.now + 1; omega
    · rw [hs.1 hE]; omega
  | poll _ => show L.now ≤ L.now + 1; omega
  | tick _ ht =>
    by_cases hn : 1099511627776 ≤ L.now
    · rw [ht.1 hn]; omega
    · obtain ⟨gs, g, _, _, _, e⟩ := ht.2 (by omega)
      rw [e]
      show L.now + 1 ≤ L.now + 1
      omega
  | del _ => rw [del_now]; omega
  | drop _ =>
    unfold dropS
    split
    · rw [hn]; omega
    · omega
  | twice _ =>
    unfold twiceS
    split
    · split
      · rw [hn]; omega
      · omega
    · omega
  | turn _ ht =>
    by_cases hE : turnE L x.net x.i = 0
    · obtain ⟨_, _, _, _, _, _, _, e⟩ := ht.2 hE
      rw [e, hn]; omega
    · rw [ht.1 hE]; omega
  | forge _ ht =>
    by_cases hE : forgeE L x.net x.zs = 0
    · obtain ⟨_, _, _, e⟩ := ht.2 hE
      rw [e, hn]; omega
    · rw [ht.1 hE]; omega
  | again _ => show L.now ≤ L.now + 1; omega
  | none _ => omega
/-- Who watches, behind i acts. -/
structure Li (w0 w : World) (B : Nat) (q : Qb) (g : Nat) (M : Lk) (win : Int) (S : List (List Int)) (i : Nat) : Prop where
  wt : Wt w0 w B q g M win S i
  lv : Lv M
  nw : M.now ≤ (i : Int)
theorem l_step {w0 w : World} {B : Nat} {q : Qb} {g : Nat} {M : Lk} {win : Int} {S : List (List Int)} {i : Nat} (h : Li w0 w B q g M win S i) (x : Ac) (hV : AcW w x) (hV0 : Bytes w0 x.a x.zs) (hO : ∀ y, x.a = some y → x.zs ≠ [] → y.block < B) (hk : i ≤ 2199023255552) :
    Calls Try.prog 19 #[.pointer (some ⟨g, 0, none⟩), x.val] w fun e w' => e = .returned (.bool true) ∧ Hid (∃ M' S', Li w0 w' B q g M' win S' (i + 1)) := by
  refine (wstep2 x h.wt hV hV0 hO hk).mono ?_
  rintro e w' ⟨rfl, hE⟩
  obtain ⟨M', b, ok, E, hd, hw⟩ := hE.out
  have h1 := dos_now hd
  have h2 := h.nw
  exact ⟨rfl, M', _, hw, lv_step h.wt.lm.p h.wt.inv h.lv (by omega) (by have := hV.u32; omega) hd, by omega⟩
/-- At the start of a round: behind j rounds that began at the time N. -/
structure Rn (w0 w : World) (B : Nat) (q : Qb) (g : Nat) (win : Int) (k : Nat) (N : Int) (j : Nat) : Prop where
  ex : ∃ L S, Fw w0 w B q g L win S k (N + (j : Nat)) ∧ Bef L (N + 65) ∧ (1 ≤ j → Po L (N + 65) 33)
theorem Rn.kept {w0 w w' : World} {B : Nat} {q : Qb} {g : Nat} {win : Int} {k : Nat} {N : Int} {j : Nat} (h : Rn w0 w B q g win k N j) (hb : Below w.heap.size w w') : Rn w0 w' B q g win k N j := by
  obtain ⟨L, S, h1, h2, h3⟩ := h.ex
  exact ⟨L, S, h1.kept hb, h2, h3⟩
theorem r_way0 {w0 w : World} {B : Nat} {q : Qb} {g : Nat} {win : Int} {k : Nat} {N : Int} {j : Nat} (h : Rn w0 w B q g win k N j) :
    Calls Try.prog 22 #[.pointer (some ⟨q.lb, 0, none⟩), .int .i64 0] w fun e w' => ∃ n : Nat, e = .returned (.int .i64 (n : Nat)) ∧ decide ((n : Int) > 256) = false ∧ Hid (Rn w0 w' B q g win k N j) := by
  obtain ⟨L, S, h1, h2, h3⟩ := h.ex
  refine (way0 h1.wt.lm).mono ?_
  rintro e w' ⟨rfl, hb⟩
  exact ⟨_, rfl, by have := h1.wt.lm.p.f0; simp; omega, h.kept hb.out⟩
theorem r_way1 {w0 w : World} {B : Nat} {q : Qb} {g : Nat} {win : Int} {k : Nat} {N : Int} {j : Nat} (h : Rn w0 w B q g win k N j) :
    Calls Try.prog 22 #[.pointer (some ⟨q.lb, 0, none⟩), .int .i64 1] w fun e w' => ∃ n : Nat, e = .returned (.int .i64 (n : Nat)) ∧ decide ((n : Int) > 256) = false ∧ Hid (Rn w0 w' B q g win k N j) := by
  obtain ⟨L, S, h1, h2, h3⟩ := h.ex
  refine (way1 h1.wt.lm).mono ?_
  rintro e w' ⟨rfl, hb⟩
  exact ⟨_, rfl, by have := h1.wt.lm.p.f1; simp; omega, h.kept hb.out⟩
theorem r_fair {w0 w : World} {B : Nat} {q : Qb} {g : Nat} {win : Int} {k : Nat} {N : Int} {j : Nat} (h : Rn w0 w B q g win k N j) (hk : k ≤ 2199023255552) (hN : N + (j : Nat) < 1099511627776) :
    Calls Try.prog 23 #[.pointer (some ⟨g, 0, none⟩)] w fun e w' => e = .returned (.bool true) ∧ Hid (Rn w0 w' B q g win k N (j + 1)) := by
  obtain ⟨L, S, h1, h2, h3⟩ := h.ex
  refine (fair_any h1 h2 hk hN).mono ?_
  rintro e w' ⟨rfl, hE⟩
  obtain ⟨L', f1, f2⟩ := hE.out
  refine ⟨rfl, L', S, ⟨f1.wt, f1.lv, by rw [f1.nw]; omega⟩, .inl ⟨f2.wt, f2.n0, f2.n1⟩, fun _ => f2⟩
/-- What is seen in the end. -/
structure Rz (w0 w : World) (B : Nat) (q : Qb) (g : Nat) (va : Option Addr) (n vc : Nat) : Prop where
  bel : Below B w0 w
  c1 : w.cell? ⟨g, 1, none⟩ = some (.slice va n vc)
  c2 : w.cell? ⟨g, 2, none⟩ = some (.int .i64 (n : Nat))
  k0 : ∀ y, Below w.heap.size w y → Calls Try.prog 22 #[.pointer (some ⟨q.lb, 0, none⟩), .int .i64 0] y fun e w' => e = .returned (.int .i64 0) ∧ Hid (Below w.heap.size w w')
  k1 : ∀ y, Below w.heap.size w y → Calls Try.prog 22 #[.pointer (some ⟨q.lb, 0, none⟩), .int .i64 1] y fun e w' => e = .returned (.int .i64 0) ∧ Hid (Below w.heap.size w w')
  hB : B ≤ w.heap.size
theorem r_end {w0 w : World} {B : Nat} {q : Qb} {g : Nat} {win : Int} {k : Nat} {N : Int} (h : Rn w0 w B q g win k N 66) : ∃ va n vc, Rz w0 w B q g va n vc := by
  obtain ⟨L, S, h1, h2, h3⟩ := h.ex
  have hp := h3 (by omega)
  obtain ⟨v, hb, ho⟩ := h1.wt.wb
  obtain ⟨a, n, c, rfl, hn, _, _⟩ := ho.form
  have hnw := h1.nw
  have hr := hp.rem (by rw [hnw]; show N + 65 ≤ N + 66; omega)
  have hnx := h1.wt.inv.nx
  have htk := h1.wt.inv.tk
  have e : L.r.tk = ((n : Nat) : Int) := by
    have hr : L.s.nxt - 1 ≤ L.r.tk + ((0 : Nat) : Int) := hr
    omega
  refine ⟨a, n, c, h1.wt.bel, hb.cell 1, by rw [← e]; exact hb.cell 2, fun y hy => ?_, fun y hy => ?_, h1.wt.lm.B_le⟩
  · have k := way0 (h1.wt.lm.kept hy)
    rw [hp.n0] at k
    refine k.mono ?_
    rintro e w' ⟨he, hb⟩
    exact ⟨he, hy.trans (hb.out.mono hy.size)⟩
  · have k := way1 (h1.wt.lm.kept hy)
    rw [hp.n1] at k
    refine k.mono ?_
    rintro e w' ⟨he, hb⟩
    exact ⟨he, hy.trans (hb.out.mono hy.size)⟩
set_option maxRecDepth 100000 in
set_option maxHeartbeats 4000000 in
theorem wlive (win tok : Int) (a : Option Addr) (len cap : Nat) (L : List Ac) (w : World) (hA : AcArg w a len cap L) (hr : len ≤ 1048576) (ht : 0 ≤ tok ∧ tok < 18446744073709551616) :
    Calls Try.prog 6 #[.int .i64 win, .int .u64 tok, .slice a len cap] w fun e w' => e = .returned (.bool true) ∧ Below w.heap.size w w' := by
  by_cases hw : 1 ≤ win ∧ win ≤ 32
  · have hwin : Hid (1 ≤ win ∧ win ≤ 32 ∧ 0 ≤ tok ∧ tok < 18446744073709551616) := ⟨hw.1, hw.2, ht⟩
    obtain ⟨hlen, hlc, hcm, hnil, hAc⟩ := hA
    have hAc' : Hid (Acs w a L) := hAc
    have hlen' : Hid (L.length = len) := hlen
    have hr' : Hid (len ≤ 1048576) := hr
    clear hAc hlen hw hr ht
    go_enter Try.func6, Try.ntmps6
    go_wp2_with fail
    refine (knew_yes win tok w hwin.out.1 hwin.out.2.1 hwin.out.2.2.1 hwin.out.2.2.2).mono ?_
    rintro e w1 ⟨q, rfl, hL1, hB1⟩
    generalize hrb : w.heap.size = B at *
    have hN : Hid (w.heap.size = B) := hrb
    clear hrb
    have hI1 : Hid (LkI w w1 B q (l0 tok win) win 0) := ⟨hL1.out, hB1.out, [], inv_start tok win⟩
    clear hL1 hB1
    go_wp2_with (go_at_call 17; refine (alive_any w1).mono ?_; rintro e w2 ⟨rfl, hb2⟩)
    have hI2 : Hid (LkI w w2 B q (l0 tok win) win 0) := hI1.out.step hb2.out
    clear hI1 hb2
    generalize hgz : w2.heap.size = g at *
    have hW3 : Hid (∃ M S, Li w (w2.alloc (.cells #[.pointer (some ⟨q.lb, 0, none⟩), .slice none 0 0, .int .i64 0] 46)) B q g M win S 0) := by
      have hal : Below w2.heap.size w2 (w2.alloc (.cells #[.pointer (some ⟨q.lb, 0, none⟩), .slice none 0 0, .int .i64 0] 46)) := (Below.refl _ _).alloc (Nat.le_refl _) _
      have h3 := hI2.out.step hal
      have hb := blk_new w2 #[.pointer (some ⟨q.lb, 0, none⟩), .slice none 0 0, .int .i64 0] 46
      rw [hgz] at hb
      exact ⟨l0 tok win, [], ⟨h3.lm, h3.bel, inv_start tok win, ⟨.slice none 0 0, hb, ownsO_nil _ _⟩, by rw [← hgz]; exact hI2.out.lm.B_le⟩, lv_start tok win, Int.le_refl _⟩
    generalize w2.alloc (.cells #[.pointer (some ⟨q.lb, 0, none⟩), .slice none 0 0, .int .i64 0] 46) = W3 at *
    clear hI2 hgz
    go_loopw [33] (fun s33 wr => ∃ (i : Nat), i ≤ len ∧ s33 = .int .i64 (i : Nat) ∧ Hid (∃ M S, Li w wr B q g M win S i)) (fun i _ => len - (intOf i).toNat)
    case atStart => exact ⟨0, Nat.zero_le _, rfl, hW3⟩
    case round =>
      obtain ⟨i, hi, rfl, hI⟩ := hrel
      clear hW3
      by_cases hlt : i < len
      · have hd : decide ((i : Int) < (len : Int)) = true := by simp; omega
        obtain ⟨x, hx⟩ : ∃ x, L[i]? = some x := ⟨L[i]'(by rw [hlen'.out]; exact hlt), List.getElem?_eq_getElem _⟩
        obtain ⟨M, S, hM⟩ := hI.out
        have hBw : Below w.heap.size w wr := by rw [hN.out]; exact hM.wt.bel
        have hV0 : AcW w x := by obtain ⟨_, _, _, _, _, h⟩ := acs_at hAc'.out hx; exact h
        obtain ⟨b, off, rfl, hbl, hc, hV⟩ := acs_at (hAc'.out.kept hBw) hx
        have d0 : wr.cell? ⟨b, off + i * 6, none⟩ = some (.int .i64 x.kind) := hc 0 (by decide)
        have d1 : wr.cell? ⟨b, off + i * 6 + 1, none⟩ = some (.int .i64 x.net) := hc 1 (by decide)
        have d2 : wr.cell? ⟨b, off + i * 6 + 2, none⟩ = some (.int .i64 x.i) := hc 2 (by decide)
        have d3 : wr.cell? ⟨b, off + i * 6 + 3, none⟩ = some (.int .i64 x.at_) := hc 3 (by decide)
        have d4 : wr.cell? ⟨b, off + i * 6 + 4, none⟩ = some (.int .u32 x.by_) := hc 4 (by decide)
        have d5 : wr.cell? ⟨b, off + i * 6 + 5, none⟩ = some (.slice x.a x.n x.c) := hc 5 (by decide)
        have hal : Hid (Below wr.heap.size wr (wr.alloc (.cells #[.int .i64 x.kind, .int .i64 x.net, .int .i64 x.i, .int .i64 x.at_, .int .u32 x.by_, .slice x.a x.n x.c] 49))) := (Below.refl _ _).alloc (Nat.le_refl _) _
        have hkk : i ≤ 2199023255552 := by have := hr'.out; omega
        have kS : Hid (∀ y, Below wr.heap.size wr y → Calls Try.prog 19 #[.pointer (some ⟨g, 0, none⟩), .agg #[.int .i64 x.kind, .int .i64 x.net, .int .i64 x.i, .int .i64 x.at_, .int .u32 x.by_, .slice x.a x.n x.c]] y fun e w' => e = .returned (.bool true) ∧ Hid (∃ M S, Li w w' B q g M win S (i + 1))) := fun y hy => by
          refine (l_step ⟨hM.wt.kept hy, hM.lv, hM.nw⟩ x (hV.kept hy) hV0.by_ (fun z hz hne => ?_) hkk)
          rw [← hN.out]
          rcases hV0.by_.2.2 with h0 | ⟨b0, off0, h1, h2⟩
          · exact absurd h0 hne
          · rw [h1] at hz
            obtain rfl := Option.some.inj hz
            have hb0 := hV0.by_
            rw [h1] at hb0
            exact hb0.lt hne
        clear hc hV hV0 hx hBw hbl hM hI hkk
        go_wp2_with (go_at_call 19; refine (kS.out _ hal.out).mono ?_; rintro e w3 ⟨rfl, hE3⟩; clear kS d0 d1 d2 d3 d4 d5 hal)
        exact ⟨⟨i + 1, by omega, by simp, hE3⟩, by simp [intOf]; omega⟩
      · have hd : decide ((i : Int) < (len : Int)) = false := by simp; omega
        obtain ⟨M, S, hM⟩ := hI.out
        have hNl : Hid (M.now ≤ 1048576) := by have := hM.nw; have := hr'.out; show _ ≤ _; omega
        have hil : Hid (i ≤ 2199023255552) := by have := hr'.out; show _ ≤ _; omega
        have hR0 : Hid (Rn w wr B q g win i M.now 0) := ⟨M, S, ⟨hM.wt, hM.lv, by simp⟩, .inr rfl, fun z => by omega⟩
        generalize M.now = N at *
        clear hM hI
        go_wp2_with fail
        go_loopw [41] (fun s41 wx => ∃ (j : Nat), j ≤ 66 ∧ s41 = .int .i64 (j : Nat) ∧ Hid (Rn w wx B q g win i N j)) (fun j _ => 66 - (intOf j).toNat)
        case atStart => exact ⟨0, by omega, rfl, hR0⟩
        case round =>
          obtain ⟨j, hj, rfl, hR⟩ := hrel
          clear hR0
          by_cases hjl : j < 66
          · have hd2 : decide ((j : Int) < 66) = true := by simp; omega
            have k0 := r_way0 hR.out
            have k1 : Hid (∀ y, Rn w y B q g win i N j → Calls Try.prog 22 #[.pointer (some ⟨q.lb, 0, none⟩), .int .i64 1] y fun e w' => ∃ n : Nat, e = .returned (.int .i64 (n : Nat)) ∧ decide ((n : Int) > 256) = false ∧ Hid (Rn w w' B q g win i N j)) := fun y hy => r_way1 hy
            have k2 : Hid (∀ y, Rn w y B q g win i N j → Calls Try.prog 23 #[.pointer (some ⟨g, 0, none⟩)] y fun e w' => e = .returned (.bool true) ∧ Hid (Rn w w' B q g win i N (j + 1))) := fun y hy => r_fair hy hil.out (by have := hNl.out; omega)
            clear hR
            go_wp2_with (first
              | (go_at_call 22; refine k0.mono ?_; rintro e wa ⟨n0, rfl, dn0, hRa⟩; clear k0)
              | (go_at_call 22; refine (k1.out _ hRa.out).mono ?_; rintro e wb ⟨n1, rfl, dn1, hRb⟩; clear k1)
              | (go_at_call 23; refine (k2.out _ hRb.out).mono ?_; rintro e wc ⟨rfl, hRc⟩; clear k2))
            exact ⟨⟨j + 1, by omega, by simp, hRc⟩, by simp [intOf]; omega⟩
          · have hd2 : decide ((j : Int) < 66) = false := by simp; omega
            obtain rfl : j = 66 := by omega
            obtain ⟨va, n, vc, hz⟩ := r_end hR.out
            have c1 := hz.c1
            have c2 := hz.c2
            have k0 := hz.k0
            have k1 : Hid (∀ y, Below _ _ y → Calls Try.prog 22 #[.pointer (some ⟨q.lb, 0, none⟩), .int .i64 1] y fun e w' => e = .returned (.int .i64 0) ∧ Hid (Below _ _ w')) := hz.k1
            have k0' := k0 _ (Below.refl _ _)
            have hbB := hz.bel
            have hbS := hz.hB
            have hbB' : Hid (Below B w _) := hbB
            have hbS' : Hid (B ≤ _) := hbS
            have de : (((n : Nat) : Int) == ((n : Nat) : Int)) = true := by simp
            clear hR hz hbB hbS k0
            go_wp2_with (first
              | (go_at_call 22; refine k0'.mono ?_; rintro e wa ⟨rfl, hba⟩; clear k0')
              | (go_at_call 22; refine (k1.out _ hba.out).mono ?_; rintro e wb ⟨rfl, hbb⟩; clear k1))
            go_ret
            refine ⟨rfl, ?_⟩
            rw [hN.out]
            exact hbB'.out.trans (hbb.out.mono hbS'.out)
  · have hno : win < 1 ∨ 32 < win := by omega
    clear hA hw
    go_enter Try.func6, Try.ntmps6
    go_wp2_with fail
    refine (knew_no win tok w hno).mono ?_
    rintro e w1 ⟨rfl, hw1⟩
    obtain rfl := hw1.symm
    go_wp2_with (go_at_call 17; refine (alive_any w).mono ?_; rintro e w2 ⟨rfl, hb2⟩)
    go_ret
    exact ⟨rfl, hb2.out⟩
end Go.Proofs.Ytfipdldoklkciaa
