/-
  The document's own stream gives up waiting.
-/
import Derived.Test.YticlobjikpfcjaaRStream
namespace Go.Proofs.Yticlobjikpfcjaa
open Go.RowKit

theorem RStm.row {w w' : World} {r rb : Nat} {q : List Int} {lost : Nat} {v : Value} {Ls : List (List Int)} (h : RStm w r q lost) (ho : OwnsL w rb 0 v Ls) (hg : w.grownBy w' v.ownBlock) : RStm w' r q lost := by
  obtain ⟨a, cap, h1, h2, h3⟩ := h
  obtain ⟨vs, hvs, _⟩ := ho
  refine ⟨a, cap, ?_, h2.keep (keep5_row hg hvs (Nat.zero_le _)), h3⟩
  unfold RSt
  rw [hg.block r h1.lt]
  · exact h1
  · intro e
    rcases hvs.2 with ⟨rfl, _⟩ | ⟨g', cap', cur, rfl, _, hg', _⟩
    · cases e
    · cases e
      rw [h1] at hg'
      cases hg'
/-- How many bytes wait, read off the memory. -/
def rwaitsAt (w : World) (r : Nat) : Nat := match w.cell? ⟨r, 0, none⟩ with | some (.slice _ n _) => n | _ => 0
theorem RStm.waitsAt {w : World} {r : Nat} {q : List Int} {lost : Nat} (h : RStm w r q lost) : rwaitsAt w r = q.length := by
  obtain ⟨a, n, cap, h1, h2, _⟩ := h.form
  unfold rwaitsAt
  rw [h1.c0]
  exact h2.out.symm
/-- The first byte that waits is lost. -/
theorem RSt.step {w : World} {r lo n0 c0 n' c' : Nat} {a0 a' : Option Addr} {p : List Int} (h : RSt w r (.slice a0 n0 c0) lo) (hl : p.length = n') (hld : Load w 0 (.slice a' n' c') p) (hsp : ∀ x, a' = some x → x.spot = none) :
    RSt (w.setCell ⟨r, 0, none⟩ (.slice a' n' c')) r (.slice a' n' c') lo ∧ RStm ((w.setCell ⟨r, 0, none⟩ (.slice a' n' c')).setCell ⟨r, 1, none⟩ (.int .i64 ((lo : Int) + 1))) r p (lo + 1) ∧ w.grownBy ((w.setCell ⟨r, 0, none⟩ (.slice a' n' c')).setCell ⟨r, 1, none⟩ (.int .i64 ((lo : Int) + 1))) (some r) := by
  have h1 := h.keeps (.slice a' n' c')
  have h2 : RSt ((w.setCell ⟨r, 0, none⟩ (.slice a' n' c')).setCell ⟨r, 1, none⟩ (.int .i64 ((lo : Int) + 1))) r (.slice a' n' c') (lo + 1) := h1.loses (lo + 1)
  have hg : w.grownBy ((w.setCell ⟨r, 0, none⟩ (.slice a' n' c')).setCell ⟨r, 1, none⟩ (.int .i64 ((lo : Int) + 1))) (some r) := but_setCell (but_setCell (World.grownBy.refl _ _) 0 _) 1 _
  subst hl
  exact ⟨h1, ⟨a', c', h2, hld.keep (keep5_but hg (Nat.zero_le _) h (by decide)), hsp⟩, hg⟩

set_option maxHeartbeats 1000000 in
theorem rflush_any (r : Nat) (q : List Int) (lost : Nat) (w : World) (hst : RStm w r q lost) (hn : q.length ≤ 549755813888) (hlo : lost ≤ 549755813888) :
    Calls Try.prog 22 #[.pointer (some ⟨r, 0, none⟩)] w fun e w' => ∃ v, e = .returned v ∧ OwnsL w' w.heap.size 0 v (flushL q) ∧ RStm w' r [] (lost + (q.length - sz (flushL q))) ∧ w.grownBy w' (some r) := by
  have hSt : Hid (RStm w r q lost) := hst
  have hT : Hid (lost + q.length ≤ 1099511627776) := by show _ ≤ _; omega
  clear hst hn hlo
  go_enter Try.func22, Try.ntmps22
  go_wp2
  go_loopw [3] (fun v wr => ∃ (p : List Int) (L : List (List Int)) (lo : Nat), Hid (RStm wr r p lo) ∧ Hid (OwnsL wr w.heap.size 0 v L) ∧ Hid (L ++ flushL p = flushL q) ∧ Hid (lo + (p.length - sz (flushL p)) = lost + (q.length - sz (flushL q))) ∧ Hid (lo + p.length ≤ 1099511627776 ∧ p.length + 8 * L.length ≤ 1099511627776) ∧ Hid (w.grownBy wr (some r))) (fun _ wr => rwaitsAt wr r)
  case atStart => exact ⟨q, [], lost, hSt.out, ownsL_nil _ _ _, rfl, rfl, (by have := hT.out; exact ⟨this, by simp; omega⟩), World.grownBy.refl _ _⟩
  case round =>
    obtain ⟨p, L, lo, hstr, hown, hfl, hlos, hbd, hgr⟩ := hrel
    obtain ⟨a1, n1, c1, hs1, hl1, hn1, hc1, hm1, hld1, hB1, hsp1⟩ := hstr.out.form
    have k0 := hs1.c0
    have k1 := hs1.c1
    have z0 := hs1.fz 0
    have hS1 : Hid (RSt wr r (.slice a1 n1 c1) lo) := hs1
    have hw1 : Hid (rwaitsAt wr r = n1) := (hstr.out.waitsAt).trans hl1.out
    clear hs1
    by_cases h0 : 0 < n1
    · have hne : Hid (p ≠ []) := fun h => by have := hl1.out; rw [h] at this; simp at this; omega
      obtain ⟨b, off, rfl⟩ := bytes_some hB1.out (by rw [hl1.out]; exact h0)
      have d : decide ((0 : Int) < (n1 : Int)) = true := by simp; omega
      have i1 : IntKind.i64.wrap ((lo : Int) + 1) = (lo : Int) + 1 := by have := hbd.out; rw [IntKind.wrap_i64]; omega
      have j1 : (1 : Int) ≤ (n1 : Int) := by omega
      have hp1 : Hid ((p.drop 1).length = n1 - 1) := by show _ = _; rw [List.length_drop, hl1.out]
      have hsc := scan_le (p.drop 1)
      have hmany := sz_many (scanL (p.drop 1)).1
      have hbd2 : Hid (((scanL (p.drop 1)).1.length) * 8 ≤ n1 - 1) := by show _ ≤ _; rw [hp1.out] at hsc; omega
      have hnew : Hid (((p.drop 1).drop (scanL (p.drop 1)).2).length < n1) := by show _ < _; rw [List.length_drop, hp1.out]; omega
      have hfl2 : Hid ((L ++ (scanL (p.drop 1)).1) ++ flushL ((p.drop 1).drop (scanL (p.drop 1)).2) = flushL q) := by
        show _ = _
        rw [← hfl.out, flush_some hne.out, List.append_assoc]
      have hlos2 : Hid (lo + 1 + ((scanL (p.drop 1)).2 - sz (scanL (p.drop 1)).1) + (((p.drop 1).drop (scanL (p.drop 1)).2).length - sz (flushL ((p.drop 1).drop (scanL (p.drop 1)).2))) = lost + (q.length - sz (flushL q))) := by
        show _ = _
        rw [flush_lost hne.out, hlos.out]
      have hbd3 : Hid (lo + 1 + ((scanL (p.drop 1)).2 - sz (scanL (p.drop 1)).1) + ((p.drop 1).drop (scanL (p.drop 1)).2).length ≤ 1099511627776 ∧ ((p.drop 1).drop (scanL (p.drop 1)).2).length + 8 * (L ++ (scanL (p.drop 1)).1).length ≤ 1099511627776) := by
        have hb := hbd.out
        have hl := hl1.out
        refine ⟨?_, ?_⟩ <;> simp only [List.length_append, List.length_drop] at * <;> omega
      have kf : Hid (∀ W, RStm W r (p.drop 1) (lo + 1) → Calls Try.prog 18 #[.pointer (some ⟨r, 0, none⟩), .slice none 0 0] W fun e w' => ∃ v, e = .returned v ∧ OwnsL w' W.heap.size 0 v (scanL (p.drop 1)).1 ∧ RStm w' r ((p.drop 1).drop (scanL (p.drop 1)).2) (lo + 1 + ((scanL (p.drop 1)).2 - sz (scanL (p.drop 1)).1)) ∧ W.grownBy w' (some r)) := by
        intro W hW
        have h9 := rfeed_any r (p.drop 1) (lo + 1) none 0 0 [] W hW rfl ⟨by simp, by simp, .inl rfl⟩ (fun _ => rfl) (by rw [hp1.out]; have := hbd.out; have := hl1.out; omega) (by have := hbd.out; omega)
        rw [List.append_nil] at h9
        exact h9
      clear hB1 hfl hlos hsc hmany hstr
      generalize (scanL (p.drop 1)).1 = M at *
      generalize (p.drop 1).drop (scanL (p.drop 1)).2 = p' at *
      generalize lo + 1 + ((scanL (p.drop 1)).2 - sz M) = lo' at *
      by_cases hq : c1 = 1
      · subst hq
        obtain rfl : n1 = 1 := by omega
        obtain ⟨s1, s2, s3⟩ := hS1.out.step (p := p.drop 1) (a' := some ⟨b, off, none⟩) (n' := 0) (c' := 0) hp1.out (by
          rw [List.eq_nil_of_length_eq_zero hp1.out]
          exact ⟨some ⟨b, off, none⟩, 0, rfl, ⟨by simp, by simp, .inl rfl⟩, by simp, by simp, by simp [maxLen], fun x hx hne => absurd rfl hne⟩) (by intro x hx; cases hx; rfl)
        have g1 := s1.c1
        have y1 := s1.fz 1
        have hO2 := hown.out.but s3 (Nat.zero_le _) hS1.out (by decide) (by decide)
        have hgr2 := hgr.out.trans s3
        have kl := kf.out _ s2
        have hS2 : Hid (RStm _ r (p.drop 1) (lo + 1)) := s2
        have hO2' : Hid (OwnsL _ w.heap.size 0 u3 L) := hO2
        have hgr2' : Hid (w.grownBy _ (some r)) := hgr2
        clear s2 s3 hO2 hgr2 kf hld1 hown hgr hS1
        go_wp2_with fail
        refine kl.mono ?_
        rintro e w2 ⟨v2, rfl, ho2, hst2, hg2⟩
        obtain ⟨a2, n2, c2, rfl, hl2, hn2, -, -, hL2⟩ := ho2.lists
        obtain ⟨cur, hcur⟩ := hS2.out.block
        have hO3 : Hid (OwnsL w2 w.heap.size 0 u3 L) := hO2'.out.but hg2 (Nat.zero_le _) hcur (by decide) (by decide)
        have hg3 : Hid (w.grownBy w2 (some r)) := hgr2'.out.trans hg2
        have hs3 : w.heap.size ≤ w2.heap.size := hg3.out.size
        clear kl hcur ho2 hO2' hgr2' hS2 k0 k1 z0 s1 g1 y1
        go_wp2_with (at_builtin; refine wpList_append_loads rfl _ (.tmp 27) rfl w.heap.size 0 (Nat.zero_le _) u3 L M rfl hO3.out a2 n2 c2 rfl hl2.out hn2.out hL2.out (by have := hbd.out; have := hbd2.out; have := hl1.out; omega) hs3 ?_; intro v4 w4 ho4 hg4; have hst4 := hst2.row hO3.out hg4; have hgr4 := OwnsL.grown hg3.out hO3.out hg4; clear hg4)
        go_roundw
        case rel => exact ⟨p', L ++ M, lo', hst4, ho4, hfl2, hlos2, hbd3, hgr4⟩
        case measure => rw [hst4.waitsAt, hw1.out]; exact hnew.out
      · have q7 : (c1 = 1) = False := by simp [hq]
        obtain ⟨s1, s2, s3⟩ := hS1.out.step (p := p.drop 1) (a' := some ⟨b, off + 1, none⟩) (n' := n1 - 1) (c' := c1 - 1) hp1.out (hld1.out.drop 1 (by omega) hc1 hm1) (by intro x hx; cases hx; rfl)
        have g1 := s1.c1
        have y1 := s1.fz 1
        have hO2 := hown.out.but s3 (Nat.zero_le _) hS1.out (by decide) (by decide)
        have hgr2 := hgr.out.trans s3
        have kl := kf.out _ s2
        have hS2 : Hid (RStm _ r (p.drop 1) (lo + 1)) := s2
        have hO2' : Hid (OwnsL _ w.heap.size 0 u3 L) := hO2
        have hgr2' : Hid (w.grownBy _ (some r)) := hgr2
        clear s2 s3 hO2 hgr2 kf hld1 hown hgr hS1
        go_wp2_with fail
        refine kl.mono ?_
        rintro e w2 ⟨v2, rfl, ho2, hst2, hg2⟩
        obtain ⟨a2, n2, c2, rfl, hl2, hn2, -, -, hL2⟩ := ho2.lists
        obtain ⟨cur, hcur⟩ := hS2.out.block
        have hO3 : Hid (OwnsL w2 w.heap.size 0 u3 L) := hO2'.out.but hg2 (Nat.zero_le _) hcur (by decide) (by decide)
        have hg3 : Hid (w.grownBy w2 (some r)) := hgr2'.out.trans hg2
        have hs3 : w.heap.size ≤ w2.heap.size := hg3.out.size
        clear kl hcur ho2 hO2' hgr2' hS2 k0 k1 z0 s1 g1 y1
        go_wp2_with (at_builtin; refine wpList_append_loads rfl _ (.tmp 27) rfl w.heap.size 0 (Nat.zero_le _) u3 L M rfl hO3.out a2 n2 c2 rfl hl2.out hn2.out hL2.out (by have := hbd.out; have := hbd2.out; have := hl1.out; omega) hs3 ?_; intro v4 w4 ho4 hg4; have hst4 := hst2.row hO3.out hg4; have hgr4 := OwnsL.grown hg3.out hO3.out hg4; clear hg4)
        go_roundw
        case rel => exact ⟨p', L ++ M, lo', hst4, ho4, hfl2, hlos2, hbd3, hgr4⟩
        case measure => rw [hst4.waitsAt, hw1.out]; exact hnew.out
    · have hp0 : Hid (p = []) := List.eq_nil_of_length_eq_zero (by rw [hl1.out]; omega)
      have d : decide ((0 : Int) < (n1 : Int)) = false := by simp; omega
      go_wp2
      go_ret
      have hf := hfl.out
      have hs := hstr.out
      have hlo := hlos.out
      rw [hp0.out] at hf hs hlo
      rw [flush_nil, List.append_nil] at hf
      rw [flush_nil] at hlo
      refine ⟨_, rfl, ?_, ?_, hgr.out⟩
      · rw [← hf]; exact hown.out
      · rw [← hlo]; exact hs
end Go.Proofs.Yticlobjikpfcjaa
