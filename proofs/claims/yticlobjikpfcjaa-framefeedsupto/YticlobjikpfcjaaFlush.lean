/-
  A stream gives up waiting.
-/
import Derived.Test.YticlobjikpfcjaaFeed
namespace Go.Proofs.Yticlobjikpfcjaa
open Go.RowKit

/-- What is lost behind a flush. -/
theorem flush_lost {q : List Int} (h : q ≠ []) (lost : Nat) : lost + 1 + ((scanL (q.drop 1)).2 - sz (scanL (q.drop 1)).1) + (((q.drop 1).drop (scanL (q.drop 1)).2).length - sz (flushL ((q.drop 1).drop (scanL (q.drop 1)).2))) = lost + (q.length - sz (flushL q)) := by
  have hp := List.length_pos_iff.2 h
  have h1 := scan_le (q.drop 1)
  have h2 := flush_le ((q.drop 1).drop (scanL (q.drop 1)).2)
  rw [flush_some h, sz_append]
  simp only [List.length_drop] at *
  omega

/-- An append to a list of loads leaves a stream. -/
theorem Stm.row {w w' : World} {g rb : Nat} {q : List Int} {lost : Nat} {v : Value} {Ls : List (List Int)} (h : Stm w g q lost) (ho : OwnsL w rb 0 v Ls) (hg : w.grownBy w' v.ownBlock) : Stm w' g q lost := by
  obtain ⟨a, cap, h1, h2⟩ := h
  obtain ⟨vs, hvs, _⟩ := ho
  refine ⟨a, cap, ?_, h2.keep (keep5_row hg hvs (Nat.zero_le _))⟩
  unfold StAt
  rw [hg.block g h1.lt]
  · exact h1
  · intro e
    rcases hvs.2 with ⟨rfl, _⟩ | ⟨g', cap', cur, rfl, _, hg', _⟩
    · cases e
    · cases e
      rw [h1] at hg'
      cases hg'
theorem OwnsL.grown {a b c : World} {r : Option Nat} {base : Nat} {v : Value} {Ls : List (List Int)} (h : a.grownBy b r) (ho : OwnsL b a.heap.size base v Ls) (k : b.grownBy c v.ownBlock) : a.grownBy c r := by
  obtain ⟨vs, hvs, _⟩ := ho
  exact but_row h k fun j hj => (hvs.lt j hj).1
/-- How many bytes wait, read off the memory. -/
def waitsAt (w : World) (g : Nat) : Nat := match w.cell? ⟨g, 1, none⟩ with | some (.slice _ n _) => n | _ => 0
theorem Stm.waitsAt {w : World} {g : Nat} {q : List Int} {lost : Nat} (h : Stm w g q lost) : waitsAt w g = q.length := by
  obtain ⟨a, n, cap, h1, h2, _⟩ := h.form
  unfold Go.Proofs.Yticlobjikpfcjaa.waitsAt
  rw [h1.c1]
  exact h2.out.symm

set_option maxHeartbeats 1000000 in
theorem flush_any (g : Nat) (q : List Int) (lost : Nat) (w : World) (hst : Stm w g q lost) (hn : q.length ≤ 549755813888) (hlo : lost ≤ 549755813888) :
    Calls Try.prog 21 #[.pointer (some ⟨g, 0, none⟩)] w fun e w' => ∃ v, e = .returned v ∧ OwnsL w' w.heap.size 0 v (flushL q) ∧ Stm w' g [] (lost + (q.length - sz (flushL q))) ∧ w.grownBy w' (some g) := by
  obtain ⟨a0, n0, c0, hs0, -, -, -, -, -, -⟩ := hst.form
  have k := made_any _ _ _ _ hs0
  have hSt : Hid (Stm w g q lost) := hst
  have hT : Hid (lost + q.length ≤ 1099511627776) := by show _ ≤ _; omega
  clear hst hs0 hn hlo
  go_enter Try.func21, Try.ntmps21
  go_wp2_with (go_at_call 27; refine k.mono ?_; rintro e w' ⟨rfl, hw⟩; obtain rfl : w = w' := hw.symm)
  clear k
  go_loopw [3] (fun v wr => ∃ (p : List Int) (L : List (List Int)) (lo : Nat), Hid (Stm wr g p lo) ∧ Hid (OwnsL wr w.heap.size 0 v L) ∧ Hid (L ++ flushL p = flushL q) ∧ Hid (lo + (p.length - sz (flushL p)) = lost + (q.length - sz (flushL q))) ∧ Hid (lo + p.length ≤ 1099511627776 ∧ p.length + 8 * L.length ≤ 1099511627776) ∧ Hid (w.grownBy wr (some g))) (fun _ wr => waitsAt wr g)
  case atStart => exact ⟨q, [], lost, hSt.out, ownsL_nil _ _ _, rfl, rfl, (by have := hT.out; exact ⟨this, by simp; omega⟩), World.grownBy.refl _ _⟩
  case round =>
    obtain ⟨p, L, lo, hstr, hown, hfl, hlos, hbd, hgr⟩ := hrel
    obtain ⟨a1, n1, c1, hs1, hl1, hn1, hc1, hm1, hld1, hB1⟩ := hstr.out.form
    have k1 := hs1.c1
    have k2 := hs1.c2
    have z2 := hs1.fz 2
    have hS1 : Hid (StAt wr g (.slice a1 n1 c1) lo) := hs1
    have hw1 : Hid (waitsAt wr g = n1) := (hstr.out.waitsAt).trans hl1.out
    clear hs1
    by_cases h0 : 0 < n1
    · have hne : Hid (p ≠ []) := fun h => by have := hl1.out; rw [h] at this; simp at this; omega
      obtain ⟨b, off, rfl⟩ := bytes_some hB1.out (by rw [hl1.out]; exact h0)
      have d : decide ((0 : Int) < (n1 : Int)) = true := by simp; omega
      have i1 : IntKind.i64.wrap ((lo : Int) + 1) = (lo : Int) + 1 := by have := hbd.out; rw [IntKind.wrap_i64]; omega
      have j1 : (1 : Int) ≤ (n1 : Int) := by omega
      have hp1 : Hid ((p.drop 1).length = n1 - 1) := by show _ = _; rw [List.length_drop, hl1.out]
      have hS2 : Hid (StAt (wr.setCell ⟨g, 2, none⟩ (.int .i64 ((lo : Int) + 1))) g (.slice (some ⟨b, off, none⟩) n1 c1) (lo + 1)) := hS1.out.loses (lo + 1)
      have hg2 : wr.grownBy (wr.setCell ⟨g, 2, none⟩ (.int .i64 ((lo : Int) + 1))) (some g) := but_setCell (World.grownBy.refl _ _) 2 _
      have hB2 : Hid (Bytes (wr.setCell ⟨g, 2, none⟩ (.int .i64 ((lo : Int) + 1))) (some ⟨b, off, none⟩) p) := hB1.out.past hS1.out hg2
      have hO2 : Hid (OwnsL (wr.setCell ⟨g, 2, none⟩ (.int .i64 ((lo : Int) + 1))) w.heap.size 0 u3 L) := hown.out.but hg2 (Nat.zero_le _) hS1.out (by decide) (by decide)
      have hgr2 : Hid (w.grownBy (wr.setCell ⟨g, 2, none⟩ (.int .i64 ((lo : Int) + 1))) (some g)) := hgr.out.trans hg2
      have k3 := hS2.out.c1
      have hk : ∃ a' c', (∀ x, a' = some x → x.spot = none) ∧ (a' = none → c' = 0) ∧ n1 - 1 ≤ c' ∧ c' ≤ 9223372036854775807 ∧ Bytes (wr.setCell ⟨g, 2, none⟩ (.int .i64 ((lo : Int) + 1))) a' (p.drop 1) ∧ ((c1 = 1 ∧ a' = some ⟨b, off, none⟩ ∧ c' = 0) ∨ (c1 ≠ 1 ∧ a' = some ⟨b, off + 1, none⟩ ∧ c' = c1 - 1)) := by
        by_cases hq : c1 = 1
        · refine ⟨some ⟨b, off, none⟩, 0, by intro x hx; cases hx; rfl, by simp, by omega, by omega, ?_, .inl ⟨hq, rfl, rfl⟩⟩
          rw [List.eq_nil_of_length_eq_zero (hp1.out.trans (by omega))]
          exact ⟨by simp, by simp, .inl rfl⟩
        · exact ⟨some ⟨b, off + 1, none⟩, c1 - 1, by intro x hx; cases hx; rfl, by simp, by omega, by omega, hB2.out.drop 1, .inr ⟨hq, rfl, rfl⟩⟩
      obtain ⟨a', c', q1, q2, q3, q4, q5, q6⟩ := hk
      have kl := look_any g _ _ _ (lo + 1) a' (n1 - 1) c' (p.drop 1) _ hS2.out hp1.out q5 q2 q1 q3 q4 (by have := hbd.out; have := hl1.out; omega) (by have := hbd.out; omega)
      have hsc := scan_le (p.drop 1)
      have hmany := sz_many (scanL (p.drop 1)).1
      have hbd2 : Hid (((scanL (p.drop 1)).1.length) * 8 ≤ n1 - 1) := by show _ ≤ _; rw [hp1.out] at hsc; omega
      have hnew : Hid (((p.drop 1).drop (scanL (p.drop 1)).2).length < n1) := by show _ < _; rw [List.length_drop, hp1.out]; omega
      have hfl2 : Hid ((L ++ (scanL (p.drop 1)).1) ++ flushL ((p.drop 1).drop (scanL (p.drop 1)).2) = flushL q) := by
        show _ = _
        rw [← hfl.out, flush_some hne.out, List.append_assoc]
      have hlos2 : Hid (lo + 1 + ((scanL (p.drop 1)).2 - sz (scanL (p.drop 1)).1) + (((p.drop 1).drop (scanL (p.drop 1)).2).length - sz (flushL ((p.drop 1).drop (scanL (p.drop 1)).2))) = lost + (q.length - sz (flushL q))) := by
        show _ = _
        rw [flush_lost hne.out, hlos.out]
      have hbd3 : Hid (lo + 1 + ((scanL (p.drop 1)).2 - sz (scanL (p.drop 1)).1) + ((p.drop 1).drop (scanL (p.drop 1)).2).length ≤ 1099511627776 ∧ ((p.drop 1).drop (scanL (p.drop 1)).2).length + 8 * (L ++ (scanL (p.drop 1)).1).length ≤ 1099511627776) := by
        have hb := hbd.out
        have hl := hl1.out
        refine ⟨?_, ?_⟩ <;> simp only [List.length_append, List.length_drop] at * <;> omega
      clear hS1 hB1 hg2 hB2 hown hgr hfl hlos hsc hmany hld1 hstr q5 q1 q2
      generalize (scanL (p.drop 1)).1 = M at *
      generalize (p.drop 1).drop (scanL (p.drop 1)).2 = p' at *
      generalize lo + 1 + ((scanL (p.drop 1)).2 - sz M) = lo' at *
      rcases q6 with ⟨rfl, rfl, rfl⟩ | ⟨hq, rfl, rfl⟩
      · obtain rfl : n1 = 1 := by omega
        go_wp2_with fail
        refine kl.mono ?_
        rintro e w2 ⟨v2, rfl, ho2, hst2, hg2⟩
        obtain ⟨a2, n2, c2, rfl, hl2, hn2, -, -, hL2⟩ := ho2.lists
        have hcur := hS2.out
        unfold StAt at hcur
        have hO3 : Hid (OwnsL w2 w.heap.size 0 u3 L) := hO2.out.but hg2 (Nat.zero_le _) hcur (by decide) (by decide)
        have hg3 : Hid (w.grownBy w2 (some g)) := hgr2.out.trans hg2
        have hs3 : w.heap.size ≤ w2.heap.size := hg3.out.size
        clear kl hcur ho2 hO2 hgr2 hS2 k1 k2 k3 z2
        go_wp2_with (at_builtin; refine wpList_append_loads rfl _ (.tmp 27) rfl w.heap.size 0 (Nat.zero_le _) u3 L M rfl hO3.out a2 n2 c2 rfl hl2.out hn2.out hL2.out (by have := hbd.out; have := hbd2.out; have := hl1.out; omega) hs3 ?_; intro v4 w4 ho4 hg4; have hst4 := hst2.row hO3.out hg4; have hgr4 := OwnsL.grown hg3.out hO3.out hg4; clear hg4)
        go_roundw
        case rel => exact ⟨p', L ++ M, lo', hst4, ho4, hfl2, hlos2, hbd3, hgr4⟩
        case measure => rw [hst4.waitsAt, hw1.out]; exact hnew.out
      · have q7 : (c1 = 1) = False := by simp [hq]
        go_wp2_with fail
        refine kl.mono ?_
        rintro e w2 ⟨v2, rfl, ho2, hst2, hg2⟩
        obtain ⟨a2, n2, c2, rfl, hl2, hn2, -, -, hL2⟩ := ho2.lists
        have hcur := hS2.out
        unfold StAt at hcur
        have hO3 : Hid (OwnsL w2 w.heap.size 0 u3 L) := hO2.out.but hg2 (Nat.zero_le _) hcur (by decide) (by decide)
        have hg3 : Hid (w.grownBy w2 (some g)) := hgr2.out.trans hg2
        have hs3 : w.heap.size ≤ w2.heap.size := hg3.out.size
        clear kl hcur ho2 hO2 hgr2 hS2 k1 k2 k3 z2
        go_wp2_with (at_builtin; refine wpList_append_loads rfl _ (.tmp 27) rfl w.heap.size 0 (Nat.zero_le _) u3 L M rfl hO3.out a2 n2 c2 rfl hl2.out hn2.out hL2.out (by have := hbd.out; have := hbd2.out; have := hl1.out; omega) hs3 ?_; intro v4 w4 ho4 hg4; have hst4 := hst2.row hO3.out hg4; have hgr4 := OwnsL.grown hg3.out hO3.out hg4; clear hg4)
        go_roundw
        case rel => exact ⟨p', L ++ M, lo', hst4, ho4, hfl2, hlos2, hbd3, hgr4⟩
        case measure => rw [hst4.waitsAt, hw1.out]; exact hnew.out
    · have hp0 : Hid (p = []) := List.eq_nil_of_length_eq_zero (by rw [hl1.out]; omega)
      have d : decide ((0 : Int) < (n1 : Int)) = false := by simp; omega
      go_wp2
      go_ret
      have hf := hfl.out
      have hs := hstr.out
      have hlo := hlos.out
      rw [hp0.out] at hf hs hlo
      rw [flush_nil, List.append_nil] at hf
      rw [flush_nil] at hlo
      refine ⟨_, rfl, ?_, ?_, hgr.out⟩
      · rw [← hf]; exact hown.out
      · rw [← hlo]; exact hs
end Go.Proofs.Yticlobjikpfcjaa
