/-
  The document's own stream in memory: fed, and flushed.
-/
import Derived.Test.YticlobjikpfcjaaRefScan
import Derived.Test.YticlobjikpfcjaaFlush
namespace Go.Proofs.Yticlobjikpfcjaa
open Go.RowKit

/-- THE DOCUMENT's STREAM IN BLOCK r: the bytes that wait are the slice v, and so many were lost. -/
def RSt (w : World) (r : Nat) (v : Value) (lost : Nat) : Prop := w.heap[r]? = some (.cells #[v, .int .i64 lost] 38 (0, 0))

theorem RSt.lt {w : World} {r : Nat} {v : Value} {lost : Nat} (h : RSt w r v lost) : r < w.heap.size := (Array.getElem?_eq_some_iff.1 h).1
theorem RSt.c0 {w : World} {r : Nat} {v : Value} {lost : Nat} (h : RSt w r v lost) : w.cell? ⟨r, 0, none⟩ = some v := by rw [cell_row h]; rfl
theorem RSt.c1 {w : World} {r : Nat} {v : Value} {lost : Nat} (h : RSt w r v lost) : w.cell? ⟨r, 1, none⟩ = some (.int .i64 lost) := by rw [cell_row h]; rfl
theorem RSt.fz {w : World} {r : Nat} {v : Value} {lost : Nat} (h : RSt w r v lost) (j : Nat) : w.frozen? ⟨r, j, none⟩ = false := by
  unfold RSt at h
  simp [World.frozen?, h]
theorem RSt.kept {w w' : World} {r : Nat} {v : Value} {lost : Nat} (h : RSt w r v lost) (hb : Below w.heap.size w w') : RSt w' r v lost := by
  unfold RSt
  rw [hb.block r h.lt]
  exact h
theorem RSt.other {w w' : World} {g r : Nat} {v : Value} {lost : Nat} (h : RSt w r v lost) (hg : w.grownBy w' (some g)) (hr : g ≠ r) : RSt w' r v lost := by
  unfold RSt
  rw [hg.block r h.lt (fun e => hr (Option.some.inj e).symm)]
  exact h
theorem RSt.loses {w : World} {r : Nat} {v : Value} {lost : Nat} (h : RSt w r v lost) (m : Nat) : RSt (w.setCell ⟨r, 1, none⟩ (.int .i64 m)) r v m := by
  unfold RSt at *
  rw [heap_setCell_same _ r 1 _ 38 _ h]
  rfl
theorem RSt.keeps {w : World} {r : Nat} {v : Value} {lost : Nat} (h : RSt w r v lost) (u : Value) : RSt (w.setCell ⟨r, 0, none⟩ u) r u lost := by
  unfold RSt at *
  rw [heap_setCell_same _ r 0 _ 38 _ h]
  rfl

/-- THE WHOLE STREAM OF THE DOCUMENT. -/
def RStm (w : World) (r : Nat) (q : List Int) (lost : Nat) : Prop :=
  ∃ a cap, RSt w r (.slice a q.length cap) lost ∧ Load w 0 (.slice a q.length cap) q ∧ ∀ x, a = some x → x.spot = none

theorem RStm.lt {w : World} {r : Nat} {q : List Int} {lost : Nat} (h : RStm w r q lost) : r < w.heap.size := by
  obtain ⟨a, cap, h1, _⟩ := h
  exact h1.lt
theorem RStm.kept {w w' : World} {r : Nat} {q : List Int} {lost : Nat} (h : RStm w r q lost) (hb : Below w.heap.size w w') : RStm w' r q lost := by
  obtain ⟨a, cap, h1, h2, h3⟩ := h
  exact ⟨a, cap, h1.kept hb, h2.keep (keep5_below hb 0), h3⟩
theorem RStm.other {w w' : World} {g r : Nat} {q : List Int} {lost : Nat} {T : TypeId} {cur : Array Value} {m : Nat × Nat} (h : RStm w r q lost) (hg : w.grownBy w' (some g)) (hr : g ≠ r) (hc : w.heap[g]? = some (.cells cur T m)) (hT : T ≠ 5) : RStm w' r q lost := by
  obtain ⟨a, cap, h1, h2, h3⟩ := h
  exact ⟨a, cap, h1.other hg hr, h2.keep (keep5_but hg (Nat.zero_le _) hc hT), h3⟩
theorem RStm.form {w : World} {r : Nat} {q : List Int} {lost : Nat} (h : RStm w r q lost) :
    ∃ a n cap, RSt w r (.slice a n cap) lost ∧ Hid (q.length = n) ∧ Hid (a = none → cap = 0) ∧ n ≤ cap ∧ cap ≤ 9223372036854775807 ∧ Hid (Load w 0 (.slice a n cap) q) ∧ Hid (Bytes w a q) ∧ Hid (∀ x, a = some x → x.spot = none) := by
  obtain ⟨a, cap, h1, h2, hsp⟩ := h
  obtain ⟨a', cap', e, h3, h4, h5, h6, _⟩ := id h2
  cases e
  exact ⟨a, q.length, cap, h1, rfl, h4, h5, by simpa [maxLen] using h6, h2, h3, hsp⟩
theorem RStm.block {w : World} {r : Nat} {q : List Int} {lost : Nat} (h : RStm w r q lost) : ∃ cur, w.heap[r]? = some (.cells cur 38 (0, 0)) := by
  obtain ⟨a, cap, h1, _⟩ := h
  exact ⟨_, h1⟩
/-- Bytes lie in no such block. -/
theorem Bytes.rpast {w w' : World} {r lost n0 c0 : Nat} {a0 a : Option Addr} {zs : List Int} (h : Bytes w a zs) (hst : RSt w r (.slice a0 n0 c0) lost) (hg : w.grownBy w' (some r)) : Bytes w' a zs := by
  refine ⟨h.1, h.2.1, ?_⟩
  rcases h.2.2 with h0 | ⟨b, off, rfl, hc⟩
  · exact .inl h0
  · refine .inr ⟨b, off, rfl, fun i hi => hg.cell (hc i hi) fun e => ?_⟩
    obtain rfl : b = r := Option.some.inj e
    have h1 := hc i hi
    rw [cell_row hst] at h1
    rcases (show off + i = 0 ∨ off + i = 1 ∨ 2 ≤ off + i by omega) with h2 | h2 | h2
    · rw [h2] at h1; cases h1
    · rw [h2] at h1; cases h1
    · rw [Array.getElem?_eq_none (by simpa using h2)] at h1; cases h1
/-- A load, the first bytes of it gone. -/
theorem Load.drop {w : World} {b off n cap : Nat} {l : List Int} (h : Load w 0 (.slice (some ⟨b, off, none⟩) n cap) l) (k : Nat) (hk : k ≤ n) (hc : n ≤ cap) (hcm : cap ≤ 9223372036854775807) :
    Load w 0 (.slice (some ⟨b, off + k, none⟩) (n - k) (cap - k)) (l.drop k) := by
  obtain ⟨a, cap', e, h1, h2, h3, h4, h5⟩ := h
  cases e
  have hn : (l.drop k).length = l.length - k := List.length_drop
  refine ⟨some ⟨b, off + k, none⟩, cap - k, by rw [hn], h1.drop k, (fun h => by cases h), by rw [hn]; omega, by unfold maxLen; omega, fun x hx hne => ?_⟩
  cases hx
  exact h5 ⟨b, off, none⟩ rfl (fun h => hne (by rw [h]; simp))

set_option maxHeartbeats 1000000 in
theorem rfeed_any (r : Nat) (q : List Int) (lost : Nat) (a : Option Addr) (n cap : Nat) (zs : List Int) (w : World) (hst : RStm w r q lost) (hl : zs.length = n) (hb : Bytes w a zs) (hnil : a = none → cap = 0) (hn : q.length + n ≤ 1099511627776) (hlo : lost ≤ 4611686018427387904) :
    Calls Try.prog 18 #[.pointer (some ⟨r, 0, none⟩), .slice a n cap] w fun e w' => ∃ v, e = .returned v ∧ OwnsL w' w.heap.size 0 v (scanL (q ++ zs)).1 ∧ RStm w' r ((q ++ zs).drop (scanL (q ++ zs)).2) (lost + ((scanL (q ++ zs)).2 - sz (scanL (q ++ zs)).1)) ∧ w.grownBy w' (some r) := by
  obtain ⟨a0, n0, c0, hs0, hl0, hn0, hc0, hm0, -, hB0, -⟩ := hst.form
  have hB : Hid (Bytes w a zs) := hb
  have hL : Hid (zs.length = n) := hl
  have k0 := hs0.c0
  rw [hl0.out] at hn
  clear hb hl
  have hS0 : Hid (RSt w r (.slice a0 n0 c0) lost) := hs0
  clear hs0
  have hYl : Hid ((q ++ zs).length = n0 + n) := by show _ = _; rw [List.length_append, hl0.out, hL.out]
  obtain ⟨ys, hys⟩ : ∃ ys, q ++ zs = ys := ⟨_, rfl⟩
  rw [hys] at hYl ⊢
  have hY : Hid (q ++ zs = ys) := hys
  clear hys
  have hS := scan_le ys
  rw [hYl.out] at hS
  have kk : Hid (∀ (a3 : Option Addr) (n3 cap3 : Nat) (w3 : World), ys.length = n3 → Bytes w3 a3 ys → n3 ≤ cap3 → cap3 ≤ 9223372036854775807 → n3 ≤ 1099511627776 → Calls Try.prog 14 #[.slice a3 n3 cap3] w3 fun e w' => ∃ v, e = .returned (.tuple #[v, .int .i64 ((scanL ys).2 : Nat)]) ∧ OwnsL w' w3.heap.size 0 v (scanL ys).1 ∧ Below w3.heap.size w3 w') := fun a3 n3 cap3 w3 p1 p2 p3 p4 p5 => rscan_any a3 n3 cap3 ys w3 p1 p2 p3 p4 p5
  generalize scanL ys = rr at *
  obtain ⟨LL, E⟩ := rr
  dsimp only at *
  obtain ⟨h2, h3⟩ := hS
  have hSz : Hid (sz LL ≤ 4611686018427387904) := by show _ ≤ _; omega
  have k1 : Hid (∀ (a1 : Option Addr) (n1 c1 : Nat) (w1 : World), LL.length = n1 → Lists w1 0 a1 LL → Calls Try.prog 29 #[.slice a1 n1 c1] w1 fun e w' => e = .returned (.int .i64 (sz LL : Nat)) ∧ w' = w1) := fun a1 n1 c1 w1 p1 p2 => rsize_any 0 a1 n1 c1 LL w1 p1 p2 hSz.out
  clear hSz
  generalize sz LL = S at *
  have i1 : IntKind.i64.wrap ((E : Int) - (S : Int)) = ((E - S : Nat) : Int) := by rw [IntKind.wrap_i64]; omega
  have hDn : E - S ≤ n0 + n := by omega
  generalize E - S = D at *
  have i2 : IntKind.i64.wrap ((lost : Int) + (D : Int)) = (lost : Int) + (D : Int) := by rw [IntKind.wrap_i64]; omega
  go_enter Try.func18, Try.ntmps18
  go_wp2_with (first
    | (at_builtin; refine wpList_append_bytes rfl _ (.tmp 11) rfl w.heap.size (.slice none 0 0) [] q rfl (ownsB_nil _ _) a0 n0 c0 rfl hl0.out hn0.out hB0.out (by rw [hl0.out]; simp; omega) (Nat.le_refl _) ?_; intro v2 w2 ho2 hg2; have hb2 := grown_below (Below.refl _ _) (ownsB_nil _ _) hg2 (Nat.le_refl _); simp only [List.nil_append] at ho2; clear hg2 k0; have hs2 := hb2.size; have hB2 : Hid (Bytes w2 a zs) := hB.out.kept hb2)
    | (at_builtin; refine wpList_append_bytes rfl (.tmp 12) (.tmp 13) rfl w.heap.size v2 q zs rfl ho2 a n cap rfl hL.out hnil hB2.out (by rw [hl0.out, hL.out]; omega) hs2 ?_; intro v3 w3 ho3 hg3; have hb3 := grown_below hb2 ho2 hg3 hs2; rw [hY.out] at ho3; have hS3 : Hid (RSt w3 r (.slice a0 n0 c0) lost) := hS0.out.kept hb3; clear hB2 hg3 ho2; obtain ⟨a3, n3, cap3, rfl, hl3, hn3, hc3, hm3, hB3⟩ := ho3.form; have hp3 := owns_spot ho3; have hLd3 : Hid (Load w3 0 (.slice a3 n3 cap3) ys) := load_of_owns ho3))
  have hn3e : Hid (n3 = n0 + n) := hl3.out.symm.trans hYl.out
  have hn3' : n3 ≤ 1099511627776 := by rw [hn3e.out]; exact hn
  have hEn : E ≤ n3 := by rw [hn3e.out]; exact h2
  have kk' := kk.out a3 n3 cap3 w3 hl3.out hB3.out hc3 hm3 hn3'
  clear hB3 ho3 kk
  refine kk'.mono ?_
  rintro e w4 ⟨v4, rfl, ho4, hb4⟩
  clear kk'
  obtain ⟨a1, n1, c1, rfl, hl1, hn1, hc1, hm1, hL1⟩ := ho4.lists
  have hst1 : Hid (RSt w4 r (.slice a0 n0 c0) lost) := hS3.out.kept hb4
  have hLd4 : Hid (Load w4 0 (.slice a3 n3 cap3) ys) := hLd3.out.keep (keep5_below hb4 0)
  have hO1 : Hid (OwnsL w4 w.heap.size 0 (.slice a1 n1 c1) LL) := ho4.mono hb3.size
  have hbw4 : Below w.heap.size w w4 := hb3.trans (hb4.mono hb3.size)
  clear ho4 hb4 hb3 hS3 hLd3 hb2 hs2
  have c2 := hst1.out.c1
  have z2 := hst1.out.fz 1
  go_wp2
  go_region_with (first | (go_at_call 29; refine (k1.out a1 n1 c1 _ hl1.out (by exact hL1.out)).mono ?_; rintro e w' ⟨rfl, rfl⟩))
  all_goals
    clear c2 z2 k1
    have hst2 : Hid (RSt ((w4.setCell ⟨r, 1, none⟩ (.int .i64 ((lost : Int) + (D : Int)))).drew) r (.slice a0 n0 c0) (lost + D)) := hst1.out.loses (lost + D)
    have hg2' : w4.grownBy ((w4.setCell ⟨r, 1, none⟩ (.int .i64 ((lost : Int) + (D : Int)))).drew) (some r) := but_drewN (but_setCell (World.grownBy.refl _ _) 1 _) 1
    have hLd2 : Hid (Load ((w4.setCell ⟨r, 1, none⟩ (.int .i64 ((lost : Int) + (D : Int)))).drew) 0 (.slice a3 n3 cap3) ys) := hLd4.out.keep (keep5_but hg2' (Nat.zero_le _) hst1.out (by decide))
    have hO2 : Hid (OwnsL ((w4.setCell ⟨r, 1, none⟩ (.int .i64 ((lost : Int) + (D : Int)))).drew) w.heap.size 0 (.slice a1 n1 c1) LL) := hO1.out.but hg2' (Nat.zero_le _) hst1.out (by decide) (by decide)
    have hg2 : w.grownBy ((w4.setCell ⟨r, 1, none⟩ (.int .i64 ((lost : Int) + (D : Int)))).drew) (some r) := (Below.but hbw4 _).trans hg2'
    clear hst1 hLd4 hO1 hg2' hL1 hbw4
    generalize (w4.setCell ⟨r, 1, none⟩ (.int .i64 ((lost : Int) + (D : Int)))).drew = w5 at *
    have c0' := hst2.out.c0
    have z0 := hst2.out.fz 0
    have j1 : (E : Int) ≤ (n3 : Int) := by omega
    have j2 : (E : Int) ≤ (cap3 : Int) := by omega
    have hDr : Hid ((ys.drop E).length = n3 - E) := by show _ = _; rw [List.length_drop, hl3.out]
    have fin : Hid (∀ a' c', (∀ x, a' = some x → x.spot = none) → Load w5 0 (.slice a' (n3 - E) c') (ys.drop E) → RStm (w5.setCell ⟨r, 0, none⟩ (.slice a' (n3 - E) c')) r (ys.drop E) (lost + D) ∧ OwnsL (w5.setCell ⟨r, 0, none⟩ (.slice a' (n3 - E) c')) w.heap.size 0 (.slice a1 n1 c1) LL ∧ w.grownBy (w5.setCell ⟨r, 0, none⟩ (.slice a' (n3 - E) c')) (some r)) := by
      intro a' c' hsp hld
      have hg3 : w5.grownBy (w5.setCell ⟨r, 0, none⟩ (.slice a' (n3 - E) c')) (some r) := but_setCell (World.grownBy.refl _ _) 0 _
      refine ⟨⟨a', c', ?_, ?_, hsp⟩, hO2.out.but hg3 (Nat.zero_le _) hst2.out (by decide) (by decide), hg2.trans hg3⟩
      · rw [hDr.out]
        exact hst2.out.keeps _
      · rw [hDr.out]
        exact hld.keep (keep5_but hg3 (Nat.zero_le _) hst2.out (by decide))
    cases a3 with
    | none =>
      have hq0 := hn3.out rfl
      subst hq0
      have hq1 : n3 = 0 := by omega
      subst hq1
      have hE0 : E = 0 := by omega
      subst hE0
      obtain ⟨f1, f2, f3⟩ := fin.out none 0 (by intro x hx; cases hx) (by simpa using hLd2.out)
      rw [Nat.sub_self] at f1 f2 f3
      clear fin
      go_wp2
      go_ret
      exact ⟨_, rfl, f2, f1, f3⟩
    | some x =>
      obtain ⟨b, off, sp⟩ := x
      obtain rfl : sp = none := hp3 _ rfl
      by_cases hq : cap3 = E
      · have hnE : n3 = E := by omega
        subst hq
        subst hnE
        obtain ⟨f1, f2, f3⟩ := fin.out (some ⟨b, off, none⟩) (n3 - n3) (by intro x hx; cases hx; rfl) (by
          have h9 : ys.drop n3 = [] := List.eq_nil_of_length_eq_zero (hDr.out.trans (Nat.sub_self _))
          rw [h9]
          exact ⟨some ⟨b, off, none⟩, n3 - n3, by simp, ⟨by simp, by simp, .inl rfl⟩, by simp, by simp, by simp [maxLen], fun x hx hne => absurd rfl hne⟩)
        clear fin
        rw [Nat.sub_self] at f1 f2 f3
        go_wp2
        go_ret
        exact ⟨_, rfl, f2, f1, f3⟩
      · have q1 : (cap3 = E) = False := by simp [hq]
        obtain ⟨f1, f2, f3⟩ := fin.out (some ⟨b, off + E, none⟩) (cap3 - E) (by intro x hx; cases hx; rfl) (hLd2.out.drop E (by omega) hc3 hm3)
        clear fin
        go_wp2
        go_ret
        exact ⟨_, rfl, f2, f1, f3⟩
end Go.Proofs.Yticlobjikpfcjaa
