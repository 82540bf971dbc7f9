/-
  A stream looks through bytes in the place of those that wait; it is fed.
-/
import Derived.Test.YticlobjikpfcjabNStream
import Derived.Deep.RegionHeld3
import Derived.Deep.RegionWith
namespace Go.Proofs.Yticlobjikpfcjab
open Go.RowKit

/-- Bytes lie in no stream's block. -/
theorem Bytes.past {w w' : World} {g lost n0 c0 : Nat} {a0 a : Option Addr} {zs : List Int} (h : Bytes w a zs) (hst : StAt w g (.slice a0 n0 c0) lost) (hg : w.grownBy w' (some g)) : Bytes w' a zs := by
  refine ⟨h.1, h.2.1, ?_⟩
  rcases h.2.2 with h0 | ⟨b, off, rfl, hc⟩
  · exact .inl h0
  · refine .inr ⟨b, off, rfl, fun i hi => hg.cell (hc i hi) fun e => ?_⟩
    obtain rfl : b = g := Option.some.inj e
    have h1 := hc i hi
    rw [cell_row hst] at h1
    rcases (show off + i = 0 ∨ off + i = 1 ∨ off + i = 2 ∨ 3 ≤ off + i by omega) with h2 | h2 | h2 | h2
    · rw [h2] at h1; cases h1
    · rw [h2] at h1; cases h1
    · rw [h2] at h1; cases h1
    · rw [Array.getElem?_eq_none (by simpa using h2)] at h1; cases h1

theorem owns_spot {w : World} {base n cap : Nat} {a : Option Addr} {zs : List Int} (h : OwnsB w base (.slice a n cap) zs) : ∀ x, a = some x → x.spot = none := by
  intro x hx
  obtain ⟨a', cap', e, _, _, _, hp⟩ := h.shape
  simp only [Value.slice.injEq] at e
  rw [e.1] at hx
  exact (hp x hx).2.2.2
theorem OwnsL.mono {w : World} {rb rb' base base' : Nat} {v : Value} {Ls : List (List Int)} (h : OwnsL w rb base v Ls) (hb : rb' ≤ rb) (hb2 : base' ≤ base) : OwnsL w rb' base' v Ls := by
  obtain ⟨vs, ⟨h0, h1⟩, h2⟩ := h
  refine ⟨vs, ⟨h0, ?_⟩, fun i u hu => (h2 i u hu).mono hb2⟩
  rcases h1 with h1 | ⟨g, cap, cur, e, hbg, rest⟩
  · exact .inl h1
  · exact .inr ⟨g, cap, cur, e, Nat.le_trans hb hbg, rest⟩
/-- What waits lies from a place on. -/
def Far (w : World) (g H : Nat) : Prop := ∀ a n c, w.cell? ⟨g, 1, none⟩ = some (.slice a n c) → ∀ x, a = some x → H ≤ x.block
/-- THE LOADS WERE THERE BEFORE WHAT WAITS WAS LAID DOWN. -/
def Mid (w w' : World) (g : Nat) (v : Value) (Ls : List (List Int)) : Prop :=
  ∃ wm : World, w.heap.size ≤ wm.heap.size ∧ OwnsL wm w.heap.size w.heap.size v Ls ∧ wm.grownBy w' (some g) ∧ Far w' g wm.heap.size

set_option maxHeartbeats 1000000 in
theorem look_far (g : Nat) (a0 : Option Addr) (n0 c0 lost : Nat) (a : Option Addr) (n cap : Nat) (zs : List Int) (w : World) (hst : StAt w g (.slice a0 n0 c0) lost) (hl : zs.length = n) (hb : Bytes w a zs) (hnil : a = none → cap = 0) (hsp : ∀ x, a = some x → x.spot = none) (hc : n ≤ cap) (hcm : cap ≤ 9223372036854775807) (hn : n ≤ 70368744177664) (hlo : lost ≤ 4611686018427387904) :
    Calls Try.prog 14 #[.pointer (some ⟨g, 0, none⟩), .slice a n cap] w fun e w' => ∃ v, e = .returned v ∧ OwnsL w' w.heap.size w.heap.size v (scanL zs).1 ∧ Mid w w' g v (scanL zs).1 ∧ Stm w' g (zs.drop (scanL zs).2) (lost + ((scanL zs).2 - sz (scanL zs).1)) ∧ w.grownBy w' (some g) := by
  have hB : Hid (Bytes w a zs) := hb
  have hL : Hid (zs.length = n) := hl
  have hS := scan_le zs
  rw [hl] at hS
  have k0 := scan_any a n cap zs w hL.out hB.out hc hcm hn
  clear hb hl
  generalize scanL zs = r at *
  obtain ⟨LL, E⟩ := r
  dsimp only at *
  obtain ⟨h2, h3⟩ := hS
  have hSz : Hid (sz LL ≤ 4611686018427387904) := by show _ ≤ _; omega
  have k1 : Hid (∀ (a1 : Option Addr) (n1 c1 : Nat) (w1 : World), LL.length = n1 → Lists w1 w.heap.size a1 LL → Calls Try.prog 18 #[.slice a1 n1 c1] w1 fun e w' => e = .returned (.int .i64 (sz LL : Nat)) ∧ w' = w1) := fun a1 n1 c1 w1 p1 p2 => fbytes_any w.heap.size a1 n1 c1 LL w1 p1 p2 hSz.out
  clear hSz
  generalize sz LL = S at *
  have i1 : IntKind.i64.wrap ((E : Int) - (S : Int)) = ((E - S : Nat) : Int) := by rw [IntKind.wrap_i64]; omega
  have hDn : E - S ≤ n := by omega
  generalize E - S = D at *
  have i2 : IntKind.i64.wrap ((lost : Int) + (D : Int)) = (lost : Int) + (D : Int) := by rw [IntKind.wrap_i64]; omega
  go_enter Try.func14, Try.ntmps14
  go_wp2_with fail
  refine k0.mono ?_
  rintro e w1 ⟨v1, rfl, ho1, hb1⟩
  clear k0
  obtain ⟨a1, n1, c1, rfl, hl1, hn1, hc1, hm1, hL1⟩ := ho1.lists
  have hst1 : Hid (StAt w1 g (.slice a0 n0 c0) lost) := hst.kept hb1
  have hB1 : Hid (Bytes w1 a zs) := hB.out.kept hb1
  have hO1 : Hid (OwnsL w1 w.heap.size w.heap.size (.slice a1 n1 c1) LL) := ho1
  clear ho1
  have c2 := hst1.out.c2
  have z2 := hst1.out.fz 2
  go_wp2
  go_region_with (first | (go_at_call 18; refine (k1.out a1 n1 c1 _ hl1.out (by exact hL1.out)).mono ?_; rintro e w' ⟨rfl, rfl⟩))
  all_goals
    clear c2 z2 k1
    have hst2 : Hid (StAt ((w1.setCell ⟨g, 2, none⟩ (.int .i64 ((lost : Int) + (D : Int)))).drew) g (.slice a0 n0 c0) (lost + D)) := hst1.out.loses (lost + D)
    have hg2' : w1.grownBy ((w1.setCell ⟨g, 2, none⟩ (.int .i64 ((lost : Int) + (D : Int)))).drew) (some g) := but_drewN (but_setCell (World.grownBy.refl _ _) 2 _) 1
    have hB2 : Hid (Bytes ((w1.setCell ⟨g, 2, none⟩ (.int .i64 ((lost : Int) + (D : Int)))).drew) a zs) := hB1.out.past hst1.out hg2'
    have hO2 : Hid (OwnsL ((w1.setCell ⟨g, 2, none⟩ (.int .i64 ((lost : Int) + (D : Int)))).drew) w.heap.size w.heap.size (.slice a1 n1 c1) LL) := hO1.out.but hg2' (Nat.zero_le _) hst1.out (by decide) (by decide)
    have hg2 : w.grownBy ((w1.setCell ⟨g, 2, none⟩ (.int .i64 ((lost : Int) + (D : Int)))).drew) (some g) := (Below.but hb1 _).trans hg2'
    clear hst1 hB1 hO1 hg2' hL1 hb1
    generalize (w1.setCell ⟨g, 2, none⟩ (.int .i64 ((lost : Int) + (D : Int)))).drew = w2 at *
    have c1' := hst2.out.c1
    have z1 := hst2.out.fz 1
    have j1 : (E : Int) ≤ (n : Int) := by omega
    have j2 : (E : Int) ≤ (cap : Int) := by omega
    have hDr : Hid ((zs.drop E).length = n - E) := by show _ = _; rw [List.length_drop, hL.out]
    have fin : ∀ v3 w3, OwnsB w3 w2.heap.size v3 (zs.drop E) → Below w2.heap.size w2 w3 → Stm (w3.setCell ⟨g, 1, none⟩ v3) g (zs.drop E) (lost + D) ∧ OwnsL (w3.setCell ⟨g, 1, none⟩ v3) w.heap.size w.heap.size (.slice a1 n1 c1) LL ∧ Mid w (w3.setCell ⟨g, 1, none⟩ v3) g (.slice a1 n1 c1) LL ∧ w.grownBy (w3.setCell ⟨g, 1, none⟩ v3) (some g) ∧ w3.cell? ⟨g, 1, none⟩ = some (.slice a0 n0 c0) ∧ w3.frozen? ⟨g, 1, none⟩ = false ∧ v3.oneCell' = true := by
      intro v3 w3 ho hb
      have h3 := hst2.out.kept hb
      have hg3 : w3.grownBy (w3.setCell ⟨g, 1, none⟩ v3) (some g) := but_setCell (World.grownBy.refl _ _) 1 _
      have hld : Load w3 0 v3 (zs.drop E) := (load_of_owns ho).mono (Nat.zero_le _)
      refine ⟨?_, (hO2.out.below hb).but hg3 (Nat.zero_le _) h3 (by decide) (by decide), ⟨w2, hg2.size, hO2.out, (Below.but hb _).trans hg3, ?_⟩, (but_below hg2 hb).trans hg3, h3.c1, h3.fz 1, load_one hld⟩
      · obtain ⟨a3, cap3, rfl, _⟩ := id hld
        exact ⟨a3, cap3, h3.keeps _, hld.keep (keep5_but hg3 (Nat.zero_le _) h3 (by decide))⟩
      · intro a4 n4 c4 h4 x hx
        rw [(h3.keeps v3).c1] at h4
        obtain ⟨a5, c5, e5, _, _, _, hp5⟩ := ho.shape
        rw [e5] at h4
        cases h4
        exact (hp5 x hx).1
    cases a with
    | none =>
      have hc0 := hnil rfl
      subst hc0
      have hn0 : n = 0 := by omega
      subst hn0
      have hE0 : E = 0 := by omega
      subst hE0
      obtain ⟨f1, f2, f7, f3, -, -, -⟩ := fin (.slice none 0 0) w2 (by rw [List.eq_nil_of_length_eq_zero hDr.out]; exact ownsB_nil _ _) (Below.refl _ _)
      clear fin
      go_wp2
      go_ret
      exact ⟨_, rfl, f2, f7, f1, f3⟩
    | some x =>
      obtain ⟨b, off, sp⟩ := x
      obtain rfl : sp = none := hsp _ rfl
      by_cases hq : cap = E
      · have hnE : n = E := by omega
        subst hq
        subst hnE
        obtain ⟨f1, f2, f7, f3, -, -, -⟩ := fin (.slice none 0 0) w2 (by rw [List.eq_nil_of_length_eq_zero (hDr.out.trans (Nat.sub_self _))]; exact ownsB_nil _ _) (Below.refl _ _)
        clear fin
        go_wp2
        go_ret
        exact ⟨_, rfl, f2, f7, f1, f3⟩
      · have q1 : (cap = E) = False := by simp [hq]
        have hB3 : Hid (Bytes w2 (some ⟨b, off + E, none⟩) (zs.drop E)) := hB2.out.drop E
        go_wp2_with (at_builtin; refine wpList_append_bytes rfl _ (.tmp 26) rfl w2.heap.size (.slice none 0 0) [] (zs.drop E) rfl (ownsB_nil _ _) (some ⟨b, off + E, none⟩) (n - E) (cap - E) rfl hDr.out (by simp) hB3.out (by rw [hDr.out]; simp; omega) (Nat.le_refl _) ?_; intro v3 w3 ho3 hg3; have hb3 := grown_below (Below.refl _ _) (ownsB_nil _ _) hg3 (Nat.le_refl _); simp only [List.nil_append] at ho3; clear hg3; obtain ⟨f1, f2, f7, f3, f4, f5, -⟩ := fin v3 w3 ho3 hb3; obtain ⟨a3, n3, c3, rfl, -, -, -, -, -⟩ := ho3.form; clear c1' z1 fin)
        go_ret
        exact ⟨_, rfl, f2, f7, f1, f3⟩

set_option maxHeartbeats 1000000 in
theorem feed_far (g : Nat) (q : List Int) (lost : Nat) (a : Option Addr) (n cap : Nat) (zs : List Int) (w : World) (hst : Stm w g q lost) (hl : zs.length = n) (hb : Bytes w a zs) (hnil : a = none → cap = 0) (hn : q.length + n ≤ 70368744177664) (hlo : lost ≤ 4611686018427387904) :
    Calls Try.prog 7 #[.pointer (some ⟨g, 0, none⟩), .slice a n cap] w fun e w' => ∃ v, e = .returned v ∧ OwnsL w' w.heap.size w.heap.size v (scanL (q ++ zs)).1 ∧ Mid w w' g v (scanL (q ++ zs)).1 ∧ Stm w' g ((q ++ zs).drop (scanL (q ++ zs)).2) (lost + ((scanL (q ++ zs)).2 - sz (scanL (q ++ zs)).1)) ∧ w.grownBy w' (some g) := by
  obtain ⟨a0, n0, c0, hs0, hl0, hn0, hc0, hm0, -, hB0⟩ := hst.form
  have hB : Hid (Bytes w a zs) := hb
  have hL : Hid (zs.length = n) := hl
  have k := made_any _ _ _ _ hs0
  have c1 := hs0.c1
  rw [hl0.out] at hn
  clear hb hl
  have hS0 : Hid (StAt w g (.slice a0 n0 c0) lost) := hs0
  clear hs0
  go_enter Try.func7, Try.ntmps7
  go_wp2_with (first
    | (go_at_call 13; refine k.mono ?_; rintro e w' ⟨rfl, hw⟩; obtain rfl : w = w' := hw.symm)
    | (at_builtin; refine wpList_append_bytes rfl _ (.tmp 12) rfl w.heap.size (.slice none 0 0) [] q rfl (ownsB_nil _ _) a0 n0 c0 rfl hl0.out hn0.out hB0.out (by rw [hl0.out]; simp; omega) (Nat.le_refl _) ?_; intro v2 w2 ho2 hg2; have hb2 := grown_below (Below.refl _ _) (ownsB_nil _ _) hg2 (Nat.le_refl _); simp only [List.nil_append] at ho2; clear hg2 k c1; have hs2 := hb2.size; have hB2 : Hid (Bytes w2 a zs) := hB.out.kept hb2; have hS2 : Hid (StAt w2 g (.slice a0 n0 c0) lost) := hS0.out.kept hb2)
    | (at_builtin; refine wpList_append_bytes rfl (.tmp 15) (.tmp 16) rfl w.heap.size v2 q zs rfl ho2 a n cap rfl hL.out hnil hB2.out (by rw [hl0.out, hL.out]; omega) hs2 ?_; intro v3 w3 ho3 hg3; have hb3 := grown_below hb2 ho2 hg3 hs2; have hS3 : Hid (StAt w3 g (.slice a0 n0 c0) lost) := hS0.out.kept hb3; clear hS2 hB2 hg3 ho2; obtain ⟨a3, n3, cap3, rfl, hl3, hn3, hc3, hm3, hB3⟩ := ho3.form; have hp3 := owns_spot ho3))
  refine (look_far g a0 n0 c0 lost a3 n3 cap3 (q ++ zs) w3 hS3.out hl3.out hB3.out hn3.out hp3 hc3 hm3 (by have h1 := hl3.out; rw [List.length_append, hl0.out, hL.out] at h1; omega) hlo).mono ?_
  rintro e w4 ⟨v4, rfl, ho4, ⟨wm, hm1, hm2, hm3', hm4⟩, hst4, hg4⟩
  go_wp2
  go_ret
  exact ⟨_, rfl, ho4.mono hb3.size hb3.size, ⟨wm, Nat.le_trans hb3.size hm1, hm2.mono hb3.size hb3.size, hm3', hm4⟩, hst4, (Below.but hb3 _).trans hg4⟩

theorem feed_any (g : Nat) (q : List Int) (lost : Nat) (a : Option Addr) (n cap : Nat) (zs : List Int) (w : World) (hst : Stm w g q lost) (hl : zs.length = n) (hb : Bytes w a zs) (hnil : a = none → cap = 0) (hn : q.length + n ≤ 70368744177664) (hlo : lost ≤ 4611686018427387904) :
    Calls Try.prog 7 #[.pointer (some ⟨g, 0, none⟩), .slice a n cap] w fun e w' => ∃ v, e = .returned v ∧ OwnsL w' w.heap.size 0 v (scanL (q ++ zs)).1 ∧ Stm w' g ((q ++ zs).drop (scanL (q ++ zs)).2) (lost + ((scanL (q ++ zs)).2 - sz (scanL (q ++ zs)).1)) ∧ w.grownBy w' (some g) := by
  refine (feed_far g q lost a n cap zs w hst hl hb hnil hn hlo).mono ?_
  rintro e w' ⟨v, rfl, ho, _, hs, hg⟩
  exact ⟨v, rfl, ho.mono (Nat.le_refl _) (Nat.zero_le _), hs, hg⟩
end Go.Proofs.Yticlobjikpfcjab
