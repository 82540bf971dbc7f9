/-
  Losses parsed: the end of the bytes, and Parse.
-/
import Derived.Test.YtgfnohgpmmaocaaDoorLme
namespace Go.Proofs.YtgfnohgpmmaocaaDoor
open Go.RowKit
set_option linter.unusedVariables false

theorem al_below (w : World) (o : Obj) : Below w.heap.size w (w.alloc o) := (Below.refl _ _).alloc (Nat.le_refl _) o
theorem OwnsK.set {w : World} {base : Nat} {v : Value} {L : List (Value × Ls)} (h : OwnsK w base v L) {a : Addr} (ha : a.block < base) (u : Value) : OwnsK (w.setCell a u) base v L :=
  h.keep fun b cur e h1 h2 _ => Below.heap_setCell _ _ _ _ (by omega)
theorem ownsRow_base {w : World} {base base' e k n : Nat} {v : Value} {cs : List Value} (h : w.ownsRow base e k v n cs) (hb : base' ≤ base) : w.ownsRow base' e k v n cs := by
  obtain ⟨h1, h2⟩ := h
  refine ⟨h1, ?_⟩
  rcases h2 with h2 | ⟨g, cap, cur, hv, hg, hc, r⟩
  · exact .inl h2
  · exact .inr ⟨g, cap, cur, hv, by omega, hc, r⟩
theorem OwnsK.base {w : World} {base base' : Nat} {v : Value} {L : List (Value × Ls)} (h : OwnsK w base v L) (hb : base' ≤ base) : OwnsK w base' v L :=
  ⟨ownsRow_base h.1 hb, fun p hp => ⟨ownsRow_base (h.2 p hp).1 hb, (h.2 p hp).2⟩⟩
theorem rleft_any {base q g n : Nat} {a : Option Addr} {zs : List Int} {s : St} {w : World} (h : Rd w base q g a n zs s) (h0 : s.1 = 0) :
    Calls Tryd.prog 37 #[.pointer (some ⟨g, 0, none⟩)] w fun e w' => e = .returned (.int .i64 ((n - s.2.2 : Nat) : Int)) ∧ Below w.heap.size w w' := by
  obtain ⟨p, y, f, h1, h2⟩ := h.cur
  obtain ⟨rfl, rfl, rfl⟩ := h2 h0
  refine (left_any g s.2.2 0 0 n n a w h1.1 h1.2.2.2.1 (by have := h1.2.2.2.2.1; omega)).mono ?_
  rintro e w' ⟨rfl, k, rfl⟩
  exact ⟨rfl, below_drewN (Below.refl _ _) k⟩

set_option maxHeartbeats 4000000 in
theorem end_any {base q g n : Nat} {a : Option Addr} {zs : List Int} {s : St} {w : World} (h : Rd w base q g a n zs s) :
    Calls Tryd.prog 25 #[.pointer (some ⟨q, 0, none⟩)] w fun e w' => (∃ u, e = .returned u) ∧ Hid (Rd w' base q g a n zs (endS zs s)) ∧ Hid (K2 q g w w') := by
  obtain ⟨R, hRR⟩ : ∃ R, Hid (endS zs s = R) := ⟨_, rfl⟩
  rw [hRR.out]
  have hfd := field_y
  have hz := h.zs
  have k1 := rfault_any h
  have hR : Hid (Rd w base q g a n zs s) := h
  clear h
  go_enter Tryd.func25, Tryd.ntmps25
  go_wp2_with fail
  refine k1.mono ?_
  rintro e w1 ⟨⟨f, rfl, hf⟩, hb1⟩
  have hR1 : Hid (Rd w1 base q g a n zs s) := hR.out.kept hb1
  have hK1 : Hid (K2 q g w w1) := K2.of_below hb1
  clear hR hb1 k1 hf
  by_cases h0 : s.1 = 0
  · obtain ⟨y1, f1, hbk⟩ := hR1.out.blk
    have d0 := hbk.c0
    have k2 := rleft_any hR1.out h0
    rw [h0]
    go_wp2_with fail
    refine k2.mono ?_
    rintro e w2 ⟨rfl, hb2⟩
    clear k2 hbk d0
    have hR2 : Hid (Rd w2 base q g a n zs s) := hR1.out.kept hb2
    have hK2 : Hid (K2 q g w w2) := hK1.out.trans (K2.of_below hb2)
    clear hR1 hK1 hb2
    by_cases h1 : s.2.2 < n
    · have hE : Hid (R = (10, s.2.2, 0)) := by
        show _ = _
        rw [← hRR.out]
        unfold endS
        rw [if_pos ⟨h0, by rw [hz.2.1]; exact h1⟩]
      have hp : (0 : Int) < ((n - s.2.2 : Nat) : Int) := by omega
      have hp' : 0 < n - s.2.2 := by omega
      have hp2 : ¬ (n - s.2.2 = 0) := by omega
      obtain ⟨y1, f1, hbk⟩ := hR2.out.blk
      have d0 := hbk.c0
      have d1 := hbk.c1
      have d2 := hbk.c2
      have z1 := hbk.fz 1
      have z2 := hbk.fz 2
      have k3 := rat_any hR2.out
      obtain ⟨hR4, hK4⟩ := hR2.out.fails 10 s.2.2 (by decide)
      have hR4' : Hid (Rd _ base q g a n zs (10, s.2.2, 0)) := hR4
      have hK4' : Hid (K2 q g w2 _) := hK4
      clear hR4 hK4 hbk hRR
      generalize n - s.2.2 = lf at *
      go_wp2_with (go_at_call 38; refine k3.mono ?_; rintro e w3 ⟨⟨p, rfl, hp, hps⟩, hw3⟩; obtain rfl := hw3.symm; have hps' := hps h0; subst hps')
      refine bodyPost_end (results_none rfl _ _ _) rfl ?_
      rw [hE.out]
      exact ⟨⟨_, rfl⟩, hR4', hK2.out.trans hK4'.out⟩
    · have hE : Hid (R = s) := by
        show _ = _
        rw [← hRR.out]
        unfold endS
        rw [if_neg (by rw [hz.2.1]; omega)]
      have e0 : n - s.2.2 = 0 := by omega
      rw [e0]
      clear hRR e0
      go_wp2
      refine bodyPost_end (results_none rfl _ _ _) rfl ?_
      rw [hE.out]
      exact ⟨⟨_, rfl⟩, hR2, hK2⟩
  · have hE : Hid (R = s) := by
      show _ = _
      rw [← hRR.out]
      unfold endS
      rw [if_neg (by simp [h0])]
    have hy : (((s.1 : Nat) : Int) == 0) = false := by rw [beq_eq_false_iff_ne]; omega
    clear hRR
    go_wp2
    refine bodyPost_end (results_none rfl _ _ _) rfl ?_
    rw [hE.out]
    exact ⟨⟨_, rfl⟩, hR1, hK1⟩

set_option maxHeartbeats 4000000 in
theorem parse_any (a : Option Addr) (n cap : Nat) (zs : List Int) (w : World) (hl : zs.length = n) (hb : Bytes w a zs) (hn : a = none → cap = 0) (hm : n ≤ 140737488355328) :
    Calls Tryd.prog 13 #[.slice a n cap] w fun e w' => ∃ (v : Value) (L : List (Value × Ls)), e = .returned (.tuple #[v, .agg #[.int .i64 ((parA zs).2.1 : Nat), .int .i64 ((parA zs).2.2 : Nat)]]) ∧ Hid (OwnsK w' w.heap.size v L ∧ L.length ≤ 2048 ∧ L.map Prod.snd = (parA zs).1) ∧ Hid (Below w.heap.size w w') := by
  obtain ⟨R, hRR⟩ : ∃ R, Hid (parA zs = R) := ⟨_, rfl⟩
  rw [hRR.out]
  have hal : Below w.heap.size w (w.alloc (.cells #[.int .i64 0, .int .i64 0] 33)) := (Below.refl _ _).alloc (Nat.le_refl _) _
  have hX0 : Hid (Blk (w.alloc (.cells #[.int .i64 0, .int .i64 0] 33)) w.heap.size #[.int .i64 0, .int .i64 0] 33) := blk_new _ _ _
  have k0 := new_any a n cap zs _ hl (hb.kept hal) hn hm
  have hfd := field_y
  clear hb hn
  go_enter Tryd.func13, Tryd.ntmps13
  go_wp2_with fail
  refine k0.mono ?_
  rintro e w1 ⟨g, a1, rfl, hC1, hb1⟩
  clear k0
  have hX1 : Hid (Blk w1 w.heap.size #[.int .i64 0, .int .i64 0] 33) := hX0.out.kept hb1
  have hB1 : Hid (Below w.heap.size w w1) := hal.trans (hb1.mono (by simp))
  have hsz : Hid (w.heap.size + 1 ≤ w1.heap.size) := by have := hb1.size; show _ ≤ _; simp at this; omega
  have hC1' : Hid (Cur w1 (w.heap.size + 1) g a1 n zs 0 0 0) := by
    have : (w.alloc (.cells #[.int .i64 0, .int .i64 0] 33)).heap.size = w.heap.size + 1 := by simp
    rw [this] at hC1
    exact hC1
  clear hX0 hb1 hC1 hal
  have hR2 : Hid (Rd (w1.alloc (.cells #[.pointer (some ⟨g, 0, none⟩), .int .i64 0, .int .i64 0] 50)) (w.heap.size + 1) w1.heap.size g a1 n zs (0, 0, 0)) := by
    have hb := (Below.refl w1.heap.size w1).alloc (Nat.le_refl _) (.cells #[.pointer (some ⟨g, 0, none⟩), .int .i64 0, .int .i64 0] 50)
    exact ⟨⟨Nat.ne_of_gt hC1'.out.1.lt, hsz.out, fun x hx => Nat.ne_of_lt (hC1'.out.2.2.2.2.2.2.2 x hx).2.1⟩, .inl ⟨rfl, rfl, blk_new _ _ _, hC1'.out.kept hb⟩⟩
  have hX2 : Hid (Blk (w1.alloc (.cells #[.pointer (some ⟨g, 0, none⟩), .int .i64 0, .int .i64 0] 50)) w.heap.size #[.int .i64 0, .int .i64 0] 33) := hX1.out.kept ((Below.refl w1.heap.size w1).alloc (Nat.le_refl _) _)
  have hB2 : Hid (Below w.heap.size w (w1.alloc (.cells #[.pointer (some ⟨g, 0, none⟩), .int .i64 0, .int .i64 0] 50))) := hB1.out.alloc hB1.out.size _
  have hg0 : Hid (w.heap.size < g ∧ w.heap.size < w1.heap.size) := ⟨hC1'.out.2.2.2.2.2.1, hsz.out⟩
  clear hC1' hB1 hX1 hsz
  have k3 := losses_any hR2.out
  have hs2 : Hid (w.heap.size + 1 ≤ (w1.alloc (.cells #[.pointer (some ⟨g, 0, none⟩), .int .i64 0, .int .i64 0] 50)).heap.size) := by have := hg0.out.2; show _ ≤ _; simp; omega
  have hpl : Hid (Low (w1.alloc (.cells #[.pointer (some ⟨g, 0, none⟩), .int .i64 0, .int .i64 0] 50)).heap.size w1.heap.size g a1) := hR2.out.lows
  go_wp2_with fail
  refine k3.mono ?_
  rintro e w3 ⟨v, L, rfl, hO3, hL3, hR3, hK3⟩
  clear k3 hR2
  generalize w1.alloc (.cells #[.pointer (some ⟨g, 0, none⟩), .int .i64 0, .int .i64 0] 50) = W2 at *
  generalize w1.heap.size = q at *
  have hX3 : Hid (Blk w3 w.heap.size #[.int .i64 0, .int .i64 0] 33) := (hK3.out.block _ hX2.out.lt (Nat.ne_of_lt hg0.out.2) (Nat.ne_of_lt hg0.out.1)).trans hX2.out
  have hB3 : Hid (Below w.heap.size w w3) := hK3.out.below hB2.out hB2.out.size (Nat.le_of_lt hg0.out.2) (Nat.le_of_lt hg0.out.1)
  clear hX2 hB2 hK3
  have k4 := end_any hR3.out
  go_wp2_with fail
  refine k4.mono ?_
  rintro e w4 ⟨⟨u, rfl⟩, hR4, hK4⟩
  have hX4 : Hid (Blk w4 w.heap.size #[.int .i64 0, .int .i64 0] 33) := (hK4.out.block _ hX3.out.lt (Nat.ne_of_lt hg0.out.2) (Nat.ne_of_lt hg0.out.1)).trans hX3.out
  have hB4 : Hid (Below w.heap.size w w4) := hK4.out.below hB3.out hB3.out.size (Nat.le_of_lt hg0.out.2) (Nat.le_of_lt hg0.out.1)
  have hO4 : Hid (OwnsK w4 W2.heap.size v L ∧ L.length ≤ 2048) := ⟨hO3.out.1.k2 hK4.out hpl.out.1 hpl.out.2.1, hO3.out.2⟩
  clear hX3 hB3 hK4 hO3 hR3 k4
  have k5 := rfault_any hR4.out
  go_wp2_with fail
  refine k5.mono ?_
  rintro e w5 ⟨⟨f, rfl, hf⟩, hb5⟩
  have hX5 : Hid (Blk w5 w.heap.size #[.int .i64 0, .int .i64 0] 33) := hX4.out.kept hb5
  have hB5 : Hid (Below w.heap.size w w5) := hB4.out.trans (hb5.mono hB4.out.size)
  have hO5 : Hid (OwnsK w5 W2.heap.size v L ∧ L.length ≤ 2048) := ⟨hO4.out.1.kept hb5, hO4.out.2⟩
  clear hX4 hB4 hO4 hR4 k5 hb5
  have hP : Hid (R = if (endS zs (manyS zs (0, 0, 0)).2).1 ≠ 0 then ([], (endS zs (manyS zs (0, 0, 0)).2).1, (endS zs (manyS zs (0, 0, 0)).2).2.1) else ((manyS zs (0, 0, 0)).1, 0, 0)) := hRR.out.symm
  have hEE : Hid ((endS zs (manyS zs (0, 0, 0)).2).1 = 0 → (manyS zs (0, 0, 0)).2.1 = 0) := fun h => by
    unfold endS at h
    by_cases h1 : (manyS zs (0, 0, 0)).2.1 = 0 ∧ (manyS zs (0, 0, 0)).2.2.2 < zs.length
    · exact h1.1
    · rw [if_neg h1] at h; exact h
  clear hRR
  generalize endS zs (manyS zs (0, 0, 0)).2 = S at *
  generalize manyS zs (0, 0, 0) = T at *
  have d0 := (hX5.out.kept (al_below w5 (.cells #[.int .i64 (S.1 : Nat), .int .i64 (f : Nat)] 33))).cell 0
  have d1 := (hX5.out.kept (al_below w5 (.cells #[.int .i64 (S.1 : Nat), .int .i64 (f : Nat)] 33))).cell 1
  have z0 := (hX5.out.kept (al_below w5 (.cells #[.int .i64 (S.1 : Nat), .int .i64 (f : Nat)] 33))).fz 0
  have z1 := (hX5.out.kept (al_below w5 (.cells #[.int .i64 (S.1 : Nat), .int .i64 (f : Nat)] 33))).fz 1
  by_cases h0 : S.1 = 0
  · have hR : Hid (R = (T.1, 0, 0)) := by show _ = _; rw [hP.out, if_neg (by simp [h0])]
    have hL : Hid (L.map Prod.snd = T.1) := hL3.out (hEE.out h0)
    have hS0 : ((S.1 : Nat) : Int) = 0 := by omega
    rw [hS0] at d0 d1 z0 z1 ⊢
    have hXa : Hid (Blk (w5.alloc (.cells #[.int .i64 0, .int .i64 (f : Nat)] 33)) w.heap.size #[.int .i64 0, .int .i64 0] 33) := hX5.out.kept (al_below w5 _)
    have hOa : Hid (OwnsK (w5.alloc (.cells #[.int .i64 0, .int .i64 (f : Nat)] 33)) W2.heap.size v L ∧ L.length ≤ 2048) := ⟨hO5.out.1.alloc _, hO5.out.2⟩
    have hBa : Hid (Below w.heap.size w (w5.alloc (.cells #[.int .i64 0, .int .i64 (f : Nat)] 33))) := hB5.out.alloc hB5.out.size _
    clear hP hEE hL3 hX5 hO5 hB5
    go_wp2
    have K1 := hXa.out.set 0 (.int .i64 0)
    have K2' := K1.set 1 (.int .i64 0)
    have e0 := K1.cell 0
    have e1 := K2'.cell 1
    simp at e0 e1
    refine bodyPost_ret (v := .tuple #[v, .agg #[.int .i64 0, .int .i64 0]]) (by simp [results, Tryd.results13, go_sem, e0, e1]) rfl ⟨v, L, by rw [hR.out]; rfl, ⟨((hOa.out.1.set (a := ⟨w.heap.size, 0, none⟩) hs2.out _).set (a := ⟨w.heap.size, 1, none⟩) hs2.out _).base (Nat.le_of_lt hs2.out), hOa.out.2, by rw [hR.out]; exact hL.out⟩, (hBa.out.setCell (p := ⟨w.heap.size, 0, none⟩) (Nat.le_refl _) _).setCell (p := ⟨w.heap.size, 1, none⟩) (Nat.le_refl _) _⟩
  · have hy : (((S.1 : Nat) : Int) != 0) = true := by rw [bne_iff_ne]; omega
    have hf' := hf h0
    subst hf'
    have hR : Hid (R = ([], S.1, S.2.1)) := by show _ = _; rw [hP.out, if_pos h0]
    have hXa : Hid (Blk (w5.alloc (.cells #[.int .i64 (S.1 : Nat), .int .i64 (S.2.1 : Nat)] 33)) w.heap.size #[.int .i64 0, .int .i64 0] 33) := hX5.out.kept (al_below w5 _)
    have hBa : Hid (Below w.heap.size w (w5.alloc (.cells #[.int .i64 (S.1 : Nat), .int .i64 (S.2.1 : Nat)] 33))) := hB5.out.alloc hB5.out.size _
    clear hP hEE hL3 hX5 hO5 hB5
    go_wp2_with fail
    go_region
    go_wp2
    have K1 := hXa.out.set 0 (.int .i64 (S.1 : Nat))
    have K2' := K1.set 1 (.int .i64 (S.2.1 : Nat))
    have e0 := K1.cell 0
    have e1 := K2'.cell 1
    simp at e0 e1
    refine bodyPost_ret (v := .tuple #[.slice none 0 0, .agg #[.int .i64 (S.1 : Nat), .int .i64 (S.2.1 : Nat)]]) (by simp [results, Tryd.results13, go_sem, e0, e1]) rfl ⟨.slice none 0 0, [], by rw [hR.out], ⟨ownsK_nil _ _, by simp, by rw [hR.out]; rfl⟩, ((hBa.out.setCell (p := ⟨w.heap.size, 0, none⟩) (Nat.le_refl _) _).setCell (p := ⟨w.heap.size, 1, none⟩) (Nat.le_refl _) _).drew⟩
end Go.Proofs.YtgfnohgpmmaocaaDoor
