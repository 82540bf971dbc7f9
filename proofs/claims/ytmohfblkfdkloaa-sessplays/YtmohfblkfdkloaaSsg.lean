/-
  A session greeted: the walks.
-/
import Derived.Test.YtmohfblkfdkloaaSsf
namespace Go.Proofs.Ytmohfblkfdkloaa
open Go.RowKit
set_option linter.unusedVariables false
set_option maxHeartbeats 1000000 in
theorem greet_bad {w : World} {C : Nat → Prop} {tb mb k : Nat} {v : Value} {T : Tb} (m : Mg) (d now : Int) (h : Tab w C tb mb v T) (hO : Ok k T) (hC : ∀ k, w.heap.size ≤ k → C k) (hb : (m.k != 3) = true ∨ ((m.k != 3) = false ∧ (m.f != 1) = true ∧ (m.f != 2) = true)) :
    Calls Try.prog 26 #[.pointer (some ⟨tb, 0, none⟩), .agg #[.int .i64 m.k, .int .u64 m.t, .int .i64 m.e, .int .i64 m.s, .int .i64 m.a, .int .u64 m.b, .int .i64 m.c, .int .i64 m.f, .slice m.la m.ln m.lc], .int .u64 d, .int .i64 now] w fun e w' => e = .returned (.tuple #[.agg #[.int .u64 0, .int .i64 0, .int .i64 0, .int .i64 0], .int .i64 12]) ∧ ∃ v2, Hid (Tab w' C tb mb v2 (goA T now)) ∧ Hid (KS C w w') := by
  have H1 : Tab ((w.alloc (.cells #[.int .i64 m.k, .int .u64 m.t, .int .i64 m.e, .int .i64 m.s, .int .i64 m.a, .int .u64 m.b, .int .i64 m.c, .int .i64 m.f, .slice m.la m.ln m.lc] 37)).alloc (.cells #[.int .u64 0, .int .i64 0, .int .i64 0, .int .i64 0] 67)) (fun q => C q ∧ q ≠ w.heap.size ∧ q ≠ w.heap.size + 1) tb mb v T := (h.to (fun q hq hc => ⟨hc, by omega, by omega⟩)).kept (((Below.refl _ _).alloc (Nat.le_refl _) _).alloc (by simp) _)
  have k0 := made_yes tb _ H1.c0
  have k1 := goon_any now H1 hO (fun k hk => by simp at hk; exact ⟨hC k (by omega), by omega, by omega⟩)
  have hbm : Hid (Blk ((w.alloc (.cells #[.int .i64 m.k, .int .u64 m.t, .int .i64 m.e, .int .i64 m.s, .int .i64 m.a, .int .u64 m.b, .int .i64 m.c, .int .i64 m.f, .slice m.la m.ln m.lc] 37)).alloc (.cells #[.int .u64 0, .int .i64 0, .int .i64 0, .int .i64 0] 67)) w.heap.size #[.int .i64 m.k, .int .u64 m.t, .int .i64 m.e, .int .i64 m.s, .int .i64 m.a, .int .u64 m.b, .int .i64 m.c, .int .i64 m.f, .slice m.la m.ln m.lc] 37) := (blk_new w _ _).kept ((Below.refl _ _).alloc (Nat.le_refl _) _)
  have hbz : Hid (Blk ((w.alloc (.cells #[.int .i64 m.k, .int .u64 m.t, .int .i64 m.e, .int .i64 m.s, .int .i64 m.a, .int .u64 m.b, .int .i64 m.c, .int .i64 m.f, .slice m.la m.ln m.lc] 37)).alloc (.cells #[.int .u64 0, .int .i64 0, .int .i64 0, .int .i64 0] 67)) (w.heap.size + 1) #[.int .u64 0, .int .i64 0, .int .i64 0, .int .i64 0] 67) := by
    have := blk_new (w.alloc (.cells #[.int .i64 m.k, .int .u64 m.t, .int .i64 m.e, .int .i64 m.s, .int .i64 m.a, .int .u64 m.b, .int .i64 m.c, .int .i64 m.f, .slice m.la m.ln m.lc] 37)) #[.int .u64 0, .int .i64 0, .int .i64 0, .int .i64 0] 67
    rw [show (w.alloc (.cells #[.int .i64 m.k, .int .u64 m.t, .int .i64 m.e, .int .i64 m.s, .int .i64 m.a, .int .u64 m.b, .int .i64 m.c, .int .i64 m.f, .slice m.la m.ln m.lc] 37)).heap.size = w.heap.size + 1 by simp] at this
    exact this
  have hlt : Hid (tb < w.heap.size) := h.blk.lt
  have hKa : Hid (KS C w ((w.alloc (.cells #[.int .i64 m.k, .int .u64 m.t, .int .i64 m.e, .int .i64 m.s, .int .i64 m.a, .int .u64 m.b, .int .i64 m.c, .int .i64 m.f, .slice m.la m.ln m.lc] 37)).alloc (.cells #[.int .u64 0, .int .i64 0, .int .i64 0, .int .i64 0] 67))) := KS.of_below (((Below.refl _ _).alloc (Nat.le_refl _) _).alloc (by simp) _)
  have hct : Hid (C tb) := h.ct
  have hO1 : Hid (Ok k (goA T now)) := go_ok hO now
  have hCC : Hid (∀ k, w.heap.size ≤ k → C k) := hC
  clear h hO hC H1
  rcases hb with q1 | ⟨q1, q2, q3⟩
  all_goals (
    go_enter Try.func26, Try.ntmps26
    go_wp2_with (first | (go_at_call 30; refine k0.mono ?_; rintro e w0 ⟨rfl, hw0⟩; obtain rfl := hw0.symm; clear k0) | (go_at_call 31; refine k1.mono ?_; rintro e w1 ⟨v1, v2, rfl, hW, hT, hK⟩; clear hW k1; have hm1 : Hid (Blk w1 w.heap.size _ 37) := hbm.out.ks hK.out (by have := hlt.out; omega); have hz1 : Hid (Blk w1 (w.heap.size + 1) _ 67) := hbz.out.ks hK.out (by have := hlt.out; omega); have hK1 : Hid (KS C w w1) := hKa.out.trans (hK.out.mono (fun q _ e => by rw [e]; exact hct.out)); have a0 := hm1.out.cell 0; have a1 := hm1.out.cell 1; have a7 := hm1.out.cell 7; have z0 := hz1.out.cell 0; have z1 := hz1.out.cell 1; have z2 := hz1.out.cell 2; have z3 := hz1.out.cell 3; have y0 := hz1.out.fz 0; have y1 := hz1.out.fz 1; have y2 := hz1.out.fz 2; have y3 := hz1.out.fz 3; clear hbm hbz hKa hK))
    have hT7 : Tab ((((w1.setCell ⟨w.heap.size + 1, 0, none⟩ (.int .u64 0)).setCell ⟨w.heap.size + 1, 1, none⟩ (.int .i64 0)).setCell ⟨w.heap.size + 1, 2, none⟩ (.int .i64 0)).setCell ⟨w.heap.size + 1, 3, none⟩ (.int .i64 0)) C tb mb _ (goA T now) := (((((hT.out.else_ (w.heap.size + 1) 0 _ (fun e => hT.out.ct.2.2 e) (fun e => hT.out.cm.2.2 e) (fun e => (hT.out.own _ e).2.2 rfl)).else_ (w.heap.size + 1) 1 _ (fun e => hT.out.ct.2.2 e) (fun e => hT.out.cm.2.2 e) (fun e => (hT.out.own _ e).2.2 rfl)).else_ (w.heap.size + 1) 2 _ (fun e => hT.out.ct.2.2 e) (fun e => hT.out.cm.2.2 e) (fun e => (hT.out.own _ e).2.2 rfl)).else_ (w.heap.size + 1) 3 _ (fun e => hT.out.ct.2.2 e) (fun e => hT.out.cm.2.2 e) (fun e => (hT.out.own _ e).2.2 rfl))).to (fun _ _ hc => hc.1)
    have hK7 : KS C w ((((w1.setCell ⟨w.heap.size + 1, 0, none⟩ (.int .u64 0)).setCell ⟨w.heap.size + 1, 1, none⟩ (.int .i64 0)).setCell ⟨w.heap.size + 1, 2, none⟩ (.int .i64 0)).setCell ⟨w.heap.size + 1, 3, none⟩ (.int .i64 0)) := hK1.out.trans ((KS.set _ _ _ (hCC.out _ (by omega)) _).trans ((KS.set _ _ _ (hCC.out _ (by omega)) _).trans ((KS.set _ _ _ (hCC.out _ (by omega)) _).trans (KS.set _ _ _ (hCC.out _ (by omega)) _))))
    have hz7 := (((hz1.out.set 0 (.int .u64 0)).set 1 (.int .i64 0)).set 2 (.int .i64 0)).set 3 (.int .i64 0)
    have x0 := hz7.cell 0
    have x1 := hz7.cell 1
    have x2 := hz7.cell 2
    have x3 := hz7.cell 3
    refine bodyPost_ret (v := .tuple #[.agg #[.int .u64 0, .int .i64 0, .int .i64 0, .int .i64 0], .int .i64 12]) (by simp [results, Try.results26, go_sem, *]) rfl ⟨rfl, _, hT7, hK7⟩)
set_option maxHeartbeats 1000000 in
theorem greet_none {w : World} {C : Nat → Prop} {tb mb k : Nat} {v : Value} {T : Tb} (m : Mg) (d now : Int) (h : Tab w C tb mb v T) (hO : Ok k T) (hC : ∀ k, w.heap.size ≤ k → C k) (hb : (m.k != 3) = false ∧ ((m.f != 1) = false ∨ ((m.f != 1) = true ∧ (m.f != 2) = false))) (ht : m.t ≠ 0) (hf : fiA (goA T now).L m.t = none) :
    Calls Try.prog 26 #[.pointer (some ⟨tb, 0, none⟩), .agg #[.int .i64 m.k, .int .u64 m.t, .int .i64 m.e, .int .i64 m.s, .int .i64 m.a, .int .u64 m.b, .int .i64 m.c, .int .i64 m.f, .slice m.la m.ln m.lc], .int .u64 d, .int .i64 now] w fun e w' => e = .returned (.tuple #[.agg #[.int .u64 0, .int .i64 0, .int .i64 0, .int .i64 0], .int .i64 15]) ∧ ∃ v2, Hid (Tab w' C tb mb v2 (goA T now)) ∧ Hid (KS C w w') := by
  have H1 : Tab ((w.alloc (.cells #[.int .i64 m.k, .int .u64 m.t, .int .i64 m.e, .int .i64 m.s, .int .i64 m.a, .int .u64 m.b, .int .i64 m.c, .int .i64 m.f, .slice m.la m.ln m.lc] 37)).alloc (.cells #[.int .u64 0, .int .i64 0, .int .i64 0, .int .i64 0] 67)) (fun q => C q ∧ q ≠ w.heap.size ∧ q ≠ w.heap.size + 1) tb mb v T := (h.to (fun q hq hc => ⟨hc, by omega, by omega⟩)).kept (((Below.refl _ _).alloc (Nat.le_refl _) _).alloc (by simp) _)
  have k0 := made_yes tb _ H1.c0
  have k1 := goon_any now H1 hO (fun k hk => by simp at hk; exact ⟨hC k (by omega), by omega, by omega⟩)
  have hbm : Hid (Blk ((w.alloc (.cells #[.int .i64 m.k, .int .u64 m.t, .int .i64 m.e, .int .i64 m.s, .int .i64 m.a, .int .u64 m.b, .int .i64 m.c, .int .i64 m.f, .slice m.la m.ln m.lc] 37)).alloc (.cells #[.int .u64 0, .int .i64 0, .int .i64 0, .int .i64 0] 67)) w.heap.size #[.int .i64 m.k, .int .u64 m.t, .int .i64 m.e, .int .i64 m.s, .int .i64 m.a, .int .u64 m.b, .int .i64 m.c, .int .i64 m.f, .slice m.la m.ln m.lc] 37) := (blk_new w _ _).kept ((Below.refl _ _).alloc (Nat.le_refl _) _)
  have hbz : Hid (Blk ((w.alloc (.cells #[.int .i64 m.k, .int .u64 m.t, .int .i64 m.e, .int .i64 m.s, .int .i64 m.a, .int .u64 m.b, .int .i64 m.c, .int .i64 m.f, .slice m.la m.ln m.lc] 37)).alloc (.cells #[.int .u64 0, .int .i64 0, .int .i64 0, .int .i64 0] 67)) (w.heap.size + 1) #[.int .u64 0, .int .i64 0, .int .i64 0, .int .i64 0] 67) := by
    have := blk_new (w.alloc (.cells #[.int .i64 m.k, .int .u64 m.t, .int .i64 m.e, .int .i64 m.s, .int .i64 m.a, .int .u64 m.b, .int .i64 m.c, .int .i64 m.f, .slice m.la m.ln m.lc] 37)) #[.int .u64 0, .int .i64 0, .int .i64 0, .int .i64 0] 67
    rw [show (w.alloc (.cells #[.int .i64 m.k, .int .u64 m.t, .int .i64 m.e, .int .i64 m.s, .int .i64 m.a, .int .u64 m.b, .int .i64 m.c, .int .i64 m.f, .slice m.la m.ln m.lc] 37)).heap.size = w.heap.size + 1 by simp] at this
    exact this
  have hlt : Hid (tb < w.heap.size) := h.blk.lt
  have hKa : Hid (KS C w ((w.alloc (.cells #[.int .i64 m.k, .int .u64 m.t, .int .i64 m.e, .int .i64 m.s, .int .i64 m.a, .int .u64 m.b, .int .i64 m.c, .int .i64 m.f, .slice m.la m.ln m.lc] 37)).alloc (.cells #[.int .u64 0, .int .i64 0, .int .i64 0, .int .i64 0] 67))) := KS.of_below (((Below.refl _ _).alloc (Nat.le_refl _) _).alloc (by simp) _)
  have hct : Hid (C tb) := h.ct
  have hO1 : Hid (Ok k (goA T now)) := go_ok hO now
  have hCC : Hid (∀ k, w.heap.size ≤ k → C k) := hC
  have q0 : (m.t == 0) = false := by simpa using ht
  have hf' : Hid (fiA (goA T now).L m.t = none) := hf
  clear h hO hC H1 ht hf
  obtain ⟨q1, q2 | ⟨q2, q3⟩⟩ := hb
  all_goals (
    go_enter Try.func26, Try.ntmps26
    go_wp2_with (first | (go_at_call 30; refine k0.mono ?_; rintro e w0 ⟨rfl, hw0⟩; obtain rfl := hw0.symm; clear k0) | (go_at_call 31; refine k1.mono ?_; rintro e w1 ⟨v1, v2, rfl, hW, hT, hK⟩; clear hW k1; have hm1 : Hid (Blk w1 w.heap.size _ 37) := hbm.out.ks hK.out (by have := hlt.out; omega); have hz1 : Hid (Blk w1 (w.heap.size + 1) _ 67) := hbz.out.ks hK.out (by have := hlt.out; omega); have hK1 : Hid (KS C w w1) := hKa.out.trans (hK.out.mono (fun q _ e => by rw [e]; exact hct.out)); have a0 := hm1.out.cell 0; have a1 := hm1.out.cell 1; have a7 := hm1.out.cell 7; have z0 := hz1.out.cell 0; have z1 := hz1.out.cell 1; have z2 := hz1.out.cell 2; have z3 := hz1.out.cell 3; have y0 := hz1.out.fz 0; have y1 := hz1.out.fz 1; have y2 := hz1.out.fz 2; have y3 := hz1.out.fz 3; clear hbm hbz hKa hK) | (go_at_call 32; refine (sess_any m.t hT.out).mono ?_; rintro e w2 ⟨⟨p, rfl, hp⟩, hw2⟩; obtain rfl := hw2.symm; obtain rfl : p = none := (by rcases hp.out with ⟨_, h⟩ | ⟨i, g, c, h, _⟩; exact h; rw [hf'.out] at h; cases h)))
    have hT7 : Tab ((((w1.setCell ⟨w.heap.size + 1, 0, none⟩ (.int .u64 0)).setCell ⟨w.heap.size + 1, 1, none⟩ (.int .i64 0)).setCell ⟨w.heap.size + 1, 2, none⟩ (.int .i64 0)).setCell ⟨w.heap.size + 1, 3, none⟩ (.int .i64 0)) C tb mb _ (goA T now) := (((((hT.out.else_ (w.heap.size + 1) 0 _ (fun e => hT.out.ct.2.2 e) (fun e => hT.out.cm.2.2 e) (fun e => (hT.out.own _ e).2.2 rfl)).else_ (w.heap.size + 1) 1 _ (fun e => hT.out.ct.2.2 e) (fun e => hT.out.cm.2.2 e) (fun e => (hT.out.own _ e).2.2 rfl)).else_ (w.heap.size + 1) 2 _ (fun e => hT.out.ct.2.2 e) (fun e => hT.out.cm.2.2 e) (fun e => (hT.out.own _ e).2.2 rfl)).else_ (w.heap.size + 1) 3 _ (fun e => hT.out.ct.2.2 e) (fun e => hT.out.cm.2.2 e) (fun e => (hT.out.own _ e).2.2 rfl))).to (fun _ _ hc => hc.1)
    have hK7 : KS C w ((((w1.setCell ⟨w.heap.size + 1, 0, none⟩ (.int .u64 0)).setCell ⟨w.heap.size + 1, 1, none⟩ (.int .i64 0)).setCell ⟨w.heap.size + 1, 2, none⟩ (.int .i64 0)).setCell ⟨w.heap.size + 1, 3, none⟩ (.int .i64 0)) := hK1.out.trans ((KS.set _ _ _ (hCC.out _ (by omega)) _).trans ((KS.set _ _ _ (hCC.out _ (by omega)) _).trans ((KS.set _ _ _ (hCC.out _ (by omega)) _).trans (KS.set _ _ _ (hCC.out _ (by omega)) _))))
    have hz7 := (((hz1.out.set 0 (.int .u64 0)).set 1 (.int .i64 0)).set 2 (.int .i64 0)).set 3 (.int .i64 0)
    have x0 := hz7.cell 0
    have x1 := hz7.cell 1
    have x2 := hz7.cell 2
    have x3 := hz7.cell 3
    refine bodyPost_ret (v := .tuple #[.agg #[.int .u64 0, .int .i64 0, .int .i64 0, .int .i64 0], .int .i64 15]) (by simp [results, Try.results26, go_sem, *]) rfl ⟨rfl, _, hT7, hK7⟩)
set_option maxHeartbeats 1000000 in
theorem greet_beg {w : World} {C : Nat → Prop} {tb mb k : Nat} {v : Value} {T : Tb} (m : Mg) (d now : Int) (h : Tab w C tb mb v T) (hO : Ok k T) (hC : ∀ k, w.heap.size ≤ k → C k) (hb : (m.k != 3) = false ∧ ((m.f != 1) = false ∨ ((m.f != 1) = true ∧ (m.f != 2) = false))) (ht : m.t = 0) (hk : k < 70368744177664) (hd : 0 ≤ d ∧ d < 18446744073709551616) :
    Calls Try.prog 26 #[.pointer (some ⟨tb, 0, none⟩), .agg #[.int .i64 m.k, .int .u64 m.t, .int .i64 m.e, .int .i64 m.s, .int .i64 m.a, .int .u64 m.b, .int .i64 m.c, .int .i64 m.f, .slice m.la m.ln m.lc], .int .u64 d, .int .i64 now] w fun e w' => e = .returned (.tuple #[.agg #[.int .u64 (begS (goA T now) d m.f).t, .int .i64 (begS (goA T now) d m.f).e, .int .i64 (begS (goA T now) d m.f).f, .int .i64 (begS (goA T now) d m.f).h], .int .i64 (begE (goA T now) d)]) ∧ ∃ v2, Hid (Tab w' C tb mb v2 (begA (goA T now) d m.f)) ∧ Hid (KS C w w') := by
  have H1 : Tab ((w.alloc (.cells #[.int .i64 m.k, .int .u64 m.t, .int .i64 m.e, .int .i64 m.s, .int .i64 m.a, .int .u64 m.b, .int .i64 m.c, .int .i64 m.f, .slice m.la m.ln m.lc] 37)).alloc (.cells #[.int .u64 0, .int .i64 0, .int .i64 0, .int .i64 0] 67)) (fun q => C q ∧ q ≠ w.heap.size ∧ q ≠ w.heap.size + 1) tb mb v T := (h.to (fun q hq hc => ⟨hc, by omega, by omega⟩)).kept (((Below.refl _ _).alloc (Nat.le_refl _) _).alloc (by simp) _)
  have k0 := made_yes tb _ H1.c0
  have k1 := goon_any now H1 hO (fun k hk => by simp at hk; exact ⟨hC k (by omega), by omega, by omega⟩)
  have hbm : Hid (Blk ((w.alloc (.cells #[.int .i64 m.k, .int .u64 m.t, .int .i64 m.e, .int .i64 m.s, .int .i64 m.a, .int .u64 m.b, .int .i64 m.c, .int .i64 m.f, .slice m.la m.ln m.lc] 37)).alloc (.cells #[.int .u64 0, .int .i64 0, .int .i64 0, .int .i64 0] 67)) w.heap.size #[.int .i64 m.k, .int .u64 m.t, .int .i64 m.e, .int .i64 m.s, .int .i64 m.a, .int .u64 m.b, .int .i64 m.c, .int .i64 m.f, .slice m.la m.ln m.lc] 37) := (blk_new w _ _).kept ((Below.refl _ _).alloc (Nat.le_refl _) _)
  have hbz : Hid (Blk ((w.alloc (.cells #[.int .i64 m.k, .int .u64 m.t, .int .i64 m.e, .int .i64 m.s, .int .i64 m.a, .int .u64 m.b, .int .i64 m.c, .int .i64 m.f, .slice m.la m.ln m.lc] 37)).alloc (.cells #[.int .u64 0, .int .i64 0, .int .i64 0, .int .i64 0] 67)) (w.heap.size + 1) #[.int .u64 0, .int .i64 0, .int .i64 0, .int .i64 0] 67) := by
    have := blk_new (w.alloc (.cells #[.int .i64 m.k, .int .u64 m.t, .int .i64 m.e, .int .i64 m.s, .int .i64 m.a, .int .u64 m.b, .int .i64 m.c, .int .i64 m.f, .slice m.la m.ln m.lc] 37)) #[.int .u64 0, .int .i64 0, .int .i64 0, .int .i64 0] 67
    rw [show (w.alloc (.cells #[.int .i64 m.k, .int .u64 m.t, .int .i64 m.e, .int .i64 m.s, .int .i64 m.a, .int .u64 m.b, .int .i64 m.c, .int .i64 m.f, .slice m.la m.ln m.lc] 37)).heap.size = w.heap.size + 1 by simp] at this
    exact this
  have hlt : Hid (tb < w.heap.size) := h.blk.lt
  have hKa : Hid (KS C w ((w.alloc (.cells #[.int .i64 m.k, .int .u64 m.t, .int .i64 m.e, .int .i64 m.s, .int .i64 m.a, .int .u64 m.b, .int .i64 m.c, .int .i64 m.f, .slice m.la m.ln m.lc] 37)).alloc (.cells #[.int .u64 0, .int .i64 0, .int .i64 0, .int .i64 0] 67))) := KS.of_below (((Below.refl _ _).alloc (Nat.le_refl _) _).alloc (by simp) _)
  have hct : Hid (C tb) := h.ct
  have hO1 : Hid (Ok k (goA T now)) := go_ok hO now
  have hCC : Hid (∀ k, w.heap.size ≤ k → C k) := hC
  have q0 : (m.t == 0) = true := by simpa using ht
  have hkd : Hid (k < 70368744177664 ∧ 0 ≤ d ∧ d < 18446744073709551616) := ⟨hk, hd⟩
  clear h hO hC H1 ht hk hd
  obtain ⟨q1, q2 | ⟨q2, q3⟩⟩ := hb
  all_goals (
    go_enter Try.func26, Try.ntmps26
    go_wp2_with (first | (go_at_call 30; refine k0.mono ?_; rintro e w0 ⟨rfl, hw0⟩; obtain rfl := hw0.symm; clear k0) | (go_at_call 31; refine k1.mono ?_; rintro e w1 ⟨v1, v2, rfl, hW, hT, hK⟩; clear hW k1; have hm1 : Hid (Blk w1 w.heap.size _ 37) := hbm.out.ks hK.out (by have := hlt.out; omega); have hz1 : Hid (Blk w1 (w.heap.size + 1) _ 67) := hbz.out.ks hK.out (by have := hlt.out; omega); have hK1 : Hid (KS C w w1) := hKa.out.trans (hK.out.mono (fun q _ e => by rw [e]; exact hct.out)); have a0 := hm1.out.cell 0; have a1 := hm1.out.cell 1; have a7 := hm1.out.cell 7; have z0 := hz1.out.cell 0; have z1 := hz1.out.cell 1; have z2 := hz1.out.cell 2; have z3 := hz1.out.cell 3; have y0 := hz1.out.fz 0; have y1 := hz1.out.fz 1; have y2 := hz1.out.fz 2; have y3 := hz1.out.fz 3; clear hbm hbz hKa hK) | (go_at_call 36; refine (beg_any d m.f hT.out hO1.out hkd.out.1 (fun q hq => ⟨hCC.out q (by have := hK1.out.size; have := hz1.out.lt; omega), by have := hm1.out.lt; omega, by have := hz1.out.lt; omega⟩) hkd.out.2).mono ?_; rintro e w2 ⟨rfl, v3, hT2, hKB⟩; have hz2 : Hid (Blk w2 (w.heap.size + 1) _ 67) := hz1.out.ks hKB.out (fun e => e.2.2 rfl); have hK2 : Hid (KS C w w2) := hK1.out.trans (hKB.out.mono (fun _ _ e => e.1)); clear z0 z1 z2 z3 y0 y1 y2 y3 a0 a1 a7; have z0 := hz2.out.cell 0; have z1 := hz2.out.cell 1; have z2 := hz2.out.cell 2; have z3 := hz2.out.cell 3; have y0 := hz2.out.fz 0; have y1 := hz2.out.fz 1; have y2 := hz2.out.fz 2; have y3 := hz2.out.fz 3))
    have hT7 : Tab ((((w2.setCell ⟨w.heap.size + 1, 0, none⟩ (.int .u64 (begS (goA T now) d m.f).t)).setCell ⟨w.heap.size + 1, 1, none⟩ (.int .i64 (begS (goA T now) d m.f).e)).setCell ⟨w.heap.size + 1, 2, none⟩ (.int .i64 (begS (goA T now) d m.f).f)).setCell ⟨w.heap.size + 1, 3, none⟩ (.int .i64 (begS (goA T now) d m.f).h)) C tb mb _ (begA (goA T now) d m.f) := (((((hT2.out.else_ (w.heap.size + 1) 0 _ (fun e => hT2.out.ct.2.2 e) (fun e => hT2.out.cm.2.2 e) (fun e => (hT2.out.own _ e).2.2 rfl)).else_ (w.heap.size + 1) 1 _ (fun e => hT2.out.ct.2.2 e) (fun e => hT2.out.cm.2.2 e) (fun e => (hT2.out.own _ e).2.2 rfl)).else_ (w.heap.size + 1) 2 _ (fun e => hT2.out.ct.2.2 e) (fun e => hT2.out.cm.2.2 e) (fun e => (hT2.out.own _ e).2.2 rfl)).else_ (w.heap.size + 1) 3 _ (fun e => hT2.out.ct.2.2 e) (fun e => hT2.out.cm.2.2 e) (fun e => (hT2.out.own _ e).2.2 rfl))).to (fun _ _ hc => hc.1)
    have hK7 : KS C w ((((w2.setCell ⟨w.heap.size + 1, 0, none⟩ (.int .u64 (begS (goA T now) d m.f).t)).setCell ⟨w.heap.size + 1, 1, none⟩ (.int .i64 (begS (goA T now) d m.f).e)).setCell ⟨w.heap.size + 1, 2, none⟩ (.int .i64 (begS (goA T now) d m.f).f)).setCell ⟨w.heap.size + 1, 3, none⟩ (.int .i64 (begS (goA T now) d m.f).h)) := hK2.out.trans ((KS.set _ _ _ (hCC.out _ (by omega)) _).trans ((KS.set _ _ _ (hCC.out _ (by omega)) _).trans ((KS.set _ _ _ (hCC.out _ (by omega)) _).trans (KS.set _ _ _ (hCC.out _ (by omega)) _))))
    have hz7 := (((hz2.out.set 0 (.int .u64 (begS (goA T now) d m.f).t)).set 1 (.int .i64 (begS (goA T now) d m.f).e)).set 2 (.int .i64 (begS (goA T now) d m.f).f)).set 3 (.int .i64 (begS (goA T now) d m.f).h)
    have x0 := hz7.cell 0
    have x1 := hz7.cell 1
    have x2 := hz7.cell 2
    have x3 := hz7.cell 3
    refine bodyPost_ret (v := .tuple #[.agg #[.int .u64 (begS (goA T now) d m.f).t, .int .i64 (begS (goA T now) d m.f).e, .int .i64 (begS (goA T now) d m.f).f, .int .i64 (begS (goA T now) d m.f).h], .int .i64 (begE (goA T now) d)]) (by simp [results, Try.results26, go_sem, *]) rfl ⟨rfl, _, hT7, hK7⟩)
end Go.Proofs.Ytmohfblkfdkloaa
