/-
  The document's Hello: a session begun anew.
-/
import Derived.Test.YtmohfblkfdkloaaStf
namespace Go.Proofs.Ytmohfblkfdkloaa
open Go.RowKit
set_option linter.unusedVariables false
set_option maxHeartbeats 4000000 in
theorem xhello_bump {w : World} {E : Nat → Prop} {rb k : Nat} {v u : Value} {R : Tb} {us : List Int} (m : Mg) (d now : Int) (h : RTab w E rb v u R us) (hO : Ok k R) (hk : k ≤ 5000000000000) (hE : ∀ q, w.heap.size ≤ q → E q) (hb : (m.k != 3) = false ∧ ((m.f != 1) = false ∨ ((m.f != 1) = true ∧ (m.f != 2) = false))) (ht : m.t ≠ 0) {i : Nat} {s : Se} (hf : fiA (goA R now).L m.t = some i) (hs : (goA R now).L[i]? = some s) :
    Calls Try.prog 13 #[.pointer (some ⟨rb, 0, none⟩), .agg #[.int .i64 m.k, .int .u64 m.t, .int .i64 m.e, .int .i64 m.s, .int .i64 m.a, .int .u64 m.b, .int .i64 m.c, .int .i64 m.f, .slice m.la m.ln m.lc], .int .u64 d, .int .i64 now] w fun e w' => e = .returned (.tuple #[.agg #[.int .i64 4, .int .u64 m.t, .int .i64 (s.e + 1), .int .i64 0, .int .i64 0, .int .u64 0, .int .i64 0, .int .i64 m.f, .slice none 0 0], .int .i64 0]) ∧ ∃ v2 u2, Hid (RTab w' E rb v2 u2 ({ goA R now with L := (goA R now).L.set i (bumpS (goA R now) m s) }) us) ∧ Hid (KS E w w') := by
  have H1 : RTab ((w.alloc (.cells #[.int .i64 m.k, .int .u64 m.t, .int .i64 m.e, .int .i64 m.s, .int .i64 m.a, .int .u64 m.b, .int .i64 m.c, .int .i64 m.f, .slice m.la m.ln m.lc] 37)).alloc (.cells #[.int .i64 0, .int .u64 0, .int .i64 0, .int .i64 0, .int .i64 0, .int .u64 0, .int .i64 0, .int .i64 0, .slice none 0 0] 37)) (fun q => E q ∧ q ≠ w.heap.size ∧ q ≠ w.heap.size + 1) rb v u R us := (h.to (fun q hq hc => ⟨hc, by omega, by omega⟩)).kept (((Below.refl _ _).alloc (Nat.le_refl _) _).alloc (by simp) _)
  have k1 := xtick_any now H1 hO (fun q hq => by simp at hq; exact ⟨hE q (by omega), by omega, by omega⟩)
  have hbm : Hid (Blk ((w.alloc (.cells #[.int .i64 m.k, .int .u64 m.t, .int .i64 m.e, .int .i64 m.s, .int .i64 m.a, .int .u64 m.b, .int .i64 m.c, .int .i64 m.f, .slice m.la m.ln m.lc] 37)).alloc (.cells #[.int .i64 0, .int .u64 0, .int .i64 0, .int .i64 0, .int .i64 0, .int .u64 0, .int .i64 0, .int .i64 0, .slice none 0 0] 37)) w.heap.size #[.int .i64 m.k, .int .u64 m.t, .int .i64 m.e, .int .i64 m.s, .int .i64 m.a, .int .u64 m.b, .int .i64 m.c, .int .i64 m.f, .slice m.la m.ln m.lc] 37) := (blk_new w _ _).kept ((Below.refl _ _).alloc (Nat.le_refl _) _)
  have hbz : Hid (Blk ((w.alloc (.cells #[.int .i64 m.k, .int .u64 m.t, .int .i64 m.e, .int .i64 m.s, .int .i64 m.a, .int .u64 m.b, .int .i64 m.c, .int .i64 m.f, .slice m.la m.ln m.lc] 37)).alloc (.cells #[.int .i64 0, .int .u64 0, .int .i64 0, .int .i64 0, .int .i64 0, .int .u64 0, .int .i64 0, .int .i64 0, .slice none 0 0] 37)) (w.heap.size + 1) #[.int .i64 0, .int .u64 0, .int .i64 0, .int .i64 0, .int .i64 0, .int .u64 0, .int .i64 0, .int .i64 0, .slice none 0 0] 37) := by
    have := blk_new (w.alloc (.cells #[.int .i64 m.k, .int .u64 m.t, .int .i64 m.e, .int .i64 m.s, .int .i64 m.a, .int .u64 m.b, .int .i64 m.c, .int .i64 m.f, .slice m.la m.ln m.lc] 37)) #[.int .i64 0, .int .u64 0, .int .i64 0, .int .i64 0, .int .i64 0, .int .u64 0, .int .i64 0, .int .i64 0, .slice none 0 0] 37
    rw [show (w.alloc (.cells #[.int .i64 m.k, .int .u64 m.t, .int .i64 m.e, .int .i64 m.s, .int .i64 m.a, .int .u64 m.b, .int .i64 m.c, .int .i64 m.f, .slice m.la m.ln m.lc] 37)).heap.size = w.heap.size + 1 by simp] at this
    exact this
  have hKa : Hid (KS E w ((w.alloc (.cells #[.int .i64 m.k, .int .u64 m.t, .int .i64 m.e, .int .i64 m.s, .int .i64 m.a, .int .u64 m.b, .int .i64 m.c, .int .i64 m.f, .slice m.la m.ln m.lc] 37)).alloc (.cells #[.int .i64 0, .int .u64 0, .int .i64 0, .int .i64 0, .int .i64 0, .int .u64 0, .int .i64 0, .int .i64 0, .slice none 0 0] 37))) := KS.of_below (((Below.refl _ _).alloc (Nat.le_refl _) _).alloc (by simp) _)
  have hlt : Hid (rb < w.heap.size) := h.blk.lt
  have her : Hid (E rb) := h.er
  have hO1 : Hid (Ok k (goA R now)) := go_ok hO now
  have hEE : Hid (∀ q, w.heap.size ≤ q → E q) := hE
  have hkk : Hid (k ≤ 5000000000000) := hk
  have h64 : Hid ((goA R now).L.length ≤ 64) := by have := hO1.out.few; have := hO1.out.m2; show _ ≤ 64; omega
  have q0 : (m.t == 0) = false := by simpa using ht
  have hpl : Hid (plA (goA R now).L m.t = (i : Int)) := by show _ = _; unfold plA; rw [hf]
  have hs' : Hid ((goA R now).L[i]? = some s) := hs
  have hst : Hid (s.t = m.t) := by
    obtain ⟨s2, h2, h3, -⟩ := fiA_some hf
    rw [hs] at h2
    cases h2
    exact h3
  have hil : i < (goA R now).L.length := (List.getElem?_eq_some_iff.1 hs).1
  have pp1 : decide ((i : Int) < 0) = false := by simp
  have pp2 : (0 : Int) ≤ (i : Int) := by omega
  have pp3 : (i : Int) < (((goA R now).L.length : Nat) : Int) := by omega
  have hwr : IntKind.i64.wrap (s.e + 1) = s.e + 1 := by
    have := hO1.out.ent s (List.mem_of_getElem? hs)
    rw [IntKind.wrap_i64]; omega
  clear h hO hE H1 hk ht hf hs
  obtain ⟨q1, q2 | ⟨q2, q3⟩⟩ := hb
  all_goals (
    go_enter Try.func13, Try.ntmps13
    go_wp2_with (go_at_call 21; refine k1.mono ?_; rintro e w1 ⟨v1, v2, rfl, hW, hT, hK⟩; clear hW k1; have hvl : Hid (∀ q, v2.ownBlock = some q → q < w1.heap.size) := (fun q hq => (ownsRow_lt hT.out.row q hq).2.1); have hul1 : Hid (∀ q, u.ownBlock = some q → q < w1.heap.size) := (fun q hq => (ownsRow_lt hT.out.urow q hq).2.1); have hw12 : Hid (w.heap.size + 1 + 1 ≤ w1.heap.size) := (by have h7 := hK.out.size; simp at h7; show w.heap.size + 1 + 1 ≤ w1.heap.size; omega); have hB1 : Hid (Below w1.heap.size w1 (w1.alloc (.cells #[.int .i64 5, .int .u64 m.t, .int .i64 0, .int .i64 0, .int .i64 0, .int .u64 0, .int .i64 0, .int .i64 0, .slice none 0 0] 37))) := (Below.refl _ _).alloc (Nat.le_refl _) _; have b0 : w1.cell? ⟨w.heap.size, 1, none⟩ = some (.int .u64 m.t) := (hbm.out.ks hK.out (fun e => by have := hlt.out; omega)).cell 1; have hm1 : Hid (Blk (w1.alloc (.cells #[.int .i64 5, .int .u64 m.t, .int .i64 0, .int .i64 0, .int .i64 0, .int .u64 0, .int .i64 0, .int .i64 0, .slice none 0 0] 37)) w.heap.size _ 37) := (hbm.out.ks hK.out (fun e => by have := hlt.out; omega)).kept hB1.out; have hz1 : Hid (Blk (w1.alloc (.cells #[.int .i64 5, .int .u64 m.t, .int .i64 0, .int .i64 0, .int .i64 0, .int .u64 0, .int .i64 0, .int .i64 0, .slice none 0 0] 37)) (w.heap.size + 1) _ 37) := (hbz.out.ks hK.out (fun e => by have := hlt.out; omega)).kept hB1.out; have hr1 : Hid (Blk (w1.alloc (.cells #[.int .i64 5, .int .u64 m.t, .int .i64 0, .int .i64 0, .int .i64 0, .int .u64 0, .int .i64 0, .int .i64 0, .slice none 0 0] 37)) w1.heap.size _ 37) := blk_new w1 _ _; have hT1 : Hid (RTab (w1.alloc (.cells #[.int .i64 5, .int .u64 m.t, .int .i64 0, .int .i64 0, .int .i64 0, .int .u64 0, .int .i64 0, .int .i64 0, .slice none 0 0] 37)) (fun q => E q ∧ q ≠ w.heap.size ∧ q ≠ w.heap.size + 1) rb v2 u (goA R now) us) := hT.out.kept hB1.out; have hK1 : Hid (KS E w (w1.alloc (.cells #[.int .i64 5, .int .u64 m.t, .int .i64 0, .int .i64 0, .int .i64 0, .int .u64 0, .int .i64 0, .int .i64 0, .slice none 0 0] 37))) := (hKa.out.trans (hK.out.mono (fun q _ e => by rw [e]; exact her.out))).trans (KS.of_below hB1.out); have a0 := hm1.out.cell 0; have a1 := hm1.out.cell 1; have a7 := hm1.out.cell 7; have r0 := hr1.out.cell 0; have r1 := hr1.out.cell 1; have r2 := hr1.out.cell 2; have r3 := hr1.out.cell 3; have r4 := hr1.out.cell 4; have r5 := hr1.out.cell 5; have r6 := hr1.out.cell 6; have r7 := hr1.out.cell 7; have r8 := hr1.out.cell 8; have z0 := hz1.out.cell 0; have y0 := hz1.out.fz 0; have z1 := hz1.out.cell 1; have y1 := hz1.out.fz 1; have z2 := hz1.out.cell 2; have y2 := hz1.out.fz 2; have z3 := hz1.out.cell 3; have y3 := hz1.out.fz 3; have z4 := hz1.out.cell 4; have y4 := hz1.out.fz 4; have z5 := hz1.out.cell 5; have y5 := hz1.out.fz 5; have z6 := hz1.out.cell 6; have y6 := hz1.out.fz 6; have z7 := hz1.out.cell 7; have y7 := hz1.out.fz 7; have z8 := hz1.out.cell 8; have y8 := hz1.out.fz 8; have c2 := hT1.out.c2; clear hbm hbz hKa hK hT hB1)
    have c2o : ∀ o, ((w1.alloc (.cells #[.int .i64 5, .int .u64 m.t, .int .i64 0, .int .i64 0, .int .i64 0, .int .u64 0, .int .i64 0, .int .i64 0, .slice none 0 0] 37)).alloc o).cell? ⟨rb, 2, none⟩ = some (.int .i64 (goA R now).time) := fun o => (hT1.out.kept ((Below.refl _ _).alloc (Nat.le_refl _) o)).c2
    have a7o : ∀ o, ((w1.alloc (.cells #[.int .i64 5, .int .u64 m.t, .int .i64 0, .int .i64 0, .int .i64 0, .int .u64 0, .int .i64 0, .int .i64 0, .slice none 0 0] 37)).alloc o).cell? ⟨w.heap.size, 7, none⟩ = some (.int .i64 m.f) := fun o => (hm1.out.kept ((Below.refl _ _).alloc (Nat.le_refl _) o)).cell 7
    go_region
    have hB5 : Hid (Below (w1.alloc (.cells #[.int .i64 5, .int .u64 m.t, .int .i64 0, .int .i64 0, .int .i64 0, .int .u64 0, .int .i64 0, .int .i64 0, .slice none 0 0] 37)).heap.size (w1.alloc (.cells #[.int .i64 5, .int .u64 m.t, .int .i64 0, .int .i64 0, .int .i64 0, .int .u64 0, .int .i64 0, .int .i64 0, .slice none 0 0] 37)) (((w1.alloc (.cells #[.int .i64 5, .int .u64 m.t, .int .i64 0, .int .i64 0, .int .i64 0, .int .u64 0, .int .i64 0, .int .i64 0, .slice none 0 0] 37)).alloc (.cells #[.int .u64 d, .int .i64 1, .int .i64 m.f, .int .i64 (goA R now).time] 72)).drew)) := ((Below.refl _ _).alloc (Nat.le_refl _) _).drew
    have hx5 : Hid (Blk (((w1.alloc (.cells #[.int .i64 5, .int .u64 m.t, .int .i64 0, .int .i64 0, .int .i64 0, .int .u64 0, .int .i64 0, .int .i64 0, .slice none 0 0] 37)).alloc (.cells #[.int .u64 d, .int .i64 1, .int .i64 m.f, .int .i64 (goA R now).time] 72)).drew) (w1.heap.size + 1) #[.int .u64 d, .int .i64 1, .int .i64 m.f, .int .i64 (goA R now).time] 72) := by
      have := blk_new (w1.alloc (.cells #[.int .i64 5, .int .u64 m.t, .int .i64 0, .int .i64 0, .int .i64 0, .int .u64 0, .int .i64 0, .int .i64 0, .slice none 0 0] 37)) #[.int .u64 d, .int .i64 1, .int .i64 m.f, .int .i64 (goA R now).time] 72
      rw [show (w1.alloc (.cells #[.int .i64 5, .int .u64 m.t, .int .i64 0, .int .i64 0, .int .i64 0, .int .u64 0, .int .i64 0, .int .i64 0, .slice none 0 0] 37)).heap.size = w1.heap.size + 1 by simp] at this
      exact this
    have hm5 : Hid (Blk (((w1.alloc (.cells #[.int .i64 5, .int .u64 m.t, .int .i64 0, .int .i64 0, .int .i64 0, .int .u64 0, .int .i64 0, .int .i64 0, .slice none 0 0] 37)).alloc (.cells #[.int .u64 d, .int .i64 1, .int .i64 m.f, .int .i64 (goA R now).time] 72)).drew) w.heap.size #[.int .i64 m.k, .int .u64 m.t, .int .i64 m.e, .int .i64 m.s, .int .i64 m.a, .int .u64 m.b, .int .i64 m.c, .int .i64 m.f, .slice m.la m.ln m.lc] 37) := hm1.out.kept hB5.out
    have hz5 : Hid (Blk (((w1.alloc (.cells #[.int .i64 5, .int .u64 m.t, .int .i64 0, .int .i64 0, .int .i64 0, .int .u64 0, .int .i64 0, .int .i64 0, .slice none 0 0] 37)).alloc (.cells #[.int .u64 d, .int .i64 1, .int .i64 m.f, .int .i64 (goA R now).time] 72)).drew) (w.heap.size + 1) #[.int .i64 0, .int .u64 0, .int .i64 0, .int .i64 0, .int .i64 0, .int .u64 0, .int .i64 0, .int .i64 0, .slice none 0 0] 37) := hz1.out.kept hB5.out
    have hr5 : Hid (Blk (((w1.alloc (.cells #[.int .i64 5, .int .u64 m.t, .int .i64 0, .int .i64 0, .int .i64 0, .int .u64 0, .int .i64 0, .int .i64 0, .slice none 0 0] 37)).alloc (.cells #[.int .u64 d, .int .i64 1, .int .i64 m.f, .int .i64 (goA R now).time] 72)).drew) w1.heap.size #[.int .i64 5, .int .u64 m.t, .int .i64 0, .int .i64 0, .int .i64 0, .int .u64 0, .int .i64 0, .int .i64 0, .slice none 0 0] 37) := hr1.out.kept hB5.out
    have hT5 : Hid (RTab (((w1.alloc (.cells #[.int .i64 5, .int .u64 m.t, .int .i64 0, .int .i64 0, .int .i64 0, .int .u64 0, .int .i64 0, .int .i64 0, .slice none 0 0] 37)).alloc (.cells #[.int .u64 d, .int .i64 1, .int .i64 m.f, .int .i64 (goA R now).time] 72)).drew) (fun q => E q ∧ q ≠ w.heap.size ∧ q ≠ w.heap.size + 1) rb v2 u (goA R now) us) := hT1.out.kept hB5.out
    have hK5 : Hid (KS E w (((w1.alloc (.cells #[.int .i64 5, .int .u64 m.t, .int .i64 0, .int .i64 0, .int .i64 0, .int .u64 0, .int .i64 0, .int .i64 0, .slice none 0 0] 37)).alloc (.cells #[.int .u64 d, .int .i64 1, .int .i64 m.f, .int .i64 (goA R now).time] 72)).drew)) := hK1.out.trans (KS.of_below (hB5.out.mono (Nat.le_refl _)))
    have hs1 : Hid (w.heap.size + 1 < w1.heap.size) := by have := hw12.out; show _ < _; omega
    clear a0 a1 a7 b0 c2 c2o a7o r0 z0 y0 r1 z1 y1 r2 z2 y2 r3 z3 y3 r4 z4 y4 r5 z5 y5 r6 z6 y6 r7 z7 y7 r8 z8 y8
    clear hm1 hz1 hr1 hT1 hK1 hB5
    generalize (((w1.alloc (.cells #[.int .i64 5, .int .u64 m.t, .int .i64 0, .int .i64 0, .int .i64 0, .int .u64 0, .int .i64 0, .int .i64 0, .slice none 0 0] 37)).alloc (.cells #[.int .u64 d, .int .i64 1, .int .i64 m.f, .int .i64 (goA R now).time] 72)).drew) = w5 at *
    have a0 := hm5.out.cell 0; have a1 := hm5.out.cell 1; have a7 := hm5.out.cell 7; have r0 := hr5.out.cell 0; have r1 := hr5.out.cell 1; have r2 := hr5.out.cell 2; have r3 := hr5.out.cell 3; have r4 := hr5.out.cell 4; have r5 := hr5.out.cell 5; have r6 := hr5.out.cell 6; have r7 := hr5.out.cell 7; have r8 := hr5.out.cell 8; have z0 := hz5.out.cell 0; have y0 := hz5.out.fz 0; have z1 := hz5.out.cell 1; have y1 := hz5.out.fz 1; have z2 := hz5.out.cell 2; have y2 := hz5.out.fz 2; have z3 := hz5.out.cell 3; have y3 := hz5.out.fz 3; have z4 := hz5.out.cell 4; have y4 := hz5.out.fz 4; have z5 := hz5.out.cell 5; have y5 := hz5.out.fz 5; have z6 := hz5.out.cell 6; have y6 := hz5.out.fz 6; have z7 := hz5.out.cell 7; have y7 := hz5.out.fz 7; have z8 := hz5.out.cell 8; have y8 := hz5.out.fz 8; have p0 := hx5.out.cell 0; have o0 := hx5.out.fz 0; have p1 := hx5.out.cell 1; have o1 := hx5.out.fz 1; have p2 := hx5.out.cell 2; have o2 := hx5.out.fz 2; have p3 := hx5.out.cell 3; have o3 := hx5.out.fz 3
    go_wp2_with (go_at_call 28; refine (place_any m.t hT5.out h64.out).mono ?_; rintro e w6 ⟨rfl, hw6⟩; obtain rfl := hw6.symm; rw [hpl.out])
    obtain ⟨g, c, rfl, hg, hEg, hgr, hfz, hcl⟩ := hT5.out.cells hs'.out
    obtain ⟨_, _, e9, h9, h10, _⟩ := hT5.out.form
    cases e9
    have u0 : w5.cell? ⟨g, i * 4, none⟩ = some (.int .u64 s.t) := hcl 0 (by decide)
    have u1 : w5.cell? ⟨g, i * 4 + 1, none⟩ = some (.int .i64 s.e) := hcl 1 (by decide)
    have u2 : w5.cell? ⟨g, i * 4 + 2, none⟩ = some (.int .i64 s.f) := hcl 2 (by decide)
    have u3 : w5.cell? ⟨g, i * 4 + 3, none⟩ = some (.int .i64 s.h) := hcl 3 (by decide)
    have t0 := hfz (i * 4)
    have t1 := hfz (i * 4 + 1)
    have t2 := hfz (i * 4 + 2)
    have t3 := hfz (i * 4 + 3)
    clear hfz hcl
    have c3 := hT5.out.c3
    clear r0 r1 r2 r3 r4 r5 r6 r7 r8 a0 a7
    go_region
    have hgx : Hid (g ≠ w1.heap.size + 1) := fun e => by have := hvl.out g rfl; omega
    have hv6 : Hid ((Value.slice (some ⟨g, 0, none⟩) (goA R now).L.length c).ownBlock ≠ some (w1.heap.size + 1)) := fun e => hgx.out (Option.some.inj e)
    have hu6 : Hid (u.ownBlock ≠ some (w1.heap.size + 1)) := fun e => by have := hul1.out _ e; omega
    have hrx : Hid (rb ≠ w1.heap.size + 1) := fun e => by have := hlt.out; have := hs1.out; omega
    have hT6 : Hid (RTab ((w5.setCell ⟨w1.heap.size + 1, 0, none⟩ (.int .u64 m.t)).setCell ⟨w1.heap.size + 1, 1, none⟩ (.int .i64 (s.e + 1))).drew (fun q => E q ∧ q ≠ w.heap.size ∧ q ≠ w.heap.size + 1) rb (.slice (some ⟨g, 0, none⟩) (goA R now).L.length c) u (goA R now) us) := ((hT5.out.else_ _ _ _ hrx.out hv6.out hu6.out).else_ _ _ _ hrx.out hv6.out hu6.out).kept (Below.refl _ _).drew
    have hx6 : Hid (Blk ((w5.setCell ⟨w1.heap.size + 1, 0, none⟩ (.int .u64 m.t)).setCell ⟨w1.heap.size + 1, 1, none⟩ (.int .i64 (s.e + 1))).drew (w1.heap.size + 1) #[.int .u64 m.t, .int .i64 (s.e + 1), .int .i64 m.f, .int .i64 (goA R now).time] 72) := (hx5.out.set 0 (.int .u64 m.t)).set 1 (.int .i64 (s.e + 1))
    have hz6 : Hid (Blk ((w5.setCell ⟨w1.heap.size + 1, 0, none⟩ (.int .u64 m.t)).setCell ⟨w1.heap.size + 1, 1, none⟩ (.int .i64 (s.e + 1))).drew (w.heap.size + 1) #[.int .i64 0, .int .u64 0, .int .i64 0, .int .i64 0, .int .i64 0, .int .u64 0, .int .i64 0, .int .i64 0, .slice none 0 0] 37) := ((Below.heap_setCell _ _ _ _ (fun e => by have e2 : _ = w1.heap.size + 1 := e; have := hs1.out; omega)).trans (Below.heap_setCell _ _ _ _ (fun e => by have e2 : _ = w1.heap.size + 1 := e; have := hs1.out; omega))).trans hz5.out
    have hK6 : Hid (KS E w ((w5.setCell ⟨w1.heap.size + 1, 0, none⟩ (.int .u64 m.t)).setCell ⟨w1.heap.size + 1, 1, none⟩ (.int .i64 (s.e + 1))).drew) := (hK5.out.trans ((KS.set _ _ _ (hEE.out _ (by have := hs1.out; omega)) _).trans (KS.set _ _ _ (hEE.out _ (by have := hs1.out; omega)) _))).trans (KS.of_below (Below.refl _ _).drew)
    clear p0 o0 p1 o1 p2 o2 p3 o3 z0 y0 z1 y1 z2 y2 z3 y3 z4 y4 z5 y5 z6 y6 z7 y7 z8 y8 u0 u1 u2 u3 t0 t1 t2 t3 c3 hT5 hx5 hz5 hK5 hm5 hr5 a1
    generalize ((w5.setCell ⟨w1.heap.size + 1, 0, none⟩ (.int .u64 m.t)).setCell ⟨w1.heap.size + 1, 1, none⟩ (.int .i64 (s.e + 1))).drew = w6 at *
    obtain ⟨g2, c2', hv2, hg2, hEg2, hgr2, hfz, hcl⟩ := hT6.out.cells hs'.out
    cases hv2
    have u0 : w6.cell? ⟨g, i * 4, none⟩ = some (.int .u64 s.t) := hcl 0 (by decide)
    have u1 : w6.cell? ⟨g, i * 4 + 1, none⟩ = some (.int .i64 s.e) := hcl 1 (by decide)
    have u2 : w6.cell? ⟨g, i * 4 + 2, none⟩ = some (.int .i64 s.f) := hcl 2 (by decide)
    have u3 : w6.cell? ⟨g, i * 4 + 3, none⟩ = some (.int .i64 s.h) := hcl 3 (by decide)
    have t0 := hfz (i * 4)
    have t1 := hfz (i * 4 + 1)
    have t2 := hfz (i * 4 + 2)
    have t3 := hfz (i * 4 + 3)
    have c3 := hT6.out.c3
    have p0 := hx6.out.cell 0; have p1 := hx6.out.cell 1; have p2 := hx6.out.cell 2; have p3 := hx6.out.cell 3
    clear hfz hcl
    go_wp2
    go_region
    have eS : (⟨m.t, s.e + 1, m.f, (goA R now).time⟩ : Se) = (bumpS (goA R now) m s) := by unfold bumpS; rw [hst.out]
    have hTa := (((hT6.out.putc (x := .int .u64 m.t) (s' := ⟨m.t, s.e, s.f, s.h⟩) rfl hs'.out (j := 0) (by decide) rfl).putc (i := i) (s := ⟨m.t, s.e, s.f, s.h⟩) (x := .int .i64 (s.e + 1)) (s' := ⟨m.t, s.e + 1, s.f, s.h⟩) rfl (by show (List.set _ _ _)[i]? = _; rw [List.getElem?_set_self hil]) (j := 1) (by decide) rfl).putc (i := i) (s := ⟨m.t, s.e + 1, s.f, s.h⟩) (x := .int .i64 m.f) (s' := ⟨m.t, s.e + 1, m.f, s.h⟩) rfl (by show (List.set _ _ _)[i]? = _; rw [List.getElem?_set_self (by show i < (List.set _ _ _).length; rw [List.length_set]; exact hil)]) (j := 2) (by decide) rfl).putc (i := i) (s := ⟨m.t, s.e + 1, m.f, s.h⟩) (x := .int .i64 (goA R now).time) (s' := ⟨m.t, s.e + 1, m.f, (goA R now).time⟩) rfl (by show (List.set _ _ _)[i]? = _; rw [List.getElem?_set_self (by show i < (List.set _ _ _).length; rw [List.length_set]; show i < (List.set _ _ _).length; rw [List.length_set]; exact hil)]) (j := 3) (by decide) rfl
    simp only [List.set_set] at hTa
    rw [eS] at hTa
    have hT8 : Hid (RTab ((((w6.setCell ⟨g, i * 4, none⟩ (.int .u64 m.t)).setCell ⟨g, i * 4 + 1, none⟩ (.int .i64 (s.e + 1))).setCell ⟨g, i * 4 + 2, none⟩ (.int .i64 m.f)).setCell ⟨g, i * 4 + 3, none⟩ (.int .i64 (goA R now).time)).drew (fun q => E q ∧ q ≠ w.heap.size ∧ q ≠ w.heap.size + 1) rb (.slice (some ⟨g, 0, none⟩) (goA R now).L.length c) u { goA R now with L := (goA R now).L.set i (bumpS (goA R now) m s) } us) := hTa.kept (Below.refl _ _).drew
    have hKg : Hid (KS (fun q => q = g) w6 ((((w6.setCell ⟨g, i * 4, none⟩ (.int .u64 m.t)).setCell ⟨g, i * 4 + 1, none⟩ (.int .i64 (s.e + 1))).setCell ⟨g, i * 4 + 2, none⟩ (.int .i64 m.f)).setCell ⟨g, i * 4 + 3, none⟩ (.int .i64 (goA R now).time)).drew) := ((KS.set (C := fun q => q = g) _ g _ rfl _).trans ((KS.set (C := fun q => q = g) _ g _ rfl _).trans ((KS.set (C := fun q => q = g) _ g _ rfl _).trans (KS.set (C := fun q => q = g) _ g _ rfl _)))).trans (KS.of_below (Below.refl _ _).drew)
    have hx8 : Hid (Blk ((((w6.setCell ⟨g, i * 4, none⟩ (.int .u64 m.t)).setCell ⟨g, i * 4 + 1, none⟩ (.int .i64 (s.e + 1))).setCell ⟨g, i * 4 + 2, none⟩ (.int .i64 m.f)).setCell ⟨g, i * 4 + 3, none⟩ (.int .i64 (goA R now).time)).drew (w1.heap.size + 1) #[.int .u64 m.t, .int .i64 (s.e + 1), .int .i64 m.f, .int .i64 (goA R now).time] 72) := hx6.out.ks hKg.out (fun e => hgx.out e.symm)
    have hz8 : Hid (Blk ((((w6.setCell ⟨g, i * 4, none⟩ (.int .u64 m.t)).setCell ⟨g, i * 4 + 1, none⟩ (.int .i64 (s.e + 1))).setCell ⟨g, i * 4 + 2, none⟩ (.int .i64 m.f)).setCell ⟨g, i * 4 + 3, none⟩ (.int .i64 (goA R now).time)).drew (w.heap.size + 1) #[.int .i64 0, .int .u64 0, .int .i64 0, .int .i64 0, .int .i64 0, .int .u64 0, .int .i64 0, .int .i64 0, .slice none 0 0] 37) := hz6.out.ks hKg.out (fun e => hEg2.2.2 e.symm)
    have hK8 : Hid (KS E w ((((w6.setCell ⟨g, i * 4, none⟩ (.int .u64 m.t)).setCell ⟨g, i * 4 + 1, none⟩ (.int .i64 (s.e + 1))).setCell ⟨g, i * 4 + 2, none⟩ (.int .i64 m.f)).setCell ⟨g, i * 4 + 3, none⟩ (.int .i64 (goA R now).time)).drew) := hK6.out.trans (hKg.out.mono (fun q _ e => by rw [e]; exact hEg2.1))
    clear p0 p1 p2 p3 u0 u1 u2 u3 t0 t1 t2 t3 c3 hT6 hx6 hz6 hK6 hTa hKg
    generalize ((((w6.setCell ⟨g, i * 4, none⟩ (.int .u64 m.t)).setCell ⟨g, i * 4 + 1, none⟩ (.int .i64 (s.e + 1))).setCell ⟨g, i * 4 + 2, none⟩ (.int .i64 m.f)).setCell ⟨g, i * 4 + 3, none⟩ (.int .i64 (goA R now).time)).drew = w8 at *
    have p0 := hx8.out.cell 0; have p1 := hx8.out.cell 1; have p2 := hx8.out.cell 2; have p3 := hx8.out.cell 3
    have z0 := hz8.out.cell 0; have y0 := hz8.out.fz 0; have z1 := hz8.out.cell 1; have y1 := hz8.out.fz 1; have z2 := hz8.out.cell 2; have y2 := hz8.out.fz 2; have z3 := hz8.out.cell 3; have y3 := hz8.out.fz 3; have z4 := hz8.out.cell 4; have y4 := hz8.out.fz 4; have z5 := hz8.out.cell 5; have y5 := hz8.out.fz 5; have z6 := hz8.out.cell 6; have y6 := hz8.out.fz 6; have z7 := hz8.out.cell 7; have y7 := hz8.out.fz 7; have z8 := hz8.out.cell 8; have y8 := hz8.out.fz 8
    go_wp2
    have hT7 : RTab (((((((((w8.setCell ⟨w.heap.size + 1, 0, none⟩ (.int .i64 4)).setCell ⟨w.heap.size + 1, 1, none⟩ (.int .u64 m.t)).setCell ⟨w.heap.size + 1, 2, none⟩ (.int .i64 (s.e + 1))).setCell ⟨w.heap.size + 1, 3, none⟩ (.int .i64 0)).setCell ⟨w.heap.size + 1, 4, none⟩ (.int .i64 0)).setCell ⟨w.heap.size + 1, 5, none⟩ (.int .u64 0)).setCell ⟨w.heap.size + 1, 6, none⟩ (.int .i64 0)).setCell ⟨w.heap.size + 1, 7, none⟩ (.int .i64 m.f)).setCell ⟨w.heap.size + 1, 8, none⟩ (.slice none 0 0)) E rb _ _ { goA R now with L := (goA R now).L.set i (bumpS (goA R now) m s) } _ := (((((((((hT8.out.else_ (w.heap.size + 1) 0 _ (fun e => hT8.out.er.2.2 e) (fun e => (hT8.out.ov _ e).2.2 rfl) (fun e => (hT8.out.ou _ e).2.2 rfl)).else_ (w.heap.size + 1) 1 _ (fun e => hT8.out.er.2.2 e) (fun e => (hT8.out.ov _ e).2.2 rfl) (fun e => (hT8.out.ou _ e).2.2 rfl)).else_ (w.heap.size + 1) 2 _ (fun e => hT8.out.er.2.2 e) (fun e => (hT8.out.ov _ e).2.2 rfl) (fun e => (hT8.out.ou _ e).2.2 rfl)).else_ (w.heap.size + 1) 3 _ (fun e => hT8.out.er.2.2 e) (fun e => (hT8.out.ov _ e).2.2 rfl) (fun e => (hT8.out.ou _ e).2.2 rfl)).else_ (w.heap.size + 1) 4 _ (fun e => hT8.out.er.2.2 e) (fun e => (hT8.out.ov _ e).2.2 rfl) (fun e => (hT8.out.ou _ e).2.2 rfl)).else_ (w.heap.size + 1) 5 _ (fun e => hT8.out.er.2.2 e) (fun e => (hT8.out.ov _ e).2.2 rfl) (fun e => (hT8.out.ou _ e).2.2 rfl)).else_ (w.heap.size + 1) 6 _ (fun e => hT8.out.er.2.2 e) (fun e => (hT8.out.ov _ e).2.2 rfl) (fun e => (hT8.out.ou _ e).2.2 rfl)).else_ (w.heap.size + 1) 7 _ (fun e => hT8.out.er.2.2 e) (fun e => (hT8.out.ov _ e).2.2 rfl) (fun e => (hT8.out.ou _ e).2.2 rfl)).else_ (w.heap.size + 1) 8 _ (fun e => hT8.out.er.2.2 e) (fun e => (hT8.out.ov _ e).2.2 rfl) (fun e => (hT8.out.ou _ e).2.2 rfl)).to (fun _ _ hc => hc.1)
    have hK7 : KS E w (((((((((w8.setCell ⟨w.heap.size + 1, 0, none⟩ (.int .i64 4)).setCell ⟨w.heap.size + 1, 1, none⟩ (.int .u64 m.t)).setCell ⟨w.heap.size + 1, 2, none⟩ (.int .i64 (s.e + 1))).setCell ⟨w.heap.size + 1, 3, none⟩ (.int .i64 0)).setCell ⟨w.heap.size + 1, 4, none⟩ (.int .i64 0)).setCell ⟨w.heap.size + 1, 5, none⟩ (.int .u64 0)).setCell ⟨w.heap.size + 1, 6, none⟩ (.int .i64 0)).setCell ⟨w.heap.size + 1, 7, none⟩ (.int .i64 m.f)).setCell ⟨w.heap.size + 1, 8, none⟩ (.slice none 0 0)) := hK8.out.trans ((KS.set _ _ _ (hEE.out _ (by omega)) _).trans ((KS.set _ _ _ (hEE.out _ (by omega)) _).trans ((KS.set _ _ _ (hEE.out _ (by omega)) _).trans ((KS.set _ _ _ (hEE.out _ (by omega)) _).trans ((KS.set _ _ _ (hEE.out _ (by omega)) _).trans ((KS.set _ _ _ (hEE.out _ (by omega)) _).trans ((KS.set _ _ _ (hEE.out _ (by omega)) _).trans ((KS.set _ _ _ (hEE.out _ (by omega)) _).trans (KS.set _ _ _ (hEE.out _ (by omega)) _)))))))))
    have hz7 := (((((((((hz8.out.set 0 (.int .i64 4)).set 1 (.int .u64 m.t)).set 2 (.int .i64 (s.e + 1))).set 3 (.int .i64 0)).set 4 (.int .i64 0)).set 5 (.int .u64 0)).set 6 (.int .i64 0)).set 7 (.int .i64 m.f)).set 8 (.slice none 0 0))
    have x0 := hz7.cell 0
    have x1 := hz7.cell 1
    have x2 := hz7.cell 2
    have x3 := hz7.cell 3
    have x4 := hz7.cell 4
    have x5 := hz7.cell 5
    have x6 := hz7.cell 6
    have x7 := hz7.cell 7
    have x8 := hz7.cell 8
    refine bodyPost_ret (v := .tuple #[.agg #[.int .i64 4, .int .u64 m.t, .int .i64 (s.e + 1), .int .i64 0, .int .i64 0, .int .u64 0, .int .i64 0, .int .i64 m.f, .slice none 0 0], .int .i64 0]) (by simp [results, Try.results13, go_sem, *]) rfl ?_
    first | exact ⟨rfl, _, _, hT7, hK7⟩ | exact ⟨rfl, ⟨_, _, hT7⟩, hK7⟩)
end Go.Proofs.Ytmohfblkfdkloaa
