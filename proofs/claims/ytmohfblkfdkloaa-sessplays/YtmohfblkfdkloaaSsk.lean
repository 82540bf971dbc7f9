/-
  Hear.
-/
import Derived.Test.YtmohfblkfdkloaaSsj
namespace Go.Proofs.Ytmohfblkfdkloaa
open Go.RowKit
set_option linter.unusedVariables false
/-- WHAT HEAR ANSWERS, AND DOES, to a table whose time has gone on. -/
def heaE (T : Tb) (m : Mg) : Int := match fiA T.L m.t with
  | none => 15
  | some i => if m.e < (T.L.getD i zS).e then 17 else if (T.L.getD i zS).e < m.e then 18 else 0
def hrdS (T : Tb) (s : Se) : Se := ⟨s.t, s.e, s.f, T.time⟩
def heaA (T : Tb) (m : Mg) : Tb := match fiA T.L m.t with
  | none => T
  | some i => if m.e < (T.L.getD i zS).e then T else if (T.L.getD i zS).e < m.e then T else if m.k = 7 then remA T m.t else { T with L := T.L.set i (hrdS T (T.L.getD i zS)) }
set_option maxHeartbeats 1000000 in
theorem hear_none {w : World} {C : Nat → Prop} {tb mb k : Nat} {v : Value} {T : Tb} (m : Mg) (now : Int) (h : Tab w C tb mb v T) (hO : Ok k T) (hC : ∀ k, w.heap.size ≤ k → C k) (hf : fiA (goA T now).L m.t = none) :
    Calls Try.prog 15 #[.pointer (some ⟨tb, 0, none⟩), m.val, .int .i64 now] w fun e w' => e = .returned (.int .i64 15) ∧ ∃ v2, Hid (Tab w' C tb mb v2 (goA T now)) ∧ Hid (KS C w w') := by
  have H1 : Tab (w.alloc (.cells #[.int .i64 m.k, .int .u64 m.t, .int .i64 m.e, .int .i64 m.s, .int .i64 m.a, .int .u64 m.b, .int .i64 m.c, .int .i64 m.f, .slice m.la m.ln m.lc] 37)) (fun q => C q ∧ q ≠ w.heap.size) tb mb v T := (h.to (fun q hq hc => ⟨hc, by omega⟩)).kept ((Below.refl _ _).alloc (Nat.le_refl _) _)
  have k0 := made_yes tb _ H1.c0
  have k1 := goon_any now H1 hO (fun k hk => by simp at hk; exact ⟨hC k (by omega), by omega⟩)
  have hbm : Hid (Blk (w.alloc (.cells #[.int .i64 m.k, .int .u64 m.t, .int .i64 m.e, .int .i64 m.s, .int .i64 m.a, .int .u64 m.b, .int .i64 m.c, .int .i64 m.f, .slice m.la m.ln m.lc] 37)) w.heap.size #[.int .i64 m.k, .int .u64 m.t, .int .i64 m.e, .int .i64 m.s, .int .i64 m.a, .int .u64 m.b, .int .i64 m.c, .int .i64 m.f, .slice m.la m.ln m.lc] 37) := blk_new w _ _
  have hlt : Hid (tb < w.heap.size) := h.blk.lt
  have hKa : Hid (KS C w (w.alloc (.cells #[.int .i64 m.k, .int .u64 m.t, .int .i64 m.e, .int .i64 m.s, .int .i64 m.a, .int .u64 m.b, .int .i64 m.c, .int .i64 m.f, .slice m.la m.ln m.lc] 37))) := KS.of_below ((Below.refl _ _).alloc (Nat.le_refl _) _)
  have hct : Hid (C tb) := h.ct
  have hO1 : Hid (Ok k (goA T now)) := go_ok hO now
  have hCC : Hid (∀ k, w.heap.size ≤ k → C k) := hC
  have hf' : Hid (fiA (goA T now).L m.t = none) := hf
  unfold Mg.val
  clear h hO hC H1 hf
  go_enter Try.func15, Try.ntmps15
  go_wp2_with (first | (go_at_call 30; refine k0.mono ?_; rintro e w0 ⟨rfl, hw0⟩; obtain rfl := hw0.symm; clear k0) | (go_at_call 31; refine k1.mono ?_; rintro e w1 ⟨v1, v2, rfl, hW, hT, hK⟩; clear hW k1; have hm1 : Hid (Blk w1 w.heap.size _ 37) := hbm.out.ks hK.out (by have := hlt.out; omega); have hK1 : Hid (KS C w w1) := hKa.out.trans (hK.out.mono (fun q _ e => by rw [e]; exact hct.out)); have a0 := hm1.out.cell 0; have a1 := hm1.out.cell 1; have a2 := hm1.out.cell 2; clear hbm hKa hK) | (go_at_call 32; refine (sess_any m.t hT.out).mono ?_; rintro e w2 ⟨⟨p, rfl, hp⟩, hw2⟩; obtain rfl := hw2.symm; obtain rfl : p = none := (by rcases hp.out with ⟨_, h⟩ | ⟨i, g, c, h, _⟩; exact h; rw [hf'.out] at h; cases h)))
  go_ret
  exact ⟨rfl, v2, hT.out.to (fun _ _ hc => hc.1), hK1⟩
set_option maxHeartbeats 1000000 in
theorem hear_old {w : World} {C : Nat → Prop} {tb mb k : Nat} {v : Value} {T : Tb} (m : Mg) (now : Int) (h : Tab w C tb mb v T) (hO : Ok k T) (hC : ∀ k, w.heap.size ≤ k → C k) {i : Nat} {s : Se} (hf : fiA (goA T now).L m.t = some i) (hs : (goA T now).L[i]? = some s) (he : m.e < s.e) :
    Calls Try.prog 15 #[.pointer (some ⟨tb, 0, none⟩), m.val, .int .i64 now] w fun e w' => e = .returned (.int .i64 17) ∧ ∃ v2, Hid (Tab w' C tb mb v2 (goA T now)) ∧ Hid (KS C w w') := by
  have H1 : Tab (w.alloc (.cells #[.int .i64 m.k, .int .u64 m.t, .int .i64 m.e, .int .i64 m.s, .int .i64 m.a, .int .u64 m.b, .int .i64 m.c, .int .i64 m.f, .slice m.la m.ln m.lc] 37)) (fun q => C q ∧ q ≠ w.heap.size) tb mb v T := (h.to (fun q hq hc => ⟨hc, by omega⟩)).kept ((Below.refl _ _).alloc (Nat.le_refl _) _)
  have k0 := made_yes tb _ H1.c0
  have k1 := goon_any now H1 hO (fun k hk => by simp at hk; exact ⟨hC k (by omega), by omega⟩)
  have hbm : Hid (Blk (w.alloc (.cells #[.int .i64 m.k, .int .u64 m.t, .int .i64 m.e, .int .i64 m.s, .int .i64 m.a, .int .u64 m.b, .int .i64 m.c, .int .i64 m.f, .slice m.la m.ln m.lc] 37)) w.heap.size #[.int .i64 m.k, .int .u64 m.t, .int .i64 m.e, .int .i64 m.s, .int .i64 m.a, .int .u64 m.b, .int .i64 m.c, .int .i64 m.f, .slice m.la m.ln m.lc] 37) := blk_new w _ _
  have hlt : Hid (tb < w.heap.size) := h.blk.lt
  have hKa : Hid (KS C w (w.alloc (.cells #[.int .i64 m.k, .int .u64 m.t, .int .i64 m.e, .int .i64 m.s, .int .i64 m.a, .int .u64 m.b, .int .i64 m.c, .int .i64 m.f, .slice m.la m.ln m.lc] 37))) := KS.of_below ((Below.refl _ _).alloc (Nat.le_refl _) _)
  have hct : Hid (C tb) := h.ct
  have hO1 : Hid (Ok k (goA T now)) := go_ok hO now
  have hCC : Hid (∀ k, w.heap.size ≤ k → C k) := hC
  have hf' : Hid (fiA (goA T now).L m.t = some i) := hf
  have hs' : Hid ((goA T now).L[i]? = some s) := hs
  have q1 : decide (m.e < s.e) = true := by simpa using he
  unfold Mg.val
  clear h hO hC H1 hf hs he
  go_enter Try.func15, Try.ntmps15
  go_wp2_with (first | (go_at_call 30; refine k0.mono ?_; rintro e w0 ⟨rfl, hw0⟩; obtain rfl := hw0.symm; clear k0) | (go_at_call 31; refine k1.mono ?_; rintro e w1 ⟨v1, v2, rfl, hW, hT, hK⟩; clear hW k1; have hm1 : Hid (Blk w1 w.heap.size _ 37) := hbm.out.ks hK.out (by have := hlt.out; omega); have hK1 : Hid (KS C w w1) := hKa.out.trans (hK.out.mono (fun q _ e => by rw [e]; exact hct.out)); have a0 := hm1.out.cell 0; have a1 := hm1.out.cell 1; have a2 := hm1.out.cell 2; clear hbm hKa hK) | (go_at_call 32; refine (sess_any m.t hT.out).mono ?_; rintro e w2 ⟨⟨p, rfl, hp⟩, hw2⟩; obtain rfl := hw2.symm; obtain ⟨g, c, hv, rfl⟩ : ∃ g c, v2 = .slice (some ⟨g, 0, none⟩) (goA T now).L.length c ∧ p = some ⟨g, i * 4, none⟩ := (by rcases hp.out with ⟨h, _⟩ | ⟨i', g, c, h, h2, h3⟩; rw [hf'.out] at h; cases h; rw [hf'.out] at h; cases h; exact ⟨g, c, h2, h3⟩); obtain ⟨g', c', hv', hg, hCg, hfz, hcl⟩ := hT.out.cells hs'.out; obtain ⟨rfl, rfl⟩ : g = g' ∧ c = c' := (by rw [hv] at hv'; simp at hv'; exact hv'); have u1 : w1.cell? ⟨g, i * 4 + 1, none⟩ = some (.int .i64 s.e) := hcl 1 (by decide); have u3 : w1.cell? ⟨g, i * 4 + 3, none⟩ = some (.int .i64 s.h) := hcl 3 (by decide); have t3 := hfz (i * 4 + 3); have n1 : g ≠ w.heap.size := hCg.2; have c3 := hT.out.c3; have hv2 : Hid (v2 = .slice (some ⟨g, 0, none⟩) (goA T now).L.length c) := hv; have hC2 : Hid (C g) := hCg.1; clear hfz hcl hv hv' hp hCg))
  have hTd : Hid (Tab w1.drew (fun q => C q ∧ q ≠ w.heap.size) tb mb v2 (goA T now)) := hT.out.drew
  have hKd : Hid (KS C w w1.drew) := hK1.out.trans (KS.of_below (Below.refl _ _).drew)
  go_region
  go_wp2
  go_ret
  exact ⟨rfl, v2, hTd.out.to (fun _ _ hc => hc.1), hKd⟩
set_option maxHeartbeats 1000000 in
theorem hear_state {w : World} {C : Nat → Prop} {tb mb k : Nat} {v : Value} {T : Tb} (m : Mg) (now : Int) (h : Tab w C tb mb v T) (hO : Ok k T) (hC : ∀ k, w.heap.size ≤ k → C k) {i : Nat} {s : Se} (hf : fiA (goA T now).L m.t = some i) (hs : (goA T now).L[i]? = some s) (he : s.e < m.e) :
    Calls Try.prog 15 #[.pointer (some ⟨tb, 0, none⟩), m.val, .int .i64 now] w fun e w' => e = .returned (.int .i64 18) ∧ ∃ v2, Hid (Tab w' C tb mb v2 (goA T now)) ∧ Hid (KS C w w') := by
  have H1 : Tab (w.alloc (.cells #[.int .i64 m.k, .int .u64 m.t, .int .i64 m.e, .int .i64 m.s, .int .i64 m.a, .int .u64 m.b, .int .i64 m.c, .int .i64 m.f, .slice m.la m.ln m.lc] 37)) (fun q => C q ∧ q ≠ w.heap.size) tb mb v T := (h.to (fun q hq hc => ⟨hc, by omega⟩)).kept ((Below.refl _ _).alloc (Nat.le_refl _) _)
  have k0 := made_yes tb _ H1.c0
  have k1 := goon_any now H1 hO (fun k hk => by simp at hk; exact ⟨hC k (by omega), by omega⟩)
  have hbm : Hid (Blk (w.alloc (.cells #[.int .i64 m.k, .int .u64 m.t, .int .i64 m.e, .int .i64 m.s, .int .i64 m.a, .int .u64 m.b, .int .i64 m.c, .int .i64 m.f, .slice m.la m.ln m.lc] 37)) w.heap.size #[.int .i64 m.k, .int .u64 m.t, .int .i64 m.e, .int .i64 m.s, .int .i64 m.a, .int .u64 m.b, .int .i64 m.c, .int .i64 m.f, .slice m.la m.ln m.lc] 37) := blk_new w _ _
  have hlt : Hid (tb < w.heap.size) := h.blk.lt
  have hKa : Hid (KS C w (w.alloc (.cells #[.int .i64 m.k, .int .u64 m.t, .int .i64 m.e, .int .i64 m.s, .int .i64 m.a, .int .u64 m.b, .int .i64 m.c, .int .i64 m.f, .slice m.la m.ln m.lc] 37))) := KS.of_below ((Below.refl _ _).alloc (Nat.le_refl _) _)
  have hct : Hid (C tb) := h.ct
  have hO1 : Hid (Ok k (goA T now)) := go_ok hO now
  have hCC : Hid (∀ k, w.heap.size ≤ k → C k) := hC
  have hf' : Hid (fiA (goA T now).L m.t = some i) := hf
  have hs' : Hid ((goA T now).L[i]? = some s) := hs
  have q1 : decide (m.e < s.e) = false := by simp; omega
  have q2 : decide (m.e > s.e) = true := by simpa using he
  unfold Mg.val
  clear h hO hC H1 hf hs he
  go_enter Try.func15, Try.ntmps15
  go_wp2_with (first | (go_at_call 30; refine k0.mono ?_; rintro e w0 ⟨rfl, hw0⟩; obtain rfl := hw0.symm; clear k0) | (go_at_call 31; refine k1.mono ?_; rintro e w1 ⟨v1, v2, rfl, hW, hT, hK⟩; clear hW k1; have hm1 : Hid (Blk w1 w.heap.size _ 37) := hbm.out.ks hK.out (by have := hlt.out; omega); have hK1 : Hid (KS C w w1) := hKa.out.trans (hK.out.mono (fun q _ e => by rw [e]; exact hct.out)); have a0 := hm1.out.cell 0; have a1 := hm1.out.cell 1; have a2 := hm1.out.cell 2; clear hbm hKa hK) | (go_at_call 32; refine (sess_any m.t hT.out).mono ?_; rintro e w2 ⟨⟨p, rfl, hp⟩, hw2⟩; obtain rfl := hw2.symm; obtain ⟨g, c, hv, rfl⟩ : ∃ g c, v2 = .slice (some ⟨g, 0, none⟩) (goA T now).L.length c ∧ p = some ⟨g, i * 4, none⟩ := (by rcases hp.out with ⟨h, _⟩ | ⟨i', g, c, h, h2, h3⟩; rw [hf'.out] at h; cases h; rw [hf'.out] at h; cases h; exact ⟨g, c, h2, h3⟩); obtain ⟨g', c', hv', hg, hCg, hfz, hcl⟩ := hT.out.cells hs'.out; obtain ⟨rfl, rfl⟩ : g = g' ∧ c = c' := (by rw [hv] at hv'; simp at hv'; exact hv'); have u1 : w1.cell? ⟨g, i * 4 + 1, none⟩ = some (.int .i64 s.e) := hcl 1 (by decide); have u3 : w1.cell? ⟨g, i * 4 + 3, none⟩ = some (.int .i64 s.h) := hcl 3 (by decide); have t3 := hfz (i * 4 + 3); have n1 : g ≠ w.heap.size := hCg.2; have c3 := hT.out.c3; have hv2 : Hid (v2 = .slice (some ⟨g, 0, none⟩) (goA T now).L.length c) := hv; have hC2 : Hid (C g) := hCg.1; clear hfz hcl hv hv' hp hCg))
  have hTd : Hid (Tab w1.drew (fun q => C q ∧ q ≠ w.heap.size) tb mb v2 (goA T now)) := hT.out.drew
  have hKd : Hid (KS C w w1.drew) := hK1.out.trans (KS.of_below (Below.refl _ _).drew)
  go_region
  go_wp2
  go_region
  go_wp2
  go_ret
  exact ⟨rfl, v2, hTd.out.drew.to (fun _ _ hc => hc.1), hKd.out.trans (KS.of_below (Below.refl _ _).drew)⟩
set_option maxHeartbeats 1000000 in
theorem hear_close {w : World} {C : Nat → Prop} {tb mb k : Nat} {v : Value} {T : Tb} (m : Mg) (now : Int) (h : Tab w C tb mb v T) (hO : Ok k T) (hC : ∀ k, w.heap.size ≤ k → C k) {i : Nat} {s : Se} (hf : fiA (goA T now).L m.t = some i) (hs : (goA T now).L[i]? = some s) (he : m.e = s.e) (hk : m.k = 7) :
    Calls Try.prog 15 #[.pointer (some ⟨tb, 0, none⟩), m.val, .int .i64 now] w fun e w' => e = .returned (.int .i64 0) ∧ ∃ v2, Hid (Tab w' C tb mb v2 (remA (goA T now) m.t)) ∧ Hid (KS C w w') := by
  have H1 : Tab (w.alloc (.cells #[.int .i64 m.k, .int .u64 m.t, .int .i64 m.e, .int .i64 m.s, .int .i64 m.a, .int .u64 m.b, .int .i64 m.c, .int .i64 m.f, .slice m.la m.ln m.lc] 37)) (fun q => C q ∧ q ≠ w.heap.size) tb mb v T := (h.to (fun q hq hc => ⟨hc, by omega⟩)).kept ((Below.refl _ _).alloc (Nat.le_refl _) _)
  have k0 := made_yes tb _ H1.c0
  have k1 := goon_any now H1 hO (fun k hk => by simp at hk; exact ⟨hC k (by omega), by omega⟩)
  have hbm : Hid (Blk (w.alloc (.cells #[.int .i64 m.k, .int .u64 m.t, .int .i64 m.e, .int .i64 m.s, .int .i64 m.a, .int .u64 m.b, .int .i64 m.c, .int .i64 m.f, .slice m.la m.ln m.lc] 37)) w.heap.size #[.int .i64 m.k, .int .u64 m.t, .int .i64 m.e, .int .i64 m.s, .int .i64 m.a, .int .u64 m.b, .int .i64 m.c, .int .i64 m.f, .slice m.la m.ln m.lc] 37) := blk_new w _ _
  have hlt : Hid (tb < w.heap.size) := h.blk.lt
  have hKa : Hid (KS C w (w.alloc (.cells #[.int .i64 m.k, .int .u64 m.t, .int .i64 m.e, .int .i64 m.s, .int .i64 m.a, .int .u64 m.b, .int .i64 m.c, .int .i64 m.f, .slice m.la m.ln m.lc] 37))) := KS.of_below ((Below.refl _ _).alloc (Nat.le_refl _) _)
  have hct : Hid (C tb) := h.ct
  have hO1 : Hid (Ok k (goA T now)) := go_ok hO now
  have hCC : Hid (∀ k, w.heap.size ≤ k → C k) := hC
  have hf' : Hid (fiA (goA T now).L m.t = some i) := hf
  have hs' : Hid ((goA T now).L[i]? = some s) := hs
  have q1 : decide (m.e < s.e) = false := by simp; omega
  have q2 : decide (m.e > s.e) = false := by simp; omega
  have q3 : (m.k == 7) = true := by simpa using hk
  unfold Mg.val
  clear h hO hC H1 hf hs he hk
  go_enter Try.func15, Try.ntmps15
  go_wp2_with (first | (go_at_call 30; refine k0.mono ?_; rintro e w0 ⟨rfl, hw0⟩; obtain rfl := hw0.symm; clear k0) | (go_at_call 31; refine k1.mono ?_; rintro e w1 ⟨v1, v2, rfl, hW, hT, hK⟩; clear hW k1; have hm1 : Hid (Blk w1 w.heap.size _ 37) := hbm.out.ks hK.out (by have := hlt.out; omega); have hK1 : Hid (KS C w w1) := hKa.out.trans (hK.out.mono (fun q _ e => by rw [e]; exact hct.out)); have a0 := hm1.out.cell 0; have a1 := hm1.out.cell 1; have a2 := hm1.out.cell 2; clear hbm hKa hK) | (go_at_call 32; refine (sess_any m.t hT.out).mono ?_; rintro e w2 ⟨⟨p, rfl, hp⟩, hw2⟩; obtain rfl := hw2.symm; obtain ⟨g, c, hv, rfl⟩ : ∃ g c, v2 = .slice (some ⟨g, 0, none⟩) (goA T now).L.length c ∧ p = some ⟨g, i * 4, none⟩ := (by rcases hp.out with ⟨h, _⟩ | ⟨i', g, c, h, h2, h3⟩; rw [hf'.out] at h; cases h; rw [hf'.out] at h; cases h; exact ⟨g, c, h2, h3⟩); obtain ⟨g', c', hv', hg, hCg, hfz, hcl⟩ := hT.out.cells hs'.out; obtain ⟨rfl, rfl⟩ : g = g' ∧ c = c' := (by rw [hv] at hv'; simp at hv'; exact hv'); have u1 : w1.cell? ⟨g, i * 4 + 1, none⟩ = some (.int .i64 s.e) := hcl 1 (by decide); have u3 : w1.cell? ⟨g, i * 4 + 3, none⟩ = some (.int .i64 s.h) := hcl 3 (by decide); have t3 := hfz (i * 4 + 3); have n1 : g ≠ w.heap.size := hCg.2; have c3 := hT.out.c3; have hv2 : Hid (v2 = .slice (some ⟨g, 0, none⟩) (goA T now).L.length c) := hv; have hC2 : Hid (C g) := hCg.1; clear hfz hcl hv hv' hp hCg))
  have hTd : Hid (Tab w1.drew (fun q => C q ∧ q ≠ w.heap.size) tb mb v2 (goA T now)) := hT.out.drew
  have hKd : Hid (KS C w w1.drew) := hK1.out.trans (KS.of_below (Below.refl _ _).drew)
  go_region
  go_wp2
  go_region
  go_wp2_with (first | (go_at_call 33; refine (remove_any m.t hTd.out.drew hO1.out (fun q hq => ⟨hCC.out q (Nat.le_trans hKd.out.size hq), by have := hm1.out.lt; have : w1.heap.size ≤ q := hq; omega⟩)).mono ?_; rintro e w2 ⟨v3, rfl, hT2, hK2⟩))
  go_ret
  exact ⟨rfl, v3, hT2.out.to (fun _ _ hc => hc.1), hKd.out.trans ((KS.of_below (Below.refl _ _).drew).trans (hK2.out.mono (fun q _ e => by rw [e]; exact hct.out)))⟩
set_option maxHeartbeats 1000000 in
theorem hear_yes {w : World} {C : Nat → Prop} {tb mb k : Nat} {v : Value} {T : Tb} (m : Mg) (now : Int) (h : Tab w C tb mb v T) (hO : Ok k T) (hC : ∀ k, w.heap.size ≤ k → C k) {i : Nat} {s : Se} (hf : fiA (goA T now).L m.t = some i) (hs : (goA T now).L[i]? = some s) (he : m.e = s.e) (hk : m.k ≠ 7) :
    Calls Try.prog 15 #[.pointer (some ⟨tb, 0, none⟩), m.val, .int .i64 now] w fun e w' => e = .returned (.int .i64 0) ∧ ∃ v2, Hid (Tab w' C tb mb v2 ({ goA T now with L := (goA T now).L.set i (hrdS (goA T now) s) })) ∧ Hid (KS C w w') := by
  have H1 : Tab (w.alloc (.cells #[.int .i64 m.k, .int .u64 m.t, .int .i64 m.e, .int .i64 m.s, .int .i64 m.a, .int .u64 m.b, .int .i64 m.c, .int .i64 m.f, .slice m.la m.ln m.lc] 37)) (fun q => C q ∧ q ≠ w.heap.size) tb mb v T := (h.to (fun q hq hc => ⟨hc, by omega⟩)).kept ((Below.refl _ _).alloc (Nat.le_refl _) _)
  have k0 := made_yes tb _ H1.c0
  have k1 := goon_any now H1 hO (fun k hk => by simp at hk; exact ⟨hC k (by omega), by omega⟩)
  have hbm : Hid (Blk (w.alloc (.cells #[.int .i64 m.k, .int .u64 m.t, .int .i64 m.e, .int .i64 m.s, .int .i64 m.a, .int .u64 m.b, .int .i64 m.c, .int .i64 m.f, .slice m.la m.ln m.lc] 37)) w.heap.size #[.int .i64 m.k, .int .u64 m.t, .int .i64 m.e, .int .i64 m.s, .int .i64 m.a, .int .u64 m.b, .int .i64 m.c, .int .i64 m.f, .slice m.la m.ln m.lc] 37) := blk_new w _ _
  have hlt : Hid (tb < w.heap.size) := h.blk.lt
  have hKa : Hid (KS C w (w.alloc (.cells #[.int .i64 m.k, .int .u64 m.t, .int .i64 m.e, .int .i64 m.s, .int .i64 m.a, .int .u64 m.b, .int .i64 m.c, .int .i64 m.f, .slice m.la m.ln m.lc] 37))) := KS.of_below ((Below.refl _ _).alloc (Nat.le_refl _) _)
  have hct : Hid (C tb) := h.ct
  have hO1 : Hid (Ok k (goA T now)) := go_ok hO now
  have hCC : Hid (∀ k, w.heap.size ≤ k → C k) := hC
  have hf' : Hid (fiA (goA T now).L m.t = some i) := hf
  have hs' : Hid ((goA T now).L[i]? = some s) := hs
  have q1 : decide (m.e < s.e) = false := by simp; omega
  have q2 : decide (m.e > s.e) = false := by simp; omega
  have q3 : (m.k == 7) = false := by simpa using hk
  unfold Mg.val
  clear h hO hC H1 hf hs he hk
  go_enter Try.func15, Try.ntmps15
  go_wp2_with (first | (go_at_call 30; refine k0.mono ?_; rintro e w0 ⟨rfl, hw0⟩; obtain rfl := hw0.symm; clear k0) | (go_at_call 31; refine k1.mono ?_; rintro e w1 ⟨v1, v2, rfl, hW, hT, hK⟩; clear hW k1; have hm1 : Hid (Blk w1 w.heap.size _ 37) := hbm.out.ks hK.out (by have := hlt.out; omega); have hK1 : Hid (KS C w w1) := hKa.out.trans (hK.out.mono (fun q _ e => by rw [e]; exact hct.out)); have a0 := hm1.out.cell 0; have a1 := hm1.out.cell 1; have a2 := hm1.out.cell 2; clear hbm hKa hK) | (go_at_call 32; refine (sess_any m.t hT.out).mono ?_; rintro e w2 ⟨⟨p, rfl, hp⟩, hw2⟩; obtain rfl := hw2.symm; obtain ⟨g, c, hv, rfl⟩ : ∃ g c, v2 = .slice (some ⟨g, 0, none⟩) (goA T now).L.length c ∧ p = some ⟨g, i * 4, none⟩ := (by rcases hp.out with ⟨h, _⟩ | ⟨i', g, c, h, h2, h3⟩; rw [hf'.out] at h; cases h; rw [hf'.out] at h; cases h; exact ⟨g, c, h2, h3⟩); obtain ⟨g', c', hv', hg, hCg, hfz, hcl⟩ := hT.out.cells hs'.out; obtain ⟨rfl, rfl⟩ : g = g' ∧ c = c' := (by rw [hv] at hv'; simp at hv'; exact hv'); have u1 : w1.cell? ⟨g, i * 4 + 1, none⟩ = some (.int .i64 s.e) := hcl 1 (by decide); have u3 : w1.cell? ⟨g, i * 4 + 3, none⟩ = some (.int .i64 s.h) := hcl 3 (by decide); have t3 := hfz (i * 4 + 3); have n1 : g ≠ w.heap.size := hCg.2; have c3 := hT.out.c3; have hv2 : Hid (v2 = .slice (some ⟨g, 0, none⟩) (goA T now).L.length c) := hv; have hC2 : Hid (C g) := hCg.1; clear hfz hcl hv hv' hp hCg))
  have hTd : Hid (Tab w1.drew (fun q => C q ∧ q ≠ w.heap.size) tb mb v2 (goA T now)) := hT.out.drew
  have hKd : Hid (KS C w w1.drew) := hK1.out.trans (KS.of_below (Below.refl _ _).drew)
  go_region
  go_wp2
  go_region
  go_wp2
  go_ret
  refine ⟨rfl, v2, ?_, ?_⟩
  · exact (hTd.out.drew.putc (u := .int .i64 (goA T now).time) (s' := hrdS (goA T now) s) hv2.out hs'.out (j := 3) (by decide) rfl).to (fun _ _ hc => hc.1)
  · exact hKd.out.trans ((KS.of_below (Below.refl _ _).drew).trans (KS.set _ _ _ hC2.out _))
theorem hear_any {w : World} {C : Nat → Prop} {tb mb k : Nat} {v : Value} {T : Tb} (m : Mg) (now : Int) (h : Tab w C tb mb v T) (hO : Ok k T) (hC : ∀ k, w.heap.size ≤ k → C k) :
    Calls Try.prog 15 #[.pointer (some ⟨tb, 0, none⟩), m.val, .int .i64 now] w fun e w' => e = .returned (.int .i64 (heaE (goA T now) m)) ∧ ∃ v2, Hid (Tab w' C tb mb v2 (heaA (goA T now) m)) ∧ Hid (KS C w w') := by
  cases hf : fiA (goA T now).L m.t with
  | none =>
    unfold heaE heaA
    rw [hf]
    exact hear_none m now h hO hC hf
  | some i =>
    obtain ⟨s, hs, -, -⟩ := fiA_some hf
    unfold heaE heaA
    rw [hf]
    simp only [List.getD_eq_getElem?_getD, hs, Option.getD_some]
    by_cases h1 : m.e < s.e
    · rw [if_pos h1, if_pos h1]
      exact hear_old m now h hO hC hf hs h1
    · rw [if_neg h1, if_neg h1]
      by_cases h2 : s.e < m.e
      · rw [if_pos h2, if_pos h2]
        exact hear_state m now h hO hC hf hs h2
      · rw [if_neg h2, if_neg h2]
        by_cases h3 : m.k = 7
        · rw [if_pos h3]
          exact hear_close m now h hO hC hf hs (by omega) h3
        · rw [if_neg h3]
          exact hear_yes m now h hO hC hf hs (by omega) h3
theorem hear_nil (m : Mg) (now : Int) (w : World) : Calls Try.prog 15 #[.pointer none, m.val, .int .i64 now] w fun e w' => e = .returned (.int .i64 2) ∧ Below w.heap.size w w' := by
  have k0 := made_nil (w.alloc (.cells #[.int .i64 m.k, .int .u64 m.t, .int .i64 m.e, .int .i64 m.s, .int .i64 m.a, .int .u64 m.b, .int .i64 m.c, .int .i64 m.f, .slice m.la m.ln m.lc] 37))
  unfold Mg.val
  go_enter Try.func15, Try.ntmps15
  go_wp2_with (go_at_call 30; refine k0.mono ?_; rintro e w0 ⟨rfl, hw0⟩; obtain rfl := hw0.symm)
  go_ret
  exact ⟨rfl, (Below.refl _ _).alloc (Nat.le_refl _) _⟩
theorem hear_no (tb : Nat) (m : Mg) (now : Int) (w : World) (h : w.cell? ⟨tb, 0, none⟩ = some (.bool false)) (hlt : tb < w.heap.size) : Calls Try.prog 15 #[.pointer (some ⟨tb, 0, none⟩), m.val, .int .i64 now] w fun e w' => e = .returned (.int .i64 2) ∧ Below w.heap.size w w' := by
  have k0 := made_no tb (w.alloc (.cells #[.int .i64 m.k, .int .u64 m.t, .int .i64 m.e, .int .i64 m.s, .int .i64 m.a, .int .u64 m.b, .int .i64 m.c, .int .i64 m.f, .slice m.la m.ln m.lc] 37)) (((Below.refl w.heap.size w).alloc (Nat.le_refl _) _).cell (p := ⟨tb, 0, none⟩) hlt |>.trans h)
  unfold Mg.val
  go_enter Try.func15, Try.ntmps15
  go_wp2_with (go_at_call 30; refine k0.mono ?_; rintro e w0 ⟨rfl, hw0⟩; obtain rfl := hw0.symm)
  go_ret
  exact ⟨rfl, (Below.refl _ _).alloc (Nat.le_refl _) _⟩
end Go.Proofs.Ytmohfblkfdkloaa
