/-
  The document's Close and Hear.
-/
import Derived.Test.YtmohfblkfdkloaaStd
namespace Go.Proofs.Ytmohfblkfdkloaa
open Go.RowKit
set_option linter.unusedVariables false
theorem RTab.putc {w : World} {E : Nat → Prop} {rb : Nat} {v u : Value} {R : Tb} {us : List Int} (h : RTab w E rb v u R us) {i j g n c : Nat} {s s' : Se} {x : Value} (hv : v = .slice (some ⟨g, 0, none⟩) n c) (hi : R.L[i]? = some s) (hj : j < 4) (hs : s'.cs = s.cs.set j x) :
    RTab (w.setCell ⟨g, i * 4 + j, none⟩ x) E rb v u { R with L := R.L.set i s' } us := by
  subst hv
  have hlt : i < R.L.length := (List.getElem?_eq_some_iff.1 hi).1
  rcases h.row.2 with ⟨hv, hn⟩ | ⟨g', cap, cur, hv, hg, hc, hnc, hcm, hcs, htk⟩
  · cases hv
  · simp only [Value.slice.injEq, Option.some.injEq, Addr.mk.injEq, and_true] at hv
    obtain ⟨rfl, hn, rfl⟩ := hv
    have hne : ∀ q T cs, T ≠ 72 → w.heap[q]? = some (Obj.cells cs T (0, 0)) → q ≠ g := fun q T cs hT hq e => by
      rw [e, hc] at hq
      injection hq with hq
      injection hq with _ hq
      exact hT hq.symm
    refine ⟨(Below.heap_setCell w _ _ rb (hne _ _ _ (by decide) h.blk)).trans h.blk, ⟨by rw [sCs_len], .inr ⟨g, c, cur.setIfInBounds (i * 4 + j) x, by simp [hn], Nat.zero_le _, heap_setCell_same w g _ cur 72 x hc, by simpa using hnc, hcm, by simpa using hcs, ?_⟩⟩, ownsRow_keep h.urow fun b cur _ _ h3 => Below.heap_setCell w _ _ b (hne _ _ _ (by decide) h3), h.ov, h.ou, h.er, h.mem, h.cnt⟩
    show (cur.setIfInBounds (i * 4 + j) x).toList.take ((R.L.set i s').length * 4) = sCs (R.L.set i s')
    rw [List.length_set, sCs_set hi hj hs, ← htk, Array.toList_setIfInBounds, List.take_set]
theorem rem_none {R : Tb} {t : Int} (h : fiA R.L t = none) : remA R t = R := by
  unfold remA
  have : R.L.filter (fun s => !(s.t == t)) = R.L := by
    rw [List.filter_eq_self]
    intro s hs
    have := fiA_none.1 h s hs
    simp [this]
  rw [this]
theorem rem_some {k : Nat} {R : Tb} (hO : Ok k R) {t : Int} {i : Nat} (h : fiA R.L t = some i) : { R with L := R.L.take i ++ R.L.drop (i + 1) } = remA R t := by
  obtain ⟨s, hs, ht, -⟩ := fiA_some h
  unfold remA
  rw [erase_filter hO.one hs, ht]
theorem set_erase {L : List Se} {i : Nat} {a : Se} : (L.set i a).take i ++ (L.set i a).drop (i + 1) = L.take i ++ L.drop (i + 1) := by
  induction L generalizing i with
  | nil => simp
  | cons y L ih =>
    cases i with
    | zero => simp
    | succ i =>
      rw [List.set_cons_succ, List.take_succ_cons, List.drop_succ_cons, List.cons_append, ih]
      rfl
set_option maxHeartbeats 1000000 in
theorem xclose_any {w : World} {E : Nat → Prop} {rb k : Nat} {v u : Value} {R : Tb} {us : List Int} (t now : Int) (h : RTab w E rb v u R us) (hO : Ok k R) (hE : ∀ q, w.heap.size ≤ q → E q) :
    Calls Try.prog 18 #[.pointer (some ⟨rb, 0, none⟩), .int .u64 t, .int .i64 now] w fun e w' => e = .returned (.int .i64 (cloE (goA R now) t)) ∧ ∃ v2, Hid (RTab w' E rb v2 u (remA (goA R now) t) us) ∧ Hid (KS (fun q => q = rb) w w') := by
  have k1 := xtick_any now h hO hE
  have hO1 : Hid (Ok k (goA R now)) := go_ok hO now
  have hEE : Hid (∀ q, w.heap.size ≤ q → E q) := hE
  have h64 : Hid ((goA R now).L.length ≤ 64) := by have := hO1.out.few; have := hO1.out.m2; show _ ≤ 64; omega
  clear h hO hE
  cases hf : fiA (goA R now).L t with
  | none =>
    have e1 : cloE (goA R now) t = 15 := by unfold cloE; rw [hf]; rfl
    have hpl : Hid (plA (goA R now).L t = -1) := by show _ = _; unfold plA; rw [hf]
    have hrm : Hid (remA (goA R now) t = goA R now) := rem_none hf
    rw [e1, hrm.out]
    clear hf
    go_enter Try.func18, Try.ntmps18
    go_wp2_with (first | (go_at_call 21; refine k1.mono ?_; rintro e w1 ⟨v1, v2, rfl, hW, hT, hK⟩; clear k1 hW) | (go_at_call 28; refine (place_any t hT.out h64.out).mono ?_; rintro e w2 ⟨rfl, hw2⟩; obtain rfl := hw2.symm; rw [hpl.out]))
    go_ret
    exact ⟨rfl, v2, hT, hK⟩
  | some i =>
    have e1 : cloE (goA R now) t = 0 := by unfold cloE; rw [hf]; rfl
    have hpl : Hid (plA (goA R now).L t = (i : Int)) := by show _ = _; unfold plA; rw [hf]
    obtain ⟨s, hs, -, -⟩ := fiA_some hf
    have hs' : Hid ((goA R now).L[i]? = some s) := hs
    have hrm : Hid ({ goA R now with L := (goA R now).L.take i ++ (goA R now).L.drop (i + 1) } = remA (goA R now) t) := rem_some hO1.out hf
    have p1 : decide ((i : Int) < 0) = false := by simp
    rw [e1]
    clear hf hs
    go_enter Try.func18, Try.ntmps18
    go_wp2_with (first | (go_at_call 21; refine k1.mono ?_; rintro e w1 ⟨v1, v2, rfl, hW, hT, hK⟩; clear k1 hW) | (go_at_call 28; refine (place_any t hT.out h64.out).mono ?_; rintro e w2 ⟨rfl, hw2⟩; obtain rfl := hw2.symm; rw [hpl.out]) | (go_at_call 34; refine (xgoes_any hT.out h64.out hs'.out (fun q hq => hEE.out q (Nat.le_trans hK.out.size hq))).mono ?_; rintro e w3 ⟨rfl, v3, hT3, hK3⟩; rw [hrm.out] at hT3))
    go_ret
    exact ⟨rfl, v3, hT3, hK.out.trans hK3.out⟩
set_option maxHeartbeats 1000000 in
theorem xhear_none {w : World} {E : Nat → Prop} {rb k : Nat} {v u : Value} {R : Tb} {us : List Int} (m : Mg) (now : Int) (h : RTab w E rb v u R us) (hO : Ok k R) (hE : ∀ q, w.heap.size ≤ q → E q) (hf : fiA (goA R now).L m.t = none) :
    Calls Try.prog 16 #[.pointer (some ⟨rb, 0, none⟩), m.val, .int .i64 now] w fun e w' => e = .returned (.int .i64 15) ∧ ∃ v2, Hid (RTab w' E rb v2 u (goA R now) us) ∧ Hid (KS E w w') := by
  have her : Hid (E rb) := h.er
  have H1 : RTab (w.alloc (.cells #[.int .i64 m.k, .int .u64 m.t, .int .i64 m.e, .int .i64 m.s, .int .i64 m.a, .int .u64 m.b, .int .i64 m.c, .int .i64 m.f, .slice m.la m.ln m.lc] 37)) E rb v u R us := h.kept ((Below.refl _ _).alloc (Nat.le_refl _) _)
  have k1 := xtick_any now H1 hO (fun q hq => hE q (by simp at hq; omega))
  have hbm : Hid (Blk (w.alloc (.cells #[.int .i64 m.k, .int .u64 m.t, .int .i64 m.e, .int .i64 m.s, .int .i64 m.a, .int .u64 m.b, .int .i64 m.c, .int .i64 m.f, .slice m.la m.ln m.lc] 37)) w.heap.size #[.int .i64 m.k, .int .u64 m.t, .int .i64 m.e, .int .i64 m.s, .int .i64 m.a, .int .u64 m.b, .int .i64 m.c, .int .i64 m.f, .slice m.la m.ln m.lc] 37) := blk_new w _ _
  have hlt : Hid (rb < w.heap.size) := h.blk.lt
  have hKa : Hid (KS (fun q => q = rb) w (w.alloc (.cells #[.int .i64 m.k, .int .u64 m.t, .int .i64 m.e, .int .i64 m.s, .int .i64 m.a, .int .u64 m.b, .int .i64 m.c, .int .i64 m.f, .slice m.la m.ln m.lc] 37))) := KS.of_below ((Below.refl _ _).alloc (Nat.le_refl _) _)
  have hO1 : Hid (Ok k (goA R now)) := go_ok hO now
  have hEE : Hid (∀ q, w.heap.size ≤ q → E q) := hE
  have h64 : Hid ((goA R now).L.length ≤ 64) := by have := hO1.out.few; have := hO1.out.m2; show _ ≤ 64; omega
  have hpl : Hid (plA (goA R now).L m.t = -1) := by show _ = _; unfold plA; rw [hf]
  unfold Mg.val
  clear h hO hE H1 hf
  go_enter Try.func16, Try.ntmps16
  go_wp2_with (first | (go_at_call 21; refine k1.mono ?_; rintro e w1 ⟨v1, v2, rfl, hW, hT, hK⟩; clear hW k1; have hm1 : Hid (Blk w1 w.heap.size _ 37) := hbm.out.ks hK.out (by have := hlt.out; omega); have hK1 : Hid (KS E w w1) := (hKa.out.trans hK.out).mono (fun q _ e => by rw [e]; exact her.out); have a0 := hm1.out.cell 0; have a1 := hm1.out.cell 1; have a2 := hm1.out.cell 2; clear hbm hKa hK) | (go_at_call 28; refine (place_any m.t hT.out h64.out).mono ?_; rintro e w2 ⟨rfl, hw2⟩; obtain rfl := hw2.symm; rw [hpl.out]))
  go_ret
  exact ⟨rfl, v2, hT, hK1⟩
set_option maxHeartbeats 1000000 in
theorem xhear_old {w : World} {E : Nat → Prop} {rb k : Nat} {v u : Value} {R : Tb} {us : List Int} (m : Mg) (now : Int) (h : RTab w E rb v u R us) (hO : Ok k R) (hE : ∀ q, w.heap.size ≤ q → E q) {i : Nat} {s : Se} (hf : fiA (goA R now).L m.t = some i) (hs : (goA R now).L[i]? = some s) (he : m.e < s.e) :
    Calls Try.prog 16 #[.pointer (some ⟨rb, 0, none⟩), m.val, .int .i64 now] w fun e w' => e = .returned (.int .i64 17) ∧ ∃ v2, Hid (RTab w' E rb v2 u (goA R now) us) ∧ Hid (KS E w w') := by
  have her : Hid (E rb) := h.er
  have H1 : RTab (w.alloc (.cells #[.int .i64 m.k, .int .u64 m.t, .int .i64 m.e, .int .i64 m.s, .int .i64 m.a, .int .u64 m.b, .int .i64 m.c, .int .i64 m.f, .slice m.la m.ln m.lc] 37)) E rb v u R us := h.kept ((Below.refl _ _).alloc (Nat.le_refl _) _)
  have k1 := xtick_any now H1 hO (fun q hq => hE q (by simp at hq; omega))
  have hbm : Hid (Blk (w.alloc (.cells #[.int .i64 m.k, .int .u64 m.t, .int .i64 m.e, .int .i64 m.s, .int .i64 m.a, .int .u64 m.b, .int .i64 m.c, .int .i64 m.f, .slice m.la m.ln m.lc] 37)) w.heap.size #[.int .i64 m.k, .int .u64 m.t, .int .i64 m.e, .int .i64 m.s, .int .i64 m.a, .int .u64 m.b, .int .i64 m.c, .int .i64 m.f, .slice m.la m.ln m.lc] 37) := blk_new w _ _
  have hlt : Hid (rb < w.heap.size) := h.blk.lt
  have hKa : Hid (KS (fun q => q = rb) w (w.alloc (.cells #[.int .i64 m.k, .int .u64 m.t, .int .i64 m.e, .int .i64 m.s, .int .i64 m.a, .int .u64 m.b, .int .i64 m.c, .int .i64 m.f, .slice m.la m.ln m.lc] 37))) := KS.of_below ((Below.refl _ _).alloc (Nat.le_refl _) _)
  have hO1 : Hid (Ok k (goA R now)) := go_ok hO now
  have hEE : Hid (∀ q, w.heap.size ≤ q → E q) := hE
  have h64 : Hid ((goA R now).L.length ≤ 64) := by have := hO1.out.few; have := hO1.out.m2; show _ ≤ 64; omega
  have hf' : Hid (fiA (goA R now).L m.t = some i) := hf
  have hs' : Hid ((goA R now).L[i]? = some s) := hs
  have hil : i < (goA R now).L.length := (List.getElem?_eq_some_iff.1 hs).1
  have hpl : Hid (plA (goA R now).L m.t = (i : Int)) := by show _ = _; unfold plA; rw [hf]
  have p1 : decide ((i : Int) < 0) = false := by simp
  have p2 : (0 : Int) ≤ (i : Int) := by omega
  have p3 : (i : Int) < (((goA R now).L.length : Nat) : Int) := by omega
  have q1 : decide (m.e < s.e) = true := by simpa using he
  unfold Mg.val
  clear h hO hE H1 hf hs he
  go_enter Try.func16, Try.ntmps16
  go_wp2_with (first | (go_at_call 21; refine k1.mono ?_; rintro e w1 ⟨v1, v2, rfl, hW, hT, hK⟩; clear hW k1; have hm1 : Hid (Blk w1 w.heap.size _ 37) := hbm.out.ks hK.out (by have := hlt.out; omega); have hK1 : Hid (KS E w w1) := (hKa.out.trans hK.out).mono (fun q _ e => by rw [e]; exact her.out); have a0 := hm1.out.cell 0; have a1 := hm1.out.cell 1; have a2 := hm1.out.cell 2; clear hbm hKa hK) | (go_at_call 28; refine (place_any m.t hT.out h64.out).mono ?_; rintro e w2 ⟨rfl, hw2⟩; obtain rfl := hw2.symm; rw [hpl.out]; obtain ⟨g, c, rfl, hg, hEg, hgr, hfz, hcl⟩ := hT.out.cells hs'.out; obtain ⟨_, _, e9, h9, h10, _⟩ := hT.out.form; cases e9; have u1 : w1.cell? ⟨g, i * 4 + 1, none⟩ = some (.int .i64 s.e) := hcl 1 (by decide); have u3 : w1.cell? ⟨g, i * 4 + 3, none⟩ = some (.int .i64 s.h) := hcl 3 (by decide); have t3 := hfz (i * 4 + 3); have c2 := hT.out.c2; have c3 := hT.out.c3; have n1 : g ≠ w.heap.size := (fun e => by have h5 := hm1.out; unfold Blk at h5; rcases hT.out.row.2 with ⟨h, _⟩ | ⟨q, _, _, h, _, h4, _⟩; cases h; simp at h; obtain ⟨rfl, _⟩ := h; rw [e, h5] at h4; injection h4 with h4; injection h4 with _ h4; exact absurd h4 (by decide)); clear hfz hcl))
  go_region
  go_wp2
  go_ret
  exact ⟨rfl, _, hT.out.kept (Below.refl _ _).drew, hK1.out.trans (KS.of_below (Below.refl _ _).drew)⟩
set_option maxHeartbeats 1000000 in
theorem xhear_state {w : World} {E : Nat → Prop} {rb k : Nat} {v u : Value} {R : Tb} {us : List Int} (m : Mg) (now : Int) (h : RTab w E rb v u R us) (hO : Ok k R) (hE : ∀ q, w.heap.size ≤ q → E q) {i : Nat} {s : Se} (hf : fiA (goA R now).L m.t = some i) (hs : (goA R now).L[i]? = some s) (he : s.e < m.e) :
    Calls Try.prog 16 #[.pointer (some ⟨rb, 0, none⟩), m.val, .int .i64 now] w fun e w' => e = .returned (.int .i64 18) ∧ ∃ v2, Hid (RTab w' E rb v2 u (goA R now) us) ∧ Hid (KS E w w') := by
  have her : Hid (E rb) := h.er
  have H1 : RTab (w.alloc (.cells #[.int .i64 m.k, .int .u64 m.t, .int .i64 m.e, .int .i64 m.s, .int .i64 m.a, .int .u64 m.b, .int .i64 m.c, .int .i64 m.f, .slice m.la m.ln m.lc] 37)) E rb v u R us := h.kept ((Below.refl _ _).alloc (Nat.le_refl _) _)
  have k1 := xtick_any now H1 hO (fun q hq => hE q (by simp at hq; omega))
  have hbm : Hid (Blk (w.alloc (.cells #[.int .i64 m.k, .int .u64 m.t, .int .i64 m.e, .int .i64 m.s, .int .i64 m.a, .int .u64 m.b, .int .i64 m.c, .int .i64 m.f, .slice m.la m.ln m.lc] 37)) w.heap.size #[.int .i64 m.k, .int .u64 m.t, .int .i64 m.e, .int .i64 m.s, .int .i64 m.a, .int .u64 m.b, .int .i64 m.c, .int .i64 m.f, .slice m.la m.ln m.lc] 37) := blk_new w _ _
  have hlt : Hid (rb < w.heap.size) := h.blk.lt
  have hKa : Hid (KS (fun q => q = rb) w (w.alloc (.cells #[.int .i64 m.k, .int .u64 m.t, .int .i64 m.e, .int .i64 m.s, .int .i64 m.a, .int .u64 m.b, .int .i64 m.c, .int .i64 m.f, .slice m.la m.ln m.lc] 37))) := KS.of_below ((Below.refl _ _).alloc (Nat.le_refl _) _)
  have hO1 : Hid (Ok k (goA R now)) := go_ok hO now
  have hEE : Hid (∀ q, w.heap.size ≤ q → E q) := hE
  have h64 : Hid ((goA R now).L.length ≤ 64) := by have := hO1.out.few; have := hO1.out.m2; show _ ≤ 64; omega
  have hf' : Hid (fiA (goA R now).L m.t = some i) := hf
  have hs' : Hid ((goA R now).L[i]? = some s) := hs
  have hil : i < (goA R now).L.length := (List.getElem?_eq_some_iff.1 hs).1
  have hpl : Hid (plA (goA R now).L m.t = (i : Int)) := by show _ = _; unfold plA; rw [hf]
  have p1 : decide ((i : Int) < 0) = false := by simp
  have p2 : (0 : Int) ≤ (i : Int) := by omega
  have p3 : (i : Int) < (((goA R now).L.length : Nat) : Int) := by omega
  have q1 : decide (m.e < s.e) = false := by simp; omega
  have q2 : decide (m.e > s.e) = true := by simpa using he
  unfold Mg.val
  clear h hO hE H1 hf hs he
  go_enter Try.func16, Try.ntmps16
  go_wp2_with (first | (go_at_call 21; refine k1.mono ?_; rintro e w1 ⟨v1, v2, rfl, hW, hT, hK⟩; clear hW k1; have hm1 : Hid (Blk w1 w.heap.size _ 37) := hbm.out.ks hK.out (by have := hlt.out; omega); have hK1 : Hid (KS E w w1) := (hKa.out.trans hK.out).mono (fun q _ e => by rw [e]; exact her.out); have a0 := hm1.out.cell 0; have a1 := hm1.out.cell 1; have a2 := hm1.out.cell 2; clear hbm hKa hK) | (go_at_call 28; refine (place_any m.t hT.out h64.out).mono ?_; rintro e w2 ⟨rfl, hw2⟩; obtain rfl := hw2.symm; rw [hpl.out]; obtain ⟨g, c, rfl, hg, hEg, hgr, hfz, hcl⟩ := hT.out.cells hs'.out; obtain ⟨_, _, e9, h9, h10, _⟩ := hT.out.form; cases e9; have u1 : w1.cell? ⟨g, i * 4 + 1, none⟩ = some (.int .i64 s.e) := hcl 1 (by decide); have u3 : w1.cell? ⟨g, i * 4 + 3, none⟩ = some (.int .i64 s.h) := hcl 3 (by decide); have t3 := hfz (i * 4 + 3); have c2 := hT.out.c2; have c3 := hT.out.c3; have n1 : g ≠ w.heap.size := (fun e => by have h5 := hm1.out; unfold Blk at h5; rcases hT.out.row.2 with ⟨h, _⟩ | ⟨q, _, _, h, _, h4, _⟩; cases h; simp at h; obtain ⟨rfl, _⟩ := h; rw [e, h5] at h4; injection h4 with h4; injection h4 with _ h4; exact absurd h4 (by decide)); clear hfz hcl))
  go_region
  go_wp2
  go_region
  go_wp2
  go_ret
  exact ⟨rfl, _, hT.out.kept (Below.refl _ _).drew.drew, hK1.out.trans (KS.of_below (Below.refl _ _).drew.drew)⟩
set_option maxHeartbeats 2000000 in
theorem xhear_same {w : World} {E : Nat → Prop} {rb k : Nat} {v u : Value} {R : Tb} {us : List Int} (m : Mg) (now : Int) (h : RTab w E rb v u R us) (hO : Ok k R) (hE : ∀ q, w.heap.size ≤ q → E q) {i : Nat} {s : Se} (hf : fiA (goA R now).L m.t = some i) (hs : (goA R now).L[i]? = some s) (he : m.e = s.e) :
    Calls Try.prog 16 #[.pointer (some ⟨rb, 0, none⟩), m.val, .int .i64 now] w fun e w' => e = .returned (.int .i64 0) ∧ ∃ v2, Hid (RTab w' E rb v2 u (if m.k = 7 then remA (goA R now) m.t else { goA R now with L := (goA R now).L.set i (hrdS (goA R now) s) }) us) ∧ Hid (KS E w w') := by
  have her : Hid (E rb) := h.er
  have H1 : RTab (w.alloc (.cells #[.int .i64 m.k, .int .u64 m.t, .int .i64 m.e, .int .i64 m.s, .int .i64 m.a, .int .u64 m.b, .int .i64 m.c, .int .i64 m.f, .slice m.la m.ln m.lc] 37)) E rb v u R us := h.kept ((Below.refl _ _).alloc (Nat.le_refl _) _)
  have k1 := xtick_any now H1 hO (fun q hq => hE q (by simp at hq; omega))
  have hbm : Hid (Blk (w.alloc (.cells #[.int .i64 m.k, .int .u64 m.t, .int .i64 m.e, .int .i64 m.s, .int .i64 m.a, .int .u64 m.b, .int .i64 m.c, .int .i64 m.f, .slice m.la m.ln m.lc] 37)) w.heap.size #[.int .i64 m.k, .int .u64 m.t, .int .i64 m.e, .int .i64 m.s, .int .i64 m.a, .int .u64 m.b, .int .i64 m.c, .int .i64 m.f, .slice m.la m.ln m.lc] 37) := blk_new w _ _
  have hlt : Hid (rb < w.heap.size) := h.blk.lt
  have hKa : Hid (KS (fun q => q = rb) w (w.alloc (.cells #[.int .i64 m.k, .int .u64 m.t, .int .i64 m.e, .int .i64 m.s, .int .i64 m.a, .int .u64 m.b, .int .i64 m.c, .int .i64 m.f, .slice m.la m.ln m.lc] 37))) := KS.of_below ((Below.refl _ _).alloc (Nat.le_refl _) _)
  have hO1 : Hid (Ok k (goA R now)) := go_ok hO now
  have hEE : Hid (∀ q, w.heap.size ≤ q → E q) := hE
  have h64 : Hid ((goA R now).L.length ≤ 64) := by have := hO1.out.few; have := hO1.out.m2; show _ ≤ 64; omega
  have hf' : Hid (fiA (goA R now).L m.t = some i) := hf
  have hs' : Hid ((goA R now).L[i]? = some s) := hs
  have hil : i < (goA R now).L.length := (List.getElem?_eq_some_iff.1 hs).1
  have hpl : Hid (plA (goA R now).L m.t = (i : Int)) := by show _ = _; unfold plA; rw [hf]
  have p1 : decide ((i : Int) < 0) = false := by simp
  have p2 : (0 : Int) ≤ (i : Int) := by omega
  have p3 : (i : Int) < (((goA R now).L.length : Nat) : Int) := by omega
  have q1 : decide (m.e < s.e) = false := by simp; omega
  have q2 : decide (m.e > s.e) = false := by simp; omega
  unfold Mg.val
  by_cases hk7 : m.k = 7
  · have q3 : (m.k == 7) = true := by simpa using hk7
    rw [if_pos hk7]
    clear h hO hE H1 hf hs he hk7
    go_enter Try.func16, Try.ntmps16
    go_wp2_with (first | (go_at_call 21; refine k1.mono ?_; rintro e w1 ⟨v1, v2, rfl, hW, hT, hK⟩; clear hW k1; have hm1 : Hid (Blk w1 w.heap.size _ 37) := hbm.out.ks hK.out (by have := hlt.out; omega); have hK1 : Hid (KS E w w1) := (hKa.out.trans hK.out).mono (fun q _ e => by rw [e]; exact her.out); have a0 := hm1.out.cell 0; have a1 := hm1.out.cell 1; have a2 := hm1.out.cell 2; clear hbm hKa hK) | (go_at_call 28; refine (place_any m.t hT.out h64.out).mono ?_; rintro e w2 ⟨rfl, hw2⟩; obtain rfl := hw2.symm; rw [hpl.out]; obtain ⟨g, c, rfl, hg, hEg, hgr, hfz, hcl⟩ := hT.out.cells hs'.out; obtain ⟨_, _, e9, h9, h10, _⟩ := hT.out.form; cases e9; have u1 : w1.cell? ⟨g, i * 4 + 1, none⟩ = some (.int .i64 s.e) := hcl 1 (by decide); have u3 : w1.cell? ⟨g, i * 4 + 3, none⟩ = some (.int .i64 s.h) := hcl 3 (by decide); have t3 := hfz (i * 4 + 3); have c2 := hT.out.c2; have c3 := hT.out.c3; have n1 : g ≠ w.heap.size := (fun e => by have h5 := hm1.out; unfold Blk at h5; rcases hT.out.row.2 with ⟨h, _⟩ | ⟨q, _, _, h, _, h4, _⟩; cases h; simp at h; obtain ⟨rfl, _⟩ := h; rw [e, h5] at h4; injection h4 with h4; injection h4 with _ h4; exact absurd h4 (by decide)); clear hfz hcl))
    go_region
    go_wp2
    go_region
    go_wp2
    go_region
    have hTs : Hid (RTab (w1.setCell ⟨g, i * 4 + 3, none⟩ (.int .i64 (goA R now).time)) E rb (.slice (some ⟨g, 0, none⟩) (goA R now).L.length c) u { goA R now with L := (goA R now).L.set i (hrdS (goA R now) s) } us) := hT.out.putc (u := u) (x := .int .i64 (goA R now).time) (s' := hrdS (goA R now) s) rfl hs'.out (j := 3) (by decide) rfl
    have hK3 : Hid (KS E w (w1.setCell ⟨g, i * 4 + 3, none⟩ (.int .i64 (goA R now).time)).drew.drew.drew) := (hK1.out.trans (KS.set _ _ _ hEg _)).trans (KS.of_below (Below.refl _ _).drew.drew.drew)
    have hTd : Hid (RTab (w1.setCell ⟨g, i * 4 + 3, none⟩ (.int .i64 (goA R now).time)).drew.drew.drew E rb (.slice (some ⟨g, 0, none⟩) (goA R now).L.length c) u { goA R now with L := (goA R now).L.set i (hrdS (goA R now) s) } us) := hTs.out.kept (Below.refl _ _).drew.drew.drew
    have hl2 : Hid (((goA R now).L.set i (hrdS (goA R now) s)).length ≤ 64) := by show _ ≤ 64; rw [List.length_set]; exact h64.out
    have hi2 : Hid (((goA R now).L.set i (hrdS (goA R now) s))[i]? = some (hrdS (goA R now) s)) := by show _ = _; rw [List.getElem?_set_self hil]
    have hrm : Hid ({ goA R now with L := ((goA R now).L.set i (hrdS (goA R now) s)).take i ++ ((goA R now).L.set i (hrdS (goA R now) s)).drop (i + 1) } = remA (goA R now) m.t) := by show _ = _; rw [set_erase]; exact rem_some hO1.out hf'.out
    go_wp2_with (go_at_call 34; refine (xgoes_any (i := i) hTd.out hl2.out hi2.out (fun q hq => hEE.out q (Nat.le_trans hK3.out.size hq))).mono ?_; rintro e w3 ⟨rfl, v3, hT3, hK4⟩; rw [hrm.out] at hT3)
    go_ret
    exact ⟨rfl, v3, hT3, hK3.out.trans (hK4.out.mono (fun q _ e => by rw [e]; exact her.out))⟩
  · have q3 : (m.k == 7) = false := by simpa using hk7
    rw [if_neg hk7]
    clear h hO hE H1 hf hs he hk7
    go_enter Try.func16, Try.ntmps16
    go_wp2_with (first | (go_at_call 21; refine k1.mono ?_; rintro e w1 ⟨v1, v2, rfl, hW, hT, hK⟩; clear hW k1; have hm1 : Hid (Blk w1 w.heap.size _ 37) := hbm.out.ks hK.out (by have := hlt.out; omega); have hK1 : Hid (KS E w w1) := (hKa.out.trans hK.out).mono (fun q _ e => by rw [e]; exact her.out); have a0 := hm1.out.cell 0; have a1 := hm1.out.cell 1; have a2 := hm1.out.cell 2; clear hbm hKa hK) | (go_at_call 28; refine (place_any m.t hT.out h64.out).mono ?_; rintro e w2 ⟨rfl, hw2⟩; obtain rfl := hw2.symm; rw [hpl.out]; obtain ⟨g, c, rfl, hg, hEg, hgr, hfz, hcl⟩ := hT.out.cells hs'.out; obtain ⟨_, _, e9, h9, h10, _⟩ := hT.out.form; cases e9; have u1 : w1.cell? ⟨g, i * 4 + 1, none⟩ = some (.int .i64 s.e) := hcl 1 (by decide); have u3 : w1.cell? ⟨g, i * 4 + 3, none⟩ = some (.int .i64 s.h) := hcl 3 (by decide); have t3 := hfz (i * 4 + 3); have c2 := hT.out.c2; have c3 := hT.out.c3; have n1 : g ≠ w.heap.size := (fun e => by have h5 := hm1.out; unfold Blk at h5; rcases hT.out.row.2 with ⟨h, _⟩ | ⟨q, _, _, h, _, h4, _⟩; cases h; simp at h; obtain ⟨rfl, _⟩ := h; rw [e, h5] at h4; injection h4 with h4; injection h4 with _ h4; exact absurd h4 (by decide)); clear hfz hcl))
    go_region
    go_wp2
    go_region
    go_wp2
    go_region
    go_wp2
    go_ret
    refine ⟨rfl, _, (hT.out.putc (u := u) (x := .int .i64 (goA R now).time) (s' := hrdS (goA R now) s) rfl hs'.out (j := 3) (by decide) rfl).kept (Below.refl _ _).drew.drew.drew, (hK1.out.trans (KS.set _ _ _ hEg _)).trans (KS.of_below (Below.refl _ _).drew.drew.drew)⟩
theorem xhear_any {w : World} {E : Nat → Prop} {rb k : Nat} {v u : Value} {R : Tb} {us : List Int} (m : Mg) (now : Int) (h : RTab w E rb v u R us) (hO : Ok k R) (hE : ∀ q, w.heap.size ≤ q → E q) :
    Calls Try.prog 16 #[.pointer (some ⟨rb, 0, none⟩), m.val, .int .i64 now] w fun e w' => e = .returned (.int .i64 (heaE (goA R now) m)) ∧ ∃ v2, Hid (RTab w' E rb v2 u (heaA (goA R now) m) us) ∧ Hid (KS E w w') := by
  cases hf : fiA (goA R now).L m.t with
  | none =>
    unfold heaE heaA
    rw [hf]
    exact xhear_none m now h hO hE hf
  | some i =>
    obtain ⟨s, hs, -, -⟩ := fiA_some hf
    unfold heaE heaA
    rw [hf]
    simp only [List.getD_eq_getElem?_getD, hs, Option.getD_some]
    by_cases h1 : m.e < s.e
    · rw [if_pos h1, if_pos h1]
      exact xhear_old m now h hO hE hf hs h1
    · rw [if_neg h1, if_neg h1]
      by_cases h2 : s.e < m.e
      · rw [if_pos h2, if_pos h2]
        exact xhear_state m now h hO hE hf hs h2
      · rw [if_neg h2, if_neg h2]
        exact xhear_same m now h hO hE hf hs (by omega)
end Go.Proofs.Ytmohfblkfdkloaa
