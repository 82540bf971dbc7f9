/-
  Datagrams unpacked, as the document's own answer has it.
-/
import Derived.Test.YtfipdldoklkciaaLpc
namespace Go.Proofs.Ytfipdldoklkciaa
open Go.RowKit
set_option linter.unusedVariables false
def UpX (w' : World) (zs : List Int) (e : Ending) : Prop := ∃ a n c, e = .returned (.tuple #[mval (outM zs) a n c, .int .i64 (upE zs)]) ∧ Bytes w' a (outM zs).zs ∧ (outM zs).zs.length = n
theorem upx_zero {w' : World} {zs : List Int} {E : Int} (h1 : upE zs = E) (h2 : outM zs = m0) : UpX w' zs (.returned (.tuple #[.agg #[.int .i64 0, .int .u64 0, .int .i64 0, .int .i64 0, .int .i64 0, .int .u64 0, .int .i64 0, .int .i64 0, .slice none 0 0], .int .i64 E])) := by
  refine ⟨none, 0, 0, by rw [h1, h2]; rfl, ?_, ?_⟩
  · rw [h2]; exact ⟨by simp [m0], by simp [m0], .inl rfl⟩
  · rw [h2]; rfl
theorem Blk.butr {w w' : World} {g r : Nat} {cs : Array Value} {T : TypeId} (h : Blk w g cs T) (hg : Hid (w.grownBy w' (some r))) (hr : g ≠ r) : Blk w' g cs T := h.but hg.out hr
set_option maxRecDepth 100000 in
set_option maxHeartbeats 2000000 in
theorem xunpack_sum (a : Option Addr) (n cap : Nat) (zs : List Int) (w : World) (hl : zs.length = n) (hb : Bytes w a zs) (hc : n ≤ cap) (hcm : cap ≤ 9223372036854775807) (hw : wfB zs = false) :
    Calls Try.prog 14 #[.slice a n cap] w fun e w' => Hid (UpX w' zs e) ∧ Hid (Below w.heap.size w w') := by
  have k0 := fun x (hx : Below w.heap.size w x) => xat_any a n cap zs x hl (hb.kept hx) hc hcm
  have hE : Hid (∀ w', UpX w' zs (.returned (.tuple #[.agg #[.int .i64 0, .int .u64 0, .int .i64 0, .int .i64 0, .int .i64 0, .int .u64 0, .int .i64 0, .int .i64 0, .slice none 0 0], .int .i64 4]))) := fun w' => by
    have : upE zs = 4 := by unfold upE; rw [if_pos hw]
    exact upx_zero this (by unfold outM; rw [if_neg (by rw [this]; decide)])
  have hno : Hid (Whole zs → nAt zs + 8 ≠ n ∧ n ≠ 0 ∧ nAt zs ≤ 1200) := fun h => by
    refine ⟨fun e => ?_, ?_, h.1.2⟩
    · have : wfB zs = true := wfB_iff.2 ⟨h, by omega⟩
      rw [hw] at this
      cases this
    · have := h.2.1; omega
  clear hl hb hc hcm hw
  go_enter Try.func14, Try.ntmps14
  go_wp2_with fail
  refine (k0 _ ((Below.refl w.heap.size w).alloc (Nat.le_refl _) _)).mono ?_
  rintro e w1 ⟨hX, hb1⟩
  have hbk : Hid (Blk w1 w.heap.size #[.int .i64 0, .int .u64 0, .int .i64 0, .int .i64 0, .int .i64 0, .int .u64 0, .int .i64 0, .int .i64 0, .slice none 0 0] 25) := (blk_new w _ _).kept hb1.out
  have hB1 : Hid (Below w.heap.size w w1) := ((Below.refl w.heap.size w).alloc (Nat.le_refl _) _).trans (hb1.out.mono (by simp))
  have c0 := hbk.out.cell 0
  have c1 := hbk.out.cell 1
  have c2 := hbk.out.cell 2
  have c3 := hbk.out.cell 3
  have c4 := hbk.out.cell 4
  have c5 := hbk.out.cell 5
  have c6 := hbk.out.cell 6
  have c7 := hbk.out.cell 7
  have c8 := hbk.out.cell 8
  have f := hbk.out.fz
  generalize hrr : w.heap.size = r at *
  have hr : Hid (w.heap.size = r) := hrr
  clear hrr k0 hb1
  by_cases hW : Whole zs
  · obtain ⟨a1, c1', rfl, _, _⟩ := hX.out.1 hW
    obtain ⟨n1, n2, n3⟩ := hno.out hW
    have d0 : ((n : Int) == 0) = false := by simp; omega
    have e8 : IntKind.i64.wrap (((nAt zs : Nat) : Int) + 8) = ((nAt zs : Nat) : Int) + 8 := by rw [IntKind.wrap_i64]; omega
    have d1 : ((((nAt zs : Nat) : Int) + 8) != (n : Int)) = true := by simp; omega
    clear hX hno hW n1 n2 n3
    generalize nAt zs = N at *
    go_wp2
    refine bodyPost_ret (v := .tuple #[.agg #[.int .i64 0, .int .u64 0, .int .i64 0, .int .i64 0, .int .i64 0, .int .u64 0, .int .i64 0, .int .i64 0, .slice none 0 0], .int .i64 4]) (by simp [results, Try.results14, go_sem, *]) rfl ⟨hE.out _, ?_⟩
    show Below w.heap.size w _
    rw [hr.out]
    repeat (refine Below.setCell ?_ (by exact Nat.le_refl _) _)
    exact hB1.out
  · obtain ⟨u, rfl⟩ := hX.out.2 hW
    clear hX hno hW
    by_cases h0 : n = 0
    · have d0 : ((n : Int) == 0) = true := by simp [h0]
      clear h0
      go_wp2
      refine bodyPost_ret (v := .tuple #[.agg #[.int .i64 0, .int .u64 0, .int .i64 0, .int .i64 0, .int .i64 0, .int .u64 0, .int .i64 0, .int .i64 0, .slice none 0 0], .int .i64 4]) (by simp [results, Try.results14, go_sem, *]) rfl ⟨hE.out _, ?_⟩
      show Below w.heap.size w _
      rw [hr.out]
      repeat (refine Below.setCell ?_ (by exact Nat.le_refl _) _)
      exact hB1.out
    · have d0 : ((n : Int) == 0) = false := by simpa using h0
      clear h0
      go_wp2
      refine bodyPost_ret (v := .tuple #[.agg #[.int .i64 0, .int .u64 0, .int .i64 0, .int .i64 0, .int .i64 0, .int .u64 0, .int .i64 0, .int .i64 0, .slice none 0 0], .int .i64 4]) (by simp [results, Try.results14, go_sem, *]) rfl ⟨hE.out _, ?_⟩
      show Below w.heap.size w _
      rw [hr.out]
      repeat (refine Below.setCell ?_ (by exact Nat.le_refl _) _)
      exact hB1.out
/-- What holds while the numbers are read. -/
structure Rd8 (w wx : World) (r rc gm : Nat) (a : Option Addr) (N c : Nat) (l : List Int) (p y f : Nat) (cs : Array Value) : Prop where
  cur : RCur wx rc a N c l p y f
  msg : Blk wx gm cs 25
  res : Blk wx r #[.int .i64 0, .int .u64 0, .int .i64 0, .int .i64 0, .int .i64 0, .int .u64 0, .int .i64 0, .int .i64 0, .slice none 0 0] 25
  bel : Below r w wx
  o1 : r < rc
  o2 : rc < gm
  far : ∀ x, a = some x → l ≠ [] → x.block < rc
  spot : ∀ x, a = some x → x.spot = none
theorem Rd8.call {w wx w' : World} {r rc gm : Nat} {a : Option Addr} {N c : Nat} {l : List Int} {p y f p' y' f' : Nat} {cs : Array Value} (h : Rd8 w wx r rc gm a N c l p y f cs) (hc : RCur w' rc a N c l p' y' f') (hg : wx.grownBy w' (some rc)) : Rd8 w w' r rc gm a N c l p' y' f' cs := by
  have h1 := h.o1; have h2 := h.o2
  exact ⟨hc, h.msg.but hg (by omega), h.res.but hg (by omega), h.bel.grown hg (by have := h.cur.1.lt; omega) (fun k hk => by cases hk; omega), h1, h2, h.far, h.spot⟩
theorem Rd8.put {w wx : World} {r rc gm : Nat} {a : Option Addr} {N c : Nat} {l : List Int} {p y f : Nat} {cs : Array Value} (h : Rd8 w wx r rc gm a N c l p y f cs) (j : Nat) (v : Value) : Rd8 w (wx.setCell ⟨gm, j, none⟩ v) r rc gm a N c l p y f (cs.setIfInBounds j v) := by
  have h1 := h.o1; have h2 := h.o2
  exact ⟨h.cur.other (but_setCell (World.grownBy.refl _ _) j v) (by omega) (fun x hx hne => by have := h.far x hx hne; omega), h.msg.set j v, h.res.set_ne (by omega) j v, h.bel.setCell (by show r ≤ gm; omega) v, h1, h2, h.far, h.spot⟩
theorem us_nil : (uS [] 8).2.1 ≠ 0 := by decide
set_option maxRecDepth 100000 in
set_option maxHeartbeats 8000000 in
theorem xunpack_wf (a : Option Addr) (n cap : Nat) (zs : List Int) (w : World) (hl : zs.length = n) (hb : Bytes w a zs) (hc : n ≤ cap) (hcm : cap ≤ 9223372036854775807) (hw : wfB zs = true) :
    Calls Try.prog 14 #[.slice a n cap] w fun e w' => Hid (UpX w' zs e) ∧ Hid (Below w.heap.size w w') := by
  have k0 := fun x (hx : Below w.heap.size w x) => xat_any a n cap zs x hl (hb.kept hx) hc hcm
  obtain ⟨hW, hN8⟩ := wfB_iff.1 hw
  have hwf : Hid (wfB zs = true) := hw
  have hlb : Hid (∀ c ∈ loadAt zs, 0 ≤ c ∧ c < 256) := fun c hc => hb.1 c (List.mem_of_mem_drop (List.mem_of_mem_take hc))
  have hll : Hid ((loadAt zs).length = nAt zs) := load_len hW.2.1
  have hn12 : Hid (nAt zs ≤ 1200) := hW.1.2
  have hW' : Hid (Whole zs) := hW
  have d0 : ((n : Int) == 0) = false := by simp; omega
  have e8 : IntKind.i64.wrap (((nAt zs : Nat) : Int) + 8) = ((nAt zs : Nat) : Int) + 8 := by have := hn12.out; rw [IntKind.wrap_i64]; omega
  have d1 : ((((nAt zs : Nat) : Int) + 8) != (n : Int)) = false := by simp; omega
  clear hl hb hc hcm hw hW hN8
  obtain ⟨l, hl⟩ : ∃ l, loadAt zs = l := ⟨_, rfl⟩
  have hL : Hid (loadAt zs = l) := hl
  rw [hl] at hlb hll
  clear hl
  generalize hNN : nAt zs = N at *
  have hNN' : Hid (nAt zs = N) := hNN
  clear hNN
  go_enter Try.func14, Try.ntmps14
  go_wp2_with fail
  refine (k0 _ ((Below.refl w.heap.size w).alloc (Nat.le_refl _) _)).mono ?_
  rintro e w1 ⟨hX, hb1⟩
  obtain ⟨a1, c1, he, hLd, hsp⟩ := hX.out.1 hW'.out
  rw [hNN'.out, hL.out] at hLd
  rw [hNN'.out] at he
  subst he
  obtain ⟨a0, cap0, hv, hby, hnil, hlc, hcm1, hsafe⟩ := hLd
  cases hv
  clear hsafe
  have hby' : Hid (Bytes w1 a1 l) := hby
  have hbk : Hid (Blk w1 w.heap.size #[.int .i64 0, .int .u64 0, .int .i64 0, .int .i64 0, .int .i64 0, .int .u64 0, .int .i64 0, .int .i64 0, .slice none 0 0] 25) := (blk_new w _ _).kept hb1.out
  have hB1 : Hid (Below w.heap.size w w1) := ((Below.refl w.heap.size w).alloc (Nat.le_refl _) _).trans (hb1.out.mono (by simp))
  have hS0 : Hid (Rd8 w ((w1.alloc (.cells #[.slice a1 l.length c1, .int .i64 0, .int .i64 0, .int .i64 0] 99)).alloc (.cells #[.int .i64 0, .int .u64 0, .int .i64 0, .int .i64 0, .int .i64 0, .int .u64 0, .int .i64 0, .int .i64 0, .slice none 0 0] 25)) w.heap.size w1.heap.size (w1.heap.size + 1) a1 l.length c1 l 0 0 0 #[.int .i64 0, .int .u64 0, .int .i64 0, .int .i64 0, .int .i64 0, .int .u64 0, .int .i64 0, .int .i64 0, .slice none 0 0]) := by
    have A1 : Below w1.heap.size w1 (w1.alloc (.cells #[.slice a1 l.length c1, .int .i64 0, .int .i64 0, .int .i64 0] 99)) := (Below.refl _ _).alloc (Nat.le_refl _) _
    have A2 : Below (w1.alloc (.cells #[.slice a1 l.length c1, .int .i64 0, .int .i64 0, .int .i64 0] 99)).heap.size (w1.alloc (.cells #[.slice a1 l.length c1, .int .i64 0, .int .i64 0, .int .i64 0] 99)) ((w1.alloc (.cells #[.slice a1 l.length c1, .int .i64 0, .int .i64 0, .int .i64 0] 99)).alloc (.cells #[.int .i64 0, .int .u64 0, .int .i64 0, .int .i64 0, .int .i64 0, .int .u64 0, .int .i64 0, .int .i64 0, .slice none 0 0] 25)) := (Below.refl _ _).alloc (Nat.le_refl _) _
    have n1 := blk_new w1 #[.slice a1 l.length c1, .int .i64 0, .int .i64 0, .int .i64 0] 99
    have n2 := blk_new (w1.alloc (.cells #[.slice a1 l.length c1, .int .i64 0, .int .i64 0, .int .i64 0] 99)) #[.int .i64 0, .int .u64 0, .int .i64 0, .int .i64 0, .int .i64 0, .int .u64 0, .int .i64 0, .int .i64 0, .slice none 0 0] 25
    rw [show (w1.alloc (.cells #[.slice a1 l.length c1, .int .i64 0, .int .i64 0, .int .i64 0] 99)).heap.size = w1.heap.size + 1 by simp] at n2
    have hlt := hbk.out.lt
    have far : ∀ x, a1 = some x → l ≠ [] → x.block < w1.heap.size := fun x hx hne => by
      have := hby'.out
      rw [hx] at this
      exact this.lt hne
    refine ⟨⟨n1.kept A2, (hby'.out.kept A1).kept A2, rfl, Nat.zero_le _, by have := hll.out; have := hn12.out; omega, hlc, by unfold maxLen at hcm1; omega, hnil, fun x hx hne e => by have := far x hx hne; omega, fun x hx _ => hsp x hx⟩, n2, (hbk.out.kept A1).kept A2, (hB1.out.trans (A1.mono hB1.out.size)).trans (A2.mono (Nat.le_trans hB1.out.size A1.size)), hlt, by omega, far, hsp⟩
  have hnone : Hid (a1 = none → l = []) := fun h => by
    rcases hby'.out.2.2 with h1 | ⟨b, off, h1, _⟩
    · exact h1
    · rw [h] at h1; cases h1
  generalize hlN0 : l.length = N at *
  have hlN : Hid (l.length = N) := hlN0
  clear hlN0
  clear hX hb1 hby hby' hbk hB1 k0 hnil hlc hcm1 hsp
  generalize hrr : w.heap.size = r at *
  have hr : Hid (w.heap.size = r) := hrr
  clear hrr
  have hU0 : Hid (uS l 0 = (0, 0, 0)) := rfl
  go_wp2_with fail
  generalize (w1.alloc (.cells #[.slice a1 N c1, .int .i64 0, .int .i64 0, .int .i64 0] 99)).alloc (.cells #[.int .i64 0, .int .u64 0, .int .i64 0, .int .i64 0, .int .i64 0, .int .u64 0, .int .i64 0, .int .i64 0, .slice none 0 0] 25) = W0 at *
  generalize w1.heap.size + 1 = gm at *
  generalize w1.heap.size = rc at *
  -- number 0
  refine (rshort_u rc 0 0 0 N c1 a1 l _ hS0.out.cur).mono ?_
  rintro e u0 ⟨rfl, hC, hG⟩
  obtain ⟨v0, p1, y1, f1, hs⟩ : ∃ v p y f, sS l 0 0 0 = (v, p, y, f) := ⟨_, _, _, _, rfl⟩
  have hC1 := hC.out
  rw [hs] at hC1 ⊢
  have hv0 : Hid (uV l 0 = v0) := by show _ = _; unfold uV; rw [hU0.out]; dsimp only; rw [hs]
  have hU1 : Hid (uS l 1 = (p1, y1, f1)) := by show _ = _; rw [uS, hU0.out]; dsimp only; rw [hs]
  have hT0 : Hid (Rd8 w u0 r rc gm a1 N c1 l p1 y1 f1 #[.int .i64 0, .int .u64 0, .int .i64 0, .int .i64 0, .int .i64 0, .int .u64 0, .int .i64 0, .int .i64 0, .slice none 0 0]) := hS0.out.call hC1 hG.out
  have hS1 : Hid (Rd8 w (u0.setCell ⟨gm, 0, none⟩ (.int .i64 (xnum v0))) r rc gm a1 N c1 l p1 y1 f1 #[.int .i64 (xnum v0), .int .u64 0, .int .i64 0, .int .i64 0, .int .i64 0, .int .u64 0, .int .i64 0, .int .i64 0, .slice none 0 0]) := hT0.out.put 0 _
  have g0 : u0.cell? ⟨gm, 0, none⟩ = some (.int .i64 0) := hT0.out.msg.cell 0
  have z0 := hT0.out.msg.fz 0
  clear hs hC hG hC1 hS0 hU0
  dsimp only
  go_wp2_with fail
  refine (xnum_any v0 _ (by rw [← hv0.out]; exact uV_lt l hlb.out 0)).mono ?_
  rintro e ux ⟨rfl, hux⟩
  obtain rfl := hux.symm
  clear hux
  clear hT0
  go_wp2_with fail
  clear g0 z0
  generalize u0.setCell ⟨gm, 0, none⟩ (.int .i64 (xnum v0)) = W1 at *
  -- number 1
  refine (rshort_u rc p1 y1 f1 N c1 a1 l _ hS1.out.cur).mono ?_
  rintro e u1 ⟨rfl, hC, hG⟩
  obtain ⟨v1, p2, y2, f2, hs⟩ : ∃ v p y f, sS l p1 y1 f1 = (v, p, y, f) := ⟨_, _, _, _, rfl⟩
  have hC1 := hC.out
  rw [hs] at hC1 ⊢
  have hv1 : Hid (uV l 1 = v1) := by show _ = _; unfold uV; rw [hU1.out]; dsimp only; rw [hs]
  have hU2 : Hid (uS l 2 = (p2, y2, f2)) := by show _ = _; rw [uS, hU1.out]; dsimp only; rw [hs]
  have hT1 : Hid (Rd8 w u1 r rc gm a1 N c1 l p2 y2 f2 #[.int .i64 (xnum v0), .int .u64 0, .int .i64 0, .int .i64 0, .int .i64 0, .int .u64 0, .int .i64 0, .int .i64 0, .slice none 0 0]) := hS1.out.call hC1 hG.out
  have hS2 : Hid (Rd8 w (u1.setCell ⟨gm, 1, none⟩ (.int .u64 (v1 : Nat))) r rc gm a1 N c1 l p2 y2 f2 #[.int .i64 (xnum v0), .int .u64 (v1 : Nat), .int .i64 0, .int .i64 0, .int .i64 0, .int .u64 0, .int .i64 0, .int .i64 0, .slice none 0 0]) := hT1.out.put 1 _
  have g1 : u1.cell? ⟨gm, 1, none⟩ = some (.int .u64 0) := hT1.out.msg.cell 1
  have z1 := hT1.out.msg.fz 1
  clear hs hC hG hC1 hS1 hU1
  dsimp only
  clear hT1
  go_wp2_with fail
  clear g1 z1
  generalize u1.setCell ⟨gm, 1, none⟩ (.int .u64 (v1 : Nat)) = W2 at *
  -- number 2
  refine (rshort_u rc p2 y2 f2 N c1 a1 l _ hS2.out.cur).mono ?_
  rintro e u2 ⟨rfl, hC, hG⟩
  obtain ⟨v2, p3, y3, f3, hs⟩ : ∃ v p y f, sS l p2 y2 f2 = (v, p, y, f) := ⟨_, _, _, _, rfl⟩
  have hC1 := hC.out
  rw [hs] at hC1 ⊢
  have hv2 : Hid (uV l 2 = v2) := by show _ = _; unfold uV; rw [hU2.out]; dsimp only; rw [hs]
  have hU3 : Hid (uS l 3 = (p3, y3, f3)) := by show _ = _; rw [uS, hU2.out]; dsimp only; rw [hs]
  have hT2 : Hid (Rd8 w u2 r rc gm a1 N c1 l p3 y3 f3 #[.int .i64 (xnum v0), .int .u64 (v1 : Nat), .int .i64 0, .int .i64 0, .int .i64 0, .int .u64 0, .int .i64 0, .int .i64 0, .slice none 0 0]) := hS2.out.call hC1 hG.out
  have hS3 : Hid (Rd8 w (u2.setCell ⟨gm, 2, none⟩ (.int .i64 (xnum v2))) r rc gm a1 N c1 l p3 y3 f3 #[.int .i64 (xnum v0), .int .u64 (v1 : Nat), .int .i64 (xnum v2), .int .i64 0, .int .i64 0, .int .u64 0, .int .i64 0, .int .i64 0, .slice none 0 0]) := hT2.out.put 2 _
  have g2 : u2.cell? ⟨gm, 2, none⟩ = some (.int .i64 0) := hT2.out.msg.cell 2
  have z2 := hT2.out.msg.fz 2
  clear hs hC hG hC1 hS2 hU2
  dsimp only
  go_wp2_with fail
  refine (xnum_any v2 _ (by rw [← hv2.out]; exact uV_lt l hlb.out 2)).mono ?_
  rintro e ux ⟨rfl, hux⟩
  obtain rfl := hux.symm
  clear hux
  clear hT2
  go_wp2_with fail
  clear g2 z2
  generalize u2.setCell ⟨gm, 2, none⟩ (.int .i64 (xnum v2)) = W3 at *
  -- number 3
  refine (rshort_u rc p3 y3 f3 N c1 a1 l _ hS3.out.cur).mono ?_
  rintro e u3 ⟨rfl, hC, hG⟩
  obtain ⟨v3, p4, y4, f4, hs⟩ : ∃ v p y f, sS l p3 y3 f3 = (v, p, y, f) := ⟨_, _, _, _, rfl⟩
  have hC1 := hC.out
  rw [hs] at hC1 ⊢
  have hv3 : Hid (uV l 3 = v3) := by show _ = _; unfold uV; rw [hU3.out]; dsimp only; rw [hs]
  have hU4 : Hid (uS l 4 = (p4, y4, f4)) := by show _ = _; rw [uS, hU3.out]; dsimp only; rw [hs]
  have hT3 : Hid (Rd8 w u3 r rc gm a1 N c1 l p4 y4 f4 #[.int .i64 (xnum v0), .int .u64 (v1 : Nat), .int .i64 (xnum v2), .int .i64 0, .int .i64 0, .int .u64 0, .int .i64 0, .int .i64 0, .slice none 0 0]) := hS3.out.call hC1 hG.out
  have hS4 : Hid (Rd8 w (u3.setCell ⟨gm, 3, none⟩ (.int .i64 (xnum v3))) r rc gm a1 N c1 l p4 y4 f4 #[.int .i64 (xnum v0), .int .u64 (v1 : Nat), .int .i64 (xnum v2), .int .i64 (xnum v3), .int .i64 0, .int .u64 0, .int .i64 0, .int .i64 0, .slice none 0 0]) := hT3.out.put 3 _
  have g3 : u3.cell? ⟨gm, 3, none⟩ = some (.int .i64 0) := hT3.out.msg.cell 3
  have z3 := hT3.out.msg.fz 3
  clear hs hC hG hC1 hS3 hU3
  dsimp only
  go_wp2_with fail
  refine (xnum_any v3 _ (by rw [← hv3.out]; exact uV_lt l hlb.out 3)).mono ?_
  rintro e ux ⟨rfl, hux⟩
  obtain rfl := hux.symm
  clear hux
  clear hT3
  go_wp2_with fail
  clear g3 z3
  generalize u3.setCell ⟨gm, 3, none⟩ (.int .i64 (xnum v3)) = W4 at *
  -- number 4
  refine (rshort_u rc p4 y4 f4 N c1 a1 l _ hS4.out.cur).mono ?_
  rintro e u4 ⟨rfl, hC, hG⟩
  obtain ⟨v4, p5, y5, f5, hs⟩ : ∃ v p y f, sS l p4 y4 f4 = (v, p, y, f) := ⟨_, _, _, _, rfl⟩
  have hC1 := hC.out
  rw [hs] at hC1 ⊢
  have hv4 : Hid (uV l 4 = v4) := by show _ = _; unfold uV; rw [hU4.out]; dsimp only; rw [hs]
  have hU5 : Hid (uS l 5 = (p5, y5, f5)) := by show _ = _; rw [uS, hU4.out]; dsimp only; rw [hs]
  have hT4 : Hid (Rd8 w u4 r rc gm a1 N c1 l p5 y5 f5 #[.int .i64 (xnum v0), .int .u64 (v1 : Nat), .int .i64 (xnum v2), .int .i64 (xnum v3), .int .i64 0, .int .u64 0, .int .i64 0, .int .i64 0, .slice none 0 0]) := hS4.out.call hC1 hG.out
  have hS5 : Hid (Rd8 w (u4.setCell ⟨gm, 4, none⟩ (.int .i64 (xnum v4))) r rc gm a1 N c1 l p5 y5 f5 #[.int .i64 (xnum v0), .int .u64 (v1 : Nat), .int .i64 (xnum v2), .int .i64 (xnum v3), .int .i64 (xnum v4), .int .u64 0, .int .i64 0, .int .i64 0, .slice none 0 0]) := hT4.out.put 4 _
  have g4 : u4.cell? ⟨gm, 4, none⟩ = some (.int .i64 0) := hT4.out.msg.cell 4
  have z4 := hT4.out.msg.fz 4
  clear hs hC hG hC1 hS4 hU4
  dsimp only
  go_wp2_with fail
  refine (xnum_any v4 _ (by rw [← hv4.out]; exact uV_lt l hlb.out 4)).mono ?_
  rintro e ux ⟨rfl, hux⟩
  obtain rfl := hux.symm
  clear hux
  clear hT4
  go_wp2_with fail
  clear g4 z4
  generalize u4.setCell ⟨gm, 4, none⟩ (.int .i64 (xnum v4)) = W5 at *
  -- number 5
  refine (rshort_u rc p5 y5 f5 N c1 a1 l _ hS5.out.cur).mono ?_
  rintro e u5 ⟨rfl, hC, hG⟩
  obtain ⟨v5, p6, y6, f6, hs⟩ : ∃ v p y f, sS l p5 y5 f5 = (v, p, y, f) := ⟨_, _, _, _, rfl⟩
  have hC1 := hC.out
  rw [hs] at hC1 ⊢
  have hv5 : Hid (uV l 5 = v5) := by show _ = _; unfold uV; rw [hU5.out]; dsimp only; rw [hs]
  have hU6 : Hid (uS l 6 = (p6, y6, f6)) := by show _ = _; rw [uS, hU5.out]; dsimp only; rw [hs]
  have hT5 : Hid (Rd8 w u5 r rc gm a1 N c1 l p6 y6 f6 #[.int .i64 (xnum v0), .int .u64 (v1 : Nat), .int .i64 (xnum v2), .int .i64 (xnum v3), .int .i64 (xnum v4), .int .u64 0, .int .i64 0, .int .i64 0, .slice none 0 0]) := hS5.out.call hC1 hG.out
  have hS6 : Hid (Rd8 w (u5.setCell ⟨gm, 5, none⟩ (.int .u64 (v5 : Nat))) r rc gm a1 N c1 l p6 y6 f6 #[.int .i64 (xnum v0), .int .u64 (v1 : Nat), .int .i64 (xnum v2), .int .i64 (xnum v3), .int .i64 (xnum v4), .int .u64 (v5 : Nat), .int .i64 0, .int .i64 0, .slice none 0 0]) := hT5.out.put 5 _
  have g5 : u5.cell? ⟨gm, 5, none⟩ = some (.int .u64 0) := hT5.out.msg.cell 5
  have z5 := hT5.out.msg.fz 5
  clear hs hC hG hC1 hS5 hU5
  dsimp only
  clear hT5
  go_wp2_with fail
  clear g5 z5
  generalize u5.setCell ⟨gm, 5, none⟩ (.int .u64 (v5 : Nat)) = W6 at *
  -- number 6
  refine (rshort_u rc p6 y6 f6 N c1 a1 l _ hS6.out.cur).mono ?_
  rintro e u6 ⟨rfl, hC, hG⟩
  obtain ⟨v6, p7, y7, f7, hs⟩ : ∃ v p y f, sS l p6 y6 f6 = (v, p, y, f) := ⟨_, _, _, _, rfl⟩
  have hC1 := hC.out
  rw [hs] at hC1 ⊢
  have hv6 : Hid (uV l 6 = v6) := by show _ = _; unfold uV; rw [hU6.out]; dsimp only; rw [hs]
  have hU7 : Hid (uS l 7 = (p7, y7, f7)) := by show _ = _; rw [uS, hU6.out]; dsimp only; rw [hs]
  have hT6 : Hid (Rd8 w u6 r rc gm a1 N c1 l p7 y7 f7 #[.int .i64 (xnum v0), .int .u64 (v1 : Nat), .int .i64 (xnum v2), .int .i64 (xnum v3), .int .i64 (xnum v4), .int .u64 (v5 : Nat), .int .i64 0, .int .i64 0, .slice none 0 0]) := hS6.out.call hC1 hG.out
  have hS7 : Hid (Rd8 w (u6.setCell ⟨gm, 6, none⟩ (.int .i64 (xnum v6))) r rc gm a1 N c1 l p7 y7 f7 #[.int .i64 (xnum v0), .int .u64 (v1 : Nat), .int .i64 (xnum v2), .int .i64 (xnum v3), .int .i64 (xnum v4), .int .u64 (v5 : Nat), .int .i64 (xnum v6), .int .i64 0, .slice none 0 0]) := hT6.out.put 6 _
  have g6 : u6.cell? ⟨gm, 6, none⟩ = some (.int .i64 0) := hT6.out.msg.cell 6
  have z6 := hT6.out.msg.fz 6
  clear hs hC hG hC1 hS6 hU6
  dsimp only
  go_wp2_with fail
  refine (xnum_any v6 _ (by rw [← hv6.out]; exact uV_lt l hlb.out 6)).mono ?_
  rintro e ux ⟨rfl, hux⟩
  obtain rfl := hux.symm
  clear hux
  clear hT6
  go_wp2_with fail
  clear g6 z6
  generalize u6.setCell ⟨gm, 6, none⟩ (.int .i64 (xnum v6)) = W7 at *
  -- number 7
  refine (rshort_u rc p7 y7 f7 N c1 a1 l _ hS7.out.cur).mono ?_
  rintro e u7 ⟨rfl, hC, hG⟩
  obtain ⟨v7, p8, y8, f8, hs⟩ : ∃ v p y f, sS l p7 y7 f7 = (v, p, y, f) := ⟨_, _, _, _, rfl⟩
  have hC1 := hC.out
  rw [hs] at hC1 ⊢
  have hv7 : Hid (uV l 7 = v7) := by show _ = _; unfold uV; rw [hU7.out]; dsimp only; rw [hs]
  have hU8 : Hid (uS l 8 = (p8, y8, f8)) := by show _ = _; rw [uS, hU7.out]; dsimp only; rw [hs]
  have hT7 : Hid (Rd8 w u7 r rc gm a1 N c1 l p8 y8 f8 #[.int .i64 (xnum v0), .int .u64 (v1 : Nat), .int .i64 (xnum v2), .int .i64 (xnum v3), .int .i64 (xnum v4), .int .u64 (v5 : Nat), .int .i64 (xnum v6), .int .i64 0, .slice none 0 0]) := hS7.out.call hC1 hG.out
  have hS8 : Hid (Rd8 w (u7.setCell ⟨gm, 7, none⟩ (.int .i64 (xnum v7))) r rc gm a1 N c1 l p8 y8 f8 #[.int .i64 (xnum v0), .int .u64 (v1 : Nat), .int .i64 (xnum v2), .int .i64 (xnum v3), .int .i64 (xnum v4), .int .u64 (v5 : Nat), .int .i64 (xnum v6), .int .i64 (xnum v7), .slice none 0 0]) := hT7.out.put 7 _
  have g7 : u7.cell? ⟨gm, 7, none⟩ = some (.int .i64 0) := hT7.out.msg.cell 7
  have z7 := hT7.out.msg.fz 7
  clear hs hC hG hC1 hS7 hU7
  dsimp only
  go_wp2_with fail
  refine (xnum_any v7 _ (by rw [← hv7.out]; exact uV_lt l hlb.out 7)).mono ?_
  rintro e ux ⟨rfl, hux⟩
  obtain rfl := hux.symm
  clear hux
  have hpn : p8 ≤ N := hT7.out.cur.2.2.2.1
  have r1 : u7.cell? ⟨rc, 1, none⟩ = some (.int .i64 (p8 : Nat)) := hT7.out.cur.1.c1
  have ne1 : rc ≠ gm := by have := hT7.out.o2; omega
  have ne2 : gm ≠ rc := Ne.symm ne1
  have e9 : IntKind.i64.wrap ((N : Int) - ((p8 : Nat) : Int)) = ((N - p8 : Nat) : Int) := by have := hn12.out; rw [IntKind.wrap_i64]; omega
  clear hT7 hpn
  go_wp2_with fail
  clear g7 z7 r1 e9
  generalize u7.setCell ⟨gm, 7, none⟩ (.int .i64 (xnum v7)) = W8 at *
  refine (rtake_rest rc p8 y8 f8 N c1 a1 l _ hS8.out.cur (fun hy hn => by
    have h1 := hU8.out
    rw [hnone.out hn] at h1
    have h2 := us_nil
    rw [h1] at h2
    exact h2 hy)).mono ?_
  rintro e ut ⟨a9, k9, q9, rfl, hB3, hC3, hG3⟩
  obtain ⟨p9, hC9⟩ := hC3.out
  have hT8 : Hid (Rd8 w ut r rc gm a1 N c1 l p9 y8 f8 #[.int .i64 (xnum v0), .int .u64 (v1 : Nat), .int .i64 (xnum v2), .int .i64 (xnum v3), .int .i64 (xnum v4), .int .u64 (v5 : Nat), .int .i64 (xnum v6), .int .i64 (xnum v7), .slice none 0 0]) := hS8.out.call hC9 hG3.out
  have hS9 : Hid (Rd8 w (ut.setCell ⟨gm, 8, none⟩ (.slice a9 k9 q9)) r rc gm a1 N c1 l p9 y8 f8 #[.int .i64 (xnum v0), .int .u64 (v1 : Nat), .int .i64 (xnum v2), .int .i64 (xnum v3), .int .i64 (xnum v4), .int .u64 (v5 : Nat), .int .i64 (xnum v6), .int .i64 (xnum v7), .slice a9 k9 q9]) := hT8.out.put 8 _
  have hB9 : Hid (Bytes (ut.setCell ⟨gm, 8, none⟩ (.slice a9 k9 q9)) a9 (if y8 = 0 then l.drop p8 else [])) := hB3.out.1.k2 (K2.set (q := gm) (g := gm) ut 8 _) (fun x hx => by have h1 := hB3.out.2.2 x hx; have h2 := hS8.out.msg.lt; exact ⟨by omega, by omega⟩)
  have hk9 : Hid ((if y8 = 0 then l.drop p8 else []).length = k9) := hB3.out.2.1
  have hlg : Hid (∀ x, a9 = some x → x.block ≠ r) := fun x hx e => by have h1 := hB3.out.2.2 x hx; have h2 := hS8.out.msg.lt; have h3 := hS8.out.o1; have h4 := hS8.out.o2; omega
  have g8 : ut.cell? ⟨gm, 8, none⟩ = some (.slice none 0 0) := hT8.out.msg.cell 8
  have z8 := hT8.out.msg.fz 8
  have r2 : ut.cell? ⟨rc, 2, none⟩ = some (.int .i64 (y8 : Nat)) := hT8.out.cur.1.c2
  have ne3 : r ≠ gm := by have := hT8.out.o1; have := hT8.out.o2; omega
  have ne4 : gm ≠ r := Ne.symm ne3
  clear hC3 hG3 hC9 hS8 hB3
  by_cases hy : y8 = 0
  · subst hy
    have dy : (((0 : Nat) : Int) != 0) = false := by simp
    have m0 : ut.cell? ⟨gm, 0, none⟩ = some (.int .i64 (xnum v0)) := hT8.out.msg.cell 0
    have m1 : ut.cell? ⟨gm, 1, none⟩ = some (.int .u64 (v1 : Nat)) := hT8.out.msg.cell 1
    have m2 : ut.cell? ⟨gm, 2, none⟩ = some (.int .i64 (xnum v2)) := hT8.out.msg.cell 2
    have m3 : ut.cell? ⟨gm, 3, none⟩ = some (.int .i64 (xnum v3)) := hT8.out.msg.cell 3
    have m4 : ut.cell? ⟨gm, 4, none⟩ = some (.int .i64 (xnum v4)) := hT8.out.msg.cell 4
    have m5 : ut.cell? ⟨gm, 5, none⟩ = some (.int .u64 (v5 : Nat)) := hT8.out.msg.cell 5
    have m6 : ut.cell? ⟨gm, 6, none⟩ = some (.int .i64 (xnum v6)) := hT8.out.msg.cell 6
    have m7 : ut.cell? ⟨gm, 7, none⟩ = some (.int .i64 (xnum v7)) := hT8.out.msg.cell 7
    clear hT8
    go_wp2_with fail
    generalize ut.setCell ⟨gm, 8, none⟩ (.slice a9 k9 q9) = W9 at *
    clear g8 z8 r2 m0 m1 m2 m3 m4 m5 m6 m7
    have hx0 : Hid (xM l = ⟨xnum v0, v1, xnum v2, xnum v3, xnum v4, v5, xnum v6, xnum v7, l.drop p8⟩) := by
      show _ = _
      unfold xM
      rw [hv0.out, hv1.out, hv2.out, hv3.out, hv4.out, hv5.out, hv6.out, hv7.out, hU8.out]
      rfl
    obtain ⟨x1, x2⟩ := xM_may l hlb.out
    have kM : Calls Try.prog 39 #[.agg #[.int .i64 (xnum v0), .int .u64 (v1 : Nat), .int .i64 (xnum v2), .int .i64 (xnum v3), .int .i64 (xnum v4), .int .u64 (v5 : Nat), .int .i64 (xnum v6), .int .i64 (xnum v7), .slice a9 k9 q9]] W9 fun e w' => e = .returned (.bool (mayM (xM l))) ∧ Hid (Below W9.heap.size W9 w') := by
      rw [hx0.out]
      exact xmay_any ⟨xnum v0, v1, xnum v2, xnum v3, xnum v4, v5, xnum v6, xnum v7, l.drop p8⟩ a9 k9 q9 W9
    cases hM : mayM (xM l) with
    | false =>
      rw [hM] at kM
      have hE : Hid (∀ w', UpX w' zs (.returned (.tuple #[.agg #[.int .i64 0, .int .u64 0, .int .i64 0, .int .i64 0, .int .i64 0, .int .u64 0, .int .i64 0, .int .i64 0, .slice none 0 0], .int .i64 5]))) := fun w' => by
        obtain ⟨q1, q2⟩ := up_five hwf.out hL.out (fun k => by rw [x1] at hM; rw [hM] at k; exact absurd k.2 (by decide))
        exact upx_zero q1 q2
      clear x1 x2 hM
      refine kM.mono ?_
      rintro e wx ⟨rfl, hbx⟩
      have hres := hS9.out.res.kept hbx.out
      have hbl : Hid (Below r w wx) := hS9.out.bel.trans (hbx.out.mono (by have := hS9.out.res.lt; omega))
      have c0 := hres.cell 0
      have c1 := hres.cell 1
      have c2 := hres.cell 2
      have c3 := hres.cell 3
      have c4 := hres.cell 4
      have c5 := hres.cell 5
      have c6 := hres.cell 6
      have c7 := hres.cell 7
      have c8 := hres.cell 8
      have f := hres.fz
      clear hres hbx kM hS9 hB9 hk9 hU8 hv0 hv1 hv2 hv3 hv4 hv5 hv6 hv7 hx0
      go_wp2
      refine bodyPost_ret (v := .tuple #[.agg #[.int .i64 0, .int .u64 0, .int .i64 0, .int .i64 0, .int .i64 0, .int .u64 0, .int .i64 0, .int .i64 0, .slice none 0 0], .int .i64 5]) (by simp [results, Try.results14, go_sem, *]) rfl ⟨hE.out _, ?_⟩
      show Below w.heap.size w _
      rw [hr.out]
      repeat (refine Below.setCell ?_ (by exact Nat.le_refl _) _)
      exact hbl.out
    | true =>
      rw [hM] at kM
      have hE : Hid (upE zs = 0 ∧ outM zs = ⟨xnum v0, v1, xnum v2, xnum v3, xnum v4, v5, xnum v6, xnum v7, l.drop p8⟩) := by
        obtain ⟨q1, q2⟩ := up_zero hwf.out hL.out ⟨by rw [hU8.out], by rw [← x1]; exact hM⟩
        exact ⟨q1, by rw [q2, ← x2 hM, hx0.out]⟩
      clear x1 x2 hM
      refine kM.mono ?_
      rintro e wx ⟨rfl, hbx⟩
      have hres := hS9.out.res.kept hbx.out
      have hmsg := hS9.out.msg.kept hbx.out
      have hbl : Hid (Below r w wx) := hS9.out.bel.trans (hbx.out.mono (by have := hS9.out.res.lt; omega))
      have hBx : Hid (Bytes wx a9 (l.drop p8)) := hB9.out.kept hbx.out
      have hkx : Hid ((l.drop p8).length = k9) := hk9.out
      have c0 := hres.cell 0
      have c1 := hres.cell 1
      have c2 := hres.cell 2
      have c3 := hres.cell 3
      have c4 := hres.cell 4
      have c5 := hres.cell 5
      have c6 := hres.cell 6
      have c7 := hres.cell 7
      have c8 := hres.cell 8
      have m0 : wx.cell? ⟨gm, 0, none⟩ = some (.int .i64 (xnum v0)) := hmsg.cell 0
      have m1 : wx.cell? ⟨gm, 1, none⟩ = some (.int .u64 (v1 : Nat)) := hmsg.cell 1
      have m2 : wx.cell? ⟨gm, 2, none⟩ = some (.int .i64 (xnum v2)) := hmsg.cell 2
      have m3 : wx.cell? ⟨gm, 3, none⟩ = some (.int .i64 (xnum v3)) := hmsg.cell 3
      have m4 : wx.cell? ⟨gm, 4, none⟩ = some (.int .i64 (xnum v4)) := hmsg.cell 4
      have m5 : wx.cell? ⟨gm, 5, none⟩ = some (.int .u64 (v5 : Nat)) := hmsg.cell 5
      have m6 : wx.cell? ⟨gm, 6, none⟩ = some (.int .i64 (xnum v6)) := hmsg.cell 6
      have m7 : wx.cell? ⟨gm, 7, none⟩ = some (.int .i64 (xnum v7)) := hmsg.cell 7
      have m8 : wx.cell? ⟨gm, 8, none⟩ = some (.slice a9 k9 q9) := hmsg.cell 8
      have f := hres.fz
      clear hres hmsg hbx kM hS9 hB9 hk9 hU8 hv0 hv1 hv2 hv3 hv4 hv5 hv6 hv7 hx0
      go_wp2
      refine bodyPost_ret (v := .tuple #[.agg #[.int .i64 (xnum v0), .int .u64 (v1 : Nat), .int .i64 (xnum v2), .int .i64 (xnum v3), .int .i64 (xnum v4), .int .u64 (v5 : Nat), .int .i64 (xnum v6), .int .i64 (xnum v7), .slice a9 k9 q9], .int .i64 0]) (by simp [results, Try.results14, go_sem, *]) rfl ⟨⟨a9, k9, q9, by rw [hE.out.1, hE.out.2]; rfl, ?_, by rw [hE.out.2]; exact hkx.out⟩, ?_⟩
      · rw [hE.out.2]
        have key : ∀ (y : World) (j : Nat) (v : Value), Bytes y a9 (l.drop p8) → Bytes (y.setCell ⟨r, j, none⟩ v) a9 (l.drop p8) := fun y j v h => h.k2 (K2.set (q := r) (g := r) y j v) (fun x hx => ⟨hlg.out x hx, hlg.out x hx⟩)
        repeat (refine key _ _ _ ?_)
        exact hBx.out
      · show Below w.heap.size w _
        rw [hr.out]
        repeat (refine Below.setCell ?_ (by exact Nat.le_refl _) _)
        exact hbl.out
  · have dy : (((y8 : Nat) : Int) != 0) = true := by simp; omega
    have hE : Hid (∀ w', UpX w' zs (.returned (.tuple #[.agg #[.int .i64 0, .int .u64 0, .int .i64 0, .int .i64 0, .int .i64 0, .int .u64 0, .int .i64 0, .int .i64 0, .slice none 0 0], .int .i64 5]))) := fun w' => by
      obtain ⟨q1, q2⟩ := up_five hwf.out hL.out (fun k => by rw [hU8.out] at k; exact hy k.1)
      exact upx_zero q1 q2
    have hbl : Hid (Below r w ut) := hT8.out.bel
    have hres := hT8.out.res
    have c0 := hres.cell 0
    have c1 := hres.cell 1
    have c2 := hres.cell 2
    have c3 := hres.cell 3
    have c4 := hres.cell 4
    have c5 := hres.cell 5
    have c6 := hres.cell 6
    have c7 := hres.cell 7
    have c8 := hres.cell 8
    have f := hres.fz
    have hle : Hid (r ≤ gm) := by have := hT8.out.o1; have := hT8.out.o2; show _ ≤ _; omega
    clear hres hT8 hS9 hB9 hk9 hU8 hv0 hv1 hv2 hv3 hv4 hv5 hv6 hv7 hy
    go_wp2
    refine bodyPost_ret (v := .tuple #[.agg #[.int .i64 0, .int .u64 0, .int .i64 0, .int .i64 0, .int .i64 0, .int .u64 0, .int .i64 0, .int .i64 0, .slice none 0 0], .int .i64 5]) (by simp [results, Try.results14, go_sem, *]) rfl ⟨hE.out _, ?_⟩
    show Below w.heap.size w _
    rw [hr.out]
    repeat (refine Below.setCell ?_ (by first | exact Nat.le_refl _ | exact hle.out) _)
    exact hbl.out
end Go.Proofs.Ytfipdldoklkciaa
