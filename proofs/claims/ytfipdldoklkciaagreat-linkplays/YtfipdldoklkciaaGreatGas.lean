/-
  Texts Lpd, Lrg, Lri.
-/
import Derived.Test.YtfipdldoklkciaaGreatGar
import Derived.Test.YtfipdldoklkciaaGreatGai
import Derived.Test.YtfipdldoklkciaaGreatGal
import Derived.Deep.QuietTactic
import Derived.BigQuiet
import Derived.Test.YtfipdldoklkciaaGreatGah
import Derived.Test.YtfipdldoklkciaaGreatGaj
import Derived.Deep.DeepAppendWide
import Derived.Laws.MakeOwn
import Derived.Laws.OwnMore
namespace Go.Proofs.YtfipdldoklkciaaGreat
open Go.RowKit
set_option linter.unusedVariables false
def UpX (w' : World) (zs : List Int) (e : Ending) : Prop := ∃ a n c, e = .returned (.tuple #[mval (outM zs) a n c, .int .i64 (upE zs)]) ∧ Bytes w' a (outM zs).zs ∧ (outM zs).zs.length = n ∧ (a = none → c = 0)
theorem upx_zero {w' : World} {zs : List Int} {E : Int} (h1 : upE zs = E) (h2 : outM zs = m0) : UpX w' zs (.returned (.tuple #[.agg #[.int .i64 0, .int .u64 0, .int .i64 0, .int .i64 0, .int .i64 0, .int .u64 0, .int .i64 0, .int .i64 0, .slice none 0 0], .int .i64 E])) := by
  refine ⟨none, 0, 0, by rw [h1, h2]; rfl, ?_, ?_, fun _ => rfl⟩
  · rw [h2]; exact ⟨by simp [m0], by simp [m0], .inl rfl⟩
  · rw [h2]; rfl
theorem Blk.butr {w w' : World} {g r : Nat} {cs : Array Value} {T : TypeId} (h : Blk w g cs T) (hg : Hid (w.grownBy w' (some r))) (hr : g ≠ r) : Blk w' g cs T := h.but hg.out hr
set_option maxRecDepth 100000 in
set_option maxHeartbeats 2000000 in
theorem xunpack_sum (a : Option Addr) (n cap : Nat) (zs : List Int) (w : World) (hl : zs.length = n) (hb : Bytes w a zs) (hc : n ≤ cap) (hcm : cap ≤ 9223372036854775807) (hw : wfB zs = false) :
    Calls Tryz.prog 70 #[.slice a n cap] w fun e w' => Hid (UpX w' zs e) ∧ Hid (Below w.heap.size w w') := by
  have k0 := fun x (hx : Below w.heap.size w x) => xat_any a n cap zs x hl (hb.kept hx) hc hcm
  have hE : Hid (∀ w', UpX w' zs (.returned (.tuple #[.agg #[.int .i64 0, .int .u64 0, .int .i64 0, .int .i64 0, .int .i64 0, .int .u64 0, .int .i64 0, .int .i64 0, .slice none 0 0], .int .i64 4]))) := fun w' => by
    have : upE zs = 4 := by unfold upE; rw [if_pos hw]
    exact upx_zero this (by unfold outM; rw [if_neg (by rw [this]; decide)])
  have hno : Hid (Whole zs → nAt zs + 8 ≠ n ∧ n ≠ 0 ∧ nAt zs ≤ 1200) := fun h => by
    refine ⟨fun e => ?_, ?_, h.1.2⟩
    · have : wfB zs = true := wfB_iff.2 ⟨h, by omega⟩
      rw [hw] at this
      cases this
    · have := h.2.1; omega
  clear hl hb hc hcm hw
  go_enter Tryz.func70, Tryz.ntmps70
  go_wp2_with fail
  refine (k0 _ ((Below.refl w.heap.size w).alloc (Nat.le_refl _) _)).mono ?_
  rintro e w1 ⟨hX, hb1⟩
  have hbk : Hid (Blk w1 w.heap.size #[.int .i64 0, .int .u64 0, .int .i64 0, .int .i64 0, .int .i64 0, .int .u64 0, .int .i64 0, .int .i64 0, .slice none 0 0] 100) := (blk_new w _ _).kept hb1.out
  have hB1 : Hid (Below w.heap.size w w1) := ((Below.refl w.heap.size w).alloc (Nat.le_refl _) _).trans (hb1.out.mono (by simp))
  have c0 := hbk.out.cell 0
  have c1 := hbk.out.cell 1
  have c2 := hbk.out.cell 2
  have c3 := hbk.out.cell 3
  have c4 := hbk.out.cell 4
  have c5 := hbk.out.cell 5
  have c6 := hbk.out.cell 6
  have c7 := hbk.out.cell 7
  have c8 := hbk.out.cell 8
  have f := hbk.out.fz
  generalize hrr : w.heap.size = r at *
  have hr : Hid (w.heap.size = r) := hrr
  clear hrr k0 hb1
  by_cases hW : Whole zs
  · obtain ⟨a1, c1', rfl, _, _⟩ := hX.out.1 hW
    obtain ⟨n1, n2, n3⟩ := hno.out hW
    have d0 : ((n : Int) == 0) = false := by simp; omega
    have e8 : IntKind.i64.wrap (((nAt zs : Nat) : Int) + 8) = ((nAt zs : Nat) : Int) + 8 := by rw [IntKind.wrap_i64]; omega
    have d1 : ((((nAt zs : Nat) : Int) + 8) != (n : Int)) = true := by simp; omega
    clear hX hno hW n1 n2 n3
    generalize nAt zs = N at *
    go_wp2
    refine bodyPost_ret (v := .tuple #[.agg #[.int .i64 0, .int .u64 0, .int .i64 0, .int .i64 0, .int .i64 0, .int .u64 0, .int .i64 0, .int .i64 0, .slice none 0 0], .int .i64 4]) (by simp [results, Tryz.results70, go_sem, *]) rfl ⟨hE.out _, ?_⟩
    show Below w.heap.size w _
    rw [hr.out]
    repeat (refine Below.setCell ?_ (by exact Nat.le_refl _) _)
    exact hB1.out
  · obtain ⟨u, rfl⟩ := hX.out.2 hW
    clear hX hno hW
    by_cases h0 : n = 0
    · have d0 : ((n : Int) == 0) = true := by simp [h0]
      clear h0
      go_wp2
      refine bodyPost_ret (v := .tuple #[.agg #[.int .i64 0, .int .u64 0, .int .i64 0, .int .i64 0, .int .i64 0, .int .u64 0, .int .i64 0, .int .i64 0, .slice none 0 0], .int .i64 4]) (by simp [results, Tryz.results70, go_sem, *]) rfl ⟨hE.out _, ?_⟩
      show Below w.heap.size w _
      rw [hr.out]
      repeat (refine Below.setCell ?_ (by exact Nat.le_refl _) _)
      exact hB1.out
    · have d0 : ((n : Int) == 0) = false := by simpa using h0
      clear h0
      go_wp2
      refine bodyPost_ret (v := .tuple #[.agg #[.int .i64 0, .int .u64 0, .int .i64 0, .int .i64 0, .int .i64 0, .int .u64 0, .int .i64 0, .int .i64 0, .slice none 0 0], .int .i64 4]) (by simp [results, Tryz.results70, go_sem, *]) rfl ⟨hE.out _, ?_⟩
      show Below w.heap.size w _
      rw [hr.out]
      repeat (refine Below.setCell ?_ (by exact Nat.le_refl _) _)
      exact hB1.out
/-- What holds while the numbers are read. -/
structure Rd8 (w wx : World) (r rc gm : Nat) (a : Option Addr) (N c : Nat) (l : List Int) (p y f : Nat) (cs : Array Value) : Prop where
  cur : RCur wx rc a N c l p y f
  msg : Blk wx gm cs 100
  res : Blk wx r #[.int .i64 0, .int .u64 0, .int .i64 0, .int .i64 0, .int .i64 0, .int .u64 0, .int .i64 0, .int .i64 0, .slice none 0 0] 100
  bel : Below r w wx
  o1 : r < rc
  o2 : rc < gm
  far : ∀ x, a = some x → l ≠ [] → x.block < rc
  spot : ∀ x, a = some x → x.spot = none
theorem Rd8.call {w wx w' : World} {r rc gm : Nat} {a : Option Addr} {N c : Nat} {l : List Int} {p y f p' y' f' : Nat} {cs : Array Value} (h : Rd8 w wx r rc gm a N c l p y f cs) (hc : RCur w' rc a N c l p' y' f') (hg : wx.grownBy w' (some rc)) : Rd8 w w' r rc gm a N c l p' y' f' cs := by
  have h1 := h.o1; have h2 := h.o2
  exact ⟨hc, h.msg.but hg (by omega), h.res.but hg (by omega), h.bel.grown hg (by have := h.cur.1.lt; omega) (fun k hk => by cases hk; omega), h1, h2, h.far, h.spot⟩
theorem Rd8.put {w wx : World} {r rc gm : Nat} {a : Option Addr} {N c : Nat} {l : List Int} {p y f : Nat} {cs : Array Value} (h : Rd8 w wx r rc gm a N c l p y f cs) (j : Nat) (v : Value) : Rd8 w (wx.setCell ⟨gm, j, none⟩ v) r rc gm a N c l p y f (cs.setIfInBounds j v) := by
  have h1 := h.o1; have h2 := h.o2
  exact ⟨h.cur.other (but_setCell (World.grownBy.refl _ _) j v) (by omega) (fun x hx hne => by have := h.far x hx hne; omega), h.msg.set j v, h.res.set_ne (by omega) j v, h.bel.setCell (by show r ≤ gm; omega) v, h1, h2, h.far, h.spot⟩
theorem us_nil : (uS [] 8).2.1 ≠ 0 := by decide
set_option maxRecDepth 100000 in
set_option maxHeartbeats 8000000 in
theorem xunpack_wf (a : Option Addr) (n cap : Nat) (zs : List Int) (w : World) (hl : zs.length = n) (hb : Bytes w a zs) (hc : n ≤ cap) (hcm : cap ≤ 9223372036854775807) (hw : wfB zs = true) :
    Calls Tryz.prog 70 #[.slice a n cap] w fun e w' => Hid (UpX w' zs e) ∧ Hid (Below w.heap.size w w') := by
  have k0 := fun x (hx : Below w.heap.size w x) => xat_any a n cap zs x hl (hb.kept hx) hc hcm
  obtain ⟨hW, hN8⟩ := wfB_iff.1 hw
  have hwf : Hid (wfB zs = true) := hw
  have hlb : Hid (∀ c ∈ loadAt zs, 0 ≤ c ∧ c < 256) := fun c hc => hb.1 c (List.mem_of_mem_drop (List.mem_of_mem_take hc))
  have hll : Hid ((loadAt zs).length = nAt zs) := load_len hW.2.1
  have hn12 : Hid (nAt zs ≤ 1200) := hW.1.2
  have hW' : Hid (Whole zs) := hW
  have d0 : ((n : Int) == 0) = false := by simp; omega
  have e8 : IntKind.i64.wrap (((nAt zs : Nat) : Int) + 8) = ((nAt zs : Nat) : Int) + 8 := by have := hn12.out; rw [IntKind.wrap_i64]; omega
  have d1 : ((((nAt zs : Nat) : Int) + 8) != (n : Int)) = false := by simp; omega
  clear hl hb hc hcm hw hW hN8
  obtain ⟨l, hl⟩ : ∃ l, loadAt zs = l := ⟨_, rfl⟩
  have hL : Hid (loadAt zs = l) := hl
  rw [hl] at hlb hll
  clear hl
  generalize hNN : nAt zs = N at *
  have hNN' : Hid (nAt zs = N) := hNN
  clear hNN
  go_enter Tryz.func70, Tryz.ntmps70
  go_wp2_with fail
  refine (k0 _ ((Below.refl w.heap.size w).alloc (Nat.le_refl _) _)).mono ?_
  rintro e w1 ⟨hX, hb1⟩
  obtain ⟨a1, c1, he, hLd, hsp⟩ := hX.out.1 hW'.out
  rw [hNN'.out, hL.out] at hLd
  rw [hNN'.out] at he
  subst he
  obtain ⟨a0, cap0, hv, hby, hnil, hlc, hcm1, hsafe⟩ := hLd
  cases hv
  clear hsafe
  have hby' : Hid (Bytes w1 a1 l) := hby
  have hbk : Hid (Blk w1 w.heap.size #[.int .i64 0, .int .u64 0, .int .i64 0, .int .i64 0, .int .i64 0, .int .u64 0, .int .i64 0, .int .i64 0, .slice none 0 0] 100) := (blk_new w _ _).kept hb1.out
  have hB1 : Hid (Below w.heap.size w w1) := ((Below.refl w.heap.size w).alloc (Nat.le_refl _) _).trans (hb1.out.mono (by simp))
  have hS0 : Hid (Rd8 w ((w1.alloc (.cells #[.slice a1 l.length c1, .int .i64 0, .int .i64 0, .int .i64 0] 154)).alloc (.cells #[.int .i64 0, .int .u64 0, .int .i64 0, .int .i64 0, .int .i64 0, .int .u64 0, .int .i64 0, .int .i64 0, .slice none 0 0] 100)) w.heap.size w1.heap.size (w1.heap.size + 1) a1 l.length c1 l 0 0 0 #[.int .i64 0, .int .u64 0, .int .i64 0, .int .i64 0, .int .i64 0, .int .u64 0, .int .i64 0, .int .i64 0, .slice none 0 0]) := by
    have A1 : Below w1.heap.size w1 (w1.alloc (.cells #[.slice a1 l.length c1, .int .i64 0, .int .i64 0, .int .i64 0] 154)) := (Below.refl _ _).alloc (Nat.le_refl _) _
    have A2 : Below (w1.alloc (.cells #[.slice a1 l.length c1, .int .i64 0, .int .i64 0, .int .i64 0] 154)).heap.size (w1.alloc (.cells #[.slice a1 l.length c1, .int .i64 0, .int .i64 0, .int .i64 0] 154)) ((w1.alloc (.cells #[.slice a1 l.length c1, .int .i64 0, .int .i64 0, .int .i64 0] 154)).alloc (.cells #[.int .i64 0, .int .u64 0, .int .i64 0, .int .i64 0, .int .i64 0, .int .u64 0, .int .i64 0, .int .i64 0, .slice none 0 0] 100)) := (Below.refl _ _).alloc (Nat.le_refl _) _
    have n1 := blk_new w1 #[.slice a1 l.length c1, .int .i64 0, .int .i64 0, .int .i64 0] 154
    have n2 := blk_new (w1.alloc (.cells #[.slice a1 l.length c1, .int .i64 0, .int .i64 0, .int .i64 0] 154)) #[.int .i64 0, .int .u64 0, .int .i64 0, .int .i64 0, .int .i64 0, .int .u64 0, .int .i64 0, .int .i64 0, .slice none 0 0] 100
    rw [show (w1.alloc (.cells #[.slice a1 l.length c1, .int .i64 0, .int .i64 0, .int .i64 0] 154)).heap.size = w1.heap.size + 1 by simp] at n2
    have hlt := hbk.out.lt
    have far : ∀ x, a1 = some x → l ≠ [] → x.block < w1.heap.size := fun x hx hne => by
      have := hby'.out
      rw [hx] at this
      exact this.lt hne
    refine ⟨⟨n1.kept A2, (hby'.out.kept A1).kept A2, rfl, Nat.zero_le _, by have := hll.out; have := hn12.out; omega, hlc, by unfold maxLen at hcm1; omega, hnil, fun x hx hne e => by have := far x hx hne; omega, fun x hx _ => hsp x hx⟩, n2, (hbk.out.kept A1).kept A2, (hB1.out.trans (A1.mono hB1.out.size)).trans (A2.mono (Nat.le_trans hB1.out.size A1.size)), hlt, by omega, far, hsp⟩
  have hnone : Hid (a1 = none → l = []) := fun h => by
    rcases hby'.out.2.2 with h1 | ⟨b, off, h1, _⟩
    · exact h1
    · rw [h] at h1; cases h1
  generalize hlN0 : l.length = N at *
  have hlN : Hid (l.length = N) := hlN0
  clear hlN0
  clear hX hb1 hby hby' hbk hB1 k0 hnil hlc hcm1 hsp
  generalize hrr : w.heap.size = r at *
  have hr : Hid (w.heap.size = r) := hrr
  clear hrr
  have hU0 : Hid (uS l 0 = (0, 0, 0)) := rfl
  go_wp2_with fail
  generalize (w1.alloc (.cells #[.slice a1 N c1, .int .i64 0, .int .i64 0, .int .i64 0] 154)).alloc (.cells #[.int .i64 0, .int .u64 0, .int .i64 0, .int .i64 0, .int .i64 0, .int .u64 0, .int .i64 0, .int .i64 0, .slice none 0 0] 100) = W0 at *
  generalize w1.heap.size + 1 = gm at *
  generalize w1.heap.size = rc at *
  -- number 0
  refine (rshort_u rc 0 0 0 N c1 a1 l _ hS0.out.cur).mono ?_
  rintro e u0 ⟨rfl, hC, hG⟩
  obtain ⟨v0, p1, y1, f1, hs⟩ : ∃ v p y f, sS l 0 0 0 = (v, p, y, f) := ⟨_, _, _, _, rfl⟩
  have hC1 := hC.out
  rw [hs] at hC1 ⊢
  have hv0 : Hid (uV l 0 = v0) := by show _ = _; unfold uV; rw [hU0.out]; dsimp only; rw [hs]
  have hU1 : Hid (uS l 1 = (p1, y1, f1)) := by show _ = _; rw [uS, hU0.out]; dsimp only; rw [hs]
  have hT0 : Hid (Rd8 w u0 r rc gm a1 N c1 l p1 y1 f1 #[.int .i64 0, .int .u64 0, .int .i64 0, .int .i64 0, .int .i64 0, .int .u64 0, .int .i64 0, .int .i64 0, .slice none 0 0]) := hS0.out.call hC1 hG.out
  have hS1 : Hid (Rd8 w (u0.setCell ⟨gm, 0, none⟩ (.int .i64 (xnum v0))) r rc gm a1 N c1 l p1 y1 f1 #[.int .i64 (xnum v0), .int .u64 0, .int .i64 0, .int .i64 0, .int .i64 0, .int .u64 0, .int .i64 0, .int .i64 0, .slice none 0 0]) := hT0.out.put 0 _
  have g0 : u0.cell? ⟨gm, 0, none⟩ = some (.int .i64 0) := hT0.out.msg.cell 0
  have z0 := hT0.out.msg.fz 0
  clear hs hC hG hC1 hS0 hU0
  dsimp only
  go_wp2_with fail
  refine (xnum_any v0 _ (by rw [← hv0.out]; exact uV_lt l hlb.out 0)).mono ?_
  rintro e ux ⟨rfl, hux⟩
  obtain rfl := hux.symm
  clear hux
  clear hT0
  go_wp2_with fail
  clear g0 z0
  generalize u0.setCell ⟨gm, 0, none⟩ (.int .i64 (xnum v0)) = W1 at *
  -- number 1
  refine (rshort_u rc p1 y1 f1 N c1 a1 l _ hS1.out.cur).mono ?_
  rintro e u1 ⟨rfl, hC, hG⟩
  obtain ⟨v1, p2, y2, f2, hs⟩ : ∃ v p y f, sS l p1 y1 f1 = (v, p, y, f) := ⟨_, _, _, _, rfl⟩
  have hC1 := hC.out
  rw [hs] at hC1 ⊢
  have hv1 : Hid (uV l 1 = v1) := by show _ = _; unfold uV; rw [hU1.out]; dsimp only; rw [hs]
  have hU2 : Hid (uS l 2 = (p2, y2, f2)) := by show _ = _; rw [uS, hU1.out]; dsimp only; rw [hs]
  have hT1 : Hid (Rd8 w u1 r rc gm a1 N c1 l p2 y2 f2 #[.int .i64 (xnum v0), .int .u64 0, .int .i64 0, .int .i64 0, .int .i64 0, .int .u64 0, .int .i64 0, .int .i64 0, .slice none 0 0]) := hS1.out.call hC1 hG.out
  have hS2 : Hid (Rd8 w (u1.setCell ⟨gm, 1, none⟩ (.int .u64 (v1 : Nat))) r rc gm a1 N c1 l p2 y2 f2 #[.int .i64 (xnum v0), .int .u64 (v1 : Nat), .int .i64 0, .int .i64 0, .int .i64 0, .int .u64 0, .int .i64 0, .int .i64 0, .slice none 0 0]) := hT1.out.put 1 _
  have g1 : u1.cell? ⟨gm, 1, none⟩ = some (.int .u64 0) := hT1.out.msg.cell 1
  have z1 := hT1.out.msg.fz 1
  clear hs hC hG hC1 hS1 hU1
  dsimp only
  clear hT1
  go_wp2_with fail
  clear g1 z1
  generalize u1.setCell ⟨gm, 1, none⟩ (.int .u64 (v1 : Nat)) = W2 at *
  -- number 2
  refine (rshort_u rc p2 y2 f2 N c1 a1 l _ hS2.out.cur).mono ?_
  rintro e u2 ⟨rfl, hC, hG⟩
  obtain ⟨v2, p3, y3, f3, hs⟩ : ∃ v p y f, sS l p2 y2 f2 = (v, p, y, f) := ⟨_, _, _, _, rfl⟩
  have hC1 := hC.out
  rw [hs] at hC1 ⊢
  have hv2 : Hid (uV l 2 = v2) := by show _ = _; unfold uV; rw [hU2.out]; dsimp only; rw [hs]
  have hU3 : Hid (uS l 3 = (p3, y3, f3)) := by show _ = _; rw [uS, hU2.out]; dsimp only; rw [hs]
  have hT2 : Hid (Rd8 w u2 r rc gm a1 N c1 l p3 y3 f3 #[.int .i64 (xnum v0), .int .u64 (v1 : Nat), .int .i64 0, .int .i64 0, .int .i64 0, .int .u64 0, .int .i64 0, .int .i64 0, .slice none 0 0]) := hS2.out.call hC1 hG.out
  have hS3 : Hid (Rd8 w (u2.setCell ⟨gm, 2, none⟩ (.int .i64 (xnum v2))) r rc gm a1 N c1 l p3 y3 f3 #[.int .i64 (xnum v0), .int .u64 (v1 : Nat), .int .i64 (xnum v2), .int .i64 0, .int .i64 0, .int .u64 0, .int .i64 0, .int .i64 0, .slice none 0 0]) := hT2.out.put 2 _
  have g2 : u2.cell? ⟨gm, 2, none⟩ = some (.int .i64 0) := hT2.out.msg.cell 2
  have z2 := hT2.out.msg.fz 2
  clear hs hC hG hC1 hS2 hU2
  dsimp only
  go_wp2_with fail
  refine (xnum_any v2 _ (by rw [← hv2.out]; exact uV_lt l hlb.out 2)).mono ?_
  rintro e ux ⟨rfl, hux⟩
  obtain rfl := hux.symm
  clear hux
  clear hT2
  go_wp2_with fail
  clear g2 z2
  generalize u2.setCell ⟨gm, 2, none⟩ (.int .i64 (xnum v2)) = W3 at *
  -- number 3
  refine (rshort_u rc p3 y3 f3 N c1 a1 l _ hS3.out.cur).mono ?_
  rintro e u3 ⟨rfl, hC, hG⟩
  obtain ⟨v3, p4, y4, f4, hs⟩ : ∃ v p y f, sS l p3 y3 f3 = (v, p, y, f) := ⟨_, _, _, _, rfl⟩
  have hC1 := hC.out
  rw [hs] at hC1 ⊢
  have hv3 : Hid (uV l 3 = v3) := by show _ = _; unfold uV; rw [hU3.out]; dsimp only; rw [hs]
  have hU4 : Hid (uS l 4 = (p4, y4, f4)) := by show _ = _; rw [uS, hU3.out]; dsimp only; rw [hs]
  have hT3 : Hid (Rd8 w u3 r rc gm a1 N c1 l p4 y4 f4 #[.int .i64 (xnum v0), .int .u64 (v1 : Nat), .int .i64 (xnum v2), .int .i64 0, .int .i64 0, .int .u64 0, .int .i64 0, .int .i64 0, .slice none 0 0]) := hS3.out.call hC1 hG.out
  have hS4 : Hid (Rd8 w (u3.setCell ⟨gm, 3, none⟩ (.int .i64 (xnum v3))) r rc gm a1 N c1 l p4 y4 f4 #[.int .i64 (xnum v0), .int .u64 (v1 : Nat), .int .i64 (xnum v2), .int .i64 (xnum v3), .int .i64 0, .int .u64 0, .int .i64 0, .int .i64 0, .slice none 0 0]) := hT3.out.put 3 _
  have g3 : u3.cell? ⟨gm, 3, none⟩ = some (.int .i64 0) := hT3.out.msg.cell 3
  have z3 := hT3.out.msg.fz 3
  clear hs hC hG hC1 hS3 hU3
  dsimp only
  go_wp2_with fail
  refine (xnum_any v3 _ (by rw [← hv3.out]; exact uV_lt l hlb.out 3)).mono ?_
  rintro e ux ⟨rfl, hux⟩
  obtain rfl := hux.symm
  clear hux
  clear hT3
  go_wp2_with fail
  clear g3 z3
  generalize u3.setCell ⟨gm, 3, none⟩ (.int .i64 (xnum v3)) = W4 at *
  -- number 4
  refine (rshort_u rc p4 y4 f4 N c1 a1 l _ hS4.out.cur).mono ?_
  rintro e u4 ⟨rfl, hC, hG⟩
  obtain ⟨v4, p5, y5, f5, hs⟩ : ∃ v p y f, sS l p4 y4 f4 = (v, p, y, f) := ⟨_, _, _, _, rfl⟩
  have hC1 := hC.out
  rw [hs] at hC1 ⊢
  have hv4 : Hid (uV l 4 = v4) := by show _ = _; unfold uV; rw [hU4.out]; dsimp only; rw [hs]
  have hU5 : Hid (uS l 5 = (p5, y5, f5)) := by show _ = _; rw [uS, hU4.out]; dsimp only; rw [hs]
  have hT4 : Hid (Rd8 w u4 r rc gm a1 N c1 l p5 y5 f5 #[.int .i64 (xnum v0), .int .u64 (v1 : Nat), .int .i64 (xnum v2), .int .i64 (xnum v3), .int .i64 0, .int .u64 0, .int .i64 0, .int .i64 0, .slice none 0 0]) := hS4.out.call hC1 hG.out
  have hS5 : Hid (Rd8 w (u4.setCell ⟨gm, 4, none⟩ (.int .i64 (xnum v4))) r rc gm a1 N c1 l p5 y5 f5 #[.int .i64 (xnum v0), .int .u64 (v1 : Nat), .int .i64 (xnum v2), .int .i64 (xnum v3), .int .i64 (xnum v4), .int .u64 0, .int .i64 0, .int .i64 0, .slice none 0 0]) := hT4.out.put 4 _
  have g4 : u4.cell? ⟨gm, 4, none⟩ = some (.int .i64 0) := hT4.out.msg.cell 4
  have z4 := hT4.out.msg.fz 4
  clear hs hC hG hC1 hS4 hU4
  dsimp only
  go_wp2_with fail
  refine (xnum_any v4 _ (by rw [← hv4.out]; exact uV_lt l hlb.out 4)).mono ?_
  rintro e ux ⟨rfl, hux⟩
  obtain rfl := hux.symm
  clear hux
  clear hT4
  go_wp2_with fail
  clear g4 z4
  generalize u4.setCell ⟨gm, 4, none⟩ (.int .i64 (xnum v4)) = W5 at *
  -- number 5
  refine (rshort_u rc p5 y5 f5 N c1 a1 l _ hS5.out.cur).mono ?_
  rintro e u5 ⟨rfl, hC, hG⟩
  obtain ⟨v5, p6, y6, f6, hs⟩ : ∃ v p y f, sS l p5 y5 f5 = (v, p, y, f) := ⟨_, _, _, _, rfl⟩
  have hC1 := hC.out
  rw [hs] at hC1 ⊢
  have hv5 : Hid (uV l 5 = v5) := by show _ = _; unfold uV; rw [hU5.out]; dsimp only; rw [hs]
  have hU6 : Hid (uS l 6 = (p6, y6, f6)) := by show _ = _; rw [uS, hU5.out]; dsimp only; rw [hs]
  have hT5 : Hid (Rd8 w u5 r rc gm a1 N c1 l p6 y6 f6 #[.int .i64 (xnum v0), .int .u64 (v1 : Nat), .int .i64 (xnum v2), .int .i64 (xnum v3), .int .i64 (xnum v4), .int .u64 0, .int .i64 0, .int .i64 0, .slice none 0 0]) := hS5.out.call hC1 hG.out
  have hS6 : Hid (Rd8 w (u5.setCell ⟨gm, 5, none⟩ (.int .u64 (v5 : Nat))) r rc gm a1 N c1 l p6 y6 f6 #[.int .i64 (xnum v0), .int .u64 (v1 : Nat), .int .i64 (xnum v2), .int .i64 (xnum v3), .int .i64 (xnum v4), .int .u64 (v5 : Nat), .int .i64 0, .int .i64 0, .slice none 0 0]) := hT5.out.put 5 _
  have g5 : u5.cell? ⟨gm, 5, none⟩ = some (.int .u64 0) := hT5.out.msg.cell 5
  have z5 := hT5.out.msg.fz 5
  clear hs hC hG hC1 hS5 hU5
  dsimp only
  clear hT5
  go_wp2_with fail
  clear g5 z5
  generalize u5.setCell ⟨gm, 5, none⟩ (.int .u64 (v5 : Nat)) = W6 at *
  -- number 6
  refine (rshort_u rc p6 y6 f6 N c1 a1 l _ hS6.out.cur).mono ?_
  rintro e u6 ⟨rfl, hC, hG⟩
  obtain ⟨v6, p7, y7, f7, hs⟩ : ∃ v p y f, sS l p6 y6 f6 = (v, p, y, f) := ⟨_, _, _, _, rfl⟩
  have hC1 := hC.out
  rw [hs] at hC1 ⊢
  have hv6 : Hid (uV l 6 = v6) := by show _ = _; unfold uV; rw [hU6.out]; dsimp only; rw [hs]
  have hU7 : Hid (uS l 7 = (p7, y7, f7)) := by show _ = _; rw [uS, hU6.out]; dsimp only; rw [hs]
  have hT6 : Hid (Rd8 w u6 r rc gm a1 N c1 l p7 y7 f7 #[.int .i64 (xnum v0), .int .u64 (v1 : Nat), .int .i64 (xnum v2), .int .i64 (xnum v3), .int .i64 (xnum v4), .int .u64 (v5 : Nat), .int .i64 0, .int .i64 0, .slice none 0 0]) := hS6.out.call hC1 hG.out
  have hS7 : Hid (Rd8 w (u6.setCell ⟨gm, 6, none⟩ (.int .i64 (xnum v6))) r rc gm a1 N c1 l p7 y7 f7 #[.int .i64 (xnum v0), .int .u64 (v1 : Nat), .int .i64 (xnum v2), .int .i64 (xnum v3), .int .i64 (xnum v4), .int .u64 (v5 : Nat), .int .i64 (xnum v6), .int .i64 0, .slice none 0 0]) := hT6.out.put 6 _
  have g6 : u6.cell? ⟨gm, 6, none⟩ = some (.int .i64 0) := hT6.out.msg.cell 6
  have z6 := hT6.out.msg.fz 6
  clear hs hC hG hC1 hS6 hU6
  dsimp only
  go_wp2_with fail
  refine (xnum_any v6 _ (by rw [← hv6.out]; exact uV_lt l hlb.out 6)).mono ?_
  rintro e ux ⟨rfl, hux⟩
  obtain rfl := hux.symm
  clear hux
  clear hT6
  go_wp2_with fail
  clear g6 z6
  generalize u6.setCell ⟨gm, 6, none⟩ (.int .i64 (xnum v6)) = W7 at *
  -- number 7
  refine (rshort_u rc p7 y7 f7 N c1 a1 l _ hS7.out.cur).mono ?_
  rintro e u7 ⟨rfl, hC, hG⟩
  obtain ⟨v7, p8, y8, f8, hs⟩ : ∃ v p y f, sS l p7 y7 f7 = (v, p, y, f) := ⟨_, _, _, _, rfl⟩
  have hC1 := hC.out
  rw [hs] at hC1 ⊢
  have hv7 : Hid (uV l 7 = v7) := by show _ = _; unfold uV; rw [hU7.out]; dsimp only; rw [hs]
  have hU8 : Hid (uS l 8 = (p8, y8, f8)) := by show _ = _; rw [uS, hU7.out]; dsimp only; rw [hs]
  have hT7 : Hid (Rd8 w u7 r rc gm a1 N c1 l p8 y8 f8 #[.int .i64 (xnum v0), .int .u64 (v1 : Nat), .int .i64 (xnum v2), .int .i64 (xnum v3), .int .i64 (xnum v4), .int .u64 (v5 : Nat), .int .i64 (xnum v6), .int .i64 0, .slice none 0 0]) := hS7.out.call hC1 hG.out
  have hS8 : Hid (Rd8 w (u7.setCell ⟨gm, 7, none⟩ (.int .i64 (xnum v7))) r rc gm a1 N c1 l p8 y8 f8 #[.int .i64 (xnum v0), .int .u64 (v1 : Nat), .int .i64 (xnum v2), .int .i64 (xnum v3), .int .i64 (xnum v4), .int .u64 (v5 : Nat), .int .i64 (xnum v6), .int .i64 (xnum v7), .slice none 0 0]) := hT7.out.put 7 _
  have g7 : u7.cell? ⟨gm, 7, none⟩ = some (.int .i64 0) := hT7.out.msg.cell 7
  have z7 := hT7.out.msg.fz 7
  clear hs hC hG hC1 hS7 hU7
  dsimp only
  go_wp2_with fail
  refine (xnum_any v7 _ (by rw [← hv7.out]; exact uV_lt l hlb.out 7)).mono ?_
  rintro e ux ⟨rfl, hux⟩
  obtain rfl := hux.symm
  clear hux
  have hpn : p8 ≤ N := hT7.out.cur.2.2.2.1
  have r1 : u7.cell? ⟨rc, 1, none⟩ = some (.int .i64 (p8 : Nat)) := hT7.out.cur.1.c1
  have ne1 : rc ≠ gm := by have := hT7.out.o2; omega
  have ne2 : gm ≠ rc := Ne.symm ne1
  have e9 : IntKind.i64.wrap ((N : Int) - ((p8 : Nat) : Int)) = ((N - p8 : Nat) : Int) := by have := hn12.out; rw [IntKind.wrap_i64]; omega
  clear hT7 hpn
  go_wp2_with fail
  clear g7 z7 r1 e9
  generalize u7.setCell ⟨gm, 7, none⟩ (.int .i64 (xnum v7)) = W8 at *
  refine (rtake_rest rc p8 y8 f8 N c1 a1 l _ hS8.out.cur (fun hy hn => by
    have h1 := hU8.out
    rw [hnone.out hn] at h1
    have h2 := us_nil
    rw [h1] at h2
    exact h2 hy)).mono ?_
  rintro e ut ⟨a9, k9, q9, rfl, hB3, hC3, hG3⟩
  obtain ⟨p9, hC9⟩ := hC3.out
  have hT8 : Hid (Rd8 w ut r rc gm a1 N c1 l p9 y8 f8 #[.int .i64 (xnum v0), .int .u64 (v1 : Nat), .int .i64 (xnum v2), .int .i64 (xnum v3), .int .i64 (xnum v4), .int .u64 (v5 : Nat), .int .i64 (xnum v6), .int .i64 (xnum v7), .slice none 0 0]) := hS8.out.call hC9 hG3.out
  have hS9 : Hid (Rd8 w (ut.setCell ⟨gm, 8, none⟩ (.slice a9 k9 q9)) r rc gm a1 N c1 l p9 y8 f8 #[.int .i64 (xnum v0), .int .u64 (v1 : Nat), .int .i64 (xnum v2), .int .i64 (xnum v3), .int .i64 (xnum v4), .int .u64 (v5 : Nat), .int .i64 (xnum v6), .int .i64 (xnum v7), .slice a9 k9 q9]) := hT8.out.put 8 _
  have hB9 : Hid (Bytes (ut.setCell ⟨gm, 8, none⟩ (.slice a9 k9 q9)) a9 (if y8 = 0 then l.drop p8 else [])) := hB3.out.1.k2 (K2.set (q := gm) (g := gm) ut 8 _) (fun x hx => by have h1 := hB3.out.2.2.1 x hx; have h2 := hS8.out.msg.lt; exact ⟨by omega, by omega⟩)
  have hk9 : Hid ((if y8 = 0 then l.drop p8 else []).length = k9) := hB3.out.2.1
  have hq9 : Hid (a9 = none → q9 = 0) := hB3.out.2.2.2
  have hlg : Hid (∀ x, a9 = some x → x.block ≠ r) := fun x hx e => by have h1 := hB3.out.2.2.1 x hx; have h2 := hS8.out.msg.lt; have h3 := hS8.out.o1; have h4 := hS8.out.o2; omega
  have g8 : ut.cell? ⟨gm, 8, none⟩ = some (.slice none 0 0) := hT8.out.msg.cell 8
  have z8 := hT8.out.msg.fz 8
  have r2 : ut.cell? ⟨rc, 2, none⟩ = some (.int .i64 (y8 : Nat)) := hT8.out.cur.1.c2
  have ne3 : r ≠ gm := by have := hT8.out.o1; have := hT8.out.o2; omega
  have ne4 : gm ≠ r := Ne.symm ne3
  clear hC3 hG3 hC9 hS8 hB3
  by_cases hy : y8 = 0
  · subst hy
    have dy : (((0 : Nat) : Int) != 0) = false := by simp
    have m0 : ut.cell? ⟨gm, 0, none⟩ = some (.int .i64 (xnum v0)) := hT8.out.msg.cell 0
    have m1 : ut.cell? ⟨gm, 1, none⟩ = some (.int .u64 (v1 : Nat)) := hT8.out.msg.cell 1
    have m2 : ut.cell? ⟨gm, 2, none⟩ = some (.int .i64 (xnum v2)) := hT8.out.msg.cell 2
    have m3 : ut.cell? ⟨gm, 3, none⟩ = some (.int .i64 (xnum v3)) := hT8.out.msg.cell 3
    have m4 : ut.cell? ⟨gm, 4, none⟩ = some (.int .i64 (xnum v4)) := hT8.out.msg.cell 4
    have m5 : ut.cell? ⟨gm, 5, none⟩ = some (.int .u64 (v5 : Nat)) := hT8.out.msg.cell 5
    have m6 : ut.cell? ⟨gm, 6, none⟩ = some (.int .i64 (xnum v6)) := hT8.out.msg.cell 6
    have m7 : ut.cell? ⟨gm, 7, none⟩ = some (.int .i64 (xnum v7)) := hT8.out.msg.cell 7
    clear hT8
    go_wp2_with fail
    generalize ut.setCell ⟨gm, 8, none⟩ (.slice a9 k9 q9) = W9 at *
    clear g8 z8 r2 m0 m1 m2 m3 m4 m5 m6 m7
    have hx0 : Hid (xM l = ⟨xnum v0, v1, xnum v2, xnum v3, xnum v4, v5, xnum v6, xnum v7, l.drop p8⟩) := by
      show _ = _
      unfold xM
      rw [hv0.out, hv1.out, hv2.out, hv3.out, hv4.out, hv5.out, hv6.out, hv7.out, hU8.out]
      rfl
    obtain ⟨x1, x2⟩ := xM_may l hlb.out
    have kM : Calls Tryz.prog 103 #[.agg #[.int .i64 (xnum v0), .int .u64 (v1 : Nat), .int .i64 (xnum v2), .int .i64 (xnum v3), .int .i64 (xnum v4), .int .u64 (v5 : Nat), .int .i64 (xnum v6), .int .i64 (xnum v7), .slice a9 k9 q9]] W9 fun e w' => e = .returned (.bool (mayM (xM l))) ∧ Hid (Below W9.heap.size W9 w') := by
      rw [hx0.out]
      exact xmay_any ⟨xnum v0, v1, xnum v2, xnum v3, xnum v4, v5, xnum v6, xnum v7, l.drop p8⟩ a9 k9 q9 W9
    cases hM : mayM (xM l) with
    | false =>
      rw [hM] at kM
      have hE : Hid (∀ w', UpX w' zs (.returned (.tuple #[.agg #[.int .i64 0, .int .u64 0, .int .i64 0, .int .i64 0, .int .i64 0, .int .u64 0, .int .i64 0, .int .i64 0, .slice none 0 0], .int .i64 5]))) := fun w' => by
        obtain ⟨q1, q2⟩ := up_five hwf.out hL.out (fun k => by rw [x1] at hM; rw [hM] at k; exact absurd k.2 (by decide))
        exact upx_zero q1 q2
      clear x1 x2 hM
      refine kM.mono ?_
      rintro e wx ⟨rfl, hbx⟩
      have hres := hS9.out.res.kept hbx.out
      have hbl : Hid (Below r w wx) := hS9.out.bel.trans (hbx.out.mono (by have := hS9.out.res.lt; omega))
      have c0 := hres.cell 0
      have c1 := hres.cell 1
      have c2 := hres.cell 2
      have c3 := hres.cell 3
      have c4 := hres.cell 4
      have c5 := hres.cell 5
      have c6 := hres.cell 6
      have c7 := hres.cell 7
      have c8 := hres.cell 8
      have f := hres.fz
      clear hres hbx kM hS9 hB9 hk9 hU8 hv0 hv1 hv2 hv3 hv4 hv5 hv6 hv7 hx0
      go_wp2
      refine bodyPost_ret (v := .tuple #[.agg #[.int .i64 0, .int .u64 0, .int .i64 0, .int .i64 0, .int .i64 0, .int .u64 0, .int .i64 0, .int .i64 0, .slice none 0 0], .int .i64 5]) (by simp [results, Tryz.results70, go_sem, *]) rfl ⟨hE.out _, ?_⟩
      show Below w.heap.size w _
      rw [hr.out]
      repeat (refine Below.setCell ?_ (by exact Nat.le_refl _) _)
      exact hbl.out
    | true =>
      rw [hM] at kM
      have hE : Hid (upE zs = 0 ∧ outM zs = ⟨xnum v0, v1, xnum v2, xnum v3, xnum v4, v5, xnum v6, xnum v7, l.drop p8⟩) := by
        obtain ⟨q1, q2⟩ := up_zero hwf.out hL.out ⟨by rw [hU8.out], by rw [← x1]; exact hM⟩
        exact ⟨q1, by rw [q2, ← x2 hM, hx0.out]⟩
      clear x1 x2 hM
      refine kM.mono ?_
      rintro e wx ⟨rfl, hbx⟩
      have hres := hS9.out.res.kept hbx.out
      have hmsg := hS9.out.msg.kept hbx.out
      have hbl : Hid (Below r w wx) := hS9.out.bel.trans (hbx.out.mono (by have := hS9.out.res.lt; omega))
      have hBx : Hid (Bytes wx a9 (l.drop p8)) := hB9.out.kept hbx.out
      have hkx : Hid ((l.drop p8).length = k9) := hk9.out
      have c0 := hres.cell 0
      have c1 := hres.cell 1
      have c2 := hres.cell 2
      have c3 := hres.cell 3
      have c4 := hres.cell 4
      have c5 := hres.cell 5
      have c6 := hres.cell 6
      have c7 := hres.cell 7
      have c8 := hres.cell 8
      have m0 : wx.cell? ⟨gm, 0, none⟩ = some (.int .i64 (xnum v0)) := hmsg.cell 0
      have m1 : wx.cell? ⟨gm, 1, none⟩ = some (.int .u64 (v1 : Nat)) := hmsg.cell 1
      have m2 : wx.cell? ⟨gm, 2, none⟩ = some (.int .i64 (xnum v2)) := hmsg.cell 2
      have m3 : wx.cell? ⟨gm, 3, none⟩ = some (.int .i64 (xnum v3)) := hmsg.cell 3
      have m4 : wx.cell? ⟨gm, 4, none⟩ = some (.int .i64 (xnum v4)) := hmsg.cell 4
      have m5 : wx.cell? ⟨gm, 5, none⟩ = some (.int .u64 (v5 : Nat)) := hmsg.cell 5
      have m6 : wx.cell? ⟨gm, 6, none⟩ = some (.int .i64 (xnum v6)) := hmsg.cell 6
      have m7 : wx.cell? ⟨gm, 7, none⟩ = some (.int .i64 (xnum v7)) := hmsg.cell 7
      have m8 : wx.cell? ⟨gm, 8, none⟩ = some (.slice a9 k9 q9) := hmsg.cell 8
      have f := hres.fz
      clear hres hmsg hbx kM hS9 hB9 hk9 hU8 hv0 hv1 hv2 hv3 hv4 hv5 hv6 hv7 hx0
      go_wp2
      refine bodyPost_ret (v := .tuple #[.agg #[.int .i64 (xnum v0), .int .u64 (v1 : Nat), .int .i64 (xnum v2), .int .i64 (xnum v3), .int .i64 (xnum v4), .int .u64 (v5 : Nat), .int .i64 (xnum v6), .int .i64 (xnum v7), .slice a9 k9 q9], .int .i64 0]) (by simp [results, Tryz.results70, go_sem, *]) rfl ⟨⟨a9, k9, q9, by rw [hE.out.1, hE.out.2]; rfl, ?_, by rw [hE.out.2]; exact hkx.out, hq9.out⟩, ?_⟩
      · rw [hE.out.2]
        have key : ∀ (y : World) (j : Nat) (v : Value), Bytes y a9 (l.drop p8) → Bytes (y.setCell ⟨r, j, none⟩ v) a9 (l.drop p8) := fun y j v h => h.k2 (K2.set (q := r) (g := r) y j v) (fun x hx => ⟨hlg.out x hx, hlg.out x hx⟩)
        repeat (refine key _ _ _ ?_)
        exact hBx.out
      · show Below w.heap.size w _
        rw [hr.out]
        repeat (refine Below.setCell ?_ (by exact Nat.le_refl _) _)
        exact hbl.out
  · have dy : (((y8 : Nat) : Int) != 0) = true := by simp; omega
    have hE : Hid (∀ w', UpX w' zs (.returned (.tuple #[.agg #[.int .i64 0, .int .u64 0, .int .i64 0, .int .i64 0, .int .i64 0, .int .u64 0, .int .i64 0, .int .i64 0, .slice none 0 0], .int .i64 5]))) := fun w' => by
      obtain ⟨q1, q2⟩ := up_five hwf.out hL.out (fun k => by rw [hU8.out] at k; exact hy k.1)
      exact upx_zero q1 q2
    have hbl : Hid (Below r w ut) := hT8.out.bel
    have hres := hT8.out.res
    have c0 := hres.cell 0
    have c1 := hres.cell 1
    have c2 := hres.cell 2
    have c3 := hres.cell 3
    have c4 := hres.cell 4
    have c5 := hres.cell 5
    have c6 := hres.cell 6
    have c7 := hres.cell 7
    have c8 := hres.cell 8
    have f := hres.fz
    have hle : Hid (r ≤ gm) := by have := hT8.out.o1; have := hT8.out.o2; show _ ≤ _; omega
    clear hres hT8 hS9 hB9 hk9 hU8 hv0 hv1 hv2 hv3 hv4 hv5 hv6 hv7 hy
    go_wp2
    refine bodyPost_ret (v := .tuple #[.agg #[.int .i64 0, .int .u64 0, .int .i64 0, .int .i64 0, .int .i64 0, .int .u64 0, .int .i64 0, .int .i64 0, .slice none 0 0], .int .i64 5]) (by simp [results, Tryz.results70, go_sem, *]) rfl ⟨hE.out _, ?_⟩
    show Below w.heap.size w _
    rw [hr.out]
    repeat (refine Below.setCell ?_ (by first | exact Nat.le_refl _ | exact hle.out) _)
    exact hbl.out
end Go.Proofs.YtfipdldoklkciaaGreat
namespace Go.Proofs.YtfipdldoklkciaaGreat
open Go.RowKit
set_option linter.unusedVariables false
theorem ynext_q {w : World} {lb : Nat} {E : Nat → Prop} {x : Nat → Value} {d : Ds} {v : Value} (h : XLk w lb x d v) (hr : RowD w E v d.L) (hO : Dok d) (n : Nat) :
    Calls Tryz.prog 96 #[.pointer (some ⟨lb, 3, none⟩)] (w.drewN n) fun e w' => e = .returned (.int .i64 (d.base + d.L.length)) ∧ ∃ m, w' = (w.drewN n).drewN m := by
  obtain ⟨a, c, rfl, h1, h2, h3⟩ := hr.form
  have c4 : w.cell? ⟨lb, 4, none⟩ = some (.int .i64 d.base) := h.cell 4
  have c6 : w.cell? ⟨lb, 6, none⟩ = some (.slice a d.L.length c) := h.cell 6
  have wi : IntKind.i64.wrap (d.base + (d.L.length : Int)) = d.base + d.L.length := by rw [IntKind.wrap_i64]; have := hO.l1; have := hO.l2; have := hO.b1; omega
  clear h hr hO
  go_enter Tryz.func96, Tryz.ntmps96
  go_wp2
  go_quiet (fail)
  go_wp2
  go_ret
  exact ⟨rfl, nq, rfl⟩
set_option maxHeartbeats 1000000 in
theorem ypush_wait {w : World} {lb : Nat} {E : Nat → Prop} {x : Nat → Value} {d : Ds} {v : Value} (a : Option Addr) (n c : Nat) (now : Int) (h : XLk w lb x d v) (hr : RowD w E v d.L) (hO : Dok d) (hl : n ≤ 1200) (ht : timeB now = true) (hw : d.lim < d.base + (d.L.length : Int) ∨ d.win ≤ (d.L.length : Int)) :
    Calls Tryz.prog 64 #[.pointer (some ⟨lb, 3, none⟩), .slice a n c, .int .i64 now] w fun e w' => e = .returned (.tuple #[.int .i64 0, .int .i64 13]) ∧ Hid (Below w.heap.size w w') := by
  have k0 := ytime_any now w
  rw [ht] at k0
  have kN := ynext_q h hr hO
  have dl : decide ((n : Int) > 1200) = false := by simp; omega
  have c3 : w.cell? ⟨lb, 3, none⟩ = some (.int .i64 d.win) := h.cell 3
  have c5 : w.cell? ⟨lb, 5, none⟩ = some (.int .i64 d.lim) := h.cell 5
  have c6 : w.cell? ⟨lb, 6, none⟩ = some v := h.cell 6
  obtain ⟨aL, cL, rfl, -⟩ := hr.form
  by_cases h1 : d.lim < d.base + (d.L.length : Int)
  · have dN : decide (d.base + (d.L.length : Int) > d.lim) = true := by simp; omega
    clear h hr hO hl ht hw h1
    go_enter Tryz.func64, Tryz.ntmps64
    go_wp2_with (go_at_call 95; refine k0.mono ?_; rintro e w1 ⟨rfl, hw1⟩; obtain rfl := hw1.symm; clear hw1 k0)
    go_quiet ((go_at_call 96; exact Calls.quiet_of (kN _)))
    go_wp2_with fail
    go_ret2
    exact ⟨rfl, dn_b w _⟩
  · have dN : decide (d.base + (d.L.length : Int) > d.lim) = false := by simp; omega
    have dW : decide ((d.L.length : Int) ≥ d.win) = true := by simp; omega
    clear h hr hO hl ht hw h1
    go_enter Tryz.func64, Tryz.ntmps64
    go_wp2_with (go_at_call 95; refine k0.mono ?_; rintro e w1 ⟨rfl, hw1⟩; obtain rfl := hw1.symm; clear hw1 k0)
    go_quiet ((go_at_call 96; exact Calls.quiet_of (kN _)))
    go_wp2_with fail
    go_ret2
    exact ⟨rfl, dn_b w _⟩
theorem yres_bad {w : World} {lb : Nat} {E : Nat → Prop} {x : Nat → Value} {d : Ds} {v : Value} (ack credit now : Int) (h : XLk w lb x d v) (hr : RowD w E v d.L) (hO : Dok d) (ht : timeB now = true) (hm : mayD d ack credit = false) :
    Calls Tryz.prog 75 #[.pointer (some ⟨lb, 3, none⟩), .int .i64 ack, .int .i64 credit, .int .i64 now] w fun e w' => e = .returned (.int .i64 1) ∧ Hid (Below w.heap.size w w') := by
  have k1 := yacked_any ack credit h hr hO
  have k0 := ytime_any now w
  rw [ht] at k0
  unfold mayD at hm
  rw [hm] at k1
  clear h hr hO hm ht
  go_enter Tryz.func75, Tryz.ntmps75
  go_wp2_with (first | (go_at_call 95; refine k0.mono ?_; rintro e w1 ⟨rfl, hw1⟩; obtain rfl := hw1.symm; clear hw1 k0) | (go_at_call 104; refine k1.mono ?_; rintro e w1 ⟨rfl, hb1⟩))
  go_ret
  exact ⟨rfl, hb1⟩
theorem ynew_yes (win : Int) (w : World) (h1 : 1 ≤ win) (h2 : win ≤ 32) :
    Calls Tryz.prog 22 #[.int .i64 win] w fun e w' => e = .returned (.tuple #[.agg #[.int .i64 win, .int .i64 1, .int .i64 0, .slice none 0 0], .int .i64 0]) ∧ Hid (Below w.heap.size w w') := by
  have d0 : decide (win < 1) = false := by simp; omega
  have d1 : decide (win > 32) = false := by simp; omega
  have hB : Hid (Below w.heap.size w (w.alloc (.cells #[.int .i64 win, .int .i64 1, .int .i64 0, .slice none 0 0] 30))) := (Below.refl _ _).alloc (Nat.le_refl _) _
  clear h1 h2
  go_enter Tryz.func22, Tryz.ntmps22
  go_wp2
  refine bodyPost_ret (v := .tuple #[.agg #[.int .i64 win, .int .i64 1, .int .i64 0, .slice none 0 0], .int .i64 0]) (by simp [results, Tryz.results22, go_sem, *]) rfl ⟨rfl, hB⟩
theorem dok_done : ∀ (n : Nat) {d : Ds}, d.L.length = n → Dok d → Dok (doneD d)
  | 0, d, hn, h => by
    have : d.L = [] := List.eq_nil_of_length_eq_zero hn
    rw [done_stop (by rw [this]; rfl)]
    exact h
  | n + 1, d, hn, h => by
    cases hL : d.L with
    | nil => rw [hL] at hn; simp at hn
    | cons e L =>
      cases ht : e.there with
      | false => rw [done_stop (by rw [hL, popL, if_neg (by rw [ht]; decide)])]; exact h
      | true =>
        rw [← done_tail hL ht]
        refine dok_done n ?_ (dok_tail h hL)
        rw [hL] at hn
        simpa using hn
theorem dok_res {d : Ds} {ack credit now : Int} (h : Dok d) (ht : timeB now = true) (hm : mayD d ack credit = true) : Dok (resD d ack credit now) := by
  have hT : 0 ≤ now ∧ now ≤ 1099511627776 := by unfold timeB at ht; simpa using ht
  simp only [mayD, Bool.and_eq_true, decide_eq_true_eq] at hm
  have h1 : Dok (resM d ack now) := dok_map2 h (renD ack now) fun z e he => ⟨he.1, he.2.1, hT.1, by have := hT.2; show now ≤ _; omega, by show (1 : Int) ≤ 1; omega, by show (1 : Int) ≤ 64; omega⟩
  have h2 := dok_done _ rfl h1
  have hn := done_next (resM d ack now)
  have hl : (resM d ack now).L.length = d.L.length := by unfold resM; rw [List.length_mapIdx]
  rw [hl] at hn
  have hb : (resM d ack now).base = d.base := rfl
  rw [hb] at hn
  obtain ⟨w1, w2, b1, few, l1, l2, ent⟩ := h2
  have := h.l1; have := h.l2
  exact ⟨w1, w2, b1, few, by show (doneD (resM d ack now)).base + ((doneD (resM d ack now)).L.length : Int) - 1 ≤ max credit (d.base + (d.L.length : Int) - 1); omega, by show max credit (d.base + (d.L.length : Int) - 1) ≤ _; omega, ent⟩
end Go.Proofs.YtfipdldoklkciaaGreat
namespace Go.Proofs.YtfipdldoklkciaaGreat
open Go.RowKit
set_option linter.unusedVariables false
theorem OwnsB.low {w : World} {b b' : Nat} {v : Value} {zs : List Int} (h : OwnsB w b v zs) (hb : b' ≤ b) : OwnsB w b' v zs := by
  obtain ⟨⟨h1, h2⟩, h3⟩ := h
  refine ⟨⟨h1, ?_⟩, h3⟩
  rcases h2 with h2 | ⟨g, cap, cur, hv, hg, r⟩
  · exact .inl h2
  · exact .inr ⟨g, cap, cur, hv, by omega, r⟩
theorem ownsRow_low {w : World} {b b' e k n : Nat} {v : Value} {cs : List Value} (h : w.ownsRow b e k v n cs) (hb : b' ≤ b) : w.ownsRow b' e k v n cs := by
  obtain ⟨h1, h2⟩ := h
  refine ⟨h1, ?_⟩
  rcases h2 with h2 | ⟨g, cap, cur, hv, hg, r⟩
  · exact .inl h2
  · exact .inr ⟨g, cap, cur, hv, by omega, r⟩
/-- What may stand: did it come, its slice, its bytes. -/
abbrev Cm := Bool × Value × List Int
def RowW (cs : List Value) (L : List Cm) : Prop := cs.length = L.length * 2 ∧ ∀ k p, L[k]? = some p → cs[k * 2]? = some (.bool p.1) ∧ cs[k * 2 + 1]? = some p.2.1
/-- THE SLICE v HOLDS THESE, IN NEW MEMORY. -/
def OwnsC (w : World) (base : Nat) (v : Value) (L : List Cm) : Prop := (∃ cs, w.ownsRow base 86 2 v L.length cs ∧ RowW cs L) ∧ ∀ p ∈ L, OwnsB w base p.2.1 p.2.2
theorem OwnsC.keep {w w' : World} {base : Nat} {v : Value} {L : List Cm} (h : OwnsC w base v L) (hb : ∀ b cur e, base ≤ b → w.heap[b]? = some (.cells cur e (0, 0)) → e = 86 ∨ e = 5 → w'.heap[b]? = w.heap[b]?) : OwnsC w' base v L := by
  obtain ⟨⟨cs, h1, h2⟩, h3⟩ := h
  exact ⟨⟨cs, ownsRow_keep h1 (fun b cur k1 k2 => hb b cur _ k1 k2 (.inl rfl)), h2⟩, fun p hp => ⟨ownsRow_keep (h3 p hp).1 (fun b cur k1 k2 => hb b cur _ k1 k2 (.inr rfl)), (h3 p hp).2⟩⟩
theorem OwnsC.kept {w w' : World} {base : Nat} {v : Value} {L : List Cm} (h : OwnsC w base v L) (hb : Below w.heap.size w w') : OwnsC w' base v L :=
  h.keep fun b cur e _ h2 _ => hb.block b (Array.getElem?_eq_some_iff.1 h2).1
theorem infoC : (Tryz.prog.info? 86).map (fun i => (i.zero, i.size, i.bytes)) = some (some (.agg #[.bool false, .slice none 0 0]), 2, 32) := by kernel_rfl
theorem OwnsC.len {w : World} {D g n c : Nat} {L : List Cm} (h : OwnsC w D (.slice (some ⟨g, 0, none⟩) n c) L) : n = L.length := by
  obtain ⟨⟨cs, h1, h2⟩, h3⟩ := h
  rcases h1.2 with ⟨hv, _⟩ | ⟨g', cap, cur, hv, _⟩
  · cases hv
  · cases hv; rfl
theorem OwnsC.cell {w : World} {D g n c : Nat} {L : List Cm} (h : OwnsC w D (.slice (some ⟨g, 0, none⟩) n c) L) {k : Nat} {p : Cm} (hk : L[k]? = some p) :
    w.cell? ⟨g, k * 2, none⟩ = some (.bool p.1) ∧ w.cell? ⟨g, k * 2 + 1, none⟩ = some p.2.1 := by
  obtain rfl := h.len
  obtain ⟨⟨cs, h1, h2⟩, h3⟩ := h
  have hlt : k < L.length := (List.getElem?_eq_some_iff.1 hk).1
  have e := h2.2 k p hk
  exact ⟨by rw [h1.cellAt (k * 2) (by omega)]; exact e.1, by rw [h1.cellAt (k * 2 + 1) (by omega)]; exact e.2⟩
theorem OwnsC.fz {w : World} {D g n c : Nat} {L : List Cm} (h : OwnsC w D (.slice (some ⟨g, 0, none⟩) n c) L) (j : Nat) : w.frozen? ⟨g, j, none⟩ = false := by
  obtain rfl := h.len
  obtain ⟨⟨cs, h1, h2⟩, h3⟩ := h
  exact h1.frozenAt j
theorem OwnsC.blk {w : World} {D g n c : Nat} {L : List Cm} (h : OwnsC w D (.slice (some ⟨g, 0, none⟩) n c) L) : D ≤ g ∧ ∃ cs, Blk w g cs 86 := by
  obtain ⟨⟨cs, h1, h2⟩, h3⟩ := h
  rcases h1.2 with ⟨hv, _⟩ | ⟨g', cap, cur, hv, hg, hc, _⟩
  · cases hv
  · cases hv
    exact ⟨hg, cur, hc⟩
/-- One element is stored anew. -/
theorem OwnsC.put {w : World} {D g n c : Nat} {L : List Cm} (h : OwnsC w D (.slice (some ⟨g, 0, none⟩) n c) L) {k : Nat} (hk : k < L.length) (p : Cm) (hp : OwnsB w D p.2.1 p.2.2) :
    OwnsC ((w.setCell ⟨g, k * 2, none⟩ (.bool p.1)).setCell ⟨g, k * 2 + 1, none⟩ p.2.1) D (.slice (some ⟨g, 0, none⟩) n c) (L.set k p) := by
  obtain ⟨hD, cg, hcg⟩ := h.blk
  obtain rfl := h.len
  obtain ⟨⟨cs, h1, h2⟩, h3⟩ := h
  have hB : ∀ q : Cm, OwnsB w D q.2.1 q.2.2 → OwnsB ((w.setCell ⟨g, k * 2, none⟩ (.bool p.1)).setCell ⟨g, k * 2 + 1, none⟩ p.2.1) D q.2.1 q.2.2 := fun q hq => ⟨ownsRow_keep hq.1 (fun b cur k1 k2 => by
    have hne : b ≠ g := fun e => by
      subst e
      unfold Blk at hcg
      rw [hcg] at k2
      cases k2
    rw [Below.heap_setCell _ _ _ _ (by simpa using hne), Below.heap_setCell _ _ _ _ (by simpa using hne)]), hq.2⟩
  refine ⟨⟨(cs.set (k * 2) (.bool p.1)).set (k * 2 + 1) p.2.1, ?_, by simp [h2.1], fun j q hq => ?_⟩, fun q hq => ?_⟩
  · have := ((h1.stored (k * 2) (.bool p.1)).1.stored (k * 2 + 1) p.2.1).1
    rw [List.length_set]
    exact this
  · have hl := h2.1
    by_cases e : j = k
    · subst e
      rw [List.getElem?_set_self hk] at hq
      cases hq
      exact ⟨by rw [List.getElem?_set_ne (by omega), List.getElem?_set_self (by omega)], by rw [List.getElem?_set_self (by rw [List.length_set]; omega)]⟩
    · rw [List.getElem?_set_ne (by omega)] at hq
      have e2 := h2.2 j q hq
      exact ⟨by rw [List.getElem?_set_ne (by omega), List.getElem?_set_ne (by omega)]; exact e2.1, by rw [List.getElem?_set_ne (by omega), List.getElem?_set_ne (by omega)]; exact e2.2⟩
  · rcases List.mem_or_eq_of_mem_set hq with k1 | k1
    · exact hB q (h3 q k1)
    · rw [k1]; exact hB p hp
theorem made_row (n : Nat) : RowW (madeCells (#[.bool false, .slice none 0 0] : Array Value) (n * 2)).toList (List.replicate n (false, .slice none 0 0, [])) := by
  refine ⟨by rw [Array.length_toList, size_madeCells, List.length_replicate], fun k p hk => ?_⟩
  have hlt : k < n := by have := (List.getElem?_eq_some_iff.1 hk).1; simpa using this
  rw [List.getElem?_replicate, if_pos hlt] at hk
  cases hk
  have e0 : k * 2 % 2 = 0 := by omega
  have e1 : (k * 2 + 1) % 2 = 1 := by omega
  constructor
  · simp [madeCells, show k * 2 < n * 2 by omega, e0]
  · simp [madeCells, show k * 2 + 1 < n * 2 by omega, e1]
theorem mnew_no (win : Int) (w : World) (h : win < 1 ∨ 32 < win) :
    Calls Tryz.prog 21 #[.int .i64 win] w fun e w' => e = .returned (.tuple #[.agg #[.int .i64 0, .int .i64 0, .slice none 0 0], .int .i64 1]) ∧ Hid (Below w.heap.size w w') := by
  by_cases h0 : win < 1
  · have d0 : decide (win < 1) = true := by simp; omega
    clear h h0
    go_enter Tryz.func21, Tryz.ntmps21
    go_wp2
    refine bodyPost_ret (v := .tuple #[.agg #[.int .i64 0, .int .i64 0, .slice none 0 0], .int .i64 1]) (by simp [results, Tryz.results21, go_sem, *]) rfl ⟨rfl, (Below.refl _ _).alloc (Nat.le_refl _) _⟩
  · have d0 : decide (win < 1) = false := by simp; omega
    have d1 : decide (win > 32) = true := by simp; omega
    clear h h0
    go_enter Tryz.func21, Tryz.ntmps21
    go_wp2
    refine bodyPost_ret (v := .tuple #[.agg #[.int .i64 0, .int .i64 0, .slice none 0 0], .int .i64 1]) (by simp [results, Tryz.results21, go_sem, *]) rfl ⟨rfl, (Below.refl _ _).alloc (Nat.le_refl _) _⟩
theorem OwnsC.low {w : World} {b b' : Nat} {v : Value} {L : List Cm} (h : OwnsC w b v L) (hb : b' ≤ b) : OwnsC w b' v L := by
  obtain ⟨⟨cs, h1, h2⟩, h3⟩ := h
  exact ⟨⟨cs, ownsRow_low h1 hb, h2⟩, fun p hp => (h3 p hp).low hb⟩
theorem OwnsC.away {w : World} {b g j : Nat} {v u : Value} {L : List Cm} (h : OwnsC w b v L) (hg : g < b) : OwnsC (w.setCell ⟨g, j, none⟩ u) b v L :=
  h.keep fun k cur e h1 h2 _ => Below.heap_setCell _ _ _ _ (by show k ≠ g; omega)
theorem mnew_yes (n : Nat) (w : World) (h1 : 1 ≤ n) (h2 : n ≤ 32) :
    Calls Tryz.prog 21 #[.int .i64 (n : Int)] w fun e w' => ∃ g, e = .returned (.tuple #[.agg #[.int .i64 (n : Int), .int .i64 0, .slice (some ⟨g, 0, none⟩) n n], .int .i64 0]) ∧ Hid (OwnsC w' w.heap.size (.slice (some ⟨g, 0, none⟩) n n) (List.replicate n (false, .slice none 0 0, []))) ∧ Hid (Below w.heap.size w w') := by
  have d0 : decide ((n : Int) < 1) = false := by simp; omega
  have d1 : decide ((n : Int) > 32) = false := by simp; omega
  obtain ⟨i, hi, hz, hsz, hby⟩ := info_parts infoC
  have hmk := fun (x : World) (hx : w.heap.size + 1 ≤ x.heap.size) => run_make_full (P := Tryz.prog) x (w.heap.size + 1) 31 86 i _ 2 Tryz.underlying31 hi hz hsz .i64 .i64 n (by rw [hby]; omega) (by unfold maxLen; omega) hx
  obtain ⟨x, hx⟩ : ∃ x, x = w.alloc (.cells #[.int .i64 0, .int .i64 0, .slice none 0 0] 33) := ⟨_, rfl⟩
  obtain ⟨w2, hm, ho, hg⟩ := hmk x (by rw [hx]; simp)
  have hB1 : Below w.heap.size w x := by rw [hx]; exact (Below.refl _ _).alloc (Nat.le_refl _) _
  have hB2 : Below w.heap.size w w2 := hB1.grown hg (by rw [hx]; simp) (fun k hk => by cases hk)
  have hbk : Blk w2 w.heap.size #[.int .i64 0, .int .i64 0, .slice none 0 0] 33 := by
    have : Blk x w.heap.size #[.int .i64 0, .int .i64 0, .slice none 0 0] 33 := by rw [hx]; exact blk_new _ _ _
    unfold Blk
    rw [hg.block _ this.lt (by simp)]
    exact this
  have hxs : x.heap.size = w.heap.size + 1 := by rw [hx]; simp
  rw [hxs] at hm ho
  have hOO : Hid (OwnsC w2 (w.heap.size + 1) (.slice (some ⟨w.heap.size + 1, 0, none⟩) n n) (List.replicate n (false, .slice none 0 0, []))) := by
    refine ⟨⟨_, by rw [List.length_replicate]; exact ho, made_row n⟩, fun p hp => ?_⟩
    obtain ⟨_, rfl⟩ := List.mem_replicate.1 hp
    exact ownsB_nil _ _
  have hBB : Hid (Below w.heap.size w w2) := hB2
  have y0 := hbk.cell 0
  have y1 := hbk.cell 1
  have y2 := hbk.cell 2
  have z0 := hbk.fz 0
  have z1 := hbk.fz 1
  have z2 := hbk.fz 2
  have hbkH : Hid (Blk w2 w.heap.size #[.int .i64 0, .int .i64 0, .slice none 0 0] 33) := hbk
  rw [hx] at hm
  clear hmk ho hg hB1 hB2 hbk hx hxs
  go_enter Tryz.func21, Tryz.ntmps21
  go_wp2
  refine bodyPost_ret (v := .tuple #[.agg #[.int .i64 (n : Int), .int .i64 0, .slice (some ⟨w.heap.size + 1, 0, none⟩) n n], .int .i64 0]) (by simp [results, Tryz.results21, go_sem, *]) rfl ⟨_, rfl, ?_, ?_⟩
  · exact (((hOO.out.away (by omega)).away (by omega)).away (by omega)).low (by omega)
  · exact ((hBB.out.setCell (Nat.le_refl _) _).setCell (Nat.le_refl _) _).setCell (Nat.le_refl _) _
/-- THE ROW v HOLDS WHAT CAME, in blocks of E. -/
structure RowR (w : World) (E : Nat → Prop) (v : Value) (L : List Cm) : Prop where
  own : OwnsC w 0 v L
  at_ : ∀ g, v.ownBlock = some g → E g
theorem ownsRow_keepE {w w' : World} {E : Nat → Prop} {base e k n : Nat} {v : Value} {cs : List Value} (h : w.ownsRow base e k v n cs) (hE : ∀ g, v.ownBlock = some g → E g) (hb : ∀ b cur, E b → w.heap[b]? = some (.cells cur e (0, 0)) → w'.heap[b]? = w.heap[b]?) : w'.ownsRow base e k v n cs := by
  obtain ⟨h1, h2⟩ := h
  refine ⟨h1, ?_⟩
  rcases h2 with h2 | ⟨g, cap, cur, hv, hg, hc, r⟩
  · exact .inl h2
  · exact .inr ⟨g, cap, cur, hv, hg, by rw [hb g cur (hE g (by rw [hv]; rfl)) hc]; exact hc, r⟩
theorem RowR.keep {w w' : World} {E : Nat → Prop} {v : Value} {L : List Cm} (h : RowR w E v L) (hb : ∀ b cur e, w.heap[b]? = some (.cells cur e (0, 0)) → (e = 86 ∧ E b) ∨ e = 5 → w'.heap[b]? = w.heap[b]?) : RowR w' E v L := by
  obtain ⟨⟨⟨cs, h1, h2⟩, h3⟩, h4⟩ := h
  exact ⟨⟨⟨cs, ownsRow_keepE h1 h4 (fun b cur k1 k2 => hb b cur _ k2 (.inl ⟨rfl, k1⟩)), h2⟩, fun p hp => ⟨ownsRow_keep (h3 p hp).1 (fun b cur _ k2 => hb b cur _ k2 (.inr rfl)), (h3 p hp).2⟩⟩, h4⟩
theorem RowR.kept {w w' : World} {E : Nat → Prop} {v : Value} {L : List Cm} (h : RowR w E v L) (hb : Below w.heap.size w w') : RowR w' E v L :=
  h.keep fun b cur e h2 _ => hb.block b (Array.getElem?_eq_some_iff.1 h2).1
theorem ownC_lt {w : World} {base e k n : Nat} {v : Value} {cs : List Value} (h : w.ownsRow base e k v n cs) : ∀ g, v.ownBlock = some g → g < w.heap.size := fun g hg => by
  obtain ⟨h1, h2⟩ := h
  rcases h2 with ⟨hv, _⟩ | ⟨g', cap, cur, hv, hgb, hc, r⟩
  · rw [hv] at hg; cases hg
  · rw [hv] at hg
    have e3 : g' = g := by injection hg
    rw [← e3]
    exact (Array.getElem?_eq_some_iff.1 hc).1
theorem RowR.to {w : World} {E E' : Nat → Prop} {v : Value} {L : List Cm} (h : RowR w E v L) (hE : ∀ q, q < w.heap.size → E q → E' q) : RowR w E' v L := by
  obtain ⟨⟨⟨cs, h1, h2⟩, h3⟩, h4⟩ := h
  exact ⟨⟨⟨cs, h1, h2⟩, h3⟩, fun g hg => hE g (ownC_lt h1 g hg) (h4 g hg)⟩
theorem RowR.put {w : World} {E : Nat → Prop} {g n c : Nat} {L : List Cm} (h : RowR w E (.slice (some ⟨g, 0, none⟩) n c) L) {k : Nat} (hk : k < L.length) (p : Cm) (hp : OwnsB w 0 p.2.1 p.2.2) :
    RowR ((w.setCell ⟨g, k * 2, none⟩ (.bool p.1)).setCell ⟨g, k * 2 + 1, none⟩ p.2.1) E (.slice (some ⟨g, 0, none⟩) n c) (L.set k p) :=
  ⟨h.own.put hk p hp, h.at_⟩
/-- THE DOCUMENT'S LINK'S BLOCK: its receiver lies in cells 7 to 9. -/
def XRk (w : World) (lb : Nat) (X : Nat → Value) (win tk : Int) (v : Value) : Prop :=
  Blk w lb #[X 0, X 1, X 2, X 3, X 4, X 5, X 6, .int .i64 win, .int .i64 tk, v, X 10, X 11, X 12, X 13] 37
theorem XRk.blk {w : World} {lb : Nat} {X : Nat → Value} {win tk : Int} {v : Value} (h : XRk w lb X win tk v) : Blk w lb #[X 0, X 1, X 2, X 3, X 4, X 5, X 6, .int .i64 win, .int .i64 tk, v, X 10, X 11, X 12, X 13] 37 := h
theorem XRk.c7 {w : World} {lb : Nat} {X : Nat → Value} {win tk : Int} {v : Value} (h : XRk w lb X win tk v) : w.cell? ⟨lb, 7, none⟩ = some (.int .i64 win) := h.blk.cell 7
theorem XRk.c8 {w : World} {lb : Nat} {X : Nat → Value} {win tk : Int} {v : Value} (h : XRk w lb X win tk v) : w.cell? ⟨lb, 8, none⟩ = some (.int .i64 tk) := h.blk.cell 8
theorem XRk.c9 {w : World} {lb : Nat} {X : Nat → Value} {win tk : Int} {v : Value} (h : XRk w lb X win tk v) : w.cell? ⟨lb, 9, none⟩ = some v := h.blk.cell 9
/-- What a walk is told of the document's receiver. -/
structure DmX (w : World) (lb : Nat) (E : Nat → Prop) (X : Nat → Value) (g n c : Nat) (L : List Cm) (s : Rc) : Prop where
  ok : Rok s
  blk : XRk w lb X s.win s.tk (.slice (some ⟨g, 0, none⟩) n c)
  own : RowR w E (.slice (some ⟨g, 0, none⟩) n c) L
  nw : (n : Int) = s.win
  len : L.length = n
  rel : ∀ k p, L[k]? = some p → p.1 = has s k ∧ (p.1 = true → s.L (s.tk + 1 + (k : Int)) = some p.2.2)
/-- THE DOCUMENT'S RECEIVER IN MEMORY. -/
def Dx (w : World) (lb : Nat) (E : Nat → Prop) (X : Nat → Value) (s : Rc) : Prop := ∃ g n c L, DmX w lb E X g n c L s ∧ n ≤ c ∧ c ≤ 9223372036854775807
theorem Dx.open_ {w : World} {lb : Nat} {E : Nat → Prop} {X : Nat → Value} {s : Rc} (h : Dx w lb E X s) : ∃ g n c L, DmX w lb E X g n c L s ∧ n ≤ c ∧ c ≤ 9223372036854775807 := h
theorem DmX.shut {w : World} {lb : Nat} {E : Nat → Prop} {X : Nat → Value} {g n c : Nat} {L : List Cm} {s : Rc} (h : DmX w lb E X g n c L s) (h1 : n ≤ c) (h2 : c ≤ 9223372036854775807) : Dx w lb E X s := ⟨g, n, c, L, h, h1, h2⟩
theorem DmX.kept {w w' : World} {lb : Nat} {E : Nat → Prop} {X : Nat → Value} {g n c : Nat} {L : List Cm} {s : Rc} (h : DmX w lb E X g n c L s) (hb : Below w.heap.size w w') : DmX w' lb E X g n c L s :=
  { h with blk := h.blk.blk.kept hb, own := h.own.kept hb }
theorem Dx.kept {w w' : World} {lb : Nat} {E : Nat → Prop} {X : Nat → Value} {s : Rc} (h : Dx w lb E X s) (hb : Below w.heap.size w w') : Dx w' lb E X s := by
  obtain ⟨g, n, c, L, h1, h2⟩ := h
  exact ⟨g, n, c, L, h1.kept hb, h2⟩
end Go.Proofs.YtfipdldoklkciaaGreat
