/-
  Both receivers, side by side.
-/
import Derived.Test.YtajidkgmifcoaaaRcv
import Derived.BigQuiet
namespace Go.Proofs.Ytajidkgmifcoaaa
open Go.RowKit
set_option linter.unusedVariables false
theorem At.oth {w0 w w' : World} {rb g : Nat} {s : Rc} (h : At w0 w rb s) (k : K2 g g w w') (hg : rb < g) : At w0 w' rb s :=
  ⟨h.rv.but k (by omega), k.below h.bel h.sz (by omega) (by omega), Nat.le_trans h.sz k.size⟩
/-- BOTH RECEIVERS, AND THE ACT's BOX. -/
structure PJ (w wX : World) (rb mb D bx : Nat) (act : Array Value) (s1 s2 : Rc) : Prop where
  at_ : At w wX rb s1
  dm : Dm wX mb D s2
  bk : Blk wX bx act 35
  hD : rb < D
  hx : bx ≠ rb
theorem PJ.step {w wX w' : World} {rb mb D bx : Nat} {act : Array Value} {s1 s2 : Rc} (h : PJ w wX rb mb D bx act s1 s2) (hb : Below wX.heap.size wX w') : PJ w w' rb mb D bx act s1 s2 :=
  ⟨h.at_.step hb, h.dm.kept hb, h.bk.kept hb, h.hD, h.hx⟩
theorem PJ.drew {w wX : World} {rb mb D bx : Nat} {act : Array Value} {s1 s2 : Rc} (h : PJ w wX rb mb D bx act s1 s2) : PJ w wX.drew rb mb D bx act s1 s2 := h.step (Below.refl _ _).drew
theorem Blk.kk {w w' : World} {g b : Nat} {cs : Array Value} {T : TypeId} (h : Blk w b cs T) (k : K2 g g w w') (hb : b ≠ g) : Blk w' b cs T := (k.block b h.lt hb hb).trans h
theorem PJ.turn {w wX w' : World} {rb mb D bx : Nat} {act : Array Value} {s1 s2 s' : Rc} (h : PJ w wX rb mb D bx act s1 s2) (hr : Rv w' rb s') (k : K2 rb rb wX w') : PJ w w' rb mb D bx act s' s2 :=
  ⟨h.at_.turn hr k, h.dm.k2 k h.hD, h.bk.kk k h.hx, h.hD, h.hx⟩
theorem PJ.put {w wX w' : World} {rb mb D bx : Nat} {act : Array Value} {s1 s2 s' : Rc} (h : PJ w wX rb mb D bx act s1 s2) (hd : Dm w' mb D s') (k : ∃ g, D ≤ g ∧ (∃ cs, Blk wX g cs 60) ∧ K2 g g wX w') : PJ w w' rb mb D bx act s1 s' := by
  obtain ⟨g, h1, ⟨cs, h2⟩, h3⟩ := k
  refine ⟨h.at_.oth h3 (by have := h.hD; omega), hd, h.bk.kk h3 (fun e => ?_), h.hD, h.hx⟩
  subst e
  have := h.bk
  unfold Blk at this h2
  rw [h2] at this
  cases this
theorem PJ.took {w wX w' : World} {rb mb D bx : Nat} {act : Array Value} {s1 s2 s' : Rc} (h : PJ w wX rb mb D bx act s1 s2) (hd : Dm w' mb D s') (k : K2 mb mb wX w') : PJ w w' rb mb D bx act s1 s' := by
  have hm := h.dm.hm
  refine ⟨h.at_.oth k (by have := h.hD; omega), hd, h.bk.kk k (fun e => ?_), h.hD, h.hx⟩
  obtain ⟨_, _, g, n, c, L, h1, _⟩ := h.dm
  subst e
  have := h.bk
  unfold Blk at this h1
  rw [h1] at this
  cases this
/-- The calls that only look, and answer what stands. -/
theorem PJ.held {w wX : World} {rb mb D bx : Nat} {act : Array Value} {s1 s2 : Rc} (h : PJ w wX rb mb D bx act s1 s2) :
    Calls Try.prog 22 #[.pointer (some ⟨rb, 0, none⟩)] wX fun e w' => e = .returned (.int .i64 (hld s1)) ∧ Hid (PJ w w' rb mb D bx act s1 s2) :=
  (held_any h.at_.rv).mono (by rintro e w' ⟨rfl, hb⟩; exact ⟨rfl, h.step hb.out⟩)
theorem PJ.ready {w wX : World} {rb mb D bx : Nat} {act : Array Value} {s1 s2 : Rc} (h : PJ w wX rb mb D bx act s1 s2) :
    Calls Try.prog 20 #[.pointer (some ⟨rb, 0, none⟩)] wX fun e w' => e = .returned (.int .i64 (rdy s1)) ∧ Hid (PJ w w' rb mb D bx act s1 s2) :=
  (ready_k h.at_.rv).mono (by rintro e w' ⟨rfl, hb⟩; exact ⟨rfl, h.step hb.out⟩)
theorem PJ.taken {w wX : World} {rb mb D bx : Nat} {act : Array Value} {s1 s2 : Rc} (h : PJ w wX rb mb D bx act s1 s2) :
    Calls Try.prog 19 #[.pointer (some ⟨rb, 0, none⟩)] wX fun e w' => e = .returned (.int .i64 s1.tk) ∧ Hid (PJ w w' rb mb D bx act s1 s2) :=
  (taken_any h.at_.rv).mono (by rintro e w' ⟨rfl, rfl⟩; exact ⟨rfl, h⟩)
theorem PJ.ack {w wX : World} {rb mb D bx : Nat} {act : Array Value} {s1 s2 : Rc} (h : PJ w wX rb mb D bx act s1 s2) :
    Calls Try.prog 17 #[.pointer (some ⟨rb, 0, none⟩)] wX fun e w' => e = .returned (.tuple #[.int .i64 (ackN s1), .int .u64 (ackB s1), .int .i64 (s1.tk + s1.win)]) ∧ Hid (PJ w w' rb mb D bx act s1 s2) :=
  (ack_k h.at_.rv).mono (by rintro e w' ⟨rfl, hb⟩; exact ⟨rfl, h.step hb.out⟩)
theorem PJ.mack {w wX : World} {rb mb D bx : Nat} {act : Array Value} {s1 s2 : Rc} (h : PJ w wX rb mb D bx act s1 s2) :
    Calls Try.prog 18 #[.pointer (some ⟨mb, 0, none⟩)] wX fun e w' => e = .returned (.tuple #[.int .i64 (ackN s2), .int .u64 (ackB s2), .int .i64 (s2.tk + s2.win)]) ∧ Hid (PJ w w' rb mb D bx act s1 s2) :=
  (mack_any h.dm).mono (by rintro e w' ⟨rfl, hb⟩; exact ⟨rfl, h.step hb.out⟩)
theorem PJ.mready {w wX : World} {rb mb D bx : Nat} {act : Array Value} {s1 s2 : Rc} (h : PJ w wX rb mb D bx act s1 s2) :
    Calls Try.prog 21 #[.pointer (some ⟨mb, 0, none⟩)] wX fun e w' => e = .returned (.int .i64 (rdy s2)) ∧ Hid (PJ w w' rb mb D bx act s1 s2) :=
  (mready_any h.dm).mono (by rintro e w' ⟨rfl, rfl⟩; exact ⟨rfl, h⟩)
theorem PJ.mheld {w wX : World} {rb mb D bx : Nat} {act : Array Value} {s1 s2 : Rc} (h : PJ w wX rb mb D bx act s1 s2) :
    Calls Try.prog 23 #[.pointer (some ⟨mb, 0, none⟩)] wX fun e w' => e = .returned (.int .i64 (hld s2)) ∧ Hid (PJ w w' rb mb D bx act s1 s2) :=
  (mheld_any h.dm).mono (by rintro e w' ⟨rfl, rfl⟩; exact ⟨rfl, h⟩)
/-- A load that comes. -/
theorem PJ.data {w wX : World} {rb mb D bx : Nat} {act : Array Value} {s1 s2 : Rc} (h : PJ w wX rb mb D bx act s1 s2) (x : Ac) (hx : AcV w x) (hw : w.heap.size = rb) :
    Calls Try.prog 15 #[.pointer (some ⟨rb, 0, none⟩), .int .i64 x.seq, .slice x.a x.zs.length x.cap] wX fun e w' => e = .returned (.int .i64 (dataE s1 x.seq x.zs.length)) ∧ Hid (PJ w w' rb mb D bx act (dataS s1 x.seq x.zs) s2) :=
  (data_step x.seq x.a x.zs.length x.cap x.zs h.at_.rv rfl hx.2.2.2 (hx.kept (by rw [hw]; exact h.at_.bel)).1).mono (by rintro e w' ⟨rfl, hr, hk⟩; exact ⟨rfl, h.turn hr.out hk.out⟩)
theorem PJ.mdata {w wX : World} {rb mb D bx : Nat} {act : Array Value} {s1 s2 : Rc} (h : PJ w wX rb mb D bx act s1 s2) (x : Ac) (hx : AcV w x) (hz : x.seq ≤ 9223372036854775807) (hw : w.heap.size = rb) :
    Calls Try.prog 16 #[.pointer (some ⟨mb, 0, none⟩), .int .i64 x.seq, .slice x.a x.zs.length x.cap] wX fun e w' => e = .returned (.int .i64 (dataE s2 x.seq x.zs.length)) ∧ Hid (PJ w w' rb mb D bx act s1 (dataS s2 x.seq x.zs)) := by
  have hV := hx.kept (w' := wX) (by rw [hw]; exact h.at_.bel)
  by_cases he : dataE s2 x.seq x.zs.length = 0
  · have e : dataS s2 x.seq x.zs = putA s2 x.seq x.zs := by unfold dataS; rw [if_pos he]
    rw [e, he]
    refine (mdata_ok x.seq x.a _ x.cap x.zs h.dm he hz rfl hV.2.2.2 hV.1).mono ?_
    rintro e w' ⟨rfl, hd, hk⟩
    exact ⟨rfl, h.put hd.out hk.out⟩
  · have e : dataS s2 x.seq x.zs = s2 := by unfold dataS; rw [if_neg he]
    rw [e]
    refine (mdata_bad x.seq x.a _ x.cap h.dm he (by have := hV.1.2.1; unfold maxLen at this; omega) hz).mono ?_
    rintro e w' ⟨rfl, rfl⟩
    exact ⟨rfl, h⟩
theorem PJ.S {w wX : World} {rb mb D bx : Nat} {x : Ac} {s1 s2 : Rc} (h : PJ w wX rb mb D bx #[.int .i64 x.seq, .slice x.a x.zs.length x.cap] s1 s2) :
    wX.cell? ⟨bx, 0, none⟩ = some (.int .i64 x.seq) ∧ wX.cell? ⟨bx, 1, none⟩ = some (.slice x.a x.zs.length x.cap) := ⟨h.bk.cell 0, h.bk.cell 1⟩
theorem PJ.tk {w wX : World} {rb mb D bx : Nat} {act : Array Value} {s1 s2 : Rc} (h : PJ w wX rb mb D bx act s1 s2) : wX.cell? ⟨mb, 1, none⟩ = some (.int .i64 s2.tk) := by
  obtain ⟨_, _, g, n, c, L, h1, _⟩ := h.dm
  exact h1.cell 1
end Go.Proofs.Ytajidkgmifcoaaa
