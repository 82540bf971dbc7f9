/-
  Texts Lrq, Lrr, Lrs.
-/
import Derived.Test.YtfipdldoklkciaaGreatGau
import Derived.Test.YtfipdldoklkciaaGreatGaq
import Derived.Test.YtfipdldoklkciaaGreatGar
import Derived.Test.YtfipdldoklkciaaGreatGas
import Derived.Deep.RegionWith
namespace Go.Proofs.YtfipdldoklkciaaGreat
open Go.RowKit
set_option linter.unusedVariables false
def Ge (B : Nat) : Nat → Prop := fun q => B ≤ q
variable {B : Nat}
/-- The block's cells. -/
def xc (L : Lk) (d : Ds) (v rv v0 v1 : Value) (st gt : Int) : Nat → Value
  | 0 => .int .u64 L.tok
  | 1 => .int .i64 L.now
  | 2 => .int .i64 L.ep
  | 3 => .int .i64 d.win
  | 4 => .int .i64 d.base
  | 5 => .int .i64 d.lim
  | 6 => v
  | 7 => .int .i64 L.r.win
  | 8 => .int .i64 L.r.tk
  | 9 => rv
  | 10 => v0
  | 11 => v1
  | 12 => .int .i64 st
  | _ => .int .i64 gt
/-- The same datagrams, wherever they lie. -/
def Pq (G G' : List Gr) : Prop := G.map (fun g => (g.zs, g.sp)) = G'.map (fun g => (g.zs, g.sp))
/-- THE DOCUMENT'S LINK IN MEMORY IS THIS PLAIN LINK. -/
structure XB (B : Nat) (w : World) (lb : Nat) (L : Lk) (d : Ds) (v rv v0 v1 : Value) (st gt : Int) (G0 G1 : List Gr) : Prop where
  blk : Blk w lb #[.int .u64 L.tok, .int .i64 L.now, .int .i64 L.ep, .int .i64 d.win, .int .i64 d.base, .int .i64 d.lim, v, .int .i64 L.r.win, .int .i64 L.r.tk, rv, v0, v1, .int .i64 st, .int .i64 gt] 37
  hl : B ≤ lb
  rd : RowD w (Ge B) v d.L
  dok : Dok d
  dr : Dr L.s d
  rr : ∃ g n c Lc, rv = .slice (some ⟨g, 0, none⟩) n c ∧ RowR w (Ge B) rv Lc ∧ (n : Int) = L.r.win ∧ Lc.length = n ∧ n ≤ c ∧ c ≤ 9223372036854775807 ∧ ∀ k p, Lc[k]? = some p → p.1 = has L.r k ∧ (p.1 = true → L.r.L (L.r.tk + 1 + (k : Int)) = some p.2.2)
  g0 : RowG w (Ge B) v0 G0
  g1 : RowG w (Ge B) v1 G1
  p0 : Pq G0 L.n0
  p1 : Pq G1 L.n1
def XM (B : Nat) (w : World) (lb : Nat) (L : Lk) : Prop := ∃ d v rv v0 v1 G0 G1, XB B w lb L d v rv v0 v1 (L.s.nxt - 1) L.r.tk G0 G1
/-- What the document's calls may turn. -/
def Xt (B lb : Nat) (w : World) : Nat → Prop := fun q => q = lb ∨ (B ≤ q ∧ ∃ cs T, Blk w q cs T ∧ (T = 147 ∨ T = 86 ∨ T = 123)) ∨ w.heap.size ≤ q
def KX (B lb : Nat) (w w' : World) : Prop := KS (Xt B lb w) w w'
theorem KX.trans {lb : Nat} {a b c : World} (h : KX B lb a b) (k : KX B lb b c) : KX B lb a c :=
  ⟨k.os.trans h.os, k.tape.trans h.tape, k.output.trans h.output, Nat.le_trans h.size k.size, fun q hq hC => by
    have h1 := h.block q hq hC
    refine (k.block q (Nat.lt_of_lt_of_le hq h.size) fun hx => ?_).trans h1
    rcases hx with hx | ⟨hB, cs, T, hx, ht⟩ | hx
    · exact hC (.inl hx)
    · refine hC (.inr (.inl ⟨hB, cs, T, ?_, ht⟩))
      unfold Blk at hx ⊢
      rw [← h1]
      exact hx
    · have := h.size; omega⟩
theorem KX.of_below {lb : Nat} {w w' : World} (h : Below w.heap.size w w') : KX B lb w w' := KS.of_below h
theorem KX.refl (lb : Nat) (w : World) : KX B lb w w := KS.refl _ _
theorem KX.of_t {lb : Nat} {T : TypeId} {w w' : World} (h : KS (Kt B lb T w) w w') (hT : T = 147 ∨ T = 86 ∨ T = 123) : KX B lb w w' :=
  KS.mono h fun q _ hq => by
    rcases hq with hq | ⟨hB, cs, hq⟩ | hq
    · exact .inl hq
    · exact .inr (.inl ⟨hB, cs, T, hq, hT⟩)
    · exact .inr (.inr hq)
theorem KX.of_l {lb : Nat} {w w' : World} (h : KS (fun q => q = lb) w w') : KX B lb w w' := KS.mono h fun q _ hq => .inl hq
theorem KX.cell {lb : Nat} {w : World} (j : Nat) (u : Value) : KX B lb w (w.setCell ⟨lb, j, none⟩ u) := KX.of_l (KS.set (C := fun q => q = lb) _ lb _ rfl _)
theorem Kt.of_l {lb : Nat} {T : TypeId} {w w' : World} (h : KS (fun q => q = lb) w w') : KS (Kt B lb T w) w w' := KS.mono h fun q _ hq => .inl hq
theorem OwnsB.offL {w : World} {b lb j : Nat} {v : Value} {zs : List Int} {cs : Array Value} (h : OwnsB w b v zs) (hl : Blk w lb cs 37) (u : Value) : OwnsB (w.setCell ⟨lb, j, none⟩ u) b v zs :=
  ⟨ownsRow_keep h.1 fun q cur _ h2 => Below.heap_setCell _ _ _ _ fun e2 => by
    have e3 : q = lb := e2
    subst e3
    exact absurd (blk_five h2 hl) (by decide), h.2⟩
theorem RowD.al {w : World} {E : Nat → Prop} {v : Value} {L : List De} (h : RowD w E v L) (hE : ∀ q, E q → B ≤ q) : RowD w (Ge B) v L :=
  ⟨h.form, h.row.imp id fun ⟨g, off, c, cur, h1, h2, h3⟩ => ⟨g, off, c, cur, h1, hE _ h2, h3⟩, h.ent⟩
theorem RowD.tt {w : World} {v : Value} {L : List De} (lb : Nat) (h : RowD w (Ge B) v L) : RowD w (Kt B lb 147 w) v L :=
  ⟨h.form, h.row.imp id fun ⟨g, off, c, cur, h1, h2, h3, h4⟩ => ⟨g, off, c, cur, h1, .inr (.inl ⟨h2, cur, h3⟩), h3, h4⟩, h.ent⟩
theorem RowR.al {w : World} {E : Nat → Prop} {v : Value} {L : List Cm} (h : RowR w E v L) (hE : ∀ q, E q → B ≤ q) : RowR w (Ge B) v L := ⟨h.own, fun g hg => hE _ (h.2 g hg)⟩
theorem RowR.tt {w : World} {v : Value} {L : List Cm} (lb : Nat) (h : RowR w (Ge B) v L) : RowR w (Kt B lb 86 w) v L := ⟨h.own, fun g hg => by
  obtain ⟨⟨cs, h1, _⟩, _⟩ := h.own
  rcases h1.2 with ⟨hv, _⟩ | ⟨g', cap, cur, hv, hgb, hc, r⟩
  · rw [hv] at hg; cases hg
  · rw [hv] at hg
    have e3 : g' = g := by injection hg
    rw [← e3]
    exact .inr (.inl ⟨h.2 _ (by rw [hv, e3]; rfl), cur, hc⟩)⟩
theorem RowR.off {w : World} {E : Nat → Prop} {v : Value} {L : List Cm} {lb j : Nat} {cs : Array Value} (h : RowR w E v L) (hl : Blk w lb cs 37) (u : Value) : RowR (w.setCell ⟨lb, j, none⟩ u) E v L :=
  h.keep fun b cur e h2 h3 => Below.heap_setCell _ _ _ _ fun e2 => by
    have e3 : b = lb := e2
    subst e3
    have := blk_five h2 hl
    rcases h3 with ⟨rfl, _⟩ | rfl
    · exact absurd this (by decide)
    · exact absurd this (by decide)
section
variable {w w' : World} {lb : Nat} {L : Lk} {d : Ds} {v rv v0 v1 : Value} {st gt : Int} {G0 G1 : List Gr}
theorem XB.kept (h : XB B w lb L d v rv v0 v1 st gt G0 G1) (hb : Below w.heap.size w w') : XB B w' lb L d v rv v0 v1 st gt G0 G1 := by
  obtain ⟨a1, a0, a2, a3, a4, ⟨g, n, c, Lc, b1, b2, b3⟩, a6, a7, a8, a9⟩ := h
  exact ⟨a1.kept hb, a0, a2.kept hb, a3, a4, ⟨g, n, c, Lc, b1, b2.kept hb, b3⟩, a6.kept hb, a7.kept hb, a8, a9⟩
theorem XM.kept (h : XM B w lb L) (hb : Below w.heap.size w w') : XM B w' lb L := by
  obtain ⟨d, v, rv, v0, v1, G0, G1, h⟩ := h
  exact ⟨d, v, rv, v0, v1, G0, G1, h.kept hb⟩
theorem XB.ge {T : TypeId} (h : XB B w lb L d v rv v0 v1 st gt G0 G1) : ∀ q, Kt B lb T w q → B ≤ q := fun q hq => by
  have h1 := h.hl
  have h2 := h.blk.lt
  rcases hq with rfl | ⟨hq, _⟩ | hq <;> omega
theorem XB.xl (h : XB B w lb L d v rv v0 v1 st gt G0 G1) : XLk w lb (xc L d v rv v0 v1 st gt) d v := h.blk
theorem XB.dx (h : XB B w lb L d v rv v0 v1 st gt G0 G1) (hr : Rok L.r) : Dx w lb (Kt B lb 86 w) (xc L d v rv v0 v1 st gt) L.r := by
  obtain ⟨g, n, c, Lc, rfl, b2, b3, b4, b5, b6, b7⟩ := h.rr
  exact ⟨g, n, c, Lc, ⟨hr, h.blk, b2.tt lb, b3, b4, b7⟩, b5, b6⟩
theorem XB.xn (h : XB B w lb L d v rv v0 v1 st gt G0 G1) : XNk w lb (xc L d v rv v0 v1 st gt) v0 v1 := h.blk
/-- The sender has turned. -/
theorem XB.turnS {s' : St} {d' : Ds} {v' : Value} (h : XB B w lb L d v rv v0 v1 st gt G0 G1) (k : KS (Kt B lb 147 w) w w') (hX : XLk w' lb (xc L d v rv v0 v1 st gt) d' v') (hR : RowD w' (Kt B lb 147 w) v' d'.L) (hD : Dok d') (hr : Dr s' d') : XB B w' lb { L with s := s' } d' v' rv v0 v1 st gt G0 G1 := by
  obtain ⟨g, n, c, Lc, b1, b2, b3⟩ := h.rr
  exact ⟨hX, h.hl, hR.al h.ge, hD, hr, ⟨g, n, c, Lc, b1, b2.kt k h.blk (by decide) (by decide), b3⟩, h.g0.kt k h.blk (by decide) (by decide), h.g1.kt k h.blk (by decide) (by decide), h.p0, h.p1⟩
/-- The receiver has turned. -/
theorem XB.turnR {r' : Rc} (h : XB B w lb L d v rv v0 v1 st gt G0 G1) (k : KS (Kt B lb 86 w) w w') (hX : Dx w' lb (Kt B lb 86 w) (xc L d v rv v0 v1 st gt) r') : ∃ rv', XB B w' lb { L with r := r' } d v rv' v0 v1 st gt G0 G1 := by
  obtain ⟨g, n, c, Lc, hF, h1, h2⟩ := hX
  exact ⟨_, hF.blk, h.hl, h.rd.kt k h.blk (by decide) (by decide), h.dok, h.dr, ⟨g, n, c, Lc, rfl, hF.own.al h.ge, hF.nw, hF.len, h1, h2, hF.rel⟩, h.g0.kt k h.blk (by decide) (by decide), h.g1.kt k h.blk (by decide) (by decide), h.p0, h.p1⟩
/-- A net has turned. -/
theorem XB.turn0 {v0' : Value} {G n0' : List Gr} (h : XB B w lb L d v rv v0 v1 st gt G0 G1) (k : KS (fun q => q = lb) w w') (hX : XNk w' lb (xc L d v rv v0 v1 st gt) v0' v1) (hR : RowG w' (Ge B) v0' G) (hp : Pq G n0') : XB B w' lb { L with n0 := n0' } d v rv v0' v1 st gt G G1 := by
  obtain ⟨g, n, c, Lc, b1, b2, b3⟩ := h.rr
  exact ⟨hX, h.hl, h.rd.kt (T := 123) (Kt.of_l (B := B) k) h.blk (by decide) (by decide), h.dok, h.dr, ⟨g, n, c, Lc, b1, b2.kt (T := 123) (Kt.of_l (B := B) k) h.blk (by decide) (by decide), b3⟩, hR, h.g1.kt (T := 86) (Kt.of_l (B := B) k) h.blk (by decide) (by decide), hp, h.p1⟩
theorem XB.turn1 {v1' : Value} {G n1' : List Gr} (h : XB B w lb L d v rv v0 v1 st gt G0 G1) (k : KS (fun q => q = lb) w w') (hX : XNk w' lb (xc L d v rv v0 v1 st gt) v0 v1') (hR : RowG w' (Ge B) v1' G) (hp : Pq G n1') : XB B w' lb { L with n1 := n1' } d v rv v0 v1' st gt G0 G := by
  obtain ⟨g, n, c, Lc, b1, b2, b3⟩ := h.rr
  exact ⟨hX, h.hl, h.rd.kt (T := 123) (Kt.of_l (B := B) k) h.blk (by decide) (by decide), h.dok, h.dr, ⟨g, n, c, Lc, b1, b2.kt (T := 123) (Kt.of_l (B := B) k) h.blk (by decide) (by decide), b3⟩, h.g0.kt (T := 86) (Kt.of_l (B := B) k) h.blk (by decide) (by decide), hR, h.p0, hp⟩
theorem XB.set {w' : World} {L' : Lk} {st' gt' : Int} (h : XB B w lb L d v rv v0 v1 st gt G0 G1) (j : Nat) (u : Value) (hw : w' = w.setCell ⟨lb, j, none⟩ u) (hb : Blk w' lb #[.int .u64 L'.tok, .int .i64 L'.now, .int .i64 L'.ep, .int .i64 d.win, .int .i64 d.base, .int .i64 d.lim, v, .int .i64 L'.r.win, .int .i64 L'.r.tk, rv, v0, v1, .int .i64 st', .int .i64 gt'] 37) (h1 : L'.s = L.s) (h2 : L'.r = L.r) (h3 : L'.n0 = L.n0) (h4 : L'.n1 = L.n1) : XB B w' lb L' d v rv v0 v1 st' gt' G0 G1 := by
  subst hw
  obtain ⟨g, n, c, Lc, b1, b2, b3⟩ := h.rr
  exact ⟨hb, h.hl, h.rd.other h.blk j u, h.dok, by rw [h1]; exact h.dr, ⟨g, n, c, Lc, b1, b2.off h.blk u, by rw [h2]; exact b3⟩, h.g0.off h.blk u, h.g1.off h.blk u, by rw [h3]; exact h.p0, by rw [h4]; exact h.p1⟩
theorem XB.setNow (h : XB B w lb L d v rv v0 v1 st gt G0 G1) (x : Int) : XB B (w.setCell ⟨lb, 1, none⟩ (.int .i64 x)) lb { L with now := x } d v rv v0 v1 st gt G0 G1 := h.set 1 _ rfl (h.blk.set 1 _) rfl rfl rfl rfl
theorem XB.setEp (h : XB B w lb L d v rv v0 v1 st gt G0 G1) (x : Int) : XB B (w.setCell ⟨lb, 2, none⟩ (.int .i64 x)) lb { L with ep := x } d v rv v0 v1 st gt G0 G1 := h.set 2 _ rfl (h.blk.set 2 _) rfl rfl rfl rfl
theorem XB.setSent (h : XB B w lb L d v rv v0 v1 st gt G0 G1) (x : Int) : XB B (w.setCell ⟨lb, 12, none⟩ (.int .i64 x)) lb L d v rv v0 v1 x gt G0 G1 := h.set 12 _ rfl (h.blk.set 12 _) rfl rfl rfl rfl
theorem XB.setGot (h : XB B w lb L d v rv v0 v1 st gt G0 G1) (x : Int) : XB B (w.setCell ⟨lb, 13, none⟩ (.int .i64 x)) lb L d v rv v0 v1 st x G0 G1 := h.set 13 _ rfl (h.blk.set 13 _) rfl rfl rfl rfl
theorem XB.cells (h : XB B w lb L d v rv v0 v1 st gt G0 G1) : w.cell? ⟨lb, 0, none⟩ = some (.int .u64 L.tok) ∧ w.cell? ⟨lb, 1, none⟩ = some (.int .i64 L.now) ∧ w.cell? ⟨lb, 2, none⟩ = some (.int .i64 L.ep) ∧ w.cell? ⟨lb, 12, none⟩ = some (.int .i64 st) ∧ w.cell? ⟨lb, 13, none⟩ = some (.int .i64 gt) := ⟨h.blk.cell 0, h.blk.cell 1, h.blk.cell 2, h.blk.cell 12, h.blk.cell 13⟩
/-! ### the sender's calls -/
theorem may_same {s : St} {d : Ds} (h : Dr s d) (ack c : Int) : mayB s ack c = mayD d ack c := by
  unfold mayB mayD
  rw [h.nxt]
  congr 3
  rw [decide_eq_decide]
  omega
theorem Dr.few {s : St} {d : Ds} (h : Dr s d) : s.nxt - s.base = (d.L.length : Int) := by have := h.nxt; have := h.base; omega
theorem kt_new {lb : Nat} {T : TypeId} {w : World} : ∀ q, w.heap.size ≤ q → Kt B lb T w q := fun q hq => .inr (.inr hq)
/-- A load is pushed. -/
theorem XB.push (h : XB B w lb L d v rv v0 v1 st gt G0 G1) (p : Lp L) (a : Option Addr) (n c : Nat) (zs : List Int) (hn : zs.length = n) (h0 : a = none → c = 0) (hb : Bytes w a zs) (hl : n ≤ 1100) :
    Calls Tryz.prog 64 #[.pointer (some ⟨lb, 3, none⟩), .slice a n c, .int .i64 L.now] w fun e w' => ∃ r, e = .returned (.tuple #[.int .i64 r, .int .i64 (pushE L.s n L.now)]) ∧ Hid (∃ s' d' v', (pushE L.s n L.now ≠ 0 → s' = L.s) ∧ (pushE L.s n L.now = 0 → ∃ en : Ent, en.zs = zs ∧ en.time = L.now ∧ en.wait = 1 ∧ en.there = false ∧ s' = addA L.s en) ∧ XB B w' lb { L with s := s' } d' v' rv v0 v1 st gt G0 G1) ∧ Hid (KX B lb w w') := by
  have ht : timeB L.now = true := by unfold timeB; have := p.ok.n1; have := p.ok.n2; simp; omega
  have hnx := h.dr.nxt
  have hba := h.dr.base
  have hli := h.dr.lim
  have hwi := h.dr.win
  by_cases hw : L.s.lim < L.s.nxt ∨ L.s.win ≤ L.s.nxt - L.s.base
  · have he : pushE L.s n L.now = 13 := by unfold pushE; rw [if_neg (by rw [ht]; decide), if_neg (by omega), if_pos hw]
    rw [he]
    refine (ypush_wait a n c L.now h.xl h.rd h.dok (by omega) ht (by rw [← hli, ← hwi]; omega)).mono ?_
    rintro e w' ⟨rfl, hb2⟩
    exact ⟨0, rfl, ⟨L.s, d, v, fun _ => rfl, fun k => absurd k (by decide), h.kept hb2.out⟩, KX.of_below hb2.out⟩
  · have he : pushE L.s n L.now = 0 := by unfold pushE; rw [if_neg (by rw [ht]; decide), if_neg (by omega), if_neg hw]
    rw [he]
    refine (ypush_ok a n c zs L.now h.xl (h.rd.tt lb) h.dok (.inl rfl) kt_new hn h0 hb (by omega) ht (by omega) (by omega)).mono ?_
    rintro e w' ⟨rfl, v2, e2, hE, hX, hR, hD, hK⟩
    obtain ⟨e3, e4, e5, e6⟩ := hE.out
    exact ⟨_, rfl, ⟨_, _, v2, fun k => absurd rfl k, fun _ => ⟨⟨e2.a, e2.n, e2.c, e2.zs, e2.time, e2.wait, e2.there⟩, e3, e5, e6, e4, rfl⟩, h.turnS hK.out hX.out hR.out hD.out (dr_push h.dr rfl rfl rfl rfl)⟩, KX.of_t hK.out (.inl rfl)⟩
/-- What is told now. -/
theorem XB.due (h : XB B w lb L d v rv v0 v1 st gt G0 G1) (now : Int) (ht : timeB now = true) :
    Calls Tryz.prog 66 #[.pointer (some ⟨lb, 3, none⟩), .int .i64 now] w fun e w' => ∃ (v1' : Value) (M : List (Int × Value × List Int)), e = .returned v1' ∧ Hid (OwnsT w' w.heap.size v1' M) ∧ Hid (plainT M = dueL L.s now (L.s.nxt - L.s.base).toNat) ∧ Hid (∃ d', XB B w' lb { L with s := dueA L.s now } d' v rv v0 v1 st gt G0 G1) ∧ Hid (KX B lb w w') := by
  refine (ydue_any now h.xl (h.rd.tt lb) h.dok (.inl rfl) ht).mono ?_
  rintro e w' ⟨v2, M, rfl, hT, hM, hX, hR, hK⟩
  refine ⟨v2, M, rfl, hT, ?_, ⟨_, h.turnS hK.out hX.out hR.out (dok_due h.dok ht) (dr_due h.dr now)⟩, KX.of_t hK.out (.inl rfl)⟩
  show _ = _
  rw [h.dr.few, Int.toNat_natCast, due_same h.dr now _ (Nat.le_refl _)]
  exact hM.out
/-- An ack. -/
theorem XB.ack (h : XB B w lb L d v rv v0 v1 st gt G0 G1) (p : Lp L) (ack bits credit : Int) :
    Calls Tryz.prog 73 #[.pointer (some ⟨lb, 3, none⟩), .int .i64 ack, .int .u64 bits, .int .i64 credit] w fun e w' => e = .returned (.int .i64 (ackE L.s ack credit)) ∧ Hid (∃ d' v', XB B w' lb { L with s := ackS L.s ack bits credit } d' v' rv v0 v1 st gt G0 G1) ∧ Hid (KX B lb w w') := by
  unfold ackE ackS
  rw [may_same h.dr]
  cases hm : mayD d ack credit with
  | false =>
    refine (yack_bad ack bits credit h.xl h.rd h.dok hm).mono ?_
    rintro e w' ⟨rfl, hb⟩
    exact ⟨rfl, ⟨d, v, h.kept hb⟩, KX.of_below hb⟩
  | true =>
    have hlt : ack < L.s.nxt := by
      simp only [mayD, Bool.and_eq_true, decide_eq_true_eq] at hm
      have := h.dr.nxt; omega
    refine (yack_ok ack bits credit h.xl (h.rd.tt lb) h.dok (.inl rfl) hm).mono ?_
    rintro e w' ⟨rfl, v2, hX, hR, hD, hK⟩
    exact ⟨rfl, ⟨_, v2, h.turnS hK.out hX.out hR.out hD.out (dr_ack h.dr p.so ack bits credit hlt)⟩, KX.of_t hK.out (.inl rfl)⟩
/-- A resume. -/
theorem XB.res (h : XB B w lb L d v rv v0 v1 st gt G0 G1) (p : Lp L) (ack credit : Int) :
    Calls Tryz.prog 75 #[.pointer (some ⟨lb, 3, none⟩), .int .i64 ack, .int .i64 credit, .int .i64 L.now] w fun e w' => ∃ r, e = .returned (.int .i64 r) ∧ Hid (∃ d' v', XB B w' lb { L with s := if (timeB L.now && mayB L.s ack credit) = true then resA L.s ack credit L.now else L.s } d' v' rv v0 v1 st gt G0 G1) ∧ Hid (KX B lb w w') := by
  have ht : timeB L.now = true := by unfold timeB; have := p.ok.n1; have := p.ok.n2; simp; omega
  rw [ht, may_same h.dr, Bool.true_and]
  cases hm : mayD d ack credit with
  | false =>
    refine (yres_bad ack credit L.now h.xl h.rd h.dok ht hm).mono ?_
    rintro e w' ⟨rfl, hb⟩
    exact ⟨1, rfl, ⟨d, v, h.kept hb.out⟩, KX.of_below hb.out⟩
  | true =>
    have hlt : ack < L.s.nxt := by
      simp only [mayD, Bool.and_eq_true, decide_eq_true_eq] at hm
      have := h.dr.nxt; omega
    refine (yres_ok ack credit L.now h.xl (h.rd.tt lb) h.dok (.inl rfl) ht hm).mono ?_
    rintro e w' ⟨rfl, v2, hX, hR, hK⟩
    exact ⟨0, rfl, ⟨_, v2, h.turnS hK.out hX.out hR.out (dok_res h.dok ht hm) (dr_res h.dr p.so ack credit L.now hlt)⟩, KX.of_t hK.out (.inl rfl)⟩
/-! ### the receiver's calls -/
theorem XB.mack (h : XB B w lb L d v rv v0 v1 st gt G0 G1) (p : Lp L) :
    Calls Tryz.prog 68 #[.pointer (some ⟨lb, 7, none⟩)] w fun e w' => e = .returned (.tuple #[.int .i64 (ackN L.r), .int .u64 (ackB L.r), .int .i64 (L.r.tk + L.r.win)]) ∧ Hid (Below w.heap.size w w') := mack_any (h.dx p.ro)
theorem XB.mheld (h : XB B w lb L d v rv v0 v1 st gt G0 G1) (p : Lp L) :
    Calls Tryz.prog 15 #[.pointer (some ⟨lb, 7, none⟩)] w fun e w' => e = .returned (.int .i64 (hld L.r)) ∧ w' = w := mheld_any (h.dx p.ro)
theorem XB.data (h : XB B w lb L d v rv v0 v1 st gt G0 G1) (p : Lp L) (z : Int) (a : Option Addr) (len cap : Nat) (zs : List Int) (hz : z ≤ 9223372036854775807) (hn : zs.length = len) (h0 : a = none → cap = 0) (hb : Bytes w a zs) :
    Calls Tryz.prog 72 #[.pointer (some ⟨lb, 7, none⟩), .int .i64 z, .slice a len cap] w fun e w' => e = .returned (.int .i64 (dataE L.r z len)) ∧ Hid (∃ rv', XB B w' lb { L with r := dataS L.r z zs } d v rv' v0 v1 st gt G0 G1) ∧ Hid (KX B lb w w') := by
  subst hn
  by_cases he : dataE L.r z zs.length = 0
  · have e : dataS L.r z zs = putA L.r z zs := by unfold dataS; rw [if_pos he]
    rw [e, he]
    refine (mdata_ok z a _ cap zs (h.dx p.ro) he hz rfl h0 hb kt_new).mono ?_
    rintro e w' ⟨rfl, hd, hk⟩
    exact ⟨rfl, h.turnR hk.out hd.out, KX.of_t hk.out (.inr (.inl rfl))⟩
  · have e : dataS L.r z zs = L.r := by unfold dataS; rw [if_neg he]
    rw [e]
    refine (mdata_bad z a _ cap (h.dx p.ro) he (by have := hb.2.1; unfold maxLen at this; omega) hz).mono ?_
    rintro e w' ⟨rfl, rfl⟩
    exact ⟨rfl, ⟨rv, h⟩, KX.refl _ _⟩
/-- What Poll answers. -/
def TkX (w' : World) (r : Rc) (e : Ending) : Prop := ∃ a n c, e = .returned (.tuple #[.slice a n c, .bool (r.L (r.tk + 1)).isSome]) ∧ OwnsB w' 0 (.slice a n c) ((r.L (r.tk + 1)).getD [])
theorem XB.take (h : XB B w lb L d v rv v0 v1 st gt G0 G1) (p : Lp L) (ht : L.r.tk < 4611686018427387904) :
    Calls Tryz.prog 65 #[.pointer (some ⟨lb, 7, none⟩)] w fun e w' => Hid (TkX w' L.r e) ∧ Hid (∃ rv', XB B w' lb { L with r := takeS L.r } d v rv' v0 v1 st gt G0 G1) ∧ Hid (KX B lb w w') := by
  cases hL : L.r.L (L.r.tk + 1) with
  | none =>
    have e : takeS L.r = L.r := by unfold takeS; rw [hL]; rfl
    rw [e]
    refine (mtake_no (h.dx p.ro) hL).mono ?_
    rintro e w' ⟨rfl, rfl⟩
    exact ⟨⟨none, 0, 0, by rw [hL]; rfl, by rw [hL]; exact ownsB_nil _ _⟩, ⟨rv, h⟩, KX.refl _ _⟩
  | some l =>
    have e : takeS L.r = takeA L.r := by unfold takeS; rw [hL]; rfl
    rw [e]
    refine (mtake_yes l (h.dx p.ro) ht hL (.inl rfl) kt_new).mono ?_
    rintro e w' ⟨a, n, c, rfl, h1, h2, h3, h4, h5, h6⟩
    exact ⟨⟨a, n, c, by rw [hL]; rfl, by rw [hL]; exact h1.out⟩, h.turnR h6.out h5.out, KX.of_t h6.out (.inr (.inl rfl))⟩
end
end Go.Proofs.YtfipdldoklkciaaGreat
namespace Go.Proofs.YtfipdldoklkciaaGreat
open Go.RowKit
set_option linter.unusedVariables false
variable {B : Nat}
set_option maxHeartbeats 1000000 in
theorem xsend_any {w : World} {lb : Nat} {L : Lk} (a : Option Addr) (n c : Nat) (zs : List Int) (h : XM B w lb L) (p : Lp L) (hn : zs.length = n) (h0 : a = none → c = 0) (hb : Bytes w a zs) :
    Calls Tryz.prog 32 #[.pointer (some ⟨lb, 0, none⟩), .slice a n c] w fun e w' => e = .returned (.int .i64 (sendE L n)) ∧ Hid (∃ M', SendS L M' zs ∧ XM B w' lb M') ∧ Hid (KX B lb w w') := by
  by_cases h1 : 1100 < n
  · have e : sendE L n = 8 := by unfold sendE; rw [if_pos h1]
    rw [e]
    have d1 : decide ((n : Int) > 1100) = true := by simp; omega
    have hS : Hid (SendS L L zs) := ⟨fun _ => rfl, fun k => by rw [hn, e] at k; exact absurd k (by decide)⟩
    have hX : Hid (XM B w lb L) := h
    clear h p hb h1 e
    go_enter Tryz.func32, Tryz.ntmps32
    go_wp2
    go_ret
    exact ⟨rfl, ⟨L, hS.out, hX.out⟩, KX.refl _ _⟩
  · have d1 : decide ((n : Int) > 1100) = false := by simp; omega
    obtain ⟨d, v, rv, v0, v1, G0, G1, hB⟩ := h
    have c1 : w.cell? ⟨lb, 1, none⟩ = some (.int .i64 L.now) := hB.cells.2.1
    have e : sendE L n = pushE L.s n L.now := by unfold sendE; rw [if_neg h1]
    rw [e]
    have k : Hid (∀ x, Below w.heap.size w x → _) := fun x (hx : Below w.heap.size w x) => (hB.kept hx).push p a n c zs hn h0 (hb.kept hx) (by omega)
    have hes : Hid (sendE L zs.length = pushE L.s n L.now) := by show _ = _; rw [hn]; exact e
    have hnx : Hid (1 ≤ L.s.nxt ∧ L.s.nxt ≤ 4611686018427387905) := by have := p.so.b1; have := p.so.b2; have := p.so.l1; have := p.so.l2; show _ ∧ _; omega
    generalize hE : pushE L.s n L.now = E at *
    have wn : IntKind.i64.wrap L.s.nxt = L.s.nxt := by have := hnx.out; rw [IntKind.wrap_i64]; omega
    clear hB p hb h1 e hE
    by_cases h2 : E = 0
    · subst h2
      go_enter Tryz.func32, Tryz.ntmps32
      go_wp2
      go_region_with (go_at_call 64; refine (k.out _ ((Below.refl _ _).drew)).mono ?_; rintro e w1 ⟨r, rfl, hM, hK⟩; obtain ⟨s', d', v', q1, q2, hB⟩ := hM.out; have q2' : Hid _ := q2; have hB' : Hid _ := hB; have c12 := hB.cells.2.2.2.1; have f12 := hB.blk.fz 12; clear hB q1 q2 hM k)
      go_wp2
      go_ret
      obtain ⟨en, e1, e2, e3, e4, rfl⟩ := q2'.out (by first | rfl | trivial)
      refine ⟨rfl, ⟨{ L with s := addA L.s en }, ⟨fun k => absurd hes.out k, fun _ => ⟨en, e1, e2, e3, e4, rfl⟩⟩, d', v', rv, v0, v1, G0, G1, ?_⟩, ?_⟩
      · have := hB'.out.setSent L.s.nxt
        rw [show ({ L with s := addA L.s en } : Lk).s.nxt - 1 = L.s.nxt by show L.s.nxt + 1 - 1 = _; omega]
        exact this
      · exact ((KX.of_below (Below.refl _ _).drew).trans hK.out).trans (KX.cell 12 _)
    · have d2 : (E == 0) = false := by simpa using h2
      have h2' : Hid (E ≠ 0) := h2
      clear h2
      go_enter Tryz.func32, Tryz.ntmps32
      go_wp2
      go_region_with (go_at_call 64; refine (k.out _ ((Below.refl _ _).drew)).mono ?_; rintro e w1 ⟨r, rfl, hM, hK⟩; clear k)
      go_wp2
      go_ret
      obtain ⟨s', d', v', q1, q2, hB⟩ := hM.out
      obtain rfl := q1 h2'.out
      exact ⟨rfl, ⟨L, ⟨fun _ => rfl, fun k => absurd (hes.out.symm.trans k) h2'.out⟩, d', v', rv, v0, v1, G0, G1, hB⟩, (KX.of_below (Below.refl _ _).drew).trans hK.out⟩
def PollX (w' : World) (L : Lk) (e : Ending) : Prop := TkX w' L.r e
set_option maxHeartbeats 1000000 in
theorem xpoll_any {w : World} {lb : Nat} {L : Lk} (h : XM B w lb L) (p : Lp L) (ht : L.r.tk < 4611686018427387904) :
    Calls Tryz.prog 33 #[.pointer (some ⟨lb, 0, none⟩)] w fun e w' => Hid (TkX w' L.r e) ∧ Hid (XM B w' lb { L with r := takeS L.r }) ∧ Hid (KX B lb w w') := by
  obtain ⟨d, v, rv, v0, v1, G0, G1, hB⟩ := h
  have k := hB.take p ht
  have wn : IntKind.i64.wrap (L.r.tk + 1) = L.r.tk + 1 := by have := p.ro.t1; rw [IntKind.wrap_i64]; omega
  clear p ht
  cases hi : (L.r.L (L.r.tk + 1)).isSome with
  | true =>
    have hi' : Hid ((L.r.L (L.r.tk + 1)).isSome = true) := hi
    have htk : Hid ((takeS L.r).tk = L.r.tk + 1) := by show _ = _; unfold takeS; rw [if_pos hi]; rfl
    clear hB hi
    go_enter Tryz.func33, Tryz.ntmps33
    go_wp2_with (go_at_call 65; refine k.mono ?_; rintro e w1 ⟨hT, hR, hK⟩; obtain ⟨a, n, c, rfl, t1⟩ := hT.out; obtain ⟨rv', hB⟩ := hR.out; rw [hi'.out]; have t1' : Hid _ := t1; have hB' : Hid _ := hB; have c13 := hB.cells.2.2.2.2; have f13 := hB.blk.fz 13; clear hB hR hT k t1)
    go_ret2
    refine ⟨⟨a, n, c, by rw [hi'.out]; rfl, ?_⟩, ⟨d, v, rv', v0, v1, G0, G1, ?_⟩, hK.out.trans (KX.cell 13 _)⟩
    · exact OwnsB.offL t1'.out hB'.out.blk _
    · have := hB'.out.setGot (L.r.tk + 1)
      rw [htk.out]
      exact this
  | false =>
    have hi' : Hid ((L.r.L (L.r.tk + 1)).isSome = false) := hi
    have htk : Hid ((takeS L.r).tk = L.r.tk) := by show _ = _; unfold takeS; rw [if_neg (by rw [hi]; decide)]
    clear hB hi
    go_enter Tryz.func33, Tryz.ntmps33
    go_wp2_with (go_at_call 65; refine k.mono ?_; rintro e w1 ⟨hT, hR, hK⟩; obtain ⟨a, n, c, rfl, t1⟩ := hT.out; rw [hi'.out]; have t1' : Hid _ := t1; clear hT k t1)
    go_ret2
    obtain ⟨rv', hB⟩ := hR.out
    exact ⟨⟨a, n, c, by rw [hi'.out]; rfl, t1'.out⟩, ⟨d, v, rv', v0, v1, G0, G1, by rw [htk.out]; exact hB⟩, hK⟩
theorem Lp.ep {L : Lk} (p : Lp L) (x : Int) (hx : 1 ≤ x) : Lp { L with ep := x } := ⟨⟨p.ok.t1, p.ok.t2, p.ok.n1, p.ok.n2, hx, p.ok.few⟩, p.so, p.ro, p.gb, p.eb, p.f0, p.f1⟩
theorem Lp.now {L : Lk} (p : Lp L) (x : Int) (h0 : 0 ≤ x) (h1 : x ≤ 1099511627776) : Lp { L with now := x } := ⟨⟨p.ok.t1, p.ok.t2, h0, h1, p.ok.e1, p.ok.few⟩, p.so, p.ro, p.gb, p.eb, p.f0, p.f1⟩
set_option maxHeartbeats 1000000 in
theorem xrec_any {w : World} {lb : Nat} {L : Lk} (h : XM B w lb L) (p : Lp L) (hep : L.ep < 4611686018427387904) :
    Calls Tryz.prog 40 #[.pointer (some ⟨lb, 0, none⟩)] w fun e w' => e = .returned (.tuple #[]) ∧ Hid (XM B w' lb { L with ep := L.ep + 1, s := recS L }) ∧ Hid (KX B lb w w') := by
  obtain ⟨d, v, rv, v0, v1, G0, G1, hB⟩ := h
  have c2 : w.cell? ⟨lb, 2, none⟩ = some (.int .i64 L.ep) := hB.cells.2.2.1
  have f2 := hB.blk.fz 2
  have we : IntKind.i64.wrap (L.ep + 1) = L.ep + 1 := by have := p.ok.e1; rw [IntKind.wrap_i64]; omega
  have p1 : Lp { L with ep := L.ep + 1 } := p.ep _ (by have := p.ok.e1; omega)
  have hB1 := hB.setEp (L.ep + 1)
  have k1 := hB1.mack p1
  have k2 : Hid (∀ x, Below (w.setCell ⟨lb, 2, none⟩ (.int .i64 (L.ep + 1))).heap.size (w.setCell ⟨lb, 2, none⟩ (.int .i64 (L.ep + 1))) x → _) := fun x (hx : Below (w.setCell ⟨lb, 2, none⟩ (.int .i64 (L.ep + 1))).heap.size (w.setCell ⟨lb, 2, none⟩ (.int .i64 (L.ep + 1))) x) => (hB1.kept hx).res p1 (ackN L.r) (L.r.tk + L.r.win)
  have hc : Hid (∀ x, Below (w.setCell ⟨lb, 2, none⟩ (.int .i64 (L.ep + 1))).heap.size (w.setCell ⟨lb, 2, none⟩ (.int .i64 (L.ep + 1))) x → x.cell? ⟨lb, 1, none⟩ = some (.int .i64 L.now)) := fun x hx => (hB1.kept hx).cells.2.1
  have hnx : Hid ((recS L).nxt = L.s.nxt) := by show _ = _; unfold recS; split <;> rfl
  have hK0 : Hid (KX B lb w (w.setCell ⟨lb, 2, none⟩ (.int .i64 (L.ep + 1)))) := KX.cell 2 _
  clear hB hB1 p p1 hep
  go_enter Tryz.func40, Tryz.ntmps40
  go_wp2_with (go_at_call 68; refine k1.mono ?_; rintro e w1 ⟨rfl, hb1⟩; have c1 := hc.out _ hb1.out; clear k1)
  go_region_with (go_at_call 75; refine (k2.out _ hb1.out.drew).mono ?_; rintro e w2 ⟨r, rfl, hM, hK⟩)
  go_wp2
  refine bodyPost_end (results_none rfl _ _ _) rfl ?_
  obtain ⟨d', v', hB2⟩ := hM.out
  refine ⟨rfl, ⟨d', v', rv, v0, v1, G0, G1, ?_⟩, (hK0.out.trans (KX.of_below hb1.out.drew)).trans hK.out⟩
  rw [show ({ L with ep := L.ep + 1, s := recS L } : Lk).s.nxt = L.s.nxt from hnx.out]
  exact hB2
end Go.Proofs.YtfipdldoklkciaaGreat
namespace Go.Proofs.YtfipdldoklkciaaGreat
open Go.RowKit
set_option linter.unusedVariables false
variable {B : Nat}
theorem Pq.put {G G' : List Gr} {g g' : Gr} (h : Pq G G') (h1 : g.zs = g'.zs) (h2 : g.sp = g'.sp) : Pq (putG G g) (putG G' g') := by
  have hl : G.length = G'.length := by have := congrArg List.length h; simpa using this
  unfold Pq at h ⊢
  unfold putG
  rw [hl]
  split
  · rw [List.map_append, List.map_append, h]
    simp [h1, h2]
  · exact h
theorem Pq.len {G G' : List Gr} (h : Pq G G') : G.length = G'.length := by have := congrArg List.length h; simpa using this
def XC (B : Nat) (w : World) (lb : Nat) (L : Lk) (st gt : Int) : Prop := ∃ d v rv v0 v1 G0 G1, XB B w lb L d v rv v0 v1 st gt G0 G1
theorem XC.kept {w w' : World} {lb : Nat} {L : Lk} {st gt : Int} (h : XC B w lb L st gt) (hb : Below w.heap.size w w') : XC B w' lb L st gt := by
  obtain ⟨d, v, rv, v0, v1, G0, G1, h⟩ := h
  exact ⟨d, v, rv, v0, v1, G0, G1, h.kept hb⟩
theorem XC.cells {w : World} {lb : Nat} {L : Lk} {st gt : Int} (h : XC B w lb L st gt) : w.cell? ⟨lb, 0, none⟩ = some (.int .u64 L.tok) ∧ w.cell? ⟨lb, 1, none⟩ = some (.int .i64 L.now) ∧ w.cell? ⟨lb, 2, none⟩ = some (.int .i64 L.ep) := by
  obtain ⟨d, v, rv, v0, v1, G0, G1, h⟩ := h
  exact ⟨h.cells.1, h.cells.2.1, h.cells.2.2.1⟩
theorem XC.lt {w : World} {lb : Nat} {L : Lk} {st gt : Int} (h : XC B w lb L st gt) : lb < w.heap.size := by
  obtain ⟨d, v, rv, v0, v1, G0, G1, h⟩ := h
  exact h.blk.lt
theorem XC.low {w : World} {lb : Nat} {L : Lk} {st gt : Int} (h : XC B w lb L st gt) : B ≤ w.heap.size := by
  obtain ⟨d, v, rv, v0, v1, G0, G1, h⟩ := h
  exact Nat.le_trans h.hl (Nat.le_of_lt h.blk.lt)
theorem OwnsT.kl {w w' : World} {lb base : Nat} {v : Value} {L : List (Int × Value × List Int)} {cs : Array Value} (h : OwnsT w base v L) (k : KS (fun q => q = lb) w w') (hl : Blk w lb cs 37) : OwnsT w' base v L :=
  h.keep fun b cur e _ h2 h3 => k.block b (Array.getElem?_eq_some_iff.1 h2).1 fun e1 => by
    subst e1
    have := blk_five h2 hl
    rcases h3 with rfl | rfl
    · exact absurd this (by decide)
    · exact absurd this (by decide)
theorem kl_below {lb : Nat} {w w' : World} (h : Below w.heap.size w w') : KS (fun q => q = lb) w w' := KS.of_below h
theorem KS.l_trans {lb : Nat} {a b c : World} (h : KS (fun q => q = lb) a b) (k : KS (fun q => q = lb) b c) : KS (fun q => q = lb) a c := h.trans k
/-- A datagram comes into the net. -/
theorem XC.put0 {w : World} {lb : Nat} {L : Lk} {st gt : Int} (h : XC B w lb L st gt) (hf : L.n0.length ≤ 256) (g : Gr) (hg : GrE w (Ge B) g) :
    Calls Tryz.prog 74 #[.pointer (some ⟨lb, 0, none⟩), .int .i64 0, g.val] w fun e w' => e = .returned (.tuple #[]) ∧ Hid (XC B w' lb { L with n0 := putG L.n0 g } st gt) ∧ Hid (KS (fun q => q = lb) w w') := by
  obtain ⟨d, v, rv, v0, v1, G0, G1, h⟩ := h
  refine (xputs0 (E := Ge B) g h.xn h.g0 (by rw [h.p0.len]; exact hf) (fun q hq => Nat.le_trans (Nat.le_trans h.hl (Nat.le_of_lt h.blk.lt)) hq) hg).mono ?_
  rintro e w' ⟨rfl, v2, hX, hR, hK⟩
  exact ⟨rfl, ⟨d, v, rv, v2, v1, _, G1, h.turn0 hK.out hX.out hR.out (h.p0.put rfl rfl)⟩, hK⟩
set_option maxHeartbeats 1000000 in
theorem xtells0 {w : World} {lb : Nat} {L : Lk} {st gt : Int} (m : Mg) (a : Option Addr) (n c : Nat) (h : XC B w lb L st gt) (hf : L.n0.length ≤ 256) (hp : pkE (tellM L m) = 0) (hk : Mok (tellM L m)) (hn : m.zs.length = n) (h0 : a = none → c = 0) (hb : Bytes w a m.zs) :
    Calls Tryz.prog 67 #[.pointer (some ⟨lb, 0, none⟩), .int .i64 0, mval m a n c] w fun e w' => e = .returned (.tuple #[]) ∧ Hid (∃ g : Gr, g.zs = pkB (tellM L m) ∧ g.sp = false ∧ XC B w' lb { L with n0 := putG L.n0 g } st gt) ∧ Hid (KS (fun q => q = lb) w w') := by
  have hL : Hid (XC B w lb L st gt) := h
  have hf' : Hid (L.n0.length ≤ 256) := hf
  have hlt := h.lt
  have hBw : Hid (B ≤ w.heap.size) := h.low
  have c1 := h.cells.1
  have c3 := h.cells.2.2
  have k1 : Hid (∀ x, Bytes x a m.zs → Calls Tryz.prog 97 #[.agg #[.int .i64 m.kind, .int .u64 L.tok, .int .i64 L.ep, .int .i64 m.seq, .int .i64 m.ack, .int .u64 m.bits, .int .i64 m.cred, .int .i64 m.fmt, .slice a n c]] x fun e w' => ∃ v, e = .returned (.tuple #[v, .int .i64 0]) ∧ Hid (OwnsB w' x.heap.size v (pkB (tellM L m))) ∧ Hid (Below x.heap.size x w')) := fun x hx =>
    (xpack_may (tellM L m) a n c x (pk_may hp).1 hk hn h0 hx (by have := (pk_may hp).2; rw [List.length_append] at this; have e : (tellM L m).zs = m.zs := rfl; rw [e] at this; omega)).mono (by
      rintro e w' ⟨v, rfl, h1, h2⟩
      rw [hp]
      exact ⟨v, rfl, h1.out.1 hp, h2⟩)
  have hB0 : Hid (Bytes w a m.zs) := hb
  clear h hp hk hn h0 hb hf
  unfold mval
  go_enter Tryz.func67, Tryz.ntmps67
  go_wp2_with fail
  go_region
  have hW : Hid (Below w.heap.size w (w.alloc (.cells #[.int .i64 m.kind, .int .u64 L.tok, .int .i64 L.ep, .int .i64 m.seq, .int .i64 m.ack, .int .u64 m.bits, .int .i64 m.cred, .int .i64 m.fmt, .slice a n c] 100)).drew) := ((Below.refl w.heap.size w).alloc (Nat.le_refl _) _).drew
  have hbk : Hid (Blk (w.alloc (.cells #[.int .i64 m.kind, .int .u64 L.tok, .int .i64 L.ep, .int .i64 m.seq, .int .i64 m.ack, .int .u64 m.bits, .int .i64 m.cred, .int .i64 m.fmt, .slice a n c] 100)).drew w.heap.size #[.int .i64 m.kind, .int .u64 L.tok, .int .i64 L.ep, .int .i64 m.seq, .int .i64 m.ack, .int .u64 m.bits, .int .i64 m.cred, .int .i64 m.fmt, .slice a n c] 100) := blk_new w _ _
  generalize (w.alloc (.cells #[.int .i64 m.kind, .int .u64 L.tok, .int .i64 L.ep, .int .i64 m.seq, .int .i64 m.ack, .int .u64 m.bits, .int .i64 m.cred, .int .i64 m.fmt, .slice a n c] 100)).drew = W at *
  have d0 : W.cell? ⟨w.heap.size, 0, none⟩ = some (.int .i64 m.kind) := hbk.out.cell 0
  have d1 : W.cell? ⟨w.heap.size, 1, none⟩ = some (.int .u64 L.tok) := hbk.out.cell 1
  have d2 : W.cell? ⟨w.heap.size, 2, none⟩ = some (.int .i64 L.ep) := hbk.out.cell 2
  have d3 : W.cell? ⟨w.heap.size, 3, none⟩ = some (.int .i64 m.seq) := hbk.out.cell 3
  have d4 : W.cell? ⟨w.heap.size, 4, none⟩ = some (.int .i64 m.ack) := hbk.out.cell 4
  have d5 : W.cell? ⟨w.heap.size, 5, none⟩ = some (.int .u64 m.bits) := hbk.out.cell 5
  have d6 : W.cell? ⟨w.heap.size, 6, none⟩ = some (.int .i64 m.cred) := hbk.out.cell 6
  have d7 : W.cell? ⟨w.heap.size, 7, none⟩ = some (.int .i64 m.fmt) := hbk.out.cell 7
  have d8 : W.cell? ⟨w.heap.size, 8, none⟩ = some (.slice a n c) := hbk.out.cell 8
  clear c1 c3 hlt
  go_wp2_with fail
  refine (k1.out _ (hB0.out.kept hW.out)).mono ?_
  rintro e w2 ⟨v, rfl, hO, hb2⟩
  have hO2 : OwnsB w2 0 v (pkB (tellM L m)) := hO.out.low (Nat.zero_le _)
  have hge : ∀ q, v.ownBlock = some q → B ≤ q := fun q hq => Nat.le_trans hBw.out (Nat.le_trans hW.out.size (own_at hO.out.1 q hq).1)
  obtain ⟨g, hg1, hg2, rfl, -⟩ := gr_of_owns false hO2
  have hL2 : Hid (XC B w2 lb L st gt) := (hL.out.kept hW.out).kept hb2.out
  have hK2 : Hid (KS (fun q => q = lb) w w2) := (kl_below hW.out).l_trans (kl_below hb2.out)
  have kp := hL2.out.put0 hf'.out g ⟨by rw [hg1]; exact hO2, hge⟩
  rw [show g.val = .agg #[.slice g.a g.n g.c, .bool false] by unfold Gr.val; rw [hg2]] at kp
  have hgz : Hid (g.zs = pkB (tellM L m) ∧ g.sp = false) := ⟨hg1, hg2⟩
  clear d0 d1 d2 d3 d4 d5 d6 d7 d8 hbk hW hO hb2 hg1 hg2 hO2 k1 hB0
  go_wp2_with (go_at_call 74; refine kp.mono ?_; rintro e w3 ⟨rfl, hL3, hK3⟩; clear kp)
  refine bodyPost_end (results_none rfl _ _ _) rfl ?_
  exact ⟨rfl, ⟨g, hgz.out.1, hgz.out.2, hL3.out⟩, hK2.out.l_trans hK3.out⟩
/-- A datagram comes into the net. -/
theorem XC.put1 {w : World} {lb : Nat} {L : Lk} {st gt : Int} (h : XC B w lb L st gt) (hf : L.n1.length ≤ 256) (g : Gr) (hg : GrE w (Ge B) g) :
    Calls Tryz.prog 74 #[.pointer (some ⟨lb, 0, none⟩), .int .i64 1, g.val] w fun e w' => e = .returned (.tuple #[]) ∧ Hid (XC B w' lb { L with n1 := putG L.n1 g } st gt) ∧ Hid (KS (fun q => q = lb) w w') := by
  obtain ⟨d, v, rv, v0, v1, G0, G1, h⟩ := h
  refine (xputs1 (E := Ge B) g h.xn h.g1 (by rw [h.p1.len]; exact hf) (fun q hq => Nat.le_trans (Nat.le_trans h.hl (Nat.le_of_lt h.blk.lt)) hq) hg).mono ?_
  rintro e w' ⟨rfl, v2, hX, hR, hK⟩
  exact ⟨rfl, ⟨d, v, rv, v0, v2, G0, _, h.turn1 hK.out hX.out hR.out (h.p1.put rfl rfl)⟩, hK⟩
set_option maxHeartbeats 1000000 in
theorem xtells1 {w : World} {lb : Nat} {L : Lk} {st gt : Int} (m : Mg) (a : Option Addr) (n c : Nat) (h : XC B w lb L st gt) (hf : L.n1.length ≤ 256) (hp : pkE (tellM L m) = 0) (hk : Mok (tellM L m)) (hn : m.zs.length = n) (h0 : a = none → c = 0) (hb : Bytes w a m.zs) :
    Calls Tryz.prog 67 #[.pointer (some ⟨lb, 0, none⟩), .int .i64 1, mval m a n c] w fun e w' => e = .returned (.tuple #[]) ∧ Hid (∃ g : Gr, g.zs = pkB (tellM L m) ∧ g.sp = false ∧ XC B w' lb { L with n1 := putG L.n1 g } st gt) ∧ Hid (KS (fun q => q = lb) w w') := by
  have hL : Hid (XC B w lb L st gt) := h
  have hf' : Hid (L.n1.length ≤ 256) := hf
  have hlt := h.lt
  have hBw : Hid (B ≤ w.heap.size) := h.low
  have c1 := h.cells.1
  have c3 := h.cells.2.2
  have k1 : Hid (∀ x, Bytes x a m.zs → Calls Tryz.prog 97 #[.agg #[.int .i64 m.kind, .int .u64 L.tok, .int .i64 L.ep, .int .i64 m.seq, .int .i64 m.ack, .int .u64 m.bits, .int .i64 m.cred, .int .i64 m.fmt, .slice a n c]] x fun e w' => ∃ v, e = .returned (.tuple #[v, .int .i64 0]) ∧ Hid (OwnsB w' x.heap.size v (pkB (tellM L m))) ∧ Hid (Below x.heap.size x w')) := fun x hx =>
    (xpack_may (tellM L m) a n c x (pk_may hp).1 hk hn h0 hx (by have := (pk_may hp).2; rw [List.length_append] at this; have e : (tellM L m).zs = m.zs := rfl; rw [e] at this; omega)).mono (by
      rintro e w' ⟨v, rfl, h1, h2⟩
      rw [hp]
      exact ⟨v, rfl, h1.out.1 hp, h2⟩)
  have hB0 : Hid (Bytes w a m.zs) := hb
  clear h hp hk hn h0 hb hf
  unfold mval
  go_enter Tryz.func67, Tryz.ntmps67
  go_wp2_with fail
  go_region
  have hW : Hid (Below w.heap.size w (w.alloc (.cells #[.int .i64 m.kind, .int .u64 L.tok, .int .i64 L.ep, .int .i64 m.seq, .int .i64 m.ack, .int .u64 m.bits, .int .i64 m.cred, .int .i64 m.fmt, .slice a n c] 100)).drew) := ((Below.refl w.heap.size w).alloc (Nat.le_refl _) _).drew
  have hbk : Hid (Blk (w.alloc (.cells #[.int .i64 m.kind, .int .u64 L.tok, .int .i64 L.ep, .int .i64 m.seq, .int .i64 m.ack, .int .u64 m.bits, .int .i64 m.cred, .int .i64 m.fmt, .slice a n c] 100)).drew w.heap.size #[.int .i64 m.kind, .int .u64 L.tok, .int .i64 L.ep, .int .i64 m.seq, .int .i64 m.ack, .int .u64 m.bits, .int .i64 m.cred, .int .i64 m.fmt, .slice a n c] 100) := blk_new w _ _
  generalize (w.alloc (.cells #[.int .i64 m.kind, .int .u64 L.tok, .int .i64 L.ep, .int .i64 m.seq, .int .i64 m.ack, .int .u64 m.bits, .int .i64 m.cred, .int .i64 m.fmt, .slice a n c] 100)).drew = W at *
  have d0 : W.cell? ⟨w.heap.size, 0, none⟩ = some (.int .i64 m.kind) := hbk.out.cell 0
  have d1 : W.cell? ⟨w.heap.size, 1, none⟩ = some (.int .u64 L.tok) := hbk.out.cell 1
  have d2 : W.cell? ⟨w.heap.size, 2, none⟩ = some (.int .i64 L.ep) := hbk.out.cell 2
  have d3 : W.cell? ⟨w.heap.size, 3, none⟩ = some (.int .i64 m.seq) := hbk.out.cell 3
  have d4 : W.cell? ⟨w.heap.size, 4, none⟩ = some (.int .i64 m.ack) := hbk.out.cell 4
  have d5 : W.cell? ⟨w.heap.size, 5, none⟩ = some (.int .u64 m.bits) := hbk.out.cell 5
  have d6 : W.cell? ⟨w.heap.size, 6, none⟩ = some (.int .i64 m.cred) := hbk.out.cell 6
  have d7 : W.cell? ⟨w.heap.size, 7, none⟩ = some (.int .i64 m.fmt) := hbk.out.cell 7
  have d8 : W.cell? ⟨w.heap.size, 8, none⟩ = some (.slice a n c) := hbk.out.cell 8
  clear c1 c3 hlt
  go_wp2_with fail
  refine (k1.out _ (hB0.out.kept hW.out)).mono ?_
  rintro e w2 ⟨v, rfl, hO, hb2⟩
  have hO2 : OwnsB w2 0 v (pkB (tellM L m)) := hO.out.low (Nat.zero_le _)
  have hge : ∀ q, v.ownBlock = some q → B ≤ q := fun q hq => Nat.le_trans hBw.out (Nat.le_trans hW.out.size (own_at hO.out.1 q hq).1)
  obtain ⟨g, hg1, hg2, rfl, -⟩ := gr_of_owns false hO2
  have hL2 : Hid (XC B w2 lb L st gt) := (hL.out.kept hW.out).kept hb2.out
  have hK2 : Hid (KS (fun q => q = lb) w w2) := (kl_below hW.out).l_trans (kl_below hb2.out)
  have kp := hL2.out.put1 hf'.out g ⟨by rw [hg1]; exact hO2, hge⟩
  rw [show g.val = .agg #[.slice g.a g.n g.c, .bool false] by unfold Gr.val; rw [hg2]] at kp
  have hgz : Hid (g.zs = pkB (tellM L m) ∧ g.sp = false) := ⟨hg1, hg2⟩
  clear d0 d1 d2 d3 d4 d5 d6 d7 d8 hbk hW hO hb2 hg1 hg2 hO2 k1 hB0
  go_wp2_with (go_at_call 74; refine kp.mono ?_; rintro e w3 ⟨rfl, hL3, hK3⟩; clear kp)
  refine bodyPost_end (results_none rfl _ _ _) rfl ?_
  exact ⟨rfl, ⟨g, hgz.out.1, hgz.out.2, hL3.out⟩, hK2.out.l_trans hK3.out⟩
theorem fold_len : ∀ (gs G : List Gr), G.length ≤ 256 → (gs.foldl putG G).length ≤ 256
  | [], G, h => h
  | g :: gs, G, h => by
    refine fold_len gs (putG G g) ?_
    unfold putG
    split
    · rw [List.length_append, List.length_singleton]; omega
    · exact h
set_option maxHeartbeats 2000000 in
theorem xtick_any {w : World} {lb : Nat} {L : Lk} (h : XM B w lb L) (p : Lp L) (he : L.ep ≤ 4611686018427387904) (ht : L.r.tk ≤ 4611686018427380000) :
    Calls Tryz.prog 34 #[.pointer (some ⟨lb, 0, none⟩)] w fun e w' => e = .returned (.tuple #[]) ∧ Hid (∃ M', TickS L M' ∧ XM B w' lb M') ∧ Hid (KX B lb w w') := by
  by_cases hn : 1099511627776 ≤ L.now
  · have d0 : decide (L.now ≥ 1099511627776) = true := by simpa using hn
    have hX : Hid (XM B w lb L) := h
    have hn' : Hid (1099511627776 ≤ L.now) := hn
    have c1 : w.cell? ⟨lb, 1, none⟩ = some (.int .i64 L.now) := by
      obtain ⟨d, v, rv, v0, v1, G0, G1, h⟩ := h
      exact h.cells.2.1
    clear h p he ht hn
    go_enter Tryz.func34, Tryz.ntmps34
    go_wp2
    refine bodyPost_ret (v := .tuple #[]) (by simp [results, Tryz.results34, go_sem]) rfl ?_
    exact ⟨rfl, ⟨L, ⟨fun _ => rfl, fun k => absurd k (by have := hn'.out; omega)⟩, hX.out⟩, KX.refl _ _⟩
  have hn : L.now < 1099511627776 := by omega
  obtain ⟨d, v, rv, v0, v1, G0, G1, hB⟩ := h
  have c1 : w.cell? ⟨lb, 1, none⟩ = some (.int .i64 L.now) := hB.cells.2.1
  have f1 := hB.blk.fz 1
  have d0 : decide (L.now ≥ 1099511627776) = false := by simpa using hn
  have hw : IntKind.i64.wrap (L.now + 1) = L.now + 1 := by have := p.ok.n1; rw [IntKind.wrap_i64]; omega
  have hL1 : Hid (XB B (w.setCell ⟨lb, 1, none⟩ (.int .i64 (L.now + 1))) lb { L with now := L.now + 1 } d v rv v0 v1 (L.s.nxt - 1) L.r.tk G0 G1) := hB.setNow _
  have hK1 : Hid (KX B lb w (w.setCell ⟨lb, 1, none⟩ (.int .i64 (L.now + 1)))) := KX.cell 1 _
  have hn' : Hid (L.now < 1099511627776 ∧ 0 ≤ L.now) := ⟨hn, p.ok.n1⟩
  have he' : Hid (L.ep ≤ 4611686018427387904 ∧ L.r.tk ≤ 4611686018427380000) := ⟨he, ht⟩
  have hok : Hid (Lok L) := p.ok
  have hsok : Hid (Ok L.s) := p.so
  have hrok : Hid (Rok L.r) := p.ro
  have hf : Hid (L.n0.length ≤ 256 ∧ L.n1.length ≤ 256) := ⟨p.f0, p.f1⟩
  clear hB p hn he ht
  go_enter Tryz.func34, Tryz.ntmps34
  go_wp2_with fail
  generalize (w.setCell ⟨lb, 1, none⟩ (.int .i64 (L.now + 1))) = W1 at *
  have d2 : W1.cell? ⟨lb, 1, none⟩ = some (.int .i64 (L.now + 1)) := hL1.out.cells.2.1
  have kD : Hid (Calls Tryz.prog 66 #[.pointer (some ⟨lb, 3, none⟩), .int .i64 (L.now + 1)] W1.drew fun e w' => ∃ a n c TL, e = .returned (.slice a n c) ∧ n = TL.length ∧ n ≤ c ∧ c ≤ 9223372036854775807 ∧ Hid (OwnsT w' W1.heap.size (.slice a n c) TL) ∧ Hid (plainT TL = dueN L) ∧ Hid (XC B w' lb (tk1 L) (L.s.nxt - 1) L.r.tk) ∧ Hid (KX B lb w w')) := by
    have h1 := hL1.out.kept (Below.refl _ _).drew
    refine (h1.due (L.now + 1) (by have := hn'.out; simp [timeB]; omega)).mono ?_
    rintro e w' ⟨v9, TL, rfl, h2, h3, h4, h6⟩
    obtain ⟨a, n, c, rfl, h7, h8, h9⟩ := h2.out.form
    obtain ⟨d', h4⟩ := h4.out
    refine ⟨a, n, c, TL, rfl, h7, h8, h9, h2, h3, ⟨d', v, rv, v0, v1, G0, G1, h4⟩, (hK1.out.trans (KX.of_below (Below.refl _ _).drew)).trans h6.out⟩
  clear hL1 hK1 c1 f1
  go_region_with (go_at_call 66; refine kD.out.mono ?_; rintro e w2 ⟨a, n, c, TL, rfl, hlen, hlc, hcm, hT, hP, hL2, hK2⟩; clear kD)
  all_goals
    simp only [List.getElem_toArray, List.getElem_cons_succ, List.getElem_cons_zero, Act.put, List.setIfInBounds_toArray, List.set_cons_zero, List.set_cons_succ]
    have hlen' : Hid (n = TL.length) := hlen
    clear hlen d2 hw
    go_wp2_with fail
    go_loopw [3] (fun s34 wr => ∃ (i : Nat) (gs : List Gr), i ≤ TL.length ∧ s34 = .int .i64 (i : Nat) ∧ Hid (gs.map (fun g => (g.zs, g.sp)) = ((plainT TL).take i).map fun p => (pkB (tellM L (mdata p.1 p.2)), false)) ∧ Hid (XC B wr lb { tk1 L with n0 := gs.foldl putG L.n0 } (L.s.nxt - 1) L.r.tk) ∧ Hid (OwnsT wr W1.heap.size (.slice a TL.length c) TL) ∧ Hid (KX B lb w wr)) (fun i _ => TL.length - (intOf i).toNat)
    case atStart => exact ⟨0, [], Nat.zero_le _, rfl, rfl, hL2, by have := hlen'.out; subst this; exact hT, hK2⟩
    case round =>
      obtain ⟨i, gs, hi, rfl, hgs, hLr, hTr, hKr⟩ := hrel
      clear hT hL2 hK2
      by_cases hlt2 : i < TL.length
      · have hd : decide ((i : Int) < (TL.length : Int)) = true := by simp; omega
        have hx : TL[i]? = some TL[i] := List.getElem?_eq_getElem hlt2
        generalize TL[i] = p at hx
        obtain ⟨seq, pv, pz⟩ := p
        obtain ⟨gb, cap, hv, hgb1, hgb2, hc⟩ := hTr.out.cells hx
        have ho := hTr.out.2 _ (List.mem_of_getElem? hx)
        obtain ⟨pa, pc, hpv, hpn, ⟨hpl, hpm⟩, hpb, hpat⟩ := ho.shape
        have hpv' : pv = .slice pa pz.length pc := hpv
        subst hpv'
        have hin : (seq, pz) ∈ dueN L := by
          rw [← hP.out]
          exact List.mem_map.2 ⟨_, List.mem_of_getElem? hx, rfl⟩
        obtain ⟨e0, he0, he1, he2, he3⟩ := dueL_in _ _ _ _ hin
        have he2 : L.s.base ≤ seq := he2
        have he3 : seq < L.s.base + ((L.s.nxt - L.s.base).toNat : Int) := he3
        have hpk := pk_data (zs := pz) hok.out he'.out.1 (seq := seq) (by have := hsok.out.b1; omega) (by have := hsok.out.b2; have := hsok.out.l1; have := hsok.out.l2; omega) (by have := hok.out.few _ _ he0; rw [he1] at this; exact this) hpb.1
        have kt : Hid (Calls Tryz.prog 67 #[.pointer (some ⟨lb, 0, none⟩), .int .i64 0, .agg #[.int .i64 1, .int .u64 0, .int .i64 0, .int .i64 seq, .int .i64 0, .int .u64 0, .int .i64 0, .int .i64 0, .slice pa pz.length pc]] wr fun e w' => e = .returned (.tuple #[]) ∧ Hid (∃ g : Gr, g.zs = pkB (tellM L (mdata seq pz)) ∧ g.sp = false ∧ XC B w' lb { tk1 L with n0 := putG (gs.foldl putG L.n0) g } (L.s.nxt - 1) L.r.tk) ∧ Hid (KS (fun q => q = lb) wr w')) :=
          xtells0 (mdata seq pz) pa pz.length pc hLr.out (fold_len _ _ hf.out.1) hpk.1 hpk.2 rfl hpn hpb
        have e0 : wr.cell? ⟨gb, i * 9, none⟩ = some (.int .i64 1) := hc 0 (by decide)
        have e1 : wr.cell? ⟨gb, i * 9 + 1, none⟩ = some (.int .u64 0) := hc 1 (by decide)
        have e2 : wr.cell? ⟨gb, i * 9 + 2, none⟩ = some (.int .i64 0) := hc 2 (by decide)
        have e3 : wr.cell? ⟨gb, i * 9 + 3, none⟩ = some (.int .i64 seq) := hc 3 (by decide)
        have e4 : wr.cell? ⟨gb, i * 9 + 4, none⟩ = some (.int .i64 0) := hc 4 (by decide)
        have e5 : wr.cell? ⟨gb, i * 9 + 5, none⟩ = some (.int .u64 0) := hc 5 (by decide)
        have e6 : wr.cell? ⟨gb, i * 9 + 6, none⟩ = some (.int .i64 0) := hc 6 (by decide)
        have e7 : wr.cell? ⟨gb, i * 9 + 7, none⟩ = some (.int .i64 0) := hc 7 (by decide)
        have e8 : wr.cell? ⟨gb, i * 9 + 8, none⟩ = some (.slice pa pz.length pc) := hc 8 (by decide)
        have hva : a = some ⟨gb, 0, none⟩ := by cases hv; rfl
        subst hva
        have hnl : n = TL.length := hlen'.out
        subst hnl
        have hx' : Hid (TL[i]? = some (seq, .slice pa pz.length pc, pz)) := hx
        generalize hNN : TL.length = N at *
        have hNN' : Hid (TL.length = N) := hNN
        have hbl : Hid (∃ cs, Blk wr lb cs 37) := by
          obtain ⟨d9, v9, rv9, v09, v19, G09, G19, h9⟩ := hLr.out
          exact ⟨_, h9.blk⟩
        clear hc hin he0 he1 hpk ho hpv hpn hpl hpm hpb hpat hv hx hNN hgb1 hgb2 he2 he3
        go_wp2_with (go_at_call 67; refine kt.out.mono ?_; rintro e w3 ⟨rfl, hL3, hK3⟩; clear kt)
        obtain ⟨g, hg1, hg2, hL3'⟩ := hL3.out
        refine ⟨⟨i + 1, gs ++ [g], by omega, by simp, ?_, ?_, ?_, hKr.out.trans (KX.of_l hK3.out)⟩, by simp [intOf]; omega⟩
        · show _ = _
          have h1 : (plainT TL)[i]? = some (seq, pz) := by unfold plainT; rw [List.getElem?_map, hx'.out]; rfl
          have h2 : i < (plainT TL).length := (List.getElem?_eq_some_iff.1 h1).1
          rw [List.take_succ_eq_append_getElem h2, List.map_append, List.map_append, hgs.out, (List.getElem?_eq_some_iff.1 h1).2]
          simp [hg1, hg2]
        · rw [List.foldl_append]
          exact hL3'
        · obtain ⟨cs9, hb9⟩ := hbl.out
          exact hTr.out.kl hK3.out hb9
      · have hd : decide ((i : Int) < (TL.length : Int)) = false := by simp; omega
        obtain rfl : i = TL.length := by omega
        have hnl : n = TL.length := hlen'.out
        subst hnl
        have hG : Hid (grs L (dueN L) gs) := by
          show _ = _
          rw [hgs.out, List.take_of_length_le (by simp [plainT]), hP.out]
        have hb : Rok L.r := hrok.out
        have k4 : Calls Tryz.prog 68 #[.pointer (some ⟨lb, 7, none⟩)] wr fun e w' => e = .returned (.tuple #[.int .i64 (ackN L.r), .int .u64 (ackB L.r), .int .i64 (L.r.tk + L.r.win)]) ∧ Hid (Below wr.heap.size wr w') := by
          obtain ⟨d9, v9, rv9, v09, v19, G09, G19, h9⟩ := hLr.out
          exact mack_any (h9.dx hb)
        have hN1 : Hid (0 ≤ ackN L.r ∧ ackN L.r ≤ 4611686018427387904 ∧ 0 ≤ L.r.tk + L.r.win ∧ L.r.tk + L.r.win ≤ 4611686018427387904) := by
          have h1 := rdy_le hb
          have h2 : ackN L.r = L.r.tk + (rdy L.r : Int) := rfl
          have h3 := hb.t1
          have h4 := hb.w2
          have h5 := hb.w1
          have h6 := he'.out.2
          show _ ∧ _ ∧ _ ∧ _
          omega
        have hN2 := ackB_bnd L.r
        have hpk := pk_ack hok.out he'.out.1 hN1.out.1 hN1.out.2.1 hN1.out.2.2.1 hN1.out.2.2.2 hN2.1 hN2.2
        have kt : Hid (∀ x, Below wr.heap.size wr x → Calls Tryz.prog 67 #[.pointer (some ⟨lb, 0, none⟩), .int .i64 1, .agg #[.int .i64 2, .int .u64 0, .int .i64 0, .int .i64 0, .int .i64 (ackN L.r), .int .u64 (ackB L.r), .int .i64 (L.r.tk + L.r.win), .int .i64 0, .slice none 0 0]] x fun e w' => e = .returned (.tuple #[]) ∧ Hid (∃ g : Gr, g.zs = pkB (tellM L (mack (ackN L.r) (ackB L.r) (L.r.tk + L.r.win))) ∧ g.sp = false ∧ XC B w' lb { tk1 L with n0 := gs.foldl putG L.n0, n1 := putG L.n1 g } (L.s.nxt - 1) L.r.tk) ∧ Hid (KS (fun q => q = lb) x w')) := fun x hx =>
          xtells1 (mack (ackN L.r) (ackB L.r) (L.r.tk + L.r.win)) none 0 0 (hLr.out.kept hx) hf.out.2 hpk.1 hpk.2 rfl (fun _ => rfl) ⟨by simp [mack], by simp [mack], .inl rfl⟩
        clear hb hN1 hN2 hpk
        generalize TL.length = N at *
        generalize hq1 : ackN L.r = x1 at *
        have q1 : Hid (ackN L.r = x1) := hq1
        clear hq1
        generalize hq2 : ackB L.r = x2 at *
        have q2 : Hid (ackB L.r = x2) := hq2
        clear hq2
        generalize hq3 : L.r.tk + L.r.win = x3 at *
        have q3 : Hid (L.r.tk + L.r.win = x3) := hq3
        clear hq3
        go_wp2_with (first | (go_at_call 68; refine k4.mono ?_; rintro e w3 ⟨rfl, hb3⟩; clear k4) | (go_at_call 67; refine (kt.out _ hb3.out).mono ?_; rintro e w4 ⟨rfl, hL4, hK4⟩; clear kt))
        refine bodyPost_end (results_none rfl _ _ _) rfl ?_
        obtain ⟨g, hg1, hg2, hg3⟩ := hL4.out
        exact ⟨rfl, ⟨{ tk1 L with n0 := gs.foldl putG L.n0, n1 := putG L.n1 g }, ⟨fun h => absurd h (by have := hn'.out; omega), fun _ => ⟨gs, g, hG.out, (by rw [q1.out, q2.out, q3.out]; exact hg1), hg2, rfl⟩⟩, hg3⟩, (hKr.out.trans (KX.of_below hb3.out)).trans (KX.of_l hK4.out)⟩
end Go.Proofs.YtfipdldoklkciaaGreat
