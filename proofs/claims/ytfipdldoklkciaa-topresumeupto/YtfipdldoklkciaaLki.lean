/-
  A link in memory.
-/
import Derived.Test.YtfipdldoklkciaaLkg
import Derived.Test.YtfipdldoklkciaaLkp
import Derived.Test.YtfipdldoklkciaaLkb
namespace Go.Proofs.Ytfipdldoklkciaa
open Go.RowKit
set_option linter.unusedVariables false
/-- A link as plain data. -/
structure Lk where
  tok : Int
  now : Int
  ep : Int
  s : St
  r : Rc
  n0 : List Gr
  n1 : List Gr
/-- A link's blocks: its own, its sender's, the sender's map, its receiver's. -/
structure Qb where
  lb : Nat
  sb : Nat
  mb : Nat
  rb : Nat
/-- A DATAGRAM's BYTES IN MEMORY, from B on. -/
structure GrIn (w : World) (B : Nat) (g : Gr) : Prop where
  by_ : Bytes w g.a g.zs
  len : g.zs.length = g.n
  le : g.n ≤ g.c
  mx : g.c ≤ 9223372036854775807
  nil : g.a = none → g.c = 0
  at_ : ∀ x, g.a = some x → B ≤ x.block ∧ ∃ cs, Blk w x.block cs 5
/-- THE LINK's OWN CELLS. -/
structure LkC (cs : Array Value) (q : Qb) (L : Lk) : Prop where
  sz : cs.size = 1036
  c0 : cs[0]? = some (.bool true)
  c1 : cs[1]? = some (.int .u64 L.tok)
  c2 : cs[2]? = some (.int .i64 L.now)
  c3 : cs[3]? = some (.int .i64 L.ep)
  c4 : cs[4]? = some (.pointer (some ⟨q.sb, 0, none⟩))
  c5 : cs[5]? = some (.pointer (some ⟨q.rb, 0, none⟩))
  k0 : cs[519]? = some (.int .i64 1)
  e0 : cs[520]? = some (.func (.func 56) #[.pointer (some ⟨q.lb, 0, none⟩)] #[])
  k1 : cs[1034]? = some (.int .i64 2)
  e1 : cs[1035]? = some (.func (.func 57) #[.pointer (some ⟨q.lb, 0, none⟩)] #[])
  n0 : Net cs 6 L.n0
  n1 : Net cs 521 L.n1
structure Lok (L : Lk) : Prop where
  t1 : 0 ≤ L.tok
  t2 : L.tok < 18446744073709551616
  n1 : 0 ≤ L.now
  n2 : L.now ≤ 1099511627776
  e1 : 1 ≤ L.ep
  few : ∀ z e, L.s.L z = some e → e.zs.length ≤ 1100
/-- A LINK IN MEMORY. -/
structure Lm (w : World) (B : Nat) (q : Qb) (L : Lk) : Prop where
  ok : Lok L
  sd : Sd w B q.sb q.mb L.s
  rv : Rv w q.rb L.r
  lk : ∃ cs, Blk w q.lb cs 66 ∧ LkC cs q L
  gr : ∀ g, g ∈ L.n0 ∨ g ∈ L.n1 → GrIn w B g
  hl : B ≤ q.lb
  hr : B ≤ q.rb
theorem GrIn.kept {w w' : World} {B : Nat} {g : Gr} (h : GrIn w B g) (hb : Below w.heap.size w w') : GrIn w' B g :=
  ⟨h.by_.kept hb, h.len, h.le, h.mx, h.nil, fun x hx => ⟨(h.at_ x hx).1, (h.at_ x hx).2.imp fun cs hc => hc.kept hb⟩⟩
theorem Blk.ty {w : World} {g : Nat} {cs cs' : Array Value} {T T' : TypeId} (h : Blk w g cs T) (h' : Blk w g cs' T') : T = T' := by
  unfold Blk at h h'
  rw [h] at h'
  injection h' with h'
  injection h' with _ h'
theorem GrIn.k2 {w w' : World} {B q g : Nat} {x : Gr} (h : GrIn w B x) (k : K2 q g w w') (hq : ∀ cs, ¬ Blk w q cs 5) (hg : ∀ cs, ¬ Blk w g cs 5) : GrIn w' B x := by
  have hne : ∀ y, x.a = some y → y.block ≠ q ∧ y.block ≠ g := fun y hy => by
    obtain ⟨_, cs, hc⟩ := h.at_ y hy
    exact ⟨fun e => hq cs (by rw [← e]; exact hc), fun e => hg cs (by rw [← e]; exact hc)⟩
  refine ⟨h.by_.k2 k hne, h.len, h.le, h.mx, h.nil, fun y hy => ⟨(h.at_ y hy).1, ?_⟩⟩
  obtain ⟨_, cs, hc⟩ := h.at_ y hy
  exact ⟨cs, (k.block y.block hc.lt (hne y hy).1 (hne y hy).2).trans hc⟩
theorem Lm.kept {w w' : World} {B : Nat} {q : Qb} {L : Lk} (h : Lm w B q L) (hb : Below w.heap.size w w') : Lm w' B q L :=
  ⟨h.ok, h.sd.kept hb, h.rv.kept hb, h.lk.imp fun cs hc => ⟨hc.1.kept hb, hc.2⟩, fun g hg => (h.gr g hg).kept hb, h.hl, h.hr⟩
theorem Lm.drew {w : World} {B : Nat} {q : Qb} {L : Lk} (h : Lm w B q L) : Lm w.drew B q L := h.kept (Below.refl _ _).drew
theorem Rv.bk {w : World} {rb : Nat} {s : Rc} (h : Rv w rb s) : ∃ cs, Blk w rb cs 138 := by
  obtain ⟨_, cs, h2, _⟩ := h
  exact ⟨cs, h2⟩
theorem MapI.no {w : World} {b n : Nat} {f : Int → Option Value} (h : MapI w b f n) (cs : Array Value) (T : TypeId) : ¬ Blk w b cs T := by
  intro hb
  obtain ⟨D, ⟨es, clock, h1, _⟩, _⟩ := h
  unfold Blk at hb
  rw [h1] at hb
  cases hb
/-- The four blocks lie apart. -/
theorem Lm.apart {w : World} {B : Nat} {q : Qb} {L : Lk} (h : Lm w B q L) : q.lb ≠ q.sb ∧ q.lb ≠ q.mb ∧ q.lb ≠ q.rb ∧ q.rb ≠ q.sb ∧ q.rb ≠ q.mb := by
  obtain ⟨cs, hc, _⟩ := h.lk
  obtain ⟨cr, hr⟩ := h.rv.bk
  have hs := h.sd.blk
  have hm := h.sd.mp
  refine ⟨fun e => ?_, fun e => ?_, fun e => ?_, fun e => ?_, fun e => ?_⟩
  · rw [e] at hc; exact absurd (hc.ty hs) (by decide)
  · rw [e] at hc; exact hm.no _ _ hc
  · rw [e] at hc; exact absurd (hc.ty hr) (by decide)
  · rw [e] at hr; exact absurd (hr.ty hs) (by decide)
  · rw [e] at hr; exact hm.no _ _ hr
theorem Lm.no5 {w : World} {B : Nat} {q : Qb} {L : Lk} (h : Lm w B q L) : (∀ cs, ¬ Blk w q.lb cs 5) ∧ (∀ cs, ¬ Blk w q.sb cs 5) ∧ (∀ cs, ¬ Blk w q.mb cs 5) ∧ (∀ cs, ¬ Blk w q.rb cs 5) := by
  obtain ⟨cs, hc, _⟩ := h.lk
  obtain ⟨cr, hr⟩ := h.rv.bk
  have hs := h.sd.blk
  have hm := h.sd.mp
  exact ⟨fun c k => absurd (hc.ty k) (by decide), fun c k => absurd (hs.ty k) (by decide), fun c k => hm.no _ _ k, fun c k => absurd (hr.ty k) (by decide)⟩
theorem Sd.but {w w' : World} {B sb mb q g : Nat} {s : St} (h : Sd w B sb mb s) (k : K2 q g w w') (h1 : sb ≠ q ∧ sb ≠ g) (h2 : mb ≠ q ∧ mb ≠ g) (hq : ∀ cs, ¬ Blk w q cs 5) (hg : ∀ cs, ¬ Blk w g cs 5) : Sd w' B sb mb s := by
  refine ⟨h.ok, h.hs, h.hm, (k.block sb h.blk.lt h1.1 h1.2).trans h.blk, ?_, fun z e he => ?_⟩
  · obtain ⟨D, ⟨es, clock, a1, a2⟩, a3⟩ := h.mp
    exact ⟨D, ⟨es, clock, (k.block mb (Array.getElem?_eq_some_iff.1 a1).1 h2.1 h2.2).trans a1, a2⟩, a3⟩
  · have l := h.ld z e he
    have hne : ∀ x, e.a = some x → x.block ≠ q ∧ x.block ≠ g := fun x hx => by
      obtain ⟨cs, hc⟩ := l.ty x hx
      exact ⟨fun e => hq cs (by rw [← e]; exact hc), fun e => hg cs (by rw [← e]; exact hc)⟩
    exact ⟨l.by_.k2 k hne, l.nil, l.le, l.mx, fun x hx => ⟨(l.at_ x hx).1, Nat.lt_of_lt_of_le (l.at_ x hx).2.1 k.size, (l.at_ x hx).2.2⟩, fun x hx => (l.ty x hx).imp fun cs hc => (k.block x.block (l.at_ x hx).2.1 (hne x hx).1 (hne x hx).2).trans hc⟩
theorem LkC.same {cs : Array Value} {q : Qb} {L L' : Lk} (h : LkC cs q L) (h1 : L'.tok = L.tok) (h2 : L'.now = L.now) (h3 : L'.ep = L.ep) (h4 : L'.n0 = L.n0) (h5 : L'.n1 = L.n1) : LkC cs q L' :=
  ⟨h.sz, h.c0, by rw [h1]; exact h.c1, by rw [h2]; exact h.c2, by rw [h3]; exact h.c3, h.c4, h.c5, h.k0, h.e0, h.k1, h.e1, by rw [h4]; exact h.n0, by rw [h5]; exact h.n1⟩
/-- The sender has turned. -/
theorem Lm.turnS {w w' : World} {B : Nat} {q : Qb} {L : Lk} {s : St} (h : Lm w B q L) (hs : Sd w' B q.sb q.mb s) (k : K2 q.sb q.mb w w') (hf : ∀ z e, s.L z = some e → e.zs.length ≤ 1100) : Lm w' B q { L with s := s } := by
  obtain ⟨a1, a2, a3, a4, a5⟩ := h.apart
  obtain ⟨b1, b2, b3, b4⟩ := h.no5
  refine ⟨⟨h.ok.t1, h.ok.t2, h.ok.n1, h.ok.n2, h.ok.e1, hf⟩, hs, h.rv.k2 k a4 a5, h.lk.imp fun cs hc => ⟨(k.block q.lb hc.1.lt a1 a2).trans hc.1, hc.2.same rfl rfl rfl rfl rfl⟩, fun g hg => (h.gr g hg).k2 k b2 b3, h.hl, h.hr⟩
/-- The receiver has turned. -/
theorem Lm.turnR {w w' : World} {B : Nat} {q : Qb} {L : Lk} {r : Rc} (h : Lm w B q L) (hr : Rv w' q.rb r) (k : K2 q.rb q.rb w w') : Lm w' B q { L with r := r } := by
  obtain ⟨a1, a2, a3, a4, a5⟩ := h.apart
  obtain ⟨b1, b2, b3, b4⟩ := h.no5
  refine ⟨⟨h.ok.t1, h.ok.t2, h.ok.n1, h.ok.n2, h.ok.e1, h.ok.few⟩, h.sd.but k ⟨Ne.symm a4, Ne.symm a4⟩ ⟨Ne.symm a5, Ne.symm a5⟩ b4 b4, hr, h.lk.imp fun cs hc => ⟨(k.block q.lb hc.1.lt a3 a3).trans hc.1, hc.2.same rfl rfl rfl rfl rfl⟩, fun g hg => (h.gr g hg).k2 k b4 b4, h.hl, h.hr⟩
/-- The link's own cells have turned. -/
theorem Lm.turnL {w w' : World} {B : Nat} {q : Qb} {L L' : Lk} {cs : Array Value} (h : Lm w B q L) (hb : Blk w' q.lb cs 66) (hc : LkC cs q L') (k : K2 q.lb q.lb w w') (hs : L'.s = L.s) (hr : L'.r = L.r) (hok : Lok L') (hg : ∀ g, g ∈ L'.n0 ∨ g ∈ L'.n1 → (g ∈ L.n0 ∨ g ∈ L.n1) ∨ GrIn w' B g) : Lm w' B q L' := by
  obtain ⟨a1, a2, a3, a4, a5⟩ := h.apart
  obtain ⟨b1, b2, b3, b4⟩ := h.no5
  refine ⟨hok, ?_, ?_, ⟨cs, hb, hc⟩, fun g hgg => ?_, h.hl, h.hr⟩
  · rw [hs]
    exact h.sd.but k ⟨Ne.symm a1, Ne.symm a1⟩ ⟨Ne.symm a2, Ne.symm a2⟩ b1 b1
  · rw [hr]
    exact h.rv.k2 k (Ne.symm a3) (Ne.symm a3)
  · rcases hg g hgg with h1 | h1
    · exact (h.gr g h1).k2 k b1 b1
    · exact h1
/-- NOTHING BUT A LINK's FOUR BLOCKS HAS TURNED. -/
structure K4 (q : Qb) (w w' : World) : Prop where
  os : w'.os = w.os
  tape : w'.tape = w.tape
  output : w'.output = w.output
  size : w.heap.size ≤ w'.heap.size
  block : ∀ k, k < w.heap.size → k ≠ q.lb → k ≠ q.sb → k ≠ q.mb → k ≠ q.rb → w'.heap[k]? = w.heap[k]?
theorem K4.refl (q : Qb) (w : World) : K4 q w w := ⟨rfl, rfl, rfl, Nat.le_refl _, fun _ _ _ _ _ _ => rfl⟩
theorem K4.trans {q : Qb} {a b c : World} (h : K4 q a b) (k : K4 q b c) : K4 q a c :=
  ⟨k.os.trans h.os, k.tape.trans h.tape, k.output.trans h.output, Nat.le_trans h.size k.size, fun i hi h1 h2 h3 h4 => (k.block i (Nat.lt_of_lt_of_le hi h.size) h1 h2 h3 h4).trans (h.block i hi h1 h2 h3 h4)⟩
theorem K4.drew {q : Qb} {w w' : World} (h : K4 q w w') : K4 q w w'.drew := ⟨h.os, h.tape, h.output, h.size, h.block⟩
theorem K4.of_below {q : Qb} {w w' : World} (h : Below w.heap.size w w') : K4 q w w' := ⟨h.os, h.tape, h.output, h.size, fun k hk _ _ _ _ => h.block k hk⟩
theorem K4.of_l {q : Qb} {w w' : World} (h : K2 q.lb q.lb w w') : K4 q w w' := ⟨h.os, h.tape, h.output, h.size, fun k hk h1 _ _ _ => h.block k hk h1 h1⟩
theorem K4.of_s {q : Qb} {w w' : World} (h : K2 q.sb q.mb w w') : K4 q w w' := ⟨h.os, h.tape, h.output, h.size, fun k hk _ h1 h2 _ => h.block k hk h1 h2⟩
theorem K4.of_r {q : Qb} {w w' : World} (h : K2 q.rb q.rb w w') : K4 q w w' := ⟨h.os, h.tape, h.output, h.size, fun k hk _ _ _ h1 => h.block k hk h1 h1⟩
theorem K4.below {q : Qb} {B : Nat} {L : Lk} {a w w' : World} (k : K4 q w w') (h : Below B a w) (hB : B ≤ w.heap.size) (hm : Lm w B q L) : Below B a w' := by
  have h1 := hm.hl; have h2 := hm.hr; have h3 := hm.sd.hs; have h4 := hm.sd.hm
  exact ⟨k.os.trans h.os, k.tape.trans h.tape, k.output.trans h.output, Nat.le_trans h.size k.size, fun i hi => (k.block i (by omega) (by omega) (by omega) (by omega) (by omega)).trans (h.block i hi)⟩
/-! ### cells -/
theorem Lm.cell {w : World} {B : Nat} {q : Qb} {L : Lk} (h : Lm w B q L) : w.cell? ⟨q.lb, 0, none⟩ = some (.bool true) ∧ w.cell? ⟨q.lb, 1, none⟩ = some (.int .u64 L.tok) ∧ w.cell? ⟨q.lb, 2, none⟩ = some (.int .i64 L.now) ∧ w.cell? ⟨q.lb, 3, none⟩ = some (.int .i64 L.ep) ∧ w.cell? ⟨q.lb, 4, none⟩ = some (.pointer (some ⟨q.sb, 0, none⟩)) ∧ w.cell? ⟨q.lb, 5, none⟩ = some (.pointer (some ⟨q.rb, 0, none⟩)) := by
  obtain ⟨cs, hb, hc⟩ := h.lk
  exact ⟨(hb.cell 0).trans hc.c0, (hb.cell 1).trans hc.c1, (hb.cell 2).trans hc.c2, (hb.cell 3).trans hc.c3, (hb.cell 4).trans hc.c4, (hb.cell 5).trans hc.c5⟩
theorem Lm.fz {w : World} {B : Nat} {q : Qb} {L : Lk} (h : Lm w B q L) (j : Nat) : w.frozen? ⟨q.lb, j, none⟩ = false := by
  obtain ⟨cs, hb, _⟩ := h.lk
  exact hb.fz j
theorem Lm.lt {w : World} {B : Nat} {q : Qb} {L : Lk} (h : Lm w B q L) : q.lb < w.heap.size := by
  obtain ⟨cs, hb, _⟩ := h.lk
  exact hb.lt
end Go.Proofs.Ytfipdldoklkciaa
