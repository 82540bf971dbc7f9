/-
  A watcher's step: what it does to the link.
-/
import Derived.Test.YtfipdldoklkciaaLli
import Derived.Test.YtfipdldoklkciaaLlj
namespace Go.Proofs.Ytfipdldoklkciaa
open Go.RowKit
set_option linter.unusedVariables false
/-- What a step knows behind the act. -/
structure Aft2 (w0 w' : World) (B : Nat) (q : Qb) (g : Nat) (L L' : Lk) (win : Int) (S : List (List Int)) (k : Nat) (x : Ac) (bx : Nat) (v : Value) (tk : Int) (a : Option Addr) (n c : Nat) (b : List Int) (ok : Bool) (E : Int) : Prop where
  lm : Lm w' B q L'
  bel : Below B w0 w'
  inv : Inv L' win (nxS S x E) (k + 1)
  wb : Blk w' g #[.pointer (some ⟨q.lb, 0, none⟩), v, .int .i64 tk] 46
  ow : OwnsO w' B v S
  hg : B ≤ g
  bk : Blk w' bx #[.int .i64 x.kind, .int .i64 x.net, .int .i64 x.i, .int .i64 x.at_, .int .u32 x.by_, .slice x.a x.n x.c] 49
  hb : B ≤ bx
  alt : (x.kind = 1 ∧ ok = true ∧ L'.r.tk = tk + 1 ∧ S[tk.toNat]? = some b) ∨ (ok = false ∧ L'.r.tk = tk)
  sl : Bytes w' a b ∧ b.length = n
  sg : ∀ z, a = some z → z.block ≠ g
  len : S.length ≤ 2199023255552
  ds : DoS L x L' b ok E
  tk0 : 0 ≤ tk ∧ tk ≤ 2199023255552
theorem aft_of2 {w0 w y : World} {B : Nat} {q : Qb} {g : Nat} {L : Lk} {win : Int} {S : List (List Int)} {k : Nat} (x : Ac) (bx : Nat) (v : Value) (h : Wt w0 w B q g L win S k) (hv : Blk w g #[.pointer (some ⟨q.lb, 0, none⟩), v, .int .i64 L.r.tk] 46) (hv2 : OwnsO w B v S) (hV : AcW w x) (hk : k ≤ 2199023255552) (hy : Below w.heap.size w y)
    (hbx : Blk y bx #[.int .i64 x.kind, .int .i64 x.net, .int .i64 x.i, .int .i64 x.at_, .int .u32 x.by_, .slice x.a x.n x.c] 49) (hB : B ≤ bx) :
    Calls Try.prog 24 #[.pointer (some ⟨q.lb, 0, none⟩), .agg #[.int .i64 x.kind, .int .i64 x.net, .int .i64 x.i, .int .i64 x.at_, .int .u32 x.by_, .slice x.a x.n x.c]] y fun e w' => ∃ a n c ok E, e = .returned (.tuple #[.slice a n c, .bool ok, .int .i64 E]) ∧ Hid (∃ b L', Aft2 w0 w' B q g L L' win S k x bx v L.r.tk a n c b ok E) := by
  have h2 := h.kept hy
  have hct := h.inv.ct
  have htk := h.inv.tk
  have t1 := h.lm.p.ro.t1
  refine (does_any x h2.lm (hV.kept hy) (h2.lm.dok h2.inv (by omega))).mono ?_
  rintro e w' hR
  obtain ⟨L', a, n, c, b, ok, E, rfl, hd, hL, hS, hK⟩ := hR.out
  obtain ⟨i1, i2⟩ := inv_step h2.lm.p hL.p h2.inv (by omega) (by have := hV.u32; omega) hd
  refine ⟨a, n, c, ok, E, rfl, b, L', hL, hK.below h2.bel h2.lm.B_le h2.lm, i1, (hv.kept hy).k4 hK h2.lm (by decide) (by decide) (by decide), (hv2.kept hy h.lm.B_le).k4 hK h2.lm, h.hg, hbx.k4 hK h2.lm (by decide) (by decide) (by decide), hB, ?_, ⟨hS.by_, hS.len⟩, fun z hz e => by have h1 := (hS.at_ z hz).1; have h3 := hv.lt; have h4 := hy.size; omega, by omega, hd, t1, by omega⟩
  rcases i2 with ⟨j1, j2, j3, j4⟩ | ⟨j1, j2⟩
  · exact .inl ⟨j1, j2, j3, j4⟩
  · exact .inr ⟨j1, j2⟩
/-- The load is put behind the others. -/
structure Put2 (w0 w2 : World) (B : Nat) (q : Qb) (g : Nat) (L' : Lk) (win : Int) (S : List (List Int)) (k : Nat) (x : Ac) (bx : Nat) (v : Value) (a4 : Option Addr) (n4 c4 : Nat) : Prop where
  d1 : w2.cell? ⟨g, 1, none⟩ = some v
  z1 : w2.frozen? ⟨g, 1, none⟩ = false
  b0 : w2.cell? ⟨bx, 0, none⟩ = some (.int .i64 x.kind)
  ne : g ≠ bx
  wt : Wt w0 (w2.setCell ⟨g, 1, none⟩ (.slice a4 n4 c4)) B q g L' win (S ++ [x.zs]) (k + 1)
theorem put_of2 {w0 w1 y w2 : World} {B : Nat} {q : Qb} {g : Nat} {L L' : Lk} {win : Int} {S : List (List Int)} {k : Nat} {x : Ac} {bx : Nat} {v : Value} {tk : Int} {a : Option Addr} {n c : Nat} {b : List Int} {ok : Bool} {E : Int} {a4 : Option Addr} {n4 c4 : Nat}
    (h : Aft2 w0 w1 B q g L L' win S k x bx v tk a n c b ok E) (hk : x.kind = 0) (hE : E = 0) (hy : Below w1.heap.size w1 y) (hO : OwnsO w2 B (.slice a4 n4 c4) (S ++ [x.zs])) (hg : y.grownBy w2 v.ownBlock) : Put2 w0 w2 B q g L' win S k x bx v a4 n4 c4 := by
  have hB := h.lm.B_le
  have o1 := h.ow.kept hy hB
  have g1 := (h.wb.kept hy).grow o1 hg (by decide)
  have b1 := (h.bk.kept hy).grow o1 hg (by decide)
  have l1 := (h.lm.kept hy).grows o1 hg
  have hB2 : B ≤ y.heap.size := Nat.le_trans hB hy.size
  have be : Below B w0 w2 := (h.bel.trans (hy.mono hB)).grown hg hB2 (fun k hk => (o1.own k hk).1)
  have hne : g ≠ bx := fun e => by
    have := h.wb
    rw [e] at this
    exact absurd (this.ty h.bk) (by decide)
  have hi := h.inv
  have eS : nxS S x E = S ++ [x.zs] := by unfold nxS; rw [if_pos ⟨hk, hE⟩]
  rw [eS] at hi
  have ht : L'.r.tk = tk := by
    rcases h.alt with ⟨q, _⟩ | ⟨_, q⟩
    · rw [hk] at q; cases q
    · exact q
  refine ⟨g1.cell 1, g1.fz 1, b1.cell 0, hne, l1.oth (K2.set w2 1 _) g1 (by decide) (by decide) (by decide) (by decide), (K2.set (q := g) (g := g) w2 1 _).below be (Nat.le_trans hB2 hg.size) h.hg h.hg, hi, ⟨_, by rw [ht]; exact g1.set 1 _, hO.keep (K2.below (K2.set (q := g) (g := g) w2 1 _) (Below.refl B w2) (Nat.le_trans hB2 hg.size) h.hg h.hg) (fun g' cur hg' => ?_)⟩, h.hg⟩
  exact Below.heap_setCell _ _ _ _ (fun e => by
    have e : g' = g := e
    subst e
    exact absurd (g1.ty hg') (by decide))
/-- A load is answered: what is seen of it. -/
structure Pol2 (w0 W1 : World) (B : Nat) (q : Qb) (g : Nat) (L' : Lk) (win : Int) (S : List (List Int)) (k : Nat) (va : Option Addr) (vc t : Nat) (a : Option Addr) (n c : Nat) (b : List Int) : Prop where
  wt : Wt w0 W1 B q g L' win S k
  see : ∃ (gs cs : Nat) (a2 : Option Addr) (c2 : Nat), Value.slice va S.length vc = .slice (some ⟨gs, 0, none⟩) S.length cs ∧ W1.cell? ⟨g, 1, none⟩ = some (.slice va S.length vc) ∧ W1.cell? ⟨g, 2, none⟩ = some (.int .i64 ((t : Nat) + 1)) ∧ W1.cell? ⟨gs, t, none⟩ = some (.slice a2 b.length c2) ∧ ∀ m, Calls Try.prog 15 #[.slice a n c, .slice a2 b.length c2] (W1.drewN m) fun e w' => e = .returned (.bool true) ∧ w' = W1.drewN m
theorem pol_of2 {w0 w1 : World} {B : Nat} {q : Qb} {g : Nat} {L L' : Lk} {win : Int} {S : List (List Int)} {k : Nat} {x : Ac} {bx : Nat} {va : Option Addr} {vc t : Nat} {a : Option Addr} {n c : Nat} {b : List Int} {E : Int}
    (h : Aft2 w0 w1 B q g L L' win S k x bx (.slice va S.length vc) (t : Nat) a n c b true E) (ht : L'.r.tk = (t : Nat) + 1) (hi : Inv L' win S (k + 1)) (hS : S[t]? = some b) : Pol2 w0 (w1.setCell ⟨g, 2, none⟩ (.int .i64 (((t : Nat) : Int) + 1))) B q g L' win S (k + 1) va vc t a n c b := by
  have hK2 : K2 g g w1 (w1.setCell ⟨g, 2, none⟩ (.int .i64 (((t : Nat) : Int) + 1))) := K2.set w1 2 _
  have hwb := h.wb.set 2 (.int .i64 (((t : Nat) : Int) + 1))
  have hB := h.lm.B_le
  have hbel := hK2.below h.bel hB h.hg h.hg
  have how : OwnsO (w1.setCell ⟨g, 2, none⟩ (.int .i64 (((t : Nat) : Int) + 1))) B (.slice va S.length vc) S := h.ow.keep (hK2.below (Below.refl B w1) hB h.hg h.hg) (fun g' cur hg' => Below.heap_setCell _ _ _ _ (fun e => by
    have e : g' = g := e
    subst e
    exact absurd (h.wb.ty hg') (by decide)))
  have hlm := h.lm.oth hK2 h.wb (by decide) (by decide) (by decide) (by decide)
  obtain ⟨gs, cs, a2, c2, e0, e1, e2⟩ := how.at hS
  refine ⟨⟨hlm, hbel, hi, ⟨_, by rw [ht]; exact hwb, how⟩, h.hg⟩, gs, cs, a2, c2, e0, hwb.cell 1, hwb.cell 2, e1, fun m => ?_⟩
  have hsl : Bytes (w1.setCell ⟨g, 2, none⟩ (.int .i64 (((t : Nat) : Int) + 1))) a b := h.sl.1.k2 hK2 (fun y hy => ⟨h.sg y hy, h.sg y hy⟩)
  have k := same_any a a2 n b.length c c2 b b ((w1.setCell ⟨g, 2, none⟩ (.int .i64 (((t : Nat) : Int) + 1))).drewN m) (hsl.drewN m) (e2.drewN m) h.sl.2 rfl
  rw [show decide (b = b) = true by simp] at k
  exact k
set_option maxRecDepth 100000 in
set_option maxHeartbeats 2000000 in
theorem wstep2 {w0 w : World} {B : Nat} {q : Qb} {g : Nat} {L : Lk} {win : Int} {S : List (List Int)} {k : Nat} (x : Ac) (h : Wt w0 w B q g L win S k) (hV : AcW w x) (hV0 : Bytes w0 x.a x.zs) (hO : ∀ y, x.a = some y → x.zs ≠ [] → y.block < B) (hk : k ≤ 2199023255552) :
    Calls Try.prog 19 #[.pointer (some ⟨g, 0, none⟩), x.val] w fun e w' => e = .returned (.bool true) ∧ Hid (∃ L' b ok E, DoS L x L' b ok E ∧ Wt w0 w' B q g L' win (nxS S x E) (k + 1)) := by
  obtain ⟨v, hv, hv2⟩ := h.wb
  obtain ⟨va, vn, vc, rfl, rfl, hvc, hvm⟩ := hv2.form
  have hlt := hv.lt
  have hV0' : Hid (Bytes w0 x.a x.zs) := hV0
  have hB := h.lm.B_le
  have kD : Hid (∀ y, Below w.heap.size w y → Blk y w.heap.size #[.int .i64 x.kind, .int .i64 x.net, .int .i64 x.i, .int .i64 x.at_, .int .u32 x.by_, .slice x.a x.n x.c] 49 → Calls Try.prog 24 #[.pointer (some ⟨q.lb, 0, none⟩), .agg #[.int .i64 x.kind, .int .i64 x.net, .int .i64 x.i, .int .i64 x.at_, .int .u32 x.by_, .slice x.a x.n x.c]] y fun e w' => ∃ a n c ok E, e = .returned (.tuple #[.slice a n c, .bool ok, .int .i64 E]) ∧ Hid (∃ b L', Aft2 w0 w' B q g L L' win S k x w.heap.size (.slice va S.length vc) L.r.tk a n c b ok E)) := fun y hy hb => aft_of2 x w.heap.size (.slice va S.length vc) h hv hv2 hV hk hy hb hB
  have hbk := blk_new w #[.int .i64 x.kind, .int .i64 x.net, .int .i64 x.i, .int .i64 x.at_, .int .u32 x.by_, .slice x.a x.n x.c] 49
  have hA1 : Below w.heap.size w (w.alloc (.cells #[.int .i64 x.kind, .int .i64 x.net, .int .i64 x.i, .int .i64 x.at_, .int .u32 x.by_, .slice x.a x.n x.c] 49)) := (Below.refl _ _).alloc (Nat.le_refl _) _
  have g1 := hv.kept hA1
  have q0 : _ = some (Value.pointer (some ⟨q.lb, 0, none⟩)) := g1.cell 0
  have c0 : _ = some (Value.int .i64 x.kind) := hbk.cell 0
  have c1 : _ = some (Value.int .i64 x.net) := hbk.cell 1
  have c2 : _ = some (Value.int .i64 x.i) := hbk.cell 2
  have c3 : _ = some (Value.int .i64 x.at_) := hbk.cell 3
  have c4 : _ = some (Value.int .u32 x.by_) := hbk.cell 4
  have c5 : _ = some (Value.slice x.a x.n x.c) := hbk.cell 5
  have hbk' : Hid (Blk _ w.heap.size #[.int .i64 x.kind, .int .i64 x.net, .int .i64 x.i, .int .i64 x.at_, .int .u32 x.by_, .slice x.a x.n x.c] 49) := hbk
  have hA1' : Hid (Below w.heap.size w _) := hA1
  have hO' : Hid (∀ y, x.a = some y → x.zs ≠ [] → y.block < B) := hO
  have hV' : Hid (AcW w x) := hV
  generalize hbx : w.heap.size = bx at *
  unfold Ac.val
  clear h hV hO hv hv2 hbk hA1 g1 hB hV0
  go_enter Try.func19, Try.ntmps19
  go_wp2_with fail
  generalize w.alloc (.cells #[.int .i64 x.kind, .int .i64 x.net, .int .i64 x.i, .int .i64 x.at_, .int .u32 x.by_, .slice x.a x.n x.c] 49) = W at *
  go_region_with (go_at_call 24; refine (kD.out _ (by repeat' with_reducible first | exact hA1'.out | refine Below.drew ?_ | refine Below.drN ?_ _) (by first | exact hbk'.out | exact (Blk.drew hbk'.out))).mono ?_; rintro e w1 ⟨a, n, c, ok, E, rfl, hR⟩; clear kD)
  all_goals
    obtain ⟨b, L', hF⟩ := hR.out
    have hF' : Hid (Aft2 w0 w1 B q g L L' win S k x bx (.slice va S.length vc) L.r.tk a n c b ok E) := hF
    have kk : w1.cell? ⟨bx, 0, none⟩ = some (.int .i64 x.kind) := hF.bk.cell 0
    by_cases h0 : x.kind = 0
    · have d0 : (x.kind == 0) = true := by simpa using h0
      have d1 : (x.kind != 1) = true := by simp [h0]
      by_cases hE : E = 0
      · have dE : (E == 0) = true := by simpa using hE
        have hds : Hid (DoS L x L' b ok E) := hF.ds
        have eSS : Hid (nxS S x E = S ++ [x.zs]) := by show _ = _; unfold nxS; rw [if_pos ⟨h0, hE⟩]
        have hPu : Hid (∀ y w2 a4 n4 c4, Below w1.heap.size w1 y → OwnsO w2 B (.slice a4 n4 c4) (S ++ [x.zs]) → y.grownBy w2 (Value.slice va S.length vc).ownBlock → Put2 w0 w2 B q g L' win S k x bx (.slice va S.length vc) a4 n4 c4) := fun y w2 a4 n4 c4 p1 p2 p3 => put_of2 hF h0 hE p1 p2 p3
        have hAt : Hid (∀ y, Below w1.heap.size w1 y → OwnsO y B (.slice va S.length vc) S ∧ LoadO y B (.slice x.a x.n x.c) x.zs ∧ B ≤ y.heap.size) := fun y hy => ⟨hF.ow.kept hy hF.lm.B_le, ⟨x.a, x.c, by rw [hV'.out.len], hV0'.out.below (hF.bel.trans (hy.mono hF.lm.B_le)) hO'.out, hV'.out.nil, by rw [hV'.out.len]; exact hV'.out.le, hV'.out.mx, hO'.out⟩, Nat.le_trans hF.lm.B_le hy.size⟩
        have hfew : Hid (S.length ≤ 2199023255552) := hF.len
        have yA : Hid (Below w1.heap.size w1 (w1.alloc (.cells #[.slice x.a x.n x.c] 23))) := (Below.refl _ _).alloc (Nat.le_refl _) _
        have yB : Hid (Below w1.heap.size w1 (w1.drew.alloc (.cells #[.slice x.a x.n x.c] 23))) := (Below.refl _ _).drew.alloc (Nat.le_refl _) _
        have g1 := hF.wb.cell 1
        have g5 := hF.bk.cell 5
        have gA := (hF.wb.kept yA.out).cell 1
        have gB := (hF.wb.kept yB.out).cell 1
        have bA := (hF.bk.kept yA.out).cell 5
        have bB := (hF.bk.kept yB.out).cell 5
        have g1 : w1.cell? ⟨g, 1, none⟩ = some (.slice va S.length vc) := g1
        have g5 : w1.cell? ⟨bx, 5, none⟩ = some (.slice x.a x.n x.c) := g5
        have gA : _ = some (Value.slice va S.length vc) := gA
        have gB : _ = some (Value.slice va S.length vc) := gB
        have bA : _ = some (Value.slice x.a x.n x.c) := bA
        have bB : _ = some (Value.slice x.a x.n x.c) := bB
        clear hF hF' hR h0 hE hO' hV' hV0' q0 c0 c1 c2 c3 c4 c5 hbk' hA1'
        go_wp2
        go_region_law (refine step_append_old (by rfl) _ _ (by rfl) B (.slice va S.length vc) (.slice x.a x.n x.c) S x.zs (by rfl) (by first | exact (hAt.out _ yB.out).1 | exact (hAt.out _ yA.out).1) (by first | exact (hAt.out _ yB.out).2.1 | exact (hAt.out _ yA.out).2.1) ⟨_, 0, none⟩ (by rfl) (by first | exact (blk_new w1.drew #[.slice x.a x.n x.c] 23).cell 0 | exact (blk_new w1 #[.slice x.a x.n x.c] 23).cell 0) hfew.out (by first | exact (hAt.out _ yB.out).2.2 | exact (hAt.out _ yA.out).2.2) ?_; intro v4 w2 hO2 hg2; obtain ⟨a4, n4, c4, rfl, p1, p2, p3⟩ := hO2.form; clear p1 p2 p3; have hP : Hid (Put2 w0 w2 B q g L' win S k x bx (.slice va S.length vc) a4 n4 c4) := (by first | exact hPu.out _ w2 a4 n4 c4 yB.out hO2 hg2 | exact hPu.out _ w2 a4 n4 c4 yA.out hO2 hg2); have e1 := hP.out.d1; have e2 := hP.out.z1; have e3 := hP.out.b0; have e4 := hP.out.ne; have e5 := Ne.symm e4; clear hO2 hg2)
        all_goals
          go_wp2
          go_ret
          exact ⟨rfl, L', b, ok, E, hds.out, by rw [eSS.out]; exact hP.out.wt⟩
      · have dE : (E == 0) = false := by simpa using hE
        have hr : Hid (∃ L' b ok E, DoS L x L' b ok E ∧ Wt w0 w1 B q g L' win (nxS S x E) (k + 1)) := by
          have ht : L'.r.tk = L.r.tk := by
            rcases hF.alt with ⟨z, _⟩ | ⟨_, z⟩
            · rw [h0] at z; cases z
            · exact z
          have hi := hF.inv
          have eS : nxS S x E = S := by unfold nxS; rw [if_neg (fun z => hE z.2)]
          rw [eS] at hi
          exact ⟨L', b, ok, E, hF.ds, by rw [eS]; exact ⟨hF.lm, hF.bel, hi, ⟨.slice va S.length vc, by rw [ht]; exact hF.wb, hF.ow⟩, hF.hg⟩⟩
        clear hF hF' hR h0 hE hO' hV' q0 c0 c1 c2 c3 c4 c5 hbk' hA1'
        go_wp2
        go_ret
        exact ⟨rfl, hr⟩
    · have d0 : (x.kind == 0) = false := by simpa using h0
      by_cases h1 : x.kind = 1 ∧ ok = true
      · obtain ⟨h1, rfl⟩ := h1
        have d1 : (x.kind != 1) = false := by simp [h1]
        obtain ⟨_, _, ht, hS⟩ : x.kind = 1 ∧ true = true ∧ L'.r.tk = L.r.tk + 1 ∧ S[L.r.tk.toNat]? = some b := by
          rcases hF.alt with z | ⟨z, _⟩
          · exact z
          · cases z
        have hk0 := hF.tk0
        have hds : Hid (DoS L x L' b true E) := hF.ds
        have eSS : Hid (nxS S x E = S) := nxS_no h0
        obtain ⟨t, htk⟩ : ∃ t : Nat, L.r.tk = (t : Int) := ⟨L.r.tk.toNat, by omega⟩
        have htl : t ≤ 2199023255552 := by omega
        rw [htk] at hF hS ht
        rw [show ((t : Nat) : Int).toNat = t by omega] at hS
        have hlt2 := (List.getElem?_eq_some_iff.1 hS).1
        have hi := hF.inv
        rw [nxS_no h0] at hi
        have gg2 : w1.cell? ⟨g, 2, none⟩ = some (.int .i64 (t : Nat)) := hF.wb.cell 2
        have gz2 := hF.wb.fz 2
        have gw : IntKind.i64.wrap (((t : Nat) : Int) + 1) = ((t : Nat) : Int) + 1 := by rw [IntKind.wrap_i64]; omega
        have hP : Hid (Pol2 w0 (w1.setCell ⟨g, 2, none⟩ (.int .i64 (((t : Nat) : Int) + 1))) B q g L' win S (k + 1) va vc t a n c b) := pol_of2 hF ht hi hS
        clear hF hF' hR h0 h1 ht hi hk0 htk hO' hV' hV0' q0 c0 c1 c2 c3 c4 c5 hbk' hA1'
        go_wp2_with fail
        generalize w1.setCell ⟨g, 2, none⟩ (.int .i64 (((t : Nat) : Int) + 1)) = W1 at *
        clear gg2 gz2 kk
        obtain ⟨gs, cs, a2, c2, e0, e1, e2, e3, kS⟩ := hP.out.see
        cases e0
        have i0 : decide ((((t : Nat) : Int) + 1) ≤ ((S.length : Nat) : Int)) = true := by simp; omega
        have i1 : IntKind.i64.wrap ((t : Nat) : Int) = ((t : Nat) : Int) := by rw [IntKind.wrap_i64]; omega
        have i2 : decide ((0 : Int) ≤ ((t : Nat) : Int)) = true := by simp
        have i3 : decide (((t : Nat) : Int) < ((S.length : Nat) : Int)) = true := by simp; omega
        have i4 : (0 : Int) ≤ ((t : Nat) : Int) := by omega
        have i5 : ((t : Nat) : Int) < ((S.length : Nat) : Int) := by omega
        clear hlt2 htl gw
        go_quiet ((go_at_call 15; exact Calls.quiet_of_same (kS _)))
        go_wp2
        go_ret
        exact ⟨rfl, L', b, true, E, hds.out, by rw [eSS.out]; exact hP.out.wt.kept (Below.drN (Below.refl _ _) _)⟩
      · have ht : L'.r.tk = L.r.tk := by
          rcases hF.alt with ⟨z, z2, _⟩ | ⟨_, z⟩
          · exact absurd ⟨z, z2⟩ h1
          · exact z
        have hr : Hid (∃ L' b ok E, DoS L x L' b ok E ∧ Wt w0 w1 B q g L' win (nxS S x E) (k + 1)) := by
          have hi := hF.inv
          rw [nxS_no h0] at hi
          exact ⟨L', b, ok, E, hF.ds, by rw [nxS_no h0]; exact ⟨hF.lm, hF.bel, hi, ⟨.slice va S.length vc, by rw [ht]; exact hF.wb, hF.ow⟩, hF.hg⟩⟩
        by_cases h2 : x.kind = 1
        · have d1 : (x.kind != 1) = false := by simp [h2]
          obtain rfl : ok = false := by
            cases ok with
            | false => rfl
            | true => exact absurd ⟨h2, rfl⟩ h1
          clear hF hF' hR h0 h1 h2 ht hO' hV' q0 c0 c1 c2 c3 c4 c5 hbk' hA1'
          go_wp2
          go_ret
          exact ⟨rfl, hr⟩
        · have d1 : (x.kind != 1) = true := by simpa using h2
          clear hF hF' hR h0 h1 h2 ht hO' hV' q0 c0 c1 c2 c3 c4 c5 hbk' hA1'
          go_wp2
          go_ret
          exact ⟨rfl, hr⟩
end Go.Proofs.Ytfipdldoklkciaa
