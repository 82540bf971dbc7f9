/-
  Texts Lle, Llf, Llg, Llh.
-/
import Derived.Test.YtfipdldoklkciaaGreatGap
import Derived.Test.YtfipdldoklkciaaGreatGao
import Derived.Deep.Slices
import Derived.Deep.Strs
import Derived.ChangeReads
import Derived.SizedLaws
namespace Go.Proofs.YtfipdldoklkciaaGreat
open Go.RowKit
set_option linter.unusedVariables false
/-- An act, its bytes readable. -/
structure AcW (w : World) (x : Ac) : Prop where
  by_ : Bytes w x.a x.zs
  len : x.zs.length = x.n
  le : x.n ≤ x.c
  mx : x.c ≤ 9223372036854775807
  nil : x.a = none → x.c = 0
  u32 : 0 ≤ x.by_ ∧ x.by_ < 4294967296
  at_ : (Lit.int .i64 x.at_).wf = true
theorem AcW.kept {w w' : World} {x : Ac} (h : AcW w x) (hb : Below w.heap.size w w') : AcW w' x := ⟨h.by_.kept hb, h.len, h.le, h.mx, h.nil, h.u32, h.at_⟩
def SendS (L L' : Lk) (zs : List Int) : Prop := (sendE L zs.length ≠ 0 → L' = L) ∧ (sendE L zs.length = 0 → ∃ en : Ent, en.zs = zs ∧ en.time = L.now ∧ en.wait = 1 ∧ en.there = false ∧ L' = { L with s := addA L.s en })
def TickS (L L' : Lk) : Prop := (1099511627776 ≤ L.now → L' = L) ∧ (L.now < 1099511627776 → ∃ (gs : List Gr) (g : Gr), grs L (dueN L) gs ∧ g.zs = pkB (tellM L (mack (ackN L.r) (ackB L.r) (L.r.tk + L.r.win))) ∧ g.sp = false ∧ L' = { tk1 L with n0 := gs.foldl putG L.n0, n1 := putG L.n1 g })
/-- WHAT AN ACT DOES: what it leaves, the load that it answers, whether it has one, the error. -/
inductive DoS (L : Lk) (x : Ac) : Lk → List Int → Bool → Int → Prop
  | send {L' : Lk} : x.kind = 0 → SendS L L' x.zs → DoS L x L' [] false (sendE L x.zs.length)
  | poll : x.kind = 1 → DoS L x { L with r := takeS L.r } ((L.r.L (L.r.tk + 1)).getD []) (L.r.L (L.r.tk + 1)).isSome 0
  | tick {L' : Lk} : x.kind = 2 → TickS L L' → DoS L x L' [] false 0
  | del : x.kind = 3 → DoS L x (delS L x.net x.i).2 [] false (delS L x.net x.i).1
  | drop : x.kind = 4 → DoS L x (dropS L x.net x.i) [] false (canE L x.net x.i)
  | twice : x.kind = 5 → DoS L x (twiceS L x.net x.i) [] false (canE L x.net x.i)
  | turn {L' : Lk} : x.kind = 6 → TurnS L L' x.net x.i x.at_ x.by_.toNat → DoS L x L' [] false (turnE L x.net x.i)
  | forge {L' : Lk} : x.kind = 7 → ForgeS L L' x.net x.zs → DoS L x L' [] false (forgeE L x.net x.zs)
  | again : x.kind = 8 → DoS L x { L with ep := L.ep + 1, s := recS L } [] false 0
  | none : (x.kind < 0 ∨ 8 < x.kind) → DoS L x L [] false 0
def DoR (w w' : World) (B : Nat) (q : Qb) (L : Lk) (x : Ac) (e : Ending) : Prop := ∃ L' a n c b ok k, e = .returned (.tuple #[.slice a n c, .bool ok, .int .i64 k]) ∧ DoS L x L' b ok k ∧ Lm w' B q L' ∧ Sl w' w.heap.size a n c b ∧ K4 q w w'
/-- What the link has need of: numbers that do not run over, datagrams that may be turned. -/
structure DoK (L : Lk) : Prop where
  ep : L.ep < 4611686018427387904
  tk : L.r.tk ≤ 4611686018427380000
  gr : ∀ g, g ∈ L.n0 ∨ g ∈ L.n1 → g.sp = false → 4 ≤ g.n ∧ g.n ≤ 100000
theorem sl_none (w : World) (B : Nat) : Sl w B none 0 0 [] := ⟨⟨by simp, by simp, .inl rfl⟩, rfl, Nat.le_refl _, by decide, fun _ => rfl, (fun x hx => by cases hx), fun x hx => by cases hx⟩
theorem kturn_int {w : World} {B : Nat} {q : Qb} {L : Lk} (n i x y : Int) (h : Lm w B q L) (hG : ∀ g, g ∈ L.n0 ∨ g ∈ L.n1 → g.sp = false → 4 ≤ g.n ∧ g.n ≤ 100000) (hx : (Lit.int .i64 x).wf = true) (hy : 0 ≤ y ∧ y < 4294967296) :
    Calls Tryz.prog 29 #[.pointer (some ⟨q.lb, 0, none⟩), .int .i64 n, .int .i64 i, .int .i64 x, .int .u32 y] w fun e w' => e = .returned (.int .i64 (turnE L n i)) ∧ Hid (∃ L', TurnS L L' n i x y.toNat ∧ Lm w' B q L') ∧ Hid (K4 q w w') := by
  obtain ⟨k, rfl⟩ := Int.eq_ofNat_of_zero_le hy.1
  have := kturn_any n i x k h hG hx (by omega)
  exact this
theorem sl_mono {w : World} {B B' : Nat} {a : Option Addr} {n c : Nat} {zs : List Int} (h : Sl w B' a n c zs) (hb : B ≤ B') : Sl w B a n c zs := ⟨h.by_, h.len, h.le, h.mx, h.nil, fun x hx => ⟨Nat.le_trans hb (h.at_ x hx).1, (h.at_ x hx).2⟩, h.ty⟩
/-- What a call within an act leaves. -/
def Mid (w w' : World) (B : Nat) (q : Qb) (L : Lk) (x : Ac) (b : List Int) (ok : Bool) (k : Int) : Prop := ∃ L', DoS L x L' b ok k ∧ Lm w' B q L' ∧ K4 q w w'
theorem DoR.of {w w' : World} {B : Nat} {q : Qb} {L : Lk} {x : Ac} {k : Int} (h : Mid w w' B q L x [] false k) : DoR w w' B q L x (.returned (.tuple #[.slice none 0 0, .bool false, .int .i64 k])) := by
  obtain ⟨L', h1, h2, h3⟩ := h
  exact ⟨L', none, 0, 0, [], false, k, rfl, h1, h2, sl_none _ _, h3⟩
set_option maxRecDepth 100000 in
theorem do0 {w : World} {B : Nat} {q : Qb} {L : Lk} (net i at_ by_ : Int) (a : Option Addr) (n c : Nat) (zs : List Int) (h : Lm w B q L) (hV : AcW w ⟨0, net, i, at_, by_, a, n, c, zs⟩) (hK : DoK L) :
    Calls Tryz.prog 7 #[.pointer (some ⟨q.lb, 0, none⟩), .agg #[.int .i64 0, .int .i64 net, .int .i64 i, .int .i64 at_, .int .u32 by_, .slice a n c]] w fun e w' => Hid (DoR w w' B q L ⟨0, net, i, at_, by_, a, n, c, zs⟩ e) := by
  have kX : Hid (∀ y, Below w.heap.size w y → Calls Tryz.prog 23 #[.pointer (some ⟨q.lb, 0, none⟩), .slice a n c] y fun e w' => e = .returned (.int .i64 (sendE L n)) ∧ Hid (Mid w w' B q L ⟨0, net, i, at_, by_, a, n, c, zs⟩ [] false (sendE L n))) := fun y hy => by
    have h2 := h.kept hy
    have hV2 := hV.kept hy
    refine (send_any a n c zs h2 h2.B_le hV2.len hV2.nil hV2.by_).mono ?_
    rintro e w' ⟨rfl, hR, hK4⟩
    refine ⟨rfl, ?_⟩
    have hn : zs.length = n := hV2.len
    rw [← hn]
    have hR := hR.out
    by_cases hE : sendE L zs.length = 0
    · obtain ⟨en, e1, e2, e3, e4, hL⟩ := hR.2 hE
      exact ⟨_, .send rfl ⟨fun k => absurd hE k, fun _ => ⟨en, e1, e2, e3, e4, rfl⟩⟩, hL, (K4.of_below hy).trans hK4.out⟩
    · exact ⟨_, .send rfl ⟨fun _ => rfl, fun k => absurd k hE⟩, hR.1 hE, (K4.of_below hy).trans hK4.out⟩
  clear h hV hK
  go_enter Tryz.func7, Tryz.ntmps7
  go_wp2_with (go_at_call 23; refine (kX.out _ (by repeat' with_reducible first | exact Below.refl _ _ | refine Below.drew ?_ | refine Below.drN ?_ _ | refine Below.al ?_ _)).mono ?_; rintro e w1 ⟨rfl, hM⟩; clear kX)
  refine bodyPost_ret (v := .tuple #[.slice none 0 0, .bool false, .int .i64 (sendE L n)]) (by simp [results, Tryz.results7, go_sem]) rfl (DoR.of hM.out)
set_option maxRecDepth 100000 in
theorem do1 {w : World} {B : Nat} {q : Qb} {L : Lk} (net i at_ by_ : Int) (a : Option Addr) (n c : Nat) (zs : List Int) (h : Lm w B q L) (hV : AcW w ⟨1, net, i, at_, by_, a, n, c, zs⟩) (hK : DoK L) :
    Calls Tryz.prog 7 #[.pointer (some ⟨q.lb, 0, none⟩), .agg #[.int .i64 1, .int .i64 net, .int .i64 i, .int .i64 at_, .int .u32 by_, .slice a n c]] w fun e w' => Hid (DoR w w' B q L ⟨1, net, i, at_, by_, a, n, c, zs⟩ e) := by
  have kX : Hid (∀ y, Below w.heap.size w y → Calls Tryz.prog 26 #[.pointer (some ⟨q.lb, 0, none⟩)] y fun e w' => ∃ a' n' c' b' ok, e = .returned (.tuple #[.slice a' n' c', .bool ok]) ∧ Hid (DoR w w' B q L ⟨1, net, i, at_, by_, a, n, c, zs⟩ (.returned (.tuple #[.slice a' n' c', .bool ok, .int .i64 0]))) ∧ Hid (b' = 0)) := fun y hy => by
    have h2 := h.kept hy
    have hV2 := hV.kept hy
    refine (poll_any h2 (by have := hK.tk; omega)).mono ?_
    rintro e w' ⟨hP, hL, hK4⟩
    obtain ⟨a', n', c', rfl, hS⟩ := hP.out
    exact ⟨a', n', c', 0, _, rfl, ⟨_, a', n', c', _, _, 0, rfl, .poll rfl, hL.out, sl_mono hS.out hy.size, (K4.of_below hy).trans hK4.out⟩, rfl⟩
  clear h hV hK
  go_enter Tryz.func7, Tryz.ntmps7
  go_wp2_with (go_at_call 26; refine (kX.out _ (by repeat' with_reducible first | exact Below.refl _ _ | refine Below.drew ?_ | refine Below.drN ?_ _ | refine Below.al ?_ _)).mono ?_; rintro e w1 ⟨a', n', c', b', ok, rfl, hM, _⟩; clear kX)
  refine bodyPost_ret (v := .tuple #[.slice a' n' c', .bool ok, .int .i64 0]) (by simp [results, Tryz.results7, go_sem]) rfl hM
set_option maxRecDepth 100000 in
theorem do2 {w : World} {B : Nat} {q : Qb} {L : Lk} (net i at_ by_ : Int) (a : Option Addr) (n c : Nat) (zs : List Int) (h : Lm w B q L) (hV : AcW w ⟨2, net, i, at_, by_, a, n, c, zs⟩) (hK : DoK L) :
    Calls Tryz.prog 7 #[.pointer (some ⟨q.lb, 0, none⟩), .agg #[.int .i64 2, .int .i64 net, .int .i64 i, .int .i64 at_, .int .u32 by_, .slice a n c]] w fun e w' => Hid (DoR w w' B q L ⟨2, net, i, at_, by_, a, n, c, zs⟩ e) := by
  have kX : Hid (∀ y, Below w.heap.size w y → Calls Tryz.prog 24 #[.pointer (some ⟨q.lb, 0, none⟩)] y fun e w' => e = .returned (.tuple #[]) ∧ Hid (Mid w w' B q L ⟨2, net, i, at_, by_, a, n, c, zs⟩ [] false (0))) := fun y hy => by
    have h2 := h.kept hy
    have hV2 := hV.kept hy
    refine (tick_any h2 (by have := hK.ep; omega) hK.tk).mono ?_
    rintro e w' ⟨rfl, hT, hK4⟩
    refine ⟨rfl, ?_⟩
    have hT := hT.out
    by_cases hE : 1099511627776 ≤ L.now
    · exact ⟨_, .tick rfl ⟨fun _ => rfl, fun k => absurd k (by omega)⟩, hT.1 hE, (K4.of_below hy).trans hK4.out⟩
    · obtain ⟨gs, g, e1, e2, e3, hL⟩ := hT.2 (by omega)
      exact ⟨_, .tick rfl ⟨fun k => absurd k hE, fun _ => ⟨gs, g, e1, e2, e3, rfl⟩⟩, hL, (K4.of_below hy).trans hK4.out⟩
  clear h hV hK
  go_enter Tryz.func7, Tryz.ntmps7
  go_wp2_with (go_at_call 24; refine (kX.out _ (by repeat' with_reducible first | exact Below.refl _ _ | refine Below.drew ?_ | refine Below.drN ?_ _ | refine Below.al ?_ _)).mono ?_; rintro e w1 ⟨rfl, hM⟩; clear kX)
  refine bodyPost_ret (v := .tuple #[.slice none 0 0, .bool false, .int .i64 0]) (by simp [results, Tryz.results7, go_sem]) rfl (DoR.of hM.out)
set_option maxRecDepth 100000 in
theorem do3 {w : World} {B : Nat} {q : Qb} {L : Lk} (net i at_ by_ : Int) (a : Option Addr) (n c : Nat) (zs : List Int) (h : Lm w B q L) (hV : AcW w ⟨3, net, i, at_, by_, a, n, c, zs⟩) (hK : DoK L) :
    Calls Tryz.prog 7 #[.pointer (some ⟨q.lb, 0, none⟩), .agg #[.int .i64 3, .int .i64 net, .int .i64 i, .int .i64 at_, .int .u32 by_, .slice a n c]] w fun e w' => Hid (DoR w w' B q L ⟨3, net, i, at_, by_, a, n, c, zs⟩ e) := by
  have kX : Hid (∀ y, Below w.heap.size w y → Calls Tryz.prog 25 #[.pointer (some ⟨q.lb, 0, none⟩), .int .i64 net, .int .i64 i] y fun e w' => e = .returned (.int .i64 (delS L net i).1) ∧ Hid (Mid w w' B q L ⟨3, net, i, at_, by_, a, n, c, zs⟩ [] false ((delS L net i).1))) := fun y hy => by
    have h2 := h.kept hy
    have hV2 := hV.kept hy
    refine (del_any net i h2).mono ?_
    rintro e w' ⟨rfl, hL, hK4⟩
    exact ⟨rfl, ⟨_, .del rfl, hL.out, (K4.of_below hy).trans hK4.out⟩⟩
  clear h hV hK
  go_enter Tryz.func7, Tryz.ntmps7
  go_wp2_with (go_at_call 25; refine (kX.out _ (by repeat' with_reducible first | exact Below.refl _ _ | refine Below.drew ?_ | refine Below.drN ?_ _ | refine Below.al ?_ _)).mono ?_; rintro e w1 ⟨rfl, hM⟩; clear kX)
  refine bodyPost_ret (v := .tuple #[.slice none 0 0, .bool false, .int .i64 (delS L net i).1]) (by simp [results, Tryz.results7, go_sem]) rfl (DoR.of hM.out)
set_option maxRecDepth 100000 in
theorem do4 {w : World} {B : Nat} {q : Qb} {L : Lk} (net i at_ by_ : Int) (a : Option Addr) (n c : Nat) (zs : List Int) (h : Lm w B q L) (hV : AcW w ⟨4, net, i, at_, by_, a, n, c, zs⟩) (hK : DoK L) :
    Calls Tryz.prog 7 #[.pointer (some ⟨q.lb, 0, none⟩), .agg #[.int .i64 4, .int .i64 net, .int .i64 i, .int .i64 at_, .int .u32 by_, .slice a n c]] w fun e w' => Hid (DoR w w' B q L ⟨4, net, i, at_, by_, a, n, c, zs⟩ e) := by
  have kX : Hid (∀ y, Below w.heap.size w y → Calls Tryz.prog 27 #[.pointer (some ⟨q.lb, 0, none⟩), .int .i64 net, .int .i64 i] y fun e w' => e = .returned (.int .i64 (canE L net i)) ∧ Hid (Mid w w' B q L ⟨4, net, i, at_, by_, a, n, c, zs⟩ [] false ((canE L net i)))) := fun y hy => by
    have h2 := h.kept hy
    have hV2 := hV.kept hy
    refine (drop_any net i h2).mono ?_
    rintro e w' ⟨rfl, hL, hK4⟩
    exact ⟨rfl, ⟨_, .drop rfl, hL.out, (K4.of_below hy).trans hK4.out⟩⟩
  clear h hV hK
  go_enter Tryz.func7, Tryz.ntmps7
  go_wp2_with (go_at_call 27; refine (kX.out _ (by repeat' with_reducible first | exact Below.refl _ _ | refine Below.drew ?_ | refine Below.drN ?_ _ | refine Below.al ?_ _)).mono ?_; rintro e w1 ⟨rfl, hM⟩; clear kX)
  refine bodyPost_ret (v := .tuple #[.slice none 0 0, .bool false, .int .i64 (canE L net i)]) (by simp [results, Tryz.results7, go_sem]) rfl (DoR.of hM.out)
set_option maxRecDepth 100000 in
theorem do5 {w : World} {B : Nat} {q : Qb} {L : Lk} (net i at_ by_ : Int) (a : Option Addr) (n c : Nat) (zs : List Int) (h : Lm w B q L) (hV : AcW w ⟨5, net, i, at_, by_, a, n, c, zs⟩) (hK : DoK L) :
    Calls Tryz.prog 7 #[.pointer (some ⟨q.lb, 0, none⟩), .agg #[.int .i64 5, .int .i64 net, .int .i64 i, .int .i64 at_, .int .u32 by_, .slice a n c]] w fun e w' => Hid (DoR w w' B q L ⟨5, net, i, at_, by_, a, n, c, zs⟩ e) := by
  have kX : Hid (∀ y, Below w.heap.size w y → Calls Tryz.prog 28 #[.pointer (some ⟨q.lb, 0, none⟩), .int .i64 net, .int .i64 i] y fun e w' => e = .returned (.int .i64 (canE L net i)) ∧ Hid (Mid w w' B q L ⟨5, net, i, at_, by_, a, n, c, zs⟩ [] false ((canE L net i)))) := fun y hy => by
    have h2 := h.kept hy
    have hV2 := hV.kept hy
    refine (twice_any net i h2).mono ?_
    rintro e w' ⟨rfl, hL, hK4⟩
    exact ⟨rfl, ⟨_, .twice rfl, hL.out, (K4.of_below hy).trans hK4.out⟩⟩
  clear h hV hK
  go_enter Tryz.func7, Tryz.ntmps7
  go_wp2_with (go_at_call 28; refine (kX.out _ (by repeat' with_reducible first | exact Below.refl _ _ | refine Below.drew ?_ | refine Below.drN ?_ _ | refine Below.al ?_ _)).mono ?_; rintro e w1 ⟨rfl, hM⟩; clear kX)
  refine bodyPost_ret (v := .tuple #[.slice none 0 0, .bool false, .int .i64 (canE L net i)]) (by simp [results, Tryz.results7, go_sem]) rfl (DoR.of hM.out)
set_option maxRecDepth 100000 in
theorem do6 {w : World} {B : Nat} {q : Qb} {L : Lk} (net i at_ by_ : Int) (a : Option Addr) (n c : Nat) (zs : List Int) (h : Lm w B q L) (hV : AcW w ⟨6, net, i, at_, by_, a, n, c, zs⟩) (hK : DoK L) :
    Calls Tryz.prog 7 #[.pointer (some ⟨q.lb, 0, none⟩), .agg #[.int .i64 6, .int .i64 net, .int .i64 i, .int .i64 at_, .int .u32 by_, .slice a n c]] w fun e w' => Hid (DoR w w' B q L ⟨6, net, i, at_, by_, a, n, c, zs⟩ e) := by
  have kX : Hid (∀ y, Below w.heap.size w y → Calls Tryz.prog 29 #[.pointer (some ⟨q.lb, 0, none⟩), .int .i64 net, .int .i64 i, .int .i64 at_, .int .u32 by_] y fun e w' => e = .returned (.int .i64 (turnE L net i)) ∧ Hid (Mid w w' B q L ⟨6, net, i, at_, by_, a, n, c, zs⟩ [] false (turnE L net i))) := fun y hy => by
    have h2 := h.kept hy
    have hV2 := hV.kept hy
    refine (kturn_int net i at_ by_ h2 hK.gr hV2.at_ hV2.u32).mono ?_
    rintro e w' ⟨rfl, hL, hK4⟩
    obtain ⟨L', h5, h6⟩ := hL.out
    exact ⟨rfl, ⟨_, .turn rfl h5, h6, (K4.of_below hy).trans hK4.out⟩⟩
  clear h hV hK
  go_enter Tryz.func7, Tryz.ntmps7
  go_wp2_with (go_at_call 29; refine (kX.out _ (by repeat' with_reducible first | exact Below.refl _ _ | refine Below.drew ?_ | refine Below.drN ?_ _ | refine Below.al ?_ _)).mono ?_; rintro e w1 ⟨rfl, hM⟩; clear kX)
  refine bodyPost_ret (v := .tuple #[.slice none 0 0, .bool false, .int .i64 (turnE L net i)]) (by simp [results, Tryz.results7, go_sem]) rfl (DoR.of hM.out)
set_option maxRecDepth 100000 in
theorem do7 {w : World} {B : Nat} {q : Qb} {L : Lk} (net i at_ by_ : Int) (a : Option Addr) (n c : Nat) (zs : List Int) (h : Lm w B q L) (hV : AcW w ⟨7, net, i, at_, by_, a, n, c, zs⟩) (hK : DoK L) :
    Calls Tryz.prog 7 #[.pointer (some ⟨q.lb, 0, none⟩), .agg #[.int .i64 7, .int .i64 net, .int .i64 i, .int .i64 at_, .int .u32 by_, .slice a n c]] w fun e w' => Hid (DoR w w' B q L ⟨7, net, i, at_, by_, a, n, c, zs⟩ e) := by
  have kX : Hid (∀ y, Below w.heap.size w y → Calls Tryz.prog 30 #[.pointer (some ⟨q.lb, 0, none⟩), .int .i64 net, .slice a n c] y fun e w' => e = .returned (.int .i64 (forgeE L net zs)) ∧ Hid (Mid w w' B q L ⟨7, net, i, at_, by_, a, n, c, zs⟩ [] false (forgeE L net zs))) := fun y hy => by
    have h2 := h.kept hy
    have hV2 := hV.kept hy
    refine (forge_any net a n c zs h2 hV2.len hV2.nil hV2.by_ hV2.le hV2.mx).mono ?_
    rintro e w' ⟨rfl, hL, hK4⟩
    obtain ⟨L', h5, h6⟩ := hL.out
    exact ⟨rfl, ⟨_, .forge rfl h5, h6, (K4.of_below hy).trans hK4.out⟩⟩
  clear h hV hK
  go_enter Tryz.func7, Tryz.ntmps7
  go_wp2_with (go_at_call 30; refine (kX.out _ (by repeat' with_reducible first | exact Below.refl _ _ | refine Below.drew ?_ | refine Below.drN ?_ _ | refine Below.al ?_ _)).mono ?_; rintro e w1 ⟨rfl, hM⟩; clear kX)
  refine bodyPost_ret (v := .tuple #[.slice none 0 0, .bool false, .int .i64 (forgeE L net zs)]) (by simp [results, Tryz.results7, go_sem]) rfl (DoR.of hM.out)
set_option maxRecDepth 100000 in
theorem do8 {w : World} {B : Nat} {q : Qb} {L : Lk} (net i at_ by_ : Int) (a : Option Addr) (n c : Nat) (zs : List Int) (h : Lm w B q L) (hV : AcW w ⟨8, net, i, at_, by_, a, n, c, zs⟩) (hK : DoK L) :
    Calls Tryz.prog 7 #[.pointer (some ⟨q.lb, 0, none⟩), .agg #[.int .i64 8, .int .i64 net, .int .i64 i, .int .i64 at_, .int .u32 by_, .slice a n c]] w fun e w' => Hid (DoR w w' B q L ⟨8, net, i, at_, by_, a, n, c, zs⟩ e) := by
  have kX : Hid (∀ y, Below w.heap.size w y → Calls Tryz.prog 31 #[.pointer (some ⟨q.lb, 0, none⟩)] y fun e w' => e = .returned (.tuple #[]) ∧ Hid (Mid w w' B q L ⟨8, net, i, at_, by_, a, n, c, zs⟩ [] false (0))) := fun y hy => by
    have h2 := h.kept hy
    have hV2 := hV.kept hy
    refine (rec_any h2 hK.ep).mono ?_
    rintro e w' ⟨rfl, hL, hK4⟩
    exact ⟨rfl, ⟨_, .again rfl, hL.out, (K4.of_below hy).trans hK4.out⟩⟩
  clear h hV hK
  go_enter Tryz.func7, Tryz.ntmps7
  go_wp2_with (go_at_call 31; refine (kX.out _ (by repeat' with_reducible first | exact Below.refl _ _ | refine Below.drew ?_ | refine Below.drN ?_ _ | refine Below.al ?_ _)).mono ?_; rintro e w1 ⟨rfl, hM⟩; clear kX)
  refine bodyPost_ret (v := .tuple #[.slice none 0 0, .bool false, .int .i64 0]) (by simp [results, Tryz.results7, go_sem]) rfl (DoR.of hM.out)
set_option maxRecDepth 100000 in
theorem do9 {w : World} {B : Nat} {q : Qb} {L : Lk} (kind net i at_ by_ : Int) (a : Option Addr) (n c : Nat) (zs : List Int) (h : Lm w B q L) (hk : kind < 0 ∨ 8 < kind) :
    Calls Tryz.prog 7 #[.pointer (some ⟨q.lb, 0, none⟩), .agg #[.int .i64 kind, .int .i64 net, .int .i64 i, .int .i64 at_, .int .u32 by_, .slice a n c]] w fun e w' => Hid (DoR w w' B q L ⟨kind, net, i, at_, by_, a, n, c, zs⟩ e) := by
  have d0 : (kind == 0) = false := by simp; omega
  have d1 : (kind == 1) = false := by simp; omega
  have d2 : (kind == 2) = false := by simp; omega
  have d3 : (kind == 3) = false := by simp; omega
  have d4 : (kind == 4) = false := by simp; omega
  have d5 : (kind == 5) = false := by simp; omega
  have d6 : (kind == 6) = false := by simp; omega
  have d7 : (kind == 7) = false := by simp; omega
  have d8 : (kind == 8) = false := by simp; omega
  have hM : Hid (∀ y, Below w.heap.size w y → DoR w y B q L ⟨kind, net, i, at_, by_, a, n, c, zs⟩ (.returned (.tuple #[.slice none 0 0, .bool false, .int .i64 0]))) := fun y hy => DoR.of ⟨L, .none hk, h.kept hy, K4.of_below hy⟩
  clear h hk
  go_enter Tryz.func7, Tryz.ntmps7
  go_wp2_with fail
  refine bodyPost_ret (v := .tuple #[.slice none 0 0, .bool false, .int .i64 0]) (by simp [results, Tryz.results7, go_sem]) rfl (hM.out _ (by repeat' with_reducible first | exact Below.refl _ _ | refine Below.drew ?_ | refine Below.drN ?_ _ | refine Below.al ?_ _))
theorem does_any {w : World} {B : Nat} {q : Qb} {L : Lk} (x : Ac) (h : Lm w B q L) (hV : AcW w x) (hK : DoK L) :
    Calls Tryz.prog 7 #[.pointer (some ⟨q.lb, 0, none⟩), x.val] w fun e w' => Hid (DoR w w' B q L x e) := by
  obtain ⟨kind, net, i, at_, by_, a, n, c, zs⟩ := x
  by_cases hk : kind < 0 ∨ 8 < kind
  · exact do9 kind net i at_ by_ a n c zs h hk
  · rcases (show kind = 0 ∨ kind = 1 ∨ kind = 2 ∨ kind = 3 ∨ kind = 4 ∨ kind = 5 ∨ kind = 6 ∨ kind = 7 ∨ kind = 8 by omega) with rfl | rfl | rfl | rfl | rfl | rfl | rfl | rfl | rfl
    · exact do0 net i at_ by_ a n c zs h hV hK
    · exact do1 net i at_ by_ a n c zs h hV hK
    · exact do2 net i at_ by_ a n c zs h hV hK
    · exact do3 net i at_ by_ a n c zs h hV hK
    · exact do4 net i at_ by_ a n c zs h hV hK
    · exact do5 net i at_ by_ a n c zs h hV hK
    · exact do6 net i at_ by_ a n c zs h hV hK
    · exact do7 net i at_ by_ a n c zs h hV hK
    · exact do8 net i at_ by_ a n c zs h hV hK
end Go.Proofs.YtfipdldoklkciaaGreat
namespace Go.Proofs.YtfipdldoklkciaaGreat
open Go.RowKit Go.ChangeShapes Go.WideShapes
set_option linter.unusedVariables false
set_option linter.unusedSimpArgs false
section
variable {H : Type} {enc : TypeId × Value → H} {w : World}
set_option maxRecDepth 100000 in
theorem open_bytesx {fuel : Nat} {cs : List Value} {x : DataW H × List MemPlace} (h : DataW.trod enc Tryz.prog w 0 (fun _ => true) true fuel 42 cs = some x) :
    ∃ a n cap zs, cs = [.slice a n cap] ∧ List.length zs = n ∧ n ≤ cap ∧ cap ≤ 9223372036854775807 ∧ (a = none → cap = 0) ∧ Bytes w a zs := by
  rcases open_ints Tryz.underlying42 Tryz.underlying5 (by kernel_rfl) h with ⟨hcs, hx⟩ | ⟨a, l, c, zs, hcs, _, hl, hm, hz, hx, hcell, hwz⟩
  · exact ⟨none, 0, 0, [], hcs, rfl, Nat.le_refl _, by decide, fun _ => rfl, ⟨by simp, by simp, .inl rfl⟩⟩
  · have hz' : zs.length = c := by simpa using hz
    have hlen : (zs.take l).length = l := by rw [List.length_take]; omega
    have hr : IsRow .u8 w (some a) l c zs := .inr ⟨a, rfl, hl, hm, hz', hcell, hwz⟩
    exact ⟨some a, l, c, zs.take l, hcs, hlen, by omega, by unfold maxLen at hm; omega, (fun h => by cases h), (bytes_of_row hr).2⟩
set_option maxRecDepth 100000 in
theorem open_acw {fuel : Nat} {cs : List Value} {x : DataW H × List MemPlace} (h : DataW.trod enc Tryz.prog w 0 (fun _ => true) true fuel 44 cs = some x) :
    ∃ y : Ac, cs = y.cells ∧ AcW w y := by
  obtain ⟨fs, hfs, hty⟩ : ∃ fs : Array Field, Tryz.prog.underlying 44 = some (.struct fs) ∧ fs.toList.map (fun f => (f.type, f.offset)) = [(3, 0), (3, 1), (3, 2), (3, 3), (41, 4), (42, 5)] := ⟨_, Tryz.underlying44, rfl⟩
  obtain ⟨xs, n, rfl, hx, hlen, hxl, hf⟩ := DataW.trod_struct hfs h
  rw [show Tryz.prog.cellsOf 44 = 6 by kernel_rfl] at hlen
  have h9 : fs.size = 6 := by have := congrArg List.length hty; simpa using this
  match cs, hlen with
  | [c0, c1, c2, c3, c4, c5], _ =>
  have hF : ∀ i (hi : i < 6), ∃ y, DataW.trod enc Tryz.prog w 0 (fun _ => true) true n (([(3, 0), (3, 1), (3, 2), (3, 3), (41, 4), (42, 5)] : List (TypeId × Nat)).getD i (0, 0)).1
      ((([c0, c1, c2, c3, c4, c5] : List Value).drop (([(3, 0), (3, 1), (3, 2), (3, 3), (41, 4), (42, 5)] : List (TypeId × Nat)).getD i (0, 0)).2).take (Tryz.prog.cellsOf (([(3, 0), (3, 1), (3, 2), (3, 3), (41, 4), (42, 5)] : List (TypeId × Nat)).getD i (0, 0)).1)) = some y := by
    intro i hi
    have hif : i < fs.size := by omega
    have e := hf i fs[i] (Array.getElem?_eq_getElem hif)
    have hy : xs[i]? = some (xs[i]'(by omega)) := List.getElem?_eq_getElem (by omega)
    have ht : ([(3, 0), (3, 1), (3, 2), (3, 3), (41, 4), (42, 5)] : List (TypeId × Nat)).getD i (0, 0) = (fs[i].type, fs[i].offset) := by
      rw [← hty, List.getD_eq_getElem?_getD, List.getElem?_map, Array.getElem?_toList, Array.getElem?_eq_getElem hif]
      rfl
    rw [ht]
    exact ⟨_, e.trans hy⟩
  have k0 : Tryz.prog.cellsOf 42 = 1 := by kernel_rfl
  have k1 : Tryz.prog.cellsOf 3 = 1 := by kernel_rfl
  have k2 : Tryz.prog.cellsOf 41 = 1 := by kernel_rfl
  obtain ⟨y0, e0⟩ := hF 0 (by omega)
  obtain ⟨y1, e1⟩ := hF 1 (by omega)
  obtain ⟨y2, e2⟩ := hF 2 (by omega)
  obtain ⟨y3, e3⟩ := hF 3 (by omega)
  obtain ⟨y4, e4⟩ := hF 4 (by omega)
  obtain ⟨y5, e5⟩ := hF 5 (by omega)
  clear hF hf
  simp only [List.getD_cons_zero, List.getD_cons_succ, k0, k1, k2, List.drop_zero, List.drop_succ_cons, List.take_succ_cons, List.take_zero] at e0 e1 e2 e3 e4 e5
  obtain ⟨z0, q0, _, w0⟩ := DataW.trod_int Tryz.underlying3 e0
  obtain ⟨z1, q1, _, w1⟩ := DataW.trod_int Tryz.underlying3 e1
  obtain ⟨z2, q2, _, w2⟩ := DataW.trod_int Tryz.underlying3 e2
  obtain ⟨z3, q3, _, w3⟩ := DataW.trod_int Tryz.underlying3 e3
  obtain ⟨z4, q4, _, w4⟩ := DataW.trod_int Tryz.underlying41 e4
  obtain ⟨a, l, c, zs, q5, b1, b2, b3, b4, b6⟩ := open_bytesx e5
  simp only [List.cons.injEq, and_true] at q0 q1 q2 q3 q4 q5
  subst q0 q1 q2 q3 q4 q5
  exact ⟨⟨z0, z1, z2, z3, z4, a, l, c, zs⟩, rfl, b6, b1, b2, b3, b4, wf_u32 w4, w3⟩
theorem cells_at {a : Addr} {n : Nat} {cs : List Value} (h : w.cells? 0 a n = some cs) : cs.length = n ∧ ∀ j, j < n → w.cell? (a.add j) = cs[j]? := by
  unfold World.cells? at h
  rw [if_pos (Nat.zero_le _)] at h
  refine ⟨by simpa using mapM_some_length h, fun j hj => ?_⟩
  exact mapM_some_get h j j (by simp [hj])
theorem cell_lt {w : World} {a : Addr} {v : Value} (h : w.cell? a = some v) : a.block < w.heap.size := by
  by_cases hb : a.block < w.heap.size
  · exact hb
  · rw [World.cell?, Array.getElem?_eq_none (by omega)] at h
    cases h
/-- A SCRIPT IN MEMORY. -/
def Acs (w : World) (a : Option Addr) (L : List Ac) : Prop := L.length ≤ maxLen ∧ (L = [] ∨ ∃ b off, a = some ⟨b, off, none⟩ ∧ b < w.heap.size ∧ ∀ i x, L[i]? = some x → (∀ j, j < 6 → w.cell? ⟨b, off + i * 6 + j, none⟩ = x.cells[j]?) ∧ AcW w x)
def AcArg (w : World) (a : Option Addr) (n cap : Nat) (L : List Ac) : Prop := L.length = n ∧ n ≤ cap ∧ cap ≤ 9223372036854775807 ∧ (a = none → cap = 0) ∧ Acs w a L
theorem Acs.kept {w w' : World} {a : Option Addr} {L : List Ac} (h : Acs w a L) (hb : Below w.heap.size w w') : Acs w' a L := by
  refine ⟨h.1, ?_⟩
  rcases h.2 with h | ⟨b, off, rfl, hlt, hc⟩
  · exact .inl h
  · exact .inr ⟨b, off, rfl, Nat.lt_of_lt_of_le hlt hb.size, fun i x hx => ⟨fun j hj => by rw [hb.cell (p := ⟨b, off + i * 6 + j, none⟩) hlt]; exact (hc i x hx).1 j hj, (hc i x hx).2.kept hb⟩⟩
set_option maxRecDepth 100000 in
theorem open_acs {fuel : Nat} {c : Value} {y : DataW H × List MemPlace} (e : DataW.trod enc Tryz.prog w 0 (fun _ => true) true fuel 23 [c] = some y) : ∃ a len cap L, c = .slice a len cap ∧ AcArg w a len cap L := by
  rcases DataW.trod_slice Tryz.underlying23 e with ⟨hc, _⟩ | ⟨a, len, cap, elems, rest, m, hn, hc, hyx, _, hl, hm, hel, hat, _, _⟩
  · obtain rfl : c = .slice none 0 0 := by simpa using hc
    exact ⟨none, 0, 0, [], rfl, rfl, Nat.le_refl _, by decide, fun _ => rfl, by simp, .inl rfl⟩
  · obtain rfl : c = .slice (some a) len cap := by simpa using hc
    have each : ∀ i, i < len → ∃ x : Ac, (∀ j, j < 6 → w.cell? ((a.add (i * 6)).add j) = x.cells[j]?) ∧ AcW w x := by
      intro i hi
      have e1 := hat i hi
      rw [show Tryz.prog.cellsOf 44 = 6 by kernel_rfl, List.getElem?_eq_getElem (by omega), Option.bind_eq_some_iff] at e1
      obtain ⟨cs', hcs', hr⟩ := e1
      obtain ⟨x, rfl, hx⟩ := open_acw hr
      exact ⟨x, (cells_at hcs').2, hx⟩
    have hI : Inhabited Ac := ⟨⟨0, 0, 0, 0, 0, none, 0, 0, []⟩⟩
    obtain ⟨g, hg⟩ := Deep.choose_lt each
    refine ⟨some a, len, cap, (List.range len).map g, rfl, by simp, hl, by unfold maxLen at hm; omega, (fun h => by cases h), by simp; omega, ?_⟩
    by_cases h0 : len = 0
    · left; subst h0; rfl
    · right
      have hs : a.spot = none := by
        have h1 := (hg 0 (by omega)).1 0 (by omega)
        rw [Nat.zero_mul] at h1
        simp only [Addr.add, if_true, Ac.cells, List.getElem?_cons_zero] at h1
        exact World.cell?_spot h1
      obtain ⟨b, off, sp⟩ := a
      obtain rfl : sp = none := hs
      have hcell : ∀ i, i < len → ∀ j, j < 6 → w.cell? ⟨b, off + i * 6 + j, none⟩ = (g i).cells[j]? := fun i hi j hj => by
        rw [← (hg i hi).1 j hj, Deep.add_add, Nat.add_assoc]
        congr 1
        unfold Addr.add
        split
        · rename_i hz; rw [hz]; rfl
        · rfl
      refine ⟨b, off, rfl, ?_, fun i x hx => ?_⟩
      · have h1 := hcell 0 (by omega) 0 (by omega)
        exact cell_lt h1
      · have hi' : i < len := by have := (List.getElem?_eq_some_iff.1 hx).1; simpa using this
        have hx' : x = g i := by
          rw [List.getElem?_map, List.getElem?_range hi'] at hx
          simpa using hx.symm
        subst hx'
        exact ⟨hcell i hi', (hg i hi').2⟩
set_option maxRecDepth 100000 in
theorem open_acs_arg {r : Reach} {b0 : Nat} {v : Value} {d : DataW H} {p : List MemPlace} (hv : Value.okWide Tryz.prog w r b0 23 v) (h : DataW.Trod enc Tryz.prog w 0 (fun _ => true) true 23 v d p) :
    ∃ a len cap L, v = .slice a len cap ∧ AcArg w a len cap L ∧ (len = 0 ∨ ∃ el sp, d = .slice el sp ∧ el.length = len) := by
  obtain ⟨a, len, cap, rfl⟩ := okWide_slice Tryz.underlying23 hv
  obtain ⟨fuel, hf⟩ := h
  obtain ⟨a', len', cap', L, e, hA⟩ := open_acs hf
  cases e
  refine ⟨a, len, cap, L, rfl, hA, ?_⟩
  rcases DataW.trod_slice Tryz.underlying23 hf with ⟨hc, _⟩ | ⟨a, len, cap, elems, rest, m, hn, hc, hyx, _, hl, hm, hel, hat, _, _⟩
  · left
    simp [Value.cells] at hc
    exact hc.2.1
  · right
    simp [Value.cells] at hc
    exact ⟨_, _, (Prod.mk.inj hyx).1, by rw [List.length_map, hel, hc.2.1]⟩
end
set_option maxRecDepth 100000 in
/-- An act's cells in memory. -/
theorem acs_at {w : World} {a : Option Addr} {L : List Ac} (h : Acs w a L) {i : Nat} {x : Ac} (hx : L[i]? = some x) : ∃ b off, a = some ⟨b, off, none⟩ ∧ b < w.heap.size ∧ (∀ j, j < 6 → w.cell? ⟨b, off + i * 6 + j, none⟩ = x.cells[j]?) ∧ AcW w x := by
  rcases h.2 with rfl | ⟨b, off, rfl, hlt, hc⟩
  · simp at hx
  · exact ⟨b, off, rfl, hlt, (hc i x hx).1, (hc i x hx).2⟩
end Go.Proofs.YtfipdldoklkciaaGreat
namespace Go.Proofs.YtfipdldoklkciaaGreat
open Go.RowKit
set_option linter.unusedVariables false
/-- What a link in memory is, plainly. -/
structure Lp (L : Lk) : Prop where
  ok : Lok L
  so : Ok L.s
  ro : Rok L.r
  gb : ∀ g, g ∈ L.n0 ∨ g ∈ L.n1 → ∀ c ∈ g.zs, 0 ≤ c ∧ c < 256
  eb : ∀ z e, L.s.L z = some e → ∀ c ∈ e.zs, 0 ≤ c ∧ c < 256
  f0 : L.n0.length ≤ 256
  f1 : L.n1.length ≤ 256
theorem Lm.p {w : World} {B : Nat} {q : Qb} {L : Lk} (h : Lm w B q L) : Lp L := by
  obtain ⟨cs, hb, hc⟩ := h.lk
  exact ⟨h.ok, h.sd.ok, h.rv.ok, fun g hg => (h.gr g hg).by_.1, fun z e he => (h.sd.ld z e he).by_.1, hc.n0.few, hc.n1.few⟩
def wfG (g : Gr) : Prop := g.sp = false → wfB g.zs = true
theorem get_more {S : List (List Int)} {i : Nat} {l : List Int} (h : S[i]? = some l) (m : List Int) : (S ++ [m])[i]? = some l := by
  rw [List.getElem?_append_left (List.getElem?_eq_some_iff.1 h).1]
  exact h
/-- A datagram of this token tells a load that was sent. -/
def D0 (tok : Int) (S : List (List Int)) (g : Gr) : Prop := upE g.zs = 0 → (upG g.zs).tok = tok → 1 ≤ (upG g.zs).seq → S[((upG g.zs).seq - 1).toNat]? = some (upG g.zs).zs
/-- A datagram of this token tells no more credit. -/
def D1 (tok c : Int) (g : Gr) : Prop := upE g.zs = 0 → (upG g.zs).tok = tok → (upG g.zs).cred ≤ c
/-- WHAT ALWAYS HOLDS, WHERE THE LOADS S WERE TAKEN IN k CALLS. -/
structure Inv (L : Lk) (win : Int) (S : List (List Int)) (k : Nat) : Prop where
  sw : L.s.win = win
  rw : L.r.win = win
  nx : L.s.nxt = (S.length : Int) + 1
  lm : L.s.lim ≤ L.r.tk + win
  sl : ∀ z e, L.s.L z = some e → S[(z - 1).toNat]? = some e.zs
  rl : ∀ z l, L.r.L z = some l → S[(z - 1).toNat]? = some l
  tk : L.r.tk ≤ S.length
  n0 : ∀ g, g ∈ L.n0 → wfG g ∧ D0 L.tok S g
  n1 : ∀ g, g ∈ L.n1 → wfG g ∧ D1 L.tok (L.r.tk + win) g
  ep : L.ep ≤ (k : Int) + 1
  ct : S.length ≤ k
theorem inv_start (tok win : Int) : Inv (l0 tok win) win [] 0 := by
  refine ⟨rfl, rfl, rfl, ?_, ?_, ?_, Int.le_refl _, ?_, ?_, Int.le_refl _, Nat.le_refl _⟩
  · show win ≤ 0 + win; omega
  · intro z e h; cases h
  · intro z e h; cases h
  · intro g h; cases h
  · intro g h; cases h
theorem D0.more {tok : Int} {S : List (List Int)} {g : Gr} (h : D0 tok S g) (l : List Int) : D0 tok (S ++ [l]) g := fun h1 h2 h3 => get_more (h h1 h2 h3) l
theorem D1.mono {tok c c' : Int} {g : Gr} (h : D1 tok c g) (hc : c ≤ c') : D1 tok c' g := fun h1 h2 => Int.le_trans (h h1 h2) hc
theorem wf_pk {m : Mg} (h : pkE m = 0) : wfB (pkB m) = true := by
  obtain ⟨_, h2⟩ := pk_may h
  exact (frame_wf h2).1
theorem fold_mem {x : Gr} : ∀ (gs G : List Gr), x ∈ gs.foldl putG G → x ∈ G ∨ x ∈ gs
  | [], G, h => .inl h
  | g :: gs, G, h => by
    rcases fold_mem gs (putG G g) h with h | h
    · rcases put_mem h with h | h
      · exact .inl h
      · subst h; exact .inr (by simp)
    · exact .inr (by simp [h])
theorem grs_mem {L : Lk} {D : List (Int × List Int)} {gs : List Gr} (h : grs L D gs) {g : Gr} (hg : g ∈ gs) : ∃ p ∈ D, g.zs = pkB (tellM L (mdata p.1 p.2)) ∧ g.sp = false := by
  have h1 : (g.zs, g.sp) ∈ gs.map (fun g => (g.zs, g.sp)) := List.mem_map.2 ⟨g, hg, rfl⟩
  unfold grs at h
  rw [h] at h1
  obtain ⟨p, hp, e⟩ := List.mem_map.1 h1
  simp only [Prod.mk.injEq] at e
  exact ⟨p, hp, e.1.symm, e.2.symm⟩
theorem wf_low {zs : List Int} (hb : ∀ c ∈ zs, 0 ≤ c ∧ c < 256) (h : wfB zs = true) : 8 ≤ zs.length ∧ zs.length ≤ 1208 := by
  obtain ⟨e, hl⟩ := wf_frame hb h
  have := congrArg List.length e
  rw [frame_len] at this
  omega
theorem turn_bad {zs : List Int} (hb : ∀ c ∈ zs, 0 ≤ c ∧ c < 256) (h : wfB zs = true) (x : Int) {y : Nat} (hy : y < 4294967296) (h0 : y ≠ 0) : upE (turnL zs (x % ((zs.length : Int) - 3)).toNat y) = 4 := by
  obtain ⟨e, hl⟩ := wf_frame hb h
  obtain ⟨l1, l2⟩ := wf_low hb h
  have hm1 := Int.emod_nonneg x (show (zs.length : Int) - 3 ≠ 0 by omega)
  have hm2 := Int.emod_lt_of_pos x (show 0 < (zs.length : Int) - 3 by omega)
  have hbl : ∀ c ∈ loadAt zs, 0 ≤ c ∧ c < 256 := fun c hc => hb c (List.mem_of_mem_drop (List.mem_of_mem_take hc))
  have hle : zs.length = (loadAt zs).length + 8 := by
    have := congrArg List.length e
    rwa [frame_len] at this
  have h1 := turn_frame (loadAt zs) hl hbl (x % ((zs.length : Int) - 3)).toNat y (by omega) hy h0
  rw [← e] at h1
  unfold upE
  rw [if_pos h1]
theorem lim_ack (s : St) (ack bits c m : Int) (h1 : s.lim ≤ m) (h2 : c ≤ m) : (ackS s ack bits c).lim ≤ m ∧ (ackS s ack bits c).win = s.win ∧ (ackS s ack bits c).nxt = s.nxt := by
  have bey : ∀ (s : St) z, (beyA s z).lim = s.lim ∧ (beyA s z).win = s.win ∧ (beyA s z).nxt = s.nxt := fun s z => by unfold beyA; split <;> exact ⟨rfl, rfl, rfl⟩
  have bit : ∀ (s : St) i, (bitsA s ack bits i).lim = s.lim ∧ (bitsA s ack bits i).win = s.win ∧ (bitsA s ack bits i).nxt = s.nxt := fun s i => by
    induction i with
    | zero => exact ⟨rfl, rfl, rfl⟩
    | succ i ih =>
      rw [bitsA]
      split
      · obtain ⟨a, b, c⟩ := bey (bitsA s ack bits i) (ack + 2 + (i : Int))
        exact ⟨a.trans ih.1, b.trans ih.2.1, c.trans ih.2.2⟩
      · exact ih
  have pop : ∀ k (s : St), (popsF k s).lim = s.lim ∧ (popsF k s).win = s.win ∧ (popsF k s).nxt = s.nxt := fun k => by
    induction k with
    | zero => exact fun s => ⟨rfl, rfl, rfl⟩
    | succ k ih =>
      intro s
      rw [popsF]
      split
      · split
        · obtain ⟨a, b, c⟩ := ih (finA s s.base)
          exact ⟨a, b, c⟩
        · exact ⟨rfl, rfl, rfl⟩
      · exact ⟨rfl, rfl, rfl⟩
  unfold ackS
  split
  · obtain ⟨a1, a2, a3⟩ := bit (finA s ack) 64
    obtain ⟨b1, b2, b3⟩ := pop 64 (bitsA (finA s ack) ack bits 64)
    refine ⟨?_, b2.trans a2, b3.trans a3⟩
    show max (popsF 64 (bitsA (finA s ack) ack bits 64)).lim c ≤ m
    rw [b1, a1]
    show max s.lim c ≤ m
    omega
  · exact ⟨h1, rfl, rfl⟩
theorem rec_lim (L : Lk) (h : Ok L.s) (m : Int) (h1 : L.s.lim ≤ m) (h2 : L.r.tk + L.r.win ≤ m) : (recS L).lim ≤ m ∧ (recS L).win = L.s.win ∧ (recS L).nxt = L.s.nxt := by
  unfold recS
  split
  · refine ⟨?_, rfl, rfl⟩
    show max (L.r.tk + L.r.win) (L.s.nxt - 1) ≤ m
    have := h.l1
    omega
  · exact ⟨h1, rfl, rfl⟩
theorem Inv.sub {L L' : Lk} {win : Int} {S : List (List Int)} {k : Nat} (h : Inv L win S k) (hs : Sub L'.s L.s) : ∀ z e, L'.s.L z = some e → S[(z - 1).toNat]? = some e.zs := fun z e he => by
  obtain ⟨e0, h1, h2⟩ := hs z e he
  rw [← h2]
  exact h.sl z e0 h1
/-- The loads taken, behind an act. -/
def nxS (S : List (List Int)) (x : Ac) (e : Int) : List (List Int) := if x.kind = 0 ∧ e = 0 then S ++ [x.zs] else S
theorem nxS_no {S : List (List Int)} {x : Ac} {e : Int} (h : x.kind ≠ 0) : nxS S x e = S := by unfold nxS; rw [if_neg (fun k => h k.1)]
theorem Inv.up {L : Lk} {win : Int} {S : List (List Int)} {k : Nat} (h : Inv L win S k) : Inv L win S (k + 1) :=
  ⟨h.sw, h.rw, h.nx, h.lm, h.sl, h.rl, h.tk, h.n0, h.n1, by have := h.ep; omega, by have := h.ct; omega⟩
/-- The nets alone have turned. -/
theorem Inv.nets {L L' : Lk} {win : Int} {S : List (List Int)} {k : Nat} (h : Inv L win S k) (n : Int) (G : List Gr) (e : L' = netS L n G) (hG : ∀ g, g ∈ G → (n = 0 → wfG g ∧ D0 L.tok S g) ∧ (n ≠ 0 → wfG g ∧ D1 L.tok (L.r.tk + win) g)) : Inv L' win S (k + 1) ∧ L'.r = L.r := by
  subst e
  by_cases hn : n = 0
  · have e : netS L n G = { L with n0 := G } := by unfold netS; rw [if_pos hn]
    rw [e]
    exact ⟨⟨h.sw, h.rw, h.nx, h.lm, h.sl, h.rl, h.tk, fun g hg => (hG g hg).1 hn, h.n1, by have := h.ep; show L.ep ≤ _; omega, by have := h.ct; omega⟩, rfl⟩
  · have e : netS L n G = { L with n1 := G } := by unfold netS; rw [if_neg hn]
    rw [e]
    exact ⟨⟨h.sw, h.rw, h.nx, h.lm, h.sl, h.rl, h.tk, h.n0, fun g hg => (hG g hg).2 hn, by have := h.ep; show L.ep ≤ _; omega, by have := h.ct; omega⟩, rfl⟩
theorem Inv.old {L : Lk} {win : Int} {S : List (List Int)} {k : Nat} (h : Inv L win S k) {n : Int} {g : Gr} (hg : g ∈ netL L n) : (n = 0 → wfG g ∧ D0 L.tok S g) ∧ (n ≠ 0 → wfG g ∧ D1 L.tok (L.r.tk + win) g) := by
  refine ⟨fun hn => ?_, fun hn => ?_⟩
  · unfold netL at hg; rw [if_pos hn] at hg; exact h.n0 g hg
  · unfold netL at hg; rw [if_neg hn] at hg; exact h.n1 g hg
theorem net_in {L : Lk} {n : Int} {g : Gr} (hg : g ∈ netL L n) : g ∈ L.n0 ∨ g ∈ L.n1 := by
  unfold netL at hg
  split at hg
  · exact .inl hg
  · exact .inr hg
theorem del_case (L : Lk) (n : Int) (zs : List Int) : (delR L n zs).2 = L ∨ (upE zs = 0 ∧ (upG zs).tok = L.tok ∧ ((n = 0 ∧ (delR L n zs).2 = { L with r := dataS L.r (upG zs).seq (upG zs).zs }) ∨ (n ≠ 0 ∧ (delR L n zs).2 = { L with s := ackS L.s (upG zs).ack (upG zs).bits (upG zs).cred }))) := by
  unfold delR
  by_cases h1 : upE zs = 0
  · rw [if_neg (fun k => k h1)]
    by_cases h2 : (upG zs).tok ≠ L.tok ∨ (upG zs).kind ≠ (if n = 0 then 1 else 2)
    · rw [if_pos h2]; exact .inl rfl
    · rw [if_neg h2]
      by_cases h3 : (upG zs).ep ≠ L.ep
      · rw [if_pos h3]; exact .inl rfl
      · rw [if_neg h3]
        refine .inr ⟨h1, Classical.not_not.1 (fun z => h2 (.inl z)), ?_⟩
        by_cases hn : n = 0
        · rw [if_pos hn]; exact .inl ⟨hn, rfl⟩
        · rw [if_neg hn]; exact .inr ⟨hn, rfl⟩
  · rw [if_pos h1]; exact .inl rfl
theorem inv_del {L : Lk} {win : Int} {S : List (List Int)} {k : Nat} (p : Lp L) (h : Inv L win S k) (n i : Int) : Inv (delS L n i).2 win S (k + 1) ∧ (delS L n i).2.r.tk = L.r.tk := by
  unfold delS
  split
  · rename_i g hg
    have hgm := List.mem_of_getElem? hg
    split
    · rename_i hE
      obtain ⟨h1, hr⟩ := h.nets n ((netL L n).eraseIdx i.toNat) rfl (fun x hx => h.old (mem_erase hx))
      have ht : (netS L n ((netL L n).eraseIdx i.toNat)).tok = L.tok := by unfold netS; split <;> rfl
      have hs : (netS L n ((netL L n).eraseIdx i.toNat)).s = L.s := by unfold netS; split <;> rfl
      generalize netS L n ((netL L n).eraseIdx i.toNat) = L1 at *
      have ho := h.old hgm
      rw [← ht, ← hr] at ho
      rw [← hr]
      have ro : Rok L1.r := by rw [hr]; exact p.ro
      clear h hr hs ht p hE
      rcases del_case L1 n g.zs with e | ⟨u0, ut, ⟨hn, e⟩ | ⟨hn, e⟩⟩
      · rw [e]; exact ⟨h1, rfl⟩
      · rw [e]
        refine ⟨⟨h1.sw, (dataS_win _ _ _).trans h1.rw, h1.nx, by show L1.s.lim ≤ (dataS L1.r _ _).tk + win; rw [dataS_tk]; exact h1.lm, h1.sl, fun z l hl => ?_, by show (dataS L1.r _ _).tk ≤ _; rw [dataS_tk]; exact h1.tk, h1.n0, by show ∀ g, g ∈ L1.n1 → _ ∧ D1 L1.tok ((dataS L1.r _ _).tk + win) g; rw [dataS_tk]; exact h1.n1, h1.ep, h1.ct⟩, dataS_tk _ _ _⟩
        have hl : (dataS L1.r (upG g.zs).seq (upG g.zs).zs).L z = some l := hl
        unfold dataS at hl
        split at hl
        · rename_i hd
          have hl : (if z = (upG g.zs).seq then some (upG g.zs).zs else L1.r.L z) = some l := hl
          split at hl
          · rename_i hz
            obtain rfl := Option.some.inj hl
            rw [hz]
            exact ((ho.1 hn).2) u0 ut (dataE_ok hd).1
          · exact h1.rl z l hl
        · exact h1.rl z l hl
      · rw [e]
        obtain ⟨a1, a2, a3⟩ := lim_ack L1.s (upG g.zs).ack (upG g.zs).bits (upG g.zs).cred (L1.r.tk + win) h1.lm ((ho.2 hn).2 u0 ut)
        have hsb := sub_ackS L1.s (upG g.zs).ack (upG g.zs).bits (upG g.zs).cred
        clear e
        generalize ackS L1.s (upG g.zs).ack (upG g.zs).bits (upG g.zs).cred = s2 at *
        refine ⟨⟨a2.trans h1.sw, h1.rw, a3.trans h1.nx, a1, h1.sub hsb, h1.rl, h1.tk, h1.n0, h1.n1, h1.ep, h1.ct⟩, rfl⟩
    · exact ⟨h.up, rfl⟩
  · exact ⟨h.up, rfl⟩
theorem inv_tick {L L' : Lk} {win : Int} {S : List (List Int)} {k : Nat} (p : Lp L) (h : Inv L win S k) (hk : k ≤ 1000000000000000) (ht : TickS L L') : Inv L' win S (k + 1) ∧ L'.r.tk = L.r.tk := by
  by_cases hn : 1099511627776 ≤ L.now
  · rw [ht.1 hn]
    exact ⟨h.up, rfl⟩
  · obtain ⟨gs, g, hgs, hg1, hg2, e⟩ := ht.2 (by omega)
    subst e
    have hep := h.ep
    have hct := h.ct
    have htk := h.tk
    have t1 := p.ro.t1
    have w1 := p.ro.w1
    have w2 := p.ro.w2
    have hsub : Sub (dueA L.s (L.now + 1)) L.s := sub_due _ _
    refine ⟨⟨h.sw, h.rw, h.nx, h.lm, fun z e he => ?_, h.rl, h.tk, fun x hx => ?_, fun x hx => ?_, by show L.ep ≤ _; omega, by omega⟩, rfl⟩
    · obtain ⟨e0, h1, h2⟩ := hsub z e he
      rw [← h2]
      exact h.sl z e0 h1
    · rcases fold_mem gs L.n0 hx with hx | hx
      · exact h.n0 x hx
      · obtain ⟨d, hd, e1, e2⟩ := grs_mem hgs hx
        obtain ⟨e, he, hez, hb1, hb2⟩ := dueL_in _ _ _ d hd
        have o1 := p.so.b1
        have o2 := p.so.l1
        have o3 := p.so.l2
        have o4 := p.so.b2
        obtain ⟨q1, q2⟩ := pk_data (zs := d.2) (seq := d.1) p.ok (by omega) (by omega) (by omega) (by rw [← hez]; exact p.ok.few _ _ he) (by rw [← hez]; exact p.eb _ _ he)
        obtain ⟨u1, u2, _⟩ := up_pk q1 q2
        refine ⟨fun _ => by rw [e1]; exact wf_pk q1, fun _ _ _ => ?_⟩
        rw [e1, u2]
        show S[(d.1 - 1).toNat]? = some d.2
        rw [← hez]
        exact h.sl _ _ he
    · have hx : x ∈ putG L.n1 g := hx
      rcases put_mem hx with hx | hx
      · exact h.n1 x hx
      · subst hx
        have r1 := rdy_le p.ro
        have b1 := bF_bnd (ackF L.r) 64
        obtain ⟨q1, q2⟩ := pk_ack (ack := ackN L.r) (bits := ackB L.r) (cred := L.r.tk + L.r.win) p.ok (by omega) (by unfold ackN; omega) (by unfold ackN; omega) (by omega) (by omega) b1.1 b1.2
        obtain ⟨u1, u2, _⟩ := up_pk q1 q2
        refine ⟨fun _ => by rw [hg1]; exact wf_pk q1, fun _ _ => ?_⟩
        rw [hg1, u2]
        show L.r.tk + L.r.win ≤ L.r.tk + win
        rw [h.rw]
        exact Int.le_refl _
theorem inv_turn {L L' : Lk} {win : Int} {S : List (List Int)} {k : Nat} (p : Lp L) (h : Inv L win S k) {n i x : Int} {y : Nat} (hy : y < 4294967296) (ht : TurnS L L' n i x y) : Inv L' win S (k + 1) ∧ L'.r.tk = L.r.tk := by
  by_cases hE : turnE L n i = 0
  · obtain ⟨g, g', hg, hs, _, e1, e2, e3⟩ := ht.2 hE
    have hgm := List.mem_of_getElem? hg
    have hb := p.gb g (net_in hgm)
    obtain ⟨a, b⟩ := h.nets (L' := L') n _ e3 (fun z hz => by
      rcases set_mem hz with hz | hz
      · exact h.old hz
      · subst hz
        have ho := h.old hgm
        by_cases hy0 : y = 0
        · subst hy0
          have ez : z.zs = g.zs := by rw [e1]; exact turn_none hb _
          have es : z.sp = g.sp := by rw [e2, hs]; rfl
          unfold wfG D0 D1 at ho ⊢
          rw [ez, es]
          exact ho
        · have hw : wfB g.zs = true := by
            by_cases hn : n = 0
            · exact (ho.1 hn).1 hs
            · exact (ho.2 hn).1 hs
          have h4 : upE z.zs = 4 := by rw [e1]; exact turn_bad hb hw x hy hy0
          have hsp : z.sp = true := by rw [e2]; simpa using hy0
          exact ⟨fun _ => ⟨fun q => by rw [hsp] at q; (cases q), fun q => by rw [h4] at q; (cases q)⟩, fun _ => ⟨fun q => by rw [hsp] at q; (cases q), fun q => by rw [h4] at q; (cases q)⟩⟩)
    exact ⟨a, by rw [b]⟩
  · rw [ht.1 hE]
    exact ⟨h.up, rfl⟩
theorem inv_forge {L L' : Lk} {win : Int} {S : List (List Int)} {k : Nat} (h : Inv L win S k) {n : Int} {zs : List Int} (ht : ForgeS L L' n zs) : Inv L' win S (k + 1) ∧ L'.r.tk = L.r.tk := by
  by_cases hE : forgeE L n zs = 0
  · obtain ⟨g, e1, e2, e3⟩ := ht.2 hE
    have ho : ownB L zs = false := by
      unfold forgeE at hE
      split at hE
      · cases hE
      split at hE
      · cases hE
      split at hE
      · cases hE
      · rename_i q; simpa using q
    obtain ⟨a, b⟩ := h.nets (L' := L') n _ e3 (fun z hz => by
      rcases put_mem hz with hz | hz
      · exact h.old hz
      · subst hz
        have hno : upE z.zs = 0 → (upG z.zs).tok = L.tok → False := fun q1 q2 => by
          rw [e1] at q1 q2
          have : ownB L zs = true := decide_eq_true ⟨q1, q2⟩
          rw [ho] at this
          cases this
        exact ⟨fun _ => ⟨fun q => by rw [e2] at q; (cases q), fun q1 q2 => (hno q1 q2).elim⟩, fun _ => ⟨fun q => by rw [e2] at q; (cases q), fun q1 q2 => (hno q1 q2).elim⟩⟩)
    exact ⟨a, by rw [b]⟩
  · rw [ht.1 hE]
    exact ⟨h.up, rfl⟩
/-- WHATEVER IS DONE, IT HOLDS; and what is answered is the next load that was taken. -/
theorem inv_step {L L' : Lk} {x : Ac} {b : List Int} {ok : Bool} {e : Int} {win : Int} {S : List (List Int)} {k : Nat} (p : Lp L) (p' : Lp L') (h : Inv L win S k) (hk : k ≤ 1000000000000000) (hy : x.by_.toNat < 4294967296) (d : DoS L x L' b ok e) :
    Inv L' win (nxS S x e) (k + 1) ∧ ((x.kind = 1 ∧ ok = true ∧ L'.r.tk = L.r.tk + 1 ∧ S[L.r.tk.toNat]? = some b) ∨ (ok = false ∧ L'.r.tk = L.r.tk)) := by
  cases d with
  | send hk0 hs =>
    by_cases hE : sendE L x.zs.length = 0
    · obtain ⟨en, e1, e2, e3, e4, rfl⟩ := hs.2 hE
      have eS : nxS S x (sendE L x.zs.length) = S ++ [x.zs] := by unfold nxS; rw [if_pos ⟨hk0, hE⟩]
      rw [eS]
      have hnx := h.nx
      refine ⟨⟨h.sw, h.rw, ?_, h.lm, fun z e he => ?_, fun z l hl => get_more (h.rl z l hl) _, ?_, fun g hg => ⟨(h.n0 g hg).1, (h.n0 g hg).2.more _⟩, h.n1, by have := h.ep; show L.ep ≤ _; omega, ?_⟩, .inr ⟨rfl, rfl⟩⟩
      · show L.s.nxt + 1 = _
        rw [List.length_append, hnx]
        simp
      · have he : (if z = L.s.nxt then some en else L.s.L z) = some e := he
        split at he
        · rename_i hz
          obtain rfl := Option.some.inj he
          rw [hz, hnx, e1, show ((S.length : Int) + 1 - 1).toNat = S.length by omega]
          exact List.getElem?_concat_length
        · exact get_more (h.sl z e he) _
      · have := h.tk
        rw [List.length_append]
        show L.r.tk ≤ _
        simp
        omega
      · have := h.ct
        rw [List.length_append]
        simp
        omega
    · rw [hs.1 hE]
      have eS : nxS S x (sendE L x.zs.length) = S := by unfold nxS; rw [if_neg (fun q => hE q.2)]
      rw [eS]
      exact ⟨h.up, .inr ⟨rfl, rfl⟩⟩
  | poll hk1 =>
    rw [nxS_no (by omega)]
    cases hL : L.r.L (L.r.tk + 1) with
    | none =>
      have e1 : takeS L.r = L.r := by unfold takeS; rw [hL]; rfl
      have e2 : ({ L with r := takeS L.r } : Lk) = L := by rw [e1]
      rw [e2]
      exact ⟨h.up, .inr ⟨rfl, rfl⟩⟩
    | some l =>
      have e1 : takeS L.r = takeA L.r := by unfold takeS; rw [hL]; rfl
      rw [e1]
      have hlt := h.rl _ _ hL
      have t1 := p.ro.t1
      rw [show (L.r.tk + 1 - 1).toNat = L.r.tk.toNat by omega] at hlt
      have hlen := (List.getElem?_eq_some_iff.1 hlt).1
      refine ⟨⟨h.sw, h.rw, h.nx, ?_, h.sl, fun z l' hl' => ?_, ?_, h.n0, fun g hg => ⟨(h.n1 g hg).1, (h.n1 g hg).2.mono ?_⟩, by have := h.ep; show L.ep ≤ _; omega, by have := h.ct; omega⟩, .inl ⟨hk1, rfl, rfl, hlt⟩⟩
      · have := h.lm
        show L.s.lim ≤ L.r.tk + 1 + win
        omega
      · have hl' : (if z = L.r.tk + 1 then none else L.r.L z) = some l' := hl'
        split at hl'
        · cases hl'
        · exact h.rl z l' hl'
      · show L.r.tk + 1 ≤ _
        omega
      · show L.r.tk + win ≤ L.r.tk + 1 + win
        omega
  | tick hk2 ht =>
    rw [nxS_no (by omega)]
    obtain ⟨a, b⟩ := inv_tick p h hk ht
    exact ⟨a, .inr ⟨rfl, b⟩⟩
  | del hk3 =>
    rw [nxS_no (by omega)]
    obtain ⟨a, b⟩ := inv_del p h x.net x.i
    exact ⟨a, .inr ⟨rfl, b⟩⟩
  | drop hk4 =>
    rw [nxS_no (by omega)]
    unfold dropS
    split
    · obtain ⟨a, b⟩ := h.nets x.net ((netL L x.net).eraseIdx x.i.toNat) rfl (fun z hz => h.old (mem_erase hz))
      exact ⟨a, .inr ⟨rfl, by rw [b]⟩⟩
    · exact ⟨h.up, .inr ⟨rfl, rfl⟩⟩
  | twice hk5 =>
    rw [nxS_no (by omega)]
    unfold twiceS
    split
    · rename_i g hg
      split
      · obtain ⟨a, b⟩ := h.nets x.net (putG (netL L x.net) g) rfl (fun z hz => by
          rcases put_mem hz with hz | hz
          · exact h.old hz
          · subst hz; exact h.old (List.mem_of_getElem? hg))
        exact ⟨a, .inr ⟨rfl, by rw [b]⟩⟩
      · exact ⟨h.up, .inr ⟨rfl, rfl⟩⟩
    · exact ⟨h.up, .inr ⟨rfl, rfl⟩⟩
  | turn hk6 ht =>
    rw [nxS_no (by omega)]
    obtain ⟨a, b⟩ := inv_turn p h hy ht
    exact ⟨a, .inr ⟨rfl, b⟩⟩
  | forge hk7 ht =>
    rw [nxS_no (by omega)]
    obtain ⟨a, b⟩ := inv_forge h ht
    exact ⟨a, .inr ⟨rfl, b⟩⟩
  | again hk8 =>
    rw [nxS_no (by omega)]
    have hr := h.rw
    obtain ⟨a1, a2, a3⟩ := rec_lim L p.so (L.r.tk + win) h.lm (by rw [hr]; exact Int.le_refl _)
    exact ⟨⟨a2.trans h.sw, h.rw, a3.trans h.nx, a1, h.sub (sub_rec L), h.rl, h.tk, h.n0, h.n1, by have := h.ep; show L.ep + 1 ≤ _; omega, by have := h.ct; omega⟩, .inr ⟨rfl, rfl⟩⟩
  | none hk9 =>
    rw [nxS_no (by omega)]
    exact ⟨h.up, .inr ⟨rfl, rfl⟩⟩
theorem Inv.k {L : Lk} {win : Int} {S : List (List Int)} {k : Nat} (p : Lp L) (h : Inv L win S k) (hk : k ≤ 1000000000000000) (hn : ∀ g, g ∈ L.n0 ∨ g ∈ L.n1 → g.zs.length = g.n) : DoK L := by
  have h1 := h.ep
  have h2 := h.tk
  have h3 := h.ct
  refine ⟨by omega, by omega, fun g hg hs => ?_⟩
  have hw : wfB g.zs = true := by
    rcases hg with hg | hg
    · exact (h.n0 g hg).1 hs
    · exact (h.n1 g hg).1 hs
  have := wf_low (p.gb g hg) hw
  have := hn g hg
  omega
end Go.Proofs.YtfipdldoklkciaaGreat
namespace Go.Proofs.YtfipdldoklkciaaGreat
open Go.RowKit
set_option linter.unusedVariables false
/-- A link in memory with what always holds of it. -/
structure LkI (w wr : World) (B : Nat) (q : Qb) (L : Lk) (win : Int) (k : Nat) : Prop where
  lm : Lm wr B q L
  bel : Below B w wr
  inv : ∃ S, Inv L win S k
theorem LkI.step {w wr w' : World} {B : Nat} {q : Qb} {L : Lk} {win : Int} {k : Nat} (h : LkI w wr B q L win k) (hb : Below wr.heap.size wr w') : LkI w w' B q L win k :=
  ⟨h.lm.kept hb, h.bel.trans (hb.mono h.lm.B_le), h.inv⟩
theorem Lm.dok {w : World} {B : Nat} {q : Qb} {L : Lk} {win : Int} {S : List (List Int)} {k : Nat} (h : Lm w B q L) (hI : Inv L win S k) (hk : k ≤ 1000000000000000) : DoK L := hI.k h.p hk (fun g hg => (h.gr g hg).len)
/-- What a law may look at, behind an act. -/
structure Looks (w : World) (B : Nat) (q : Qb) (M : Lk) (win : Int) (k H : Nat) (NX TK : Int) (W0 W1 : Nat) : Prop where
  held : ∀ x, LkI w x B q M win k → Calls Tryz.prog 14 #[.pointer (some ⟨q.lb, 0, none⟩)] x fun e w' => e = .returned (.int .i64 (H : Nat)) ∧ Hid (LkI w w' B q M win k)
  sent : ∀ x, LkI w x B q M win k → Calls Tryz.prog 12 #[.pointer (some ⟨q.lb, 0, none⟩)] x fun e w' => e = .returned (.int .i64 NX) ∧ Hid (LkI w w' B q M win k)
  got : ∀ x, LkI w x B q M win k → Calls Tryz.prog 13 #[.pointer (some ⟨q.lb, 0, none⟩)] x fun e w' => e = .returned (.int .i64 TK) ∧ Hid (LkI w w' B q M win k)
  way0 : ∀ x, LkI w x B q M win k → Calls Tryz.prog 10 #[.pointer (some ⟨q.lb, 0, none⟩), .int .i64 0] x fun e w' => e = .returned (.int .i64 (W0 : Nat)) ∧ Hid (LkI w w' B q M win k)
  way1 : ∀ x, LkI w x B q M win k → Calls Tryz.prog 10 #[.pointer (some ⟨q.lb, 0, none⟩), .int .i64 1] x fun e w' => e = .returned (.int .i64 (W1 : Nat)) ∧ Hid (LkI w w' B q M win k)
theorem looks (w : World) (B : Nat) (q : Qb) (M : Lk) (win : Int) (k : Nat) : Looks w B q M win k (hld M.r) (M.s.nxt - 1) M.r.tk M.n0.length M.n1.length := by
  generalize hH : hld M.r = H
  refine ⟨fun x h => ?_, fun x h => ?_, fun x h => ?_, fun x h => ?_, fun x h => ?_⟩
  · have k := kheld_any h.lm
    rw [hH] at k
    refine k.mono ?_
    rintro e w' ⟨he, hb⟩
    exact ⟨he, h.step hb.out⟩
  · refine (sent_any h.lm).mono ?_
    rintro e w' ⟨he, rfl⟩
    exact ⟨he, h⟩
  · refine (got_any h.lm).mono ?_
    rintro e w' ⟨he, rfl⟩
    exact ⟨he, h⟩
  · refine (Go.Proofs.YtfipdldoklkciaaGreat.way0 h.lm).mono ?_
    rintro e w' ⟨he, hb⟩
    exact ⟨he, h.step hb.out⟩
  · refine (Go.Proofs.YtfipdldoklkciaaGreat.way1 h.lm).mono ?_
    rintro e w' ⟨he, hb⟩
    exact ⟨he, h.step hb.out⟩
theorem LkI.look {w wr : World} {B : Nat} {q : Qb} {L : Lk} {win : Int} {k : Nat} (h : LkI w wr B q L win k) (hw : win ≤ 32) :
    ∃ (H : Nat) (NX TK : Int) (W0 W1 : Nat), Hid (Looks w B q L win k H NX TK W0 W1) ∧ decide (((H : Nat) : Int) < 0) = false ∧ decide (((H : Nat) : Int) > win) = false ∧ IntKind.i64.wrap (NX - TK) = NX - TK ∧ decide (NX - TK > win) = false ∧ decide (NX < TK) = false ∧ decide (((W0 : Nat) : Int) > 256) = false ∧ decide (((W1 : Nat) : Int) > 256) = false := by
  obtain ⟨S, hI⟩ := h.inv
  have p := h.lm.p
  have a1 := hld_le p.ro
  have a2 := hI.rw
  have a3 := p.so.l1
  have a4 := hI.lm
  have a5 := hI.nx
  have a6 := hI.tk
  have a7 := p.f0
  have a8 := p.f1
  have a9 := p.ro.t1
  have b1 := p.ro.t2
  refine ⟨_, _, _, _, _, looks w B q L win k, by simp, by simp; omega, by rw [IntKind.wrap_i64]; omega, by simp; omega, by simp; omega, by simp; omega, by simp; omega⟩
end Go.Proofs.YtfipdldoklkciaaGreat
