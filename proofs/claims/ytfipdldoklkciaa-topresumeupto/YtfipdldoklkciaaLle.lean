/-
  One act on a link: what is answered, and what it leaves.
-/
import Derived.Test.YtfipdldoklkciaaLlc
import Derived.Test.YtfipdldoklkciaaLld
import Derived.Test.YtfipdldoklkciaaLky
namespace Go.Proofs.Ytfipdldoklkciaa
open Go.RowKit
set_option linter.unusedVariables false
/-- An act, its bytes readable. -/
structure AcW (w : World) (x : Ac) : Prop where
  by_ : Bytes w x.a x.zs
  len : x.zs.length = x.n
  le : x.n ≤ x.c
  mx : x.c ≤ 9223372036854775807
  nil : x.a = none → x.c = 0
  u32 : 0 ≤ x.by_ ∧ x.by_ < 4294967296
  at_ : (Lit.int .i64 x.at_).wf = true
theorem AcW.kept {w w' : World} {x : Ac} (h : AcW w x) (hb : Below w.heap.size w w') : AcW w' x := ⟨h.by_.kept hb, h.len, h.le, h.mx, h.nil, h.u32, h.at_⟩
def SendS (L L' : Lk) (zs : List Int) : Prop := (sendE L zs.length ≠ 0 → L' = L) ∧ (sendE L zs.length = 0 → ∃ en : Ent, en.zs = zs ∧ en.time = L.now ∧ en.wait = 1 ∧ en.there = false ∧ L' = { L with s := addA L.s en })
def TickS (L L' : Lk) : Prop := (1099511627776 ≤ L.now → L' = L) ∧ (L.now < 1099511627776 → ∃ (gs : List Gr) (g : Gr), grs L (dueN L) gs ∧ g.zs = pkB (tellM L (mack (ackN L.r) (ackB L.r) (L.r.tk + L.r.win))) ∧ g.sp = false ∧ L' = { tk1 L with n0 := gs.foldl putG L.n0, n1 := putG L.n1 g })
/-- WHAT AN ACT DOES: what it leaves, the load that it answers, whether it has one, the error. -/
inductive DoS (L : Lk) (x : Ac) : Lk → List Int → Bool → Int → Prop
  | send {L' : Lk} : x.kind = 0 → SendS L L' x.zs → DoS L x L' [] false (sendE L x.zs.length)
  | poll : x.kind = 1 → DoS L x { L with r := takeS L.r } ((L.r.L (L.r.tk + 1)).getD []) (L.r.L (L.r.tk + 1)).isSome 0
  | tick {L' : Lk} : x.kind = 2 → TickS L L' → DoS L x L' [] false 0
  | del : x.kind = 3 → DoS L x (delS L x.net x.i).2 [] false (delS L x.net x.i).1
  | drop : x.kind = 4 → DoS L x (dropS L x.net x.i) [] false (canE L x.net x.i)
  | twice : x.kind = 5 → DoS L x (twiceS L x.net x.i) [] false (canE L x.net x.i)
  | turn {L' : Lk} : x.kind = 6 → TurnS L L' x.net x.i x.at_ x.by_.toNat → DoS L x L' [] false (turnE L x.net x.i)
  | forge {L' : Lk} : x.kind = 7 → ForgeS L L' x.net x.zs → DoS L x L' [] false (forgeE L x.net x.zs)
  | again : x.kind = 8 → DoS L x { L with ep := L.ep + 1, s := recS L } [] false 0
  | none : (x.kind < 0 ∨ 8 < x.kind) → DoS L x L [] false 0
def DoR (w w' : World) (B : Nat) (q : Qb) (L : Lk) (x : Ac) (e : Ending) : Prop := ∃ L' a n c b ok k, e = .returned (.tuple #[.slice a n c, .bool ok, .int .i64 k]) ∧ DoS L x L' b ok k ∧ Lm w' B q L' ∧ Sl w' w.heap.size a n c b ∧ K4 q w w'
/-- What the link has need of: numbers that do not run over, datagrams that may be turned. -/
structure DoK (L : Lk) : Prop where
  ep : L.ep < 4611686018427387904
  tk : L.r.tk ≤ 4611686018427380000
  gr : ∀ g, g ∈ L.n0 ∨ g ∈ L.n1 → g.sp = false → 4 ≤ g.n ∧ g.n ≤ 100000
theorem sl_none (w : World) (B : Nat) : Sl w B none 0 0 [] := ⟨⟨by simp, by simp, .inl rfl⟩, rfl, Nat.le_refl _, by decide, fun _ => rfl, fun x hx => by cases hx⟩
theorem kturn_int {w : World} {B : Nat} {q : Qb} {L : Lk} (n i x y : Int) (h : Lm w B q L) (hG : ∀ g, g ∈ L.n0 ∨ g ∈ L.n1 → g.sp = false → 4 ≤ g.n ∧ g.n ≤ 100000) (hx : (Lit.int .i64 x).wf = true) (hy : 0 ≤ y ∧ y < 4294967296) :
    Calls Try.prog 32 #[.pointer (some ⟨q.lb, 0, none⟩), .int .i64 n, .int .i64 i, .int .i64 x, .int .u32 y] w fun e w' => e = .returned (.int .i64 (turnE L n i)) ∧ Hid (∃ L', TurnS L L' n i x y.toNat ∧ Lm w' B q L') ∧ Hid (K4 q w w') := by
  obtain ⟨k, rfl⟩ := Int.eq_ofNat_of_zero_le hy.1
  have := kturn_any n i x k h hG hx (by omega)
  exact this
theorem sl_mono {w : World} {B B' : Nat} {a : Option Addr} {n c : Nat} {zs : List Int} (h : Sl w B' a n c zs) (hb : B ≤ B') : Sl w B a n c zs := ⟨h.by_, h.len, h.le, h.mx, h.nil, fun x hx => ⟨Nat.le_trans hb (h.at_ x hx).1, (h.at_ x hx).2⟩⟩
/-- What a call within an act leaves. -/
def Mid (w w' : World) (B : Nat) (q : Qb) (L : Lk) (x : Ac) (b : List Int) (ok : Bool) (k : Int) : Prop := ∃ L', DoS L x L' b ok k ∧ Lm w' B q L' ∧ K4 q w w'
theorem DoR.of {w w' : World} {B : Nat} {q : Qb} {L : Lk} {x : Ac} {k : Int} (h : Mid w w' B q L x [] false k) : DoR w w' B q L x (.returned (.tuple #[.slice none 0 0, .bool false, .int .i64 k])) := by
  obtain ⟨L', h1, h2, h3⟩ := h
  exact ⟨L', none, 0, 0, [], false, k, rfl, h1, h2, sl_none _ _, h3⟩
set_option maxRecDepth 100000 in
theorem do0 {w : World} {B : Nat} {q : Qb} {L : Lk} (net i at_ by_ : Int) (a : Option Addr) (n c : Nat) (zs : List Int) (h : Lm w B q L) (hV : AcW w ⟨0, net, i, at_, by_, a, n, c, zs⟩) (hK : DoK L) :
    Calls Try.prog 24 #[.pointer (some ⟨q.lb, 0, none⟩), .agg #[.int .i64 0, .int .i64 net, .int .i64 i, .int .i64 at_, .int .u32 by_, .slice a n c]] w fun e w' => Hid (DoR w w' B q L ⟨0, net, i, at_, by_, a, n, c, zs⟩ e) := by
  have kX : Hid (∀ y, Below w.heap.size w y → Calls Try.prog 26 #[.pointer (some ⟨q.lb, 0, none⟩), .slice a n c] y fun e w' => e = .returned (.int .i64 (sendE L n)) ∧ Hid (Mid w w' B q L ⟨0, net, i, at_, by_, a, n, c, zs⟩ [] false (sendE L n))) := fun y hy => by
    have h2 := h.kept hy
    have hV2 := hV.kept hy
    refine (send_any a n c zs h2 h2.B_le hV2.len hV2.nil hV2.by_).mono ?_
    rintro e w' ⟨rfl, hR, hK4⟩
    refine ⟨rfl, ?_⟩
    have hn : zs.length = n := hV2.len
    rw [← hn]
    have hR := hR.out
    by_cases hE : sendE L zs.length = 0
    · obtain ⟨en, e1, e2, e3, e4, hL⟩ := hR.2 hE
      exact ⟨_, .send rfl ⟨fun k => absurd hE k, fun _ => ⟨en, e1, e2, e3, e4, rfl⟩⟩, hL, (K4.of_below hy).trans hK4.out⟩
    · exact ⟨_, .send rfl ⟨fun _ => rfl, fun k => absurd k hE⟩, hR.1 hE, (K4.of_below hy).trans hK4.out⟩
  clear h hV hK
  go_enter Try.func24, Try.ntmps24
  go_wp2_with (go_at_call 26; refine (kX.out _ (by repeat' with_reducible first | exact Below.refl _ _ | refine Below.drew ?_ | refine Below.drN ?_ _ | refine Below.al ?_ _)).mono ?_; rintro e w1 ⟨rfl, hM⟩; clear kX)
  refine bodyPost_ret (v := .tuple #[.slice none 0 0, .bool false, .int .i64 (sendE L n)]) (by simp [results, Try.results24, go_sem]) rfl (DoR.of hM.out)
set_option maxRecDepth 100000 in
theorem do1 {w : World} {B : Nat} {q : Qb} {L : Lk} (net i at_ by_ : Int) (a : Option Addr) (n c : Nat) (zs : List Int) (h : Lm w B q L) (hV : AcW w ⟨1, net, i, at_, by_, a, n, c, zs⟩) (hK : DoK L) :
    Calls Try.prog 24 #[.pointer (some ⟨q.lb, 0, none⟩), .agg #[.int .i64 1, .int .i64 net, .int .i64 i, .int .i64 at_, .int .u32 by_, .slice a n c]] w fun e w' => Hid (DoR w w' B q L ⟨1, net, i, at_, by_, a, n, c, zs⟩ e) := by
  have kX : Hid (∀ y, Below w.heap.size w y → Calls Try.prog 29 #[.pointer (some ⟨q.lb, 0, none⟩)] y fun e w' => ∃ a' n' c' b' ok, e = .returned (.tuple #[.slice a' n' c', .bool ok]) ∧ Hid (DoR w w' B q L ⟨1, net, i, at_, by_, a, n, c, zs⟩ (.returned (.tuple #[.slice a' n' c', .bool ok, .int .i64 0]))) ∧ Hid (b' = 0)) := fun y hy => by
    have h2 := h.kept hy
    have hV2 := hV.kept hy
    refine (poll_any h2 (by have := hK.tk; omega)).mono ?_
    rintro e w' ⟨hP, hL, hK4⟩
    obtain ⟨a', n', c', rfl, hS⟩ := hP.out
    exact ⟨a', n', c', 0, _, rfl, ⟨_, a', n', c', _, _, 0, rfl, .poll rfl, hL.out, sl_mono hS.out hy.size, (K4.of_below hy).trans hK4.out⟩, rfl⟩
  clear h hV hK
  go_enter Try.func24, Try.ntmps24
  go_wp2_with (go_at_call 29; refine (kX.out _ (by repeat' with_reducible first | exact Below.refl _ _ | refine Below.drew ?_ | refine Below.drN ?_ _ | refine Below.al ?_ _)).mono ?_; rintro e w1 ⟨a', n', c', b', ok, rfl, hM, _⟩; clear kX)
  refine bodyPost_ret (v := .tuple #[.slice a' n' c', .bool ok, .int .i64 0]) (by simp [results, Try.results24, go_sem]) rfl hM
set_option maxRecDepth 100000 in
theorem do2 {w : World} {B : Nat} {q : Qb} {L : Lk} (net i at_ by_ : Int) (a : Option Addr) (n c : Nat) (zs : List Int) (h : Lm w B q L) (hV : AcW w ⟨2, net, i, at_, by_, a, n, c, zs⟩) (hK : DoK L) :
    Calls Try.prog 24 #[.pointer (some ⟨q.lb, 0, none⟩), .agg #[.int .i64 2, .int .i64 net, .int .i64 i, .int .i64 at_, .int .u32 by_, .slice a n c]] w fun e w' => Hid (DoR w w' B q L ⟨2, net, i, at_, by_, a, n, c, zs⟩ e) := by
  have kX : Hid (∀ y, Below w.heap.size w y → Calls Try.prog 27 #[.pointer (some ⟨q.lb, 0, none⟩)] y fun e w' => e = .returned (.tuple #[]) ∧ Hid (Mid w w' B q L ⟨2, net, i, at_, by_, a, n, c, zs⟩ [] false (0))) := fun y hy => by
    have h2 := h.kept hy
    have hV2 := hV.kept hy
    refine (tick_any h2 (by have := hK.ep; omega) hK.tk).mono ?_
    rintro e w' ⟨rfl, hT, hK4⟩
    refine ⟨rfl, ?_⟩
    have hT := hT.out
    by_cases hE : 1099511627776 ≤ L.now
    · exact ⟨_, .tick rfl ⟨fun _ => rfl, fun k => absurd k (by omega)⟩, hT.1 hE, (K4.of_below hy).trans hK4.out⟩
    · obtain ⟨gs, g, e1, e2, e3, hL⟩ := hT.2 (by omega)
      exact ⟨_, .tick rfl ⟨fun k => absurd k hE, fun _ => ⟨gs, g, e1, e2, e3, rfl⟩⟩, hL, (K4.of_below hy).trans hK4.out⟩
  clear h hV hK
  go_enter Try.func24, Try.ntmps24
  go_wp2_with (go_at_call 27; refine (kX.out _ (by repeat' with_reducible first | exact Below.refl _ _ | refine Below.drew ?_ | refine Below.drN ?_ _ | refine Below.al ?_ _)).mono ?_; rintro e w1 ⟨rfl, hM⟩; clear kX)
  refine bodyPost_ret (v := .tuple #[.slice none 0 0, .bool false, .int .i64 0]) (by simp [results, Try.results24, go_sem]) rfl (DoR.of hM.out)
set_option maxRecDepth 100000 in
theorem do3 {w : World} {B : Nat} {q : Qb} {L : Lk} (net i at_ by_ : Int) (a : Option Addr) (n c : Nat) (zs : List Int) (h : Lm w B q L) (hV : AcW w ⟨3, net, i, at_, by_, a, n, c, zs⟩) (hK : DoK L) :
    Calls Try.prog 24 #[.pointer (some ⟨q.lb, 0, none⟩), .agg #[.int .i64 3, .int .i64 net, .int .i64 i, .int .i64 at_, .int .u32 by_, .slice a n c]] w fun e w' => Hid (DoR w w' B q L ⟨3, net, i, at_, by_, a, n, c, zs⟩ e) := by
  have kX : Hid (∀ y, Below w.heap.size w y → Calls Try.prog 28 #[.pointer (some ⟨q.lb, 0, none⟩), .int .i64 net, .int .i64 i] y fun e w' => e = .returned (.int .i64 (delS L net i).1) ∧ Hid (Mid w w' B q L ⟨3, net, i, at_, by_, a, n, c, zs⟩ [] false ((delS L net i).1))) := fun y hy => by
    have h2 := h.kept hy
    have hV2 := hV.kept hy
    refine (del_any net i h2).mono ?_
    rintro e w' ⟨rfl, hL, hK4⟩
    exact ⟨rfl, ⟨_, .del rfl, hL.out, (K4.of_below hy).trans hK4.out⟩⟩
  clear h hV hK
  go_enter Try.func24, Try.ntmps24
  go_wp2_with (go_at_call 28; refine (kX.out _ (by repeat' with_reducible first | exact Below.refl _ _ | refine Below.drew ?_ | refine Below.drN ?_ _ | refine Below.al ?_ _)).mono ?_; rintro e w1 ⟨rfl, hM⟩; clear kX)
  refine bodyPost_ret (v := .tuple #[.slice none 0 0, .bool false, .int .i64 (delS L net i).1]) (by simp [results, Try.results24, go_sem]) rfl (DoR.of hM.out)
set_option maxRecDepth 100000 in
theorem do4 {w : World} {B : Nat} {q : Qb} {L : Lk} (net i at_ by_ : Int) (a : Option Addr) (n c : Nat) (zs : List Int) (h : Lm w B q L) (hV : AcW w ⟨4, net, i, at_, by_, a, n, c, zs⟩) (hK : DoK L) :
    Calls Try.prog 24 #[.pointer (some ⟨q.lb, 0, none⟩), .agg #[.int .i64 4, .int .i64 net, .int .i64 i, .int .i64 at_, .int .u32 by_, .slice a n c]] w fun e w' => Hid (DoR w w' B q L ⟨4, net, i, at_, by_, a, n, c, zs⟩ e) := by
  have kX : Hid (∀ y, Below w.heap.size w y → Calls Try.prog 33 #[.pointer (some ⟨q.lb, 0, none⟩), .int .i64 net, .int .i64 i] y fun e w' => e = .returned (.int .i64 (canE L net i)) ∧ Hid (Mid w w' B q L ⟨4, net, i, at_, by_, a, n, c, zs⟩ [] false ((canE L net i)))) := fun y hy => by
    have h2 := h.kept hy
    have hV2 := hV.kept hy
    refine (drop_any net i h2).mono ?_
    rintro e w' ⟨rfl, hL, hK4⟩
    exact ⟨rfl, ⟨_, .drop rfl, hL.out, (K4.of_below hy).trans hK4.out⟩⟩
  clear h hV hK
  go_enter Try.func24, Try.ntmps24
  go_wp2_with (go_at_call 33; refine (kX.out _ (by repeat' with_reducible first | exact Below.refl _ _ | refine Below.drew ?_ | refine Below.drN ?_ _ | refine Below.al ?_ _)).mono ?_; rintro e w1 ⟨rfl, hM⟩; clear kX)
  refine bodyPost_ret (v := .tuple #[.slice none 0 0, .bool false, .int .i64 (canE L net i)]) (by simp [results, Try.results24, go_sem]) rfl (DoR.of hM.out)
set_option maxRecDepth 100000 in
theorem do5 {w : World} {B : Nat} {q : Qb} {L : Lk} (net i at_ by_ : Int) (a : Option Addr) (n c : Nat) (zs : List Int) (h : Lm w B q L) (hV : AcW w ⟨5, net, i, at_, by_, a, n, c, zs⟩) (hK : DoK L) :
    Calls Try.prog 24 #[.pointer (some ⟨q.lb, 0, none⟩), .agg #[.int .i64 5, .int .i64 net, .int .i64 i, .int .i64 at_, .int .u32 by_, .slice a n c]] w fun e w' => Hid (DoR w w' B q L ⟨5, net, i, at_, by_, a, n, c, zs⟩ e) := by
  have kX : Hid (∀ y, Below w.heap.size w y → Calls Try.prog 62 #[.pointer (some ⟨q.lb, 0, none⟩), .int .i64 net, .int .i64 i] y fun e w' => e = .returned (.int .i64 (canE L net i)) ∧ Hid (Mid w w' B q L ⟨5, net, i, at_, by_, a, n, c, zs⟩ [] false ((canE L net i)))) := fun y hy => by
    have h2 := h.kept hy
    have hV2 := hV.kept hy
    refine (twice_any net i h2).mono ?_
    rintro e w' ⟨rfl, hL, hK4⟩
    exact ⟨rfl, ⟨_, .twice rfl, hL.out, (K4.of_below hy).trans hK4.out⟩⟩
  clear h hV hK
  go_enter Try.func24, Try.ntmps24
  go_wp2_with (go_at_call 62; refine (kX.out _ (by repeat' with_reducible first | exact Below.refl _ _ | refine Below.drew ?_ | refine Below.drN ?_ _ | refine Below.al ?_ _)).mono ?_; rintro e w1 ⟨rfl, hM⟩; clear kX)
  refine bodyPost_ret (v := .tuple #[.slice none 0 0, .bool false, .int .i64 (canE L net i)]) (by simp [results, Try.results24, go_sem]) rfl (DoR.of hM.out)
set_option maxRecDepth 100000 in
theorem do6 {w : World} {B : Nat} {q : Qb} {L : Lk} (net i at_ by_ : Int) (a : Option Addr) (n c : Nat) (zs : List Int) (h : Lm w B q L) (hV : AcW w ⟨6, net, i, at_, by_, a, n, c, zs⟩) (hK : DoK L) :
    Calls Try.prog 24 #[.pointer (some ⟨q.lb, 0, none⟩), .agg #[.int .i64 6, .int .i64 net, .int .i64 i, .int .i64 at_, .int .u32 by_, .slice a n c]] w fun e w' => Hid (DoR w w' B q L ⟨6, net, i, at_, by_, a, n, c, zs⟩ e) := by
  have kX : Hid (∀ y, Below w.heap.size w y → Calls Try.prog 32 #[.pointer (some ⟨q.lb, 0, none⟩), .int .i64 net, .int .i64 i, .int .i64 at_, .int .u32 by_] y fun e w' => e = .returned (.int .i64 (turnE L net i)) ∧ Hid (Mid w w' B q L ⟨6, net, i, at_, by_, a, n, c, zs⟩ [] false (turnE L net i))) := fun y hy => by
    have h2 := h.kept hy
    have hV2 := hV.kept hy
    refine (kturn_int net i at_ by_ h2 hK.gr hV2.at_ hV2.u32).mono ?_
    rintro e w' ⟨rfl, hL, hK4⟩
    obtain ⟨L', h5, h6⟩ := hL.out
    exact ⟨rfl, ⟨_, .turn rfl h5, h6, (K4.of_below hy).trans hK4.out⟩⟩
  clear h hV hK
  go_enter Try.func24, Try.ntmps24
  go_wp2_with (go_at_call 32; refine (kX.out _ (by repeat' with_reducible first | exact Below.refl _ _ | refine Below.drew ?_ | refine Below.drN ?_ _ | refine Below.al ?_ _)).mono ?_; rintro e w1 ⟨rfl, hM⟩; clear kX)
  refine bodyPost_ret (v := .tuple #[.slice none 0 0, .bool false, .int .i64 (turnE L net i)]) (by simp [results, Try.results24, go_sem]) rfl (DoR.of hM.out)
set_option maxRecDepth 100000 in
theorem do7 {w : World} {B : Nat} {q : Qb} {L : Lk} (net i at_ by_ : Int) (a : Option Addr) (n c : Nat) (zs : List Int) (h : Lm w B q L) (hV : AcW w ⟨7, net, i, at_, by_, a, n, c, zs⟩) (hK : DoK L) :
    Calls Try.prog 24 #[.pointer (some ⟨q.lb, 0, none⟩), .agg #[.int .i64 7, .int .i64 net, .int .i64 i, .int .i64 at_, .int .u32 by_, .slice a n c]] w fun e w' => Hid (DoR w w' B q L ⟨7, net, i, at_, by_, a, n, c, zs⟩ e) := by
  have kX : Hid (∀ y, Below w.heap.size w y → Calls Try.prog 31 #[.pointer (some ⟨q.lb, 0, none⟩), .int .i64 net, .slice a n c] y fun e w' => e = .returned (.int .i64 (forgeE L net zs)) ∧ Hid (Mid w w' B q L ⟨7, net, i, at_, by_, a, n, c, zs⟩ [] false (forgeE L net zs))) := fun y hy => by
    have h2 := h.kept hy
    have hV2 := hV.kept hy
    refine (forge_any net a n c zs h2 hV2.len hV2.nil hV2.by_ hV2.le hV2.mx).mono ?_
    rintro e w' ⟨rfl, hL, hK4⟩
    obtain ⟨L', h5, h6⟩ := hL.out
    exact ⟨rfl, ⟨_, .forge rfl h5, h6, (K4.of_below hy).trans hK4.out⟩⟩
  clear h hV hK
  go_enter Try.func24, Try.ntmps24
  go_wp2_with (go_at_call 31; refine (kX.out _ (by repeat' with_reducible first | exact Below.refl _ _ | refine Below.drew ?_ | refine Below.drN ?_ _ | refine Below.al ?_ _)).mono ?_; rintro e w1 ⟨rfl, hM⟩; clear kX)
  refine bodyPost_ret (v := .tuple #[.slice none 0 0, .bool false, .int .i64 (forgeE L net zs)]) (by simp [results, Try.results24, go_sem]) rfl (DoR.of hM.out)
set_option maxRecDepth 100000 in
theorem do8 {w : World} {B : Nat} {q : Qb} {L : Lk} (net i at_ by_ : Int) (a : Option Addr) (n c : Nat) (zs : List Int) (h : Lm w B q L) (hV : AcW w ⟨8, net, i, at_, by_, a, n, c, zs⟩) (hK : DoK L) :
    Calls Try.prog 24 #[.pointer (some ⟨q.lb, 0, none⟩), .agg #[.int .i64 8, .int .i64 net, .int .i64 i, .int .i64 at_, .int .u32 by_, .slice a n c]] w fun e w' => Hid (DoR w w' B q L ⟨8, net, i, at_, by_, a, n, c, zs⟩ e) := by
  have kX : Hid (∀ y, Below w.heap.size w y → Calls Try.prog 34 #[.pointer (some ⟨q.lb, 0, none⟩)] y fun e w' => e = .returned (.tuple #[]) ∧ Hid (Mid w w' B q L ⟨8, net, i, at_, by_, a, n, c, zs⟩ [] false (0))) := fun y hy => by
    have h2 := h.kept hy
    have hV2 := hV.kept hy
    refine (rec_any h2 hK.ep).mono ?_
    rintro e w' ⟨rfl, hL, hK4⟩
    exact ⟨rfl, ⟨_, .again rfl, hL.out, (K4.of_below hy).trans hK4.out⟩⟩
  clear h hV hK
  go_enter Try.func24, Try.ntmps24
  go_wp2_with (go_at_call 34; refine (kX.out _ (by repeat' with_reducible first | exact Below.refl _ _ | refine Below.drew ?_ | refine Below.drN ?_ _ | refine Below.al ?_ _)).mono ?_; rintro e w1 ⟨rfl, hM⟩; clear kX)
  refine bodyPost_ret (v := .tuple #[.slice none 0 0, .bool false, .int .i64 0]) (by simp [results, Try.results24, go_sem]) rfl (DoR.of hM.out)
set_option maxRecDepth 100000 in
theorem do9 {w : World} {B : Nat} {q : Qb} {L : Lk} (kind net i at_ by_ : Int) (a : Option Addr) (n c : Nat) (zs : List Int) (h : Lm w B q L) (hk : kind < 0 ∨ 8 < kind) :
    Calls Try.prog 24 #[.pointer (some ⟨q.lb, 0, none⟩), .agg #[.int .i64 kind, .int .i64 net, .int .i64 i, .int .i64 at_, .int .u32 by_, .slice a n c]] w fun e w' => Hid (DoR w w' B q L ⟨kind, net, i, at_, by_, a, n, c, zs⟩ e) := by
  have d0 : (kind == 0) = false := by simp; omega
  have d1 : (kind == 1) = false := by simp; omega
  have d2 : (kind == 2) = false := by simp; omega
  have d3 : (kind == 3) = false := by simp; omega
  have d4 : (kind == 4) = false := by simp; omega
  have d5 : (kind == 5) = false := by simp; omega
  have d6 : (kind == 6) = false := by simp; omega
  have d7 : (kind == 7) = false := by simp; omega
  have d8 : (kind == 8) = false := by simp; omega
  have hM : Hid (∀ y, Below w.heap.size w y → DoR w y B q L ⟨kind, net, i, at_, by_, a, n, c, zs⟩ (.returned (.tuple #[.slice none 0 0, .bool false, .int .i64 0]))) := fun y hy => DoR.of ⟨L, .none hk, h.kept hy, K4.of_below hy⟩
  clear h hk
  go_enter Try.func24, Try.ntmps24
  go_wp2_with fail
  refine bodyPost_ret (v := .tuple #[.slice none 0 0, .bool false, .int .i64 0]) (by simp [results, Try.results24, go_sem]) rfl (hM.out _ (by repeat' with_reducible first | exact Below.refl _ _ | refine Below.drew ?_ | refine Below.drN ?_ _ | refine Below.al ?_ _))
theorem does_any {w : World} {B : Nat} {q : Qb} {L : Lk} (x : Ac) (h : Lm w B q L) (hV : AcW w x) (hK : DoK L) :
    Calls Try.prog 24 #[.pointer (some ⟨q.lb, 0, none⟩), x.val] w fun e w' => Hid (DoR w w' B q L x e) := by
  obtain ⟨kind, net, i, at_, by_, a, n, c, zs⟩ := x
  by_cases hk : kind < 0 ∨ 8 < kind
  · exact do9 kind net i at_ by_ a n c zs h hk
  · rcases (show kind = 0 ∨ kind = 1 ∨ kind = 2 ∨ kind = 3 ∨ kind = 4 ∨ kind = 5 ∨ kind = 6 ∨ kind = 7 ∨ kind = 8 by omega) with rfl | rfl | rfl | rfl | rfl | rfl | rfl | rfl | rfl
    · exact do0 net i at_ by_ a n c zs h hV hK
    · exact do1 net i at_ by_ a n c zs h hV hK
    · exact do2 net i at_ by_ a n c zs h hV hK
    · exact do3 net i at_ by_ a n c zs h hV hK
    · exact do4 net i at_ by_ a n c zs h hV hK
    · exact do5 net i at_ by_ a n c zs h hV hK
    · exact do6 net i at_ by_ a n c zs h hV hK
    · exact do7 net i at_ by_ a n c zs h hV hK
    · exact do8 net i at_ by_ a n c zs h hV hK
end Go.Proofs.Ytfipdldoklkciaa
