/-
  Texts Lsz, Lta, Ltb.
-/
import Derived.Test.YtfipdldoklkciaaGreatGaw
import Derived.Test.YtfipdldoklkciaaGreatGax
import Derived.Test.YtfipdldoklkciaaGreatGay
import Derived.Test.YtfipdldoklkciaaGreatGaq
import Derived.Test.YtfipdldoklkciaaGreatGao
namespace Go.Proofs.YtfipdldoklkciaaGreat
open Go.RowKit
set_option linter.unusedVariables false
variable {B : Nat}
/-- What an act leaves at the document's link. -/
def DoX (w w' : World) (B lb : Nat) (L : Lk) (x : Ac) (e : Ending) : Prop := ∃ L' a n c b ok k, e = .returned (.tuple #[.slice a n c, .bool ok, .int .i64 k]) ∧ DoS L x L' b ok k ∧ XM B w' lb L' ∧ OwnsB w' 0 (.slice a n c) b ∧ KX B lb w w'
/-- What its calls have need of. -/
structure DoP (L : Lk) : Prop where
  lp : Lp L
  ep : L.ep < 4611686018427387904
  tk : L.r.tk ≤ 4611686018427380000
  gr : ∀ g, g ∈ L.n0 ∨ g ∈ L.n1 → g.sp = false → 4 ≤ g.zs.length ∧ g.zs.length ≤ 100000
def MidX (w w' : World) (B lb : Nat) (L : Lk) (x : Ac) (b : List Int) (ok : Bool) (k : Int) : Prop := ∃ L', DoS L x L' b ok k ∧ XM B w' lb L' ∧ KX B lb w w'
theorem DoX.of {w w' : World} {lb : Nat} {L : Lk} {x : Ac} {k : Int} (h : MidX w w' B lb L x [] false k) : DoX w w' B lb L x (.returned (.tuple #[.slice none 0 0, .bool false, .int .i64 k])) := by
  obtain ⟨L', h1, h2, h3⟩ := h
  exact ⟨L', none, 0, 0, [], false, k, rfl, h1, h2, ownsB_nil _ _, h3⟩
theorem xturn_int {w : World} {lb : Nat} {L : Lk} (n i x y : Int) (h : XM B w lb L) (p : DoP L) (hx : (Lit.int .i64 x).wf = true) (hy : 0 ≤ y ∧ y < 4294967296) :
    Calls Tryz.prog 38 #[.pointer (some ⟨lb, 0, none⟩), .int .i64 n, .int .i64 i, .int .i64 x, .int .u32 y] w fun e w' => e = .returned (.int .i64 (turnE L n i)) ∧ Hid (∃ L', TurnS L L' n i x y.toNat ∧ XM B w' lb L') ∧ Hid (KX B lb w w') := by
  obtain ⟨k, rfl⟩ := Int.eq_ofNat_of_zero_le hy.1
  have := xturn_any n i x k h p.lp p.gr hx (by omega)
  exact this
set_option maxRecDepth 100000 in
theorem xdo0 {w : World} {lb : Nat} {L : Lk} (net i at_ by_ : Int) (a : Option Addr) (n c : Nat) (zs : List Int) (h : XM B w lb L) (hV : AcW w ⟨0, net, i, at_, by_, a, n, c, zs⟩) (hK : DoP L) :
    Calls Tryz.prog 8 #[.pointer (some ⟨lb, 0, none⟩), .agg #[.int .i64 0, .int .i64 net, .int .i64 i, .int .i64 at_, .int .u32 by_, .slice a n c]] w fun e w' => Hid (DoX w w' B lb L ⟨0, net, i, at_, by_, a, n, c, zs⟩ e) := by
  have kX : Hid (∀ y, Below w.heap.size w y → Calls Tryz.prog 32 #[.pointer (some ⟨lb, 0, none⟩), .slice a n c] y fun e w' => e = .returned (.int .i64 (sendE L n)) ∧ Hid (MidX w w' B lb L ⟨0, net, i, at_, by_, a, n, c, zs⟩ [] false (sendE L n))) := fun y hy => by
    have h2 := h.kept hy
    have hV2 := hV.kept hy
    refine (xsend_any a n c zs h2 hK.lp hV2.len hV2.nil hV2.by_).mono ?_
    rintro e w' ⟨rfl, hR, hK4⟩
    refine ⟨rfl, ?_⟩
    have hn : zs.length = n := hV2.len
    rw [← hn]
    obtain ⟨M', h5, h6⟩ := hR.out
    exact ⟨_, .send rfl h5, h6, (KX.of_below hy).trans hK4.out⟩
  clear h hV hK
  go_enter Tryz.func8, Tryz.ntmps8
  go_wp2_with (go_at_call 32; refine (kX.out _ (by repeat' with_reducible first | exact Below.refl _ _ | refine Below.drew ?_ | refine Below.drN ?_ _ | refine Below.al ?_ _)).mono ?_; rintro e w1 ⟨rfl, hM⟩; clear kX)
  refine bodyPost_ret (v := .tuple #[.slice none 0 0, .bool false, .int .i64 (sendE L n)]) (by simp [results, Tryz.results8, go_sem]) rfl (DoX.of hM.out)
set_option maxRecDepth 100000 in
theorem xdo1 {w : World} {lb : Nat} {L : Lk} (net i at_ by_ : Int) (a : Option Addr) (n c : Nat) (zs : List Int) (h : XM B w lb L) (hV : AcW w ⟨1, net, i, at_, by_, a, n, c, zs⟩) (hK : DoP L) :
    Calls Tryz.prog 8 #[.pointer (some ⟨lb, 0, none⟩), .agg #[.int .i64 1, .int .i64 net, .int .i64 i, .int .i64 at_, .int .u32 by_, .slice a n c]] w fun e w' => Hid (DoX w w' B lb L ⟨1, net, i, at_, by_, a, n, c, zs⟩ e) := by
  have kX : Hid (∀ y, Below w.heap.size w y → Calls Tryz.prog 33 #[.pointer (some ⟨lb, 0, none⟩)] y fun e w' => ∃ a' n' c' ok, e = .returned (.tuple #[.slice a' n' c', .bool ok]) ∧ Hid (DoX w w' B lb L ⟨1, net, i, at_, by_, a, n, c, zs⟩ (.returned (.tuple #[.slice a' n' c', .bool ok, .int .i64 0])))) := fun y hy => by
    have h2 := h.kept hy
    have hV2 := hV.kept hy
    refine (xpoll_any h2 hK.lp (by have := hK.tk; omega)).mono ?_
    rintro e w' ⟨hP, hL, hK4⟩
    obtain ⟨a', n', c', rfl, hS⟩ := hP.out
    exact ⟨a', n', c', _, rfl, ⟨_, a', n', c', _, _, 0, rfl, .poll rfl, hL.out, hS, (KX.of_below hy).trans hK4.out⟩⟩
  clear h hV hK
  go_enter Tryz.func8, Tryz.ntmps8
  go_wp2_with (go_at_call 33; refine (kX.out _ (by repeat' with_reducible first | exact Below.refl _ _ | refine Below.drew ?_ | refine Below.drN ?_ _ | refine Below.al ?_ _)).mono ?_; rintro e w1 ⟨a', n', c', ok, rfl, hM⟩; clear kX)
  refine bodyPost_ret (v := .tuple #[.slice a' n' c', .bool ok, .int .i64 0]) (by simp [results, Tryz.results8, go_sem]) rfl hM
set_option maxRecDepth 100000 in
theorem xdo2 {w : World} {lb : Nat} {L : Lk} (net i at_ by_ : Int) (a : Option Addr) (n c : Nat) (zs : List Int) (h : XM B w lb L) (hV : AcW w ⟨2, net, i, at_, by_, a, n, c, zs⟩) (hK : DoP L) :
    Calls Tryz.prog 8 #[.pointer (some ⟨lb, 0, none⟩), .agg #[.int .i64 2, .int .i64 net, .int .i64 i, .int .i64 at_, .int .u32 by_, .slice a n c]] w fun e w' => Hid (DoX w w' B lb L ⟨2, net, i, at_, by_, a, n, c, zs⟩ e) := by
  have kX : Hid (∀ y, Below w.heap.size w y → Calls Tryz.prog 34 #[.pointer (some ⟨lb, 0, none⟩)] y fun e w' => e = .returned (.tuple #[]) ∧ Hid (MidX w w' B lb L ⟨2, net, i, at_, by_, a, n, c, zs⟩ [] false (0))) := fun y hy => by
    have h2 := h.kept hy
    have hV2 := hV.kept hy
    refine (xtick_any h2 hK.lp (by have := hK.ep; omega) hK.tk).mono ?_
    rintro e w' ⟨rfl, hR, hK4⟩
    obtain ⟨M', h5, h6⟩ := hR.out
    exact ⟨rfl, ⟨_, .tick rfl h5, h6, (KX.of_below hy).trans hK4.out⟩⟩
  clear h hV hK
  go_enter Tryz.func8, Tryz.ntmps8
  go_wp2_with (go_at_call 34; refine (kX.out _ (by repeat' with_reducible first | exact Below.refl _ _ | refine Below.drew ?_ | refine Below.drN ?_ _ | refine Below.al ?_ _)).mono ?_; rintro e w1 ⟨rfl, hM⟩; clear kX)
  refine bodyPost_ret (v := .tuple #[.slice none 0 0, .bool false, .int .i64 (0)]) (by simp [results, Tryz.results8, go_sem]) rfl (DoX.of hM.out)
set_option maxRecDepth 100000 in
theorem xdo3 {w : World} {lb : Nat} {L : Lk} (net i at_ by_ : Int) (a : Option Addr) (n c : Nat) (zs : List Int) (h : XM B w lb L) (hV : AcW w ⟨3, net, i, at_, by_, a, n, c, zs⟩) (hK : DoP L) :
    Calls Tryz.prog 8 #[.pointer (some ⟨lb, 0, none⟩), .agg #[.int .i64 3, .int .i64 net, .int .i64 i, .int .i64 at_, .int .u32 by_, .slice a n c]] w fun e w' => Hid (DoX w w' B lb L ⟨3, net, i, at_, by_, a, n, c, zs⟩ e) := by
  have kX : Hid (∀ y, Below w.heap.size w y → Calls Tryz.prog 35 #[.pointer (some ⟨lb, 0, none⟩), .int .i64 net, .int .i64 i] y fun e w' => e = .returned (.int .i64 (delS L net i).1) ∧ Hid (MidX w w' B lb L ⟨3, net, i, at_, by_, a, n, c, zs⟩ [] false ((delS L net i).1))) := fun y hy => by
    have h2 := h.kept hy
    have hV2 := hV.kept hy
    refine (xdel_any net i h2 hK.lp).mono ?_
    rintro e w' ⟨rfl, hR, hK4⟩
    exact ⟨rfl, ⟨_, .del rfl, hR.out, (KX.of_below hy).trans hK4.out⟩⟩
  clear h hV hK
  go_enter Tryz.func8, Tryz.ntmps8
  go_wp2_with (go_at_call 35; refine (kX.out _ (by repeat' with_reducible first | exact Below.refl _ _ | refine Below.drew ?_ | refine Below.drN ?_ _ | refine Below.al ?_ _)).mono ?_; rintro e w1 ⟨rfl, hM⟩; clear kX)
  refine bodyPost_ret (v := .tuple #[.slice none 0 0, .bool false, .int .i64 ((delS L net i).1)]) (by simp [results, Tryz.results8, go_sem]) rfl (DoX.of hM.out)
set_option maxRecDepth 100000 in
theorem xdo4 {w : World} {lb : Nat} {L : Lk} (net i at_ by_ : Int) (a : Option Addr) (n c : Nat) (zs : List Int) (h : XM B w lb L) (hV : AcW w ⟨4, net, i, at_, by_, a, n, c, zs⟩) (hK : DoP L) :
    Calls Tryz.prog 8 #[.pointer (some ⟨lb, 0, none⟩), .agg #[.int .i64 4, .int .i64 net, .int .i64 i, .int .i64 at_, .int .u32 by_, .slice a n c]] w fun e w' => Hid (DoX w w' B lb L ⟨4, net, i, at_, by_, a, n, c, zs⟩ e) := by
  have kX : Hid (∀ y, Below w.heap.size w y → Calls Tryz.prog 36 #[.pointer (some ⟨lb, 0, none⟩), .int .i64 net, .int .i64 i] y fun e w' => e = .returned (.int .i64 (canE L net i)) ∧ Hid (MidX w w' B lb L ⟨4, net, i, at_, by_, a, n, c, zs⟩ [] false (canE L net i))) := fun y hy => by
    have h2 := h.kept hy
    have hV2 := hV.kept hy
    refine (xdrop_any net i h2 hK.lp).mono ?_
    rintro e w' ⟨rfl, hR, hK4⟩
    exact ⟨rfl, ⟨_, .drop rfl, hR.out, (KX.of_below hy).trans hK4.out⟩⟩
  clear h hV hK
  go_enter Tryz.func8, Tryz.ntmps8
  go_wp2_with (go_at_call 36; refine (kX.out _ (by repeat' with_reducible first | exact Below.refl _ _ | refine Below.drew ?_ | refine Below.drN ?_ _ | refine Below.al ?_ _)).mono ?_; rintro e w1 ⟨rfl, hM⟩; clear kX)
  refine bodyPost_ret (v := .tuple #[.slice none 0 0, .bool false, .int .i64 (canE L net i)]) (by simp [results, Tryz.results8, go_sem]) rfl (DoX.of hM.out)
set_option maxRecDepth 100000 in
theorem xdo5 {w : World} {lb : Nat} {L : Lk} (net i at_ by_ : Int) (a : Option Addr) (n c : Nat) (zs : List Int) (h : XM B w lb L) (hV : AcW w ⟨5, net, i, at_, by_, a, n, c, zs⟩) (hK : DoP L) :
    Calls Tryz.prog 8 #[.pointer (some ⟨lb, 0, none⟩), .agg #[.int .i64 5, .int .i64 net, .int .i64 i, .int .i64 at_, .int .u32 by_, .slice a n c]] w fun e w' => Hid (DoX w w' B lb L ⟨5, net, i, at_, by_, a, n, c, zs⟩ e) := by
  have kX : Hid (∀ y, Below w.heap.size w y → Calls Tryz.prog 37 #[.pointer (some ⟨lb, 0, none⟩), .int .i64 net, .int .i64 i] y fun e w' => e = .returned (.int .i64 (canE L net i)) ∧ Hid (MidX w w' B lb L ⟨5, net, i, at_, by_, a, n, c, zs⟩ [] false (canE L net i))) := fun y hy => by
    have h2 := h.kept hy
    have hV2 := hV.kept hy
    refine (xtwice_any net i h2 hK.lp).mono ?_
    rintro e w' ⟨rfl, hR, hK4⟩
    exact ⟨rfl, ⟨_, .twice rfl, hR.out, (KX.of_below hy).trans hK4.out⟩⟩
  clear h hV hK
  go_enter Tryz.func8, Tryz.ntmps8
  go_wp2_with (go_at_call 37; refine (kX.out _ (by repeat' with_reducible first | exact Below.refl _ _ | refine Below.drew ?_ | refine Below.drN ?_ _ | refine Below.al ?_ _)).mono ?_; rintro e w1 ⟨rfl, hM⟩; clear kX)
  refine bodyPost_ret (v := .tuple #[.slice none 0 0, .bool false, .int .i64 (canE L net i)]) (by simp [results, Tryz.results8, go_sem]) rfl (DoX.of hM.out)
set_option maxRecDepth 100000 in
theorem xdo6 {w : World} {lb : Nat} {L : Lk} (net i at_ by_ : Int) (a : Option Addr) (n c : Nat) (zs : List Int) (h : XM B w lb L) (hV : AcW w ⟨6, net, i, at_, by_, a, n, c, zs⟩) (hK : DoP L) :
    Calls Tryz.prog 8 #[.pointer (some ⟨lb, 0, none⟩), .agg #[.int .i64 6, .int .i64 net, .int .i64 i, .int .i64 at_, .int .u32 by_, .slice a n c]] w fun e w' => Hid (DoX w w' B lb L ⟨6, net, i, at_, by_, a, n, c, zs⟩ e) := by
  have kX : Hid (∀ y, Below w.heap.size w y → Calls Tryz.prog 38 #[.pointer (some ⟨lb, 0, none⟩), .int .i64 net, .int .i64 i, .int .i64 at_, .int .u32 by_] y fun e w' => e = .returned (.int .i64 (turnE L net i)) ∧ Hid (MidX w w' B lb L ⟨6, net, i, at_, by_, a, n, c, zs⟩ [] false (turnE L net i))) := fun y hy => by
    have h2 := h.kept hy
    have hV2 := hV.kept hy
    refine (xturn_int net i at_ by_ h2 hK hV2.at_ hV2.u32).mono ?_
    rintro e w' ⟨rfl, hR, hK4⟩
    obtain ⟨M', h5, h6⟩ := hR.out
    exact ⟨rfl, ⟨_, .turn rfl h5, h6, (KX.of_below hy).trans hK4.out⟩⟩
  clear h hV hK
  go_enter Tryz.func8, Tryz.ntmps8
  go_wp2_with (go_at_call 38; refine (kX.out _ (by repeat' with_reducible first | exact Below.refl _ _ | refine Below.drew ?_ | refine Below.drN ?_ _ | refine Below.al ?_ _)).mono ?_; rintro e w1 ⟨rfl, hM⟩; clear kX)
  refine bodyPost_ret (v := .tuple #[.slice none 0 0, .bool false, .int .i64 (turnE L net i)]) (by simp [results, Tryz.results8, go_sem]) rfl (DoX.of hM.out)
set_option maxRecDepth 100000 in
theorem xdo7 {w : World} {lb : Nat} {L : Lk} (net i at_ by_ : Int) (a : Option Addr) (n c : Nat) (zs : List Int) (h : XM B w lb L) (hV : AcW w ⟨7, net, i, at_, by_, a, n, c, zs⟩) (hK : DoP L) :
    Calls Tryz.prog 8 #[.pointer (some ⟨lb, 0, none⟩), .agg #[.int .i64 7, .int .i64 net, .int .i64 i, .int .i64 at_, .int .u32 by_, .slice a n c]] w fun e w' => Hid (DoX w w' B lb L ⟨7, net, i, at_, by_, a, n, c, zs⟩ e) := by
  have kX : Hid (∀ y, Below w.heap.size w y → Calls Tryz.prog 39 #[.pointer (some ⟨lb, 0, none⟩), .int .i64 net, .slice a n c] y fun e w' => e = .returned (.int .i64 (forgeE L net zs)) ∧ Hid (MidX w w' B lb L ⟨7, net, i, at_, by_, a, n, c, zs⟩ [] false (forgeE L net zs))) := fun y hy => by
    have h2 := h.kept hy
    have hV2 := hV.kept hy
    refine (xforge_any net a n c zs h2 hK.lp hV2.len hV2.nil hV2.by_ hV2.le hV2.mx).mono ?_
    rintro e w' ⟨rfl, hR, hK4⟩
    obtain ⟨M', h5, h6⟩ := hR.out
    exact ⟨rfl, ⟨_, .forge rfl h5, h6, (KX.of_below hy).trans hK4.out⟩⟩
  clear h hV hK
  go_enter Tryz.func8, Tryz.ntmps8
  go_wp2_with (go_at_call 39; refine (kX.out _ (by repeat' with_reducible first | exact Below.refl _ _ | refine Below.drew ?_ | refine Below.drN ?_ _ | refine Below.al ?_ _)).mono ?_; rintro e w1 ⟨rfl, hM⟩; clear kX)
  refine bodyPost_ret (v := .tuple #[.slice none 0 0, .bool false, .int .i64 (forgeE L net zs)]) (by simp [results, Tryz.results8, go_sem]) rfl (DoX.of hM.out)
set_option maxRecDepth 100000 in
theorem xdo8 {w : World} {lb : Nat} {L : Lk} (net i at_ by_ : Int) (a : Option Addr) (n c : Nat) (zs : List Int) (h : XM B w lb L) (hV : AcW w ⟨8, net, i, at_, by_, a, n, c, zs⟩) (hK : DoP L) :
    Calls Tryz.prog 8 #[.pointer (some ⟨lb, 0, none⟩), .agg #[.int .i64 8, .int .i64 net, .int .i64 i, .int .i64 at_, .int .u32 by_, .slice a n c]] w fun e w' => Hid (DoX w w' B lb L ⟨8, net, i, at_, by_, a, n, c, zs⟩ e) := by
  have kX : Hid (∀ y, Below w.heap.size w y → Calls Tryz.prog 40 #[.pointer (some ⟨lb, 0, none⟩)] y fun e w' => e = .returned (.tuple #[]) ∧ Hid (MidX w w' B lb L ⟨8, net, i, at_, by_, a, n, c, zs⟩ [] false (0))) := fun y hy => by
    have h2 := h.kept hy
    have hV2 := hV.kept hy
    refine (xrec_any h2 hK.lp hK.ep).mono ?_
    rintro e w' ⟨rfl, hR, hK4⟩
    exact ⟨rfl, ⟨_, .again rfl, hR.out, (KX.of_below hy).trans hK4.out⟩⟩
  clear h hV hK
  go_enter Tryz.func8, Tryz.ntmps8
  go_wp2_with (go_at_call 40; refine (kX.out _ (by repeat' with_reducible first | exact Below.refl _ _ | refine Below.drew ?_ | refine Below.drN ?_ _ | refine Below.al ?_ _)).mono ?_; rintro e w1 ⟨rfl, hM⟩; clear kX)
  refine bodyPost_ret (v := .tuple #[.slice none 0 0, .bool false, .int .i64 (0)]) (by simp [results, Tryz.results8, go_sem]) rfl (DoX.of hM.out)
set_option maxRecDepth 100000 in
theorem xdo9 {w : World} {lb : Nat} {L : Lk} (kind net i at_ by_ : Int) (a : Option Addr) (n c : Nat) (zs : List Int) (h : XM B w lb L) (hk : kind < 0 ∨ 8 < kind) :
    Calls Tryz.prog 8 #[.pointer (some ⟨lb, 0, none⟩), .agg #[.int .i64 kind, .int .i64 net, .int .i64 i, .int .i64 at_, .int .u32 by_, .slice a n c]] w fun e w' => Hid (DoX w w' B lb L ⟨kind, net, i, at_, by_, a, n, c, zs⟩ e) := by
  have d0 : (kind == 0) = false := by simp; omega
  have d1 : (kind == 1) = false := by simp; omega
  have d2 : (kind == 2) = false := by simp; omega
  have d3 : (kind == 3) = false := by simp; omega
  have d4 : (kind == 4) = false := by simp; omega
  have d5 : (kind == 5) = false := by simp; omega
  have d6 : (kind == 6) = false := by simp; omega
  have d7 : (kind == 7) = false := by simp; omega
  have d8 : (kind == 8) = false := by simp; omega
  have hM : Hid (∀ y, Below w.heap.size w y → DoX w y B lb L ⟨kind, net, i, at_, by_, a, n, c, zs⟩ (.returned (.tuple #[.slice none 0 0, .bool false, .int .i64 0]))) := fun y hy => DoX.of ⟨L, .none hk, h.kept hy, KX.of_below hy⟩
  clear h hk
  go_enter Tryz.func8, Tryz.ntmps8
  go_wp2_with fail
  refine bodyPost_ret (v := .tuple #[.slice none 0 0, .bool false, .int .i64 0]) (by simp [results, Tryz.results8, go_sem]) rfl (hM.out _ (by repeat' with_reducible first | exact Below.refl _ _ | refine Below.drew ?_ | refine Below.drN ?_ _ | refine Below.al ?_ _))
theorem would_any {w : World} {lb : Nat} {L : Lk} (x : Ac) (h : XM B w lb L) (hV : AcW w x) (hK : DoP L) :
    Calls Tryz.prog 8 #[.pointer (some ⟨lb, 0, none⟩), x.val] w fun e w' => Hid (DoX w w' B lb L x e) := by
  obtain ⟨kind, net, i, at_, by_, a, n, c, zs⟩ := x
  by_cases hk : kind < 0 ∨ 8 < kind
  · exact xdo9 kind net i at_ by_ a n c zs h hk
  · rcases (show kind = 0 ∨ kind = 1 ∨ kind = 2 ∨ kind = 3 ∨ kind = 4 ∨ kind = 5 ∨ kind = 6 ∨ kind = 7 ∨ kind = 8 by omega) with rfl | rfl | rfl | rfl | rfl | rfl | rfl | rfl | rfl
    · exact xdo0 net i at_ by_ a n c zs h hV hK
    · exact xdo1 net i at_ by_ a n c zs h hV hK
    · exact xdo2 net i at_ by_ a n c zs h hV hK
    · exact xdo3 net i at_ by_ a n c zs h hV hK
    · exact xdo4 net i at_ by_ a n c zs h hV hK
    · exact xdo5 net i at_ by_ a n c zs h hV hK
    · exact xdo6 net i at_ by_ a n c zs h hV hK
    · exact xdo7 net i at_ by_ a n c zs h hV hK
    · exact xdo8 net i at_ by_ a n c zs h hV hK
end Go.Proofs.YtfipdldoklkciaaGreat
namespace Go.Proofs.YtfipdldoklkciaaGreat
open Go.RowKit
set_option linter.unusedVariables false
variable {B : Nat}
theorem MapI.at_ {w w' : World} {b n : Nat} {f : Int → Option Value} (h : MapI w b f n) (hb : w'.heap[b]? = w.heap[b]?) : MapI w' b f n := by
  obtain ⟨D, ⟨es, clock, h1, h2⟩, h3⟩ := h
  exact ⟨D, ⟨es, clock, by rw [hb]; exact h1, h2⟩, h3⟩
theorem Bytes.at_ {w w' : World} {a : Option Addr} {zs : List Int} (hb : Bytes w a zs) (hq : ∀ x, a = some x → w'.heap[x.block]? = w.heap[x.block]?) : Bytes w' a zs := by
  refine ⟨hb.1, hb.2.1, ?_⟩
  by_cases h0 : zs = []
  · exact .inl h0
  rcases hb.2.2 with h | ⟨b, off, rfl, hc⟩
  · exact .inl h
  · refine .inr ⟨b, off, rfl, fun i hi => ?_⟩
    rw [← hc i hi]
    exact World.cell?_of_block (show w'.heap[b]? = w.heap[b]? from hq ⟨b, off, none⟩ rfl)
/-- The program's link's calls leave blocks of other types. -/
theorem K4.ty {w w' : World} {q : Qb} {L : Lk} {b : Nat} {cur : Array Value} {e : TypeId} (k : K4 q w w') (hL : Lm w B q L) (h : w.heap[b]? = some (.cells cur e (0, 0))) (h1 : e ≠ 68) (h2 : e ≠ 94) (h3 : e ≠ 91) : w'.heap[b]? = w.heap[b]? := by
  refine k.block b (Array.getElem?_eq_some_iff.1 h).1 (fun e1 => ?_) (fun e1 => ?_) (fun e1 => ?_) fun e1 => ?_
  · subst e1
    obtain ⟨cs, hb, _⟩ := hL.lk
    exact h1 (blk_five h hb)
  · subst e1
    exact h2 (blk_five h hL.sd.blk)
  · subst e1
    exact hL.sd.mp.no cur e h
  · subst e1
    obtain ⟨cs, hb⟩ := hL.rv.bk
    exact h3 (blk_five h hb)
theorem XM.k4 {w w' : World} {q : Qb} {L M : Lk} {lb B2 : Nat} (h : XM B2 w lb M) (k : K4 q w w') (hL : Lm w B q L) : XM B2 w' lb M := by
  obtain ⟨d, v, rv, v0, v1, G0, G1, b1, b2, b3, b4, b5, ⟨g, n, c, Lc, c1, c2, c3⟩, b7, b8, b9, b10⟩ := h
  refine ⟨d, v, rv, v0, v1, G0, G1, ?_, b2, ?_, b4, b5, ⟨g, n, c, Lc, c1, ?_, c3⟩, ?_, ?_, b9, b10⟩
  · exact (k.ty hL b1 (by decide) (by decide) (by decide)).trans b1
  · exact b3.keep fun b _ _ ⟨cur, e, he, h3⟩ => by
      rcases h3 with rfl | rfl <;> exact k.ty hL he (by decide) (by decide) (by decide)
  · exact c2.keep fun b cur e he h3 => by
      rcases h3 with ⟨rfl, _⟩ | rfl <;> exact k.ty hL he (by decide) (by decide) (by decide)
  · exact b7.keep fun b cur e _ he h3 => by
      rcases h3 with rfl | rfl <;> exact k.ty hL he (by decide) (by decide) (by decide)
  · exact b8.keep fun b cur e _ he h3 => by
      rcases h3 with rfl | rfl <;> exact k.ty hL he (by decide) (by decide) (by decide)
/-- The document's link's calls leave blocks of other types. -/
theorem KX.ty {w w' : World} {lb b : Nat} {cs cur : Array Value} {e : TypeId} (k : KX B lb w w') (hl : Blk w lb cs 37) (h : w.heap[b]? = some (.cells cur e (0, 0))) (h0 : e ≠ 37) (h1 : e ≠ 147) (h2 : e ≠ 86) (h3 : e ≠ 123) : w'.heap[b]? = w.heap[b]? := by
  refine k.block b (Array.getElem?_eq_some_iff.1 h).1 fun hc => ?_
  rcases hc with rfl | ⟨_, cs2, T, hc, ht⟩ | hc
  · exact h0 (blk_five h hl)
  · have := blk_five h hc
    subst this
    rcases ht with rfl | rfl | rfl
    · exact h1 rfl
    · exact h2 rfl
    · exact h3 rfl
  · have := (Array.getElem?_eq_some_iff.1 h).1
    omega
theorem Lm.kx {w w' : World} {q : Qb} {L : Lk} {lb B2 : Nat} {cs : Array Value} (h : Lm w B q L) (k : KX B2 lb w w') (hl : Blk w lb cs 37) : Lm w' B q L := by
  have h5 : ∀ b, (∃ cs, Blk w b cs 5) → w'.heap[b]? = w.heap[b]? := fun b ⟨cs, hb⟩ => k.ty hl hb (by decide) (by decide) (by decide) (by decide)
  have hm : w'.heap[q.mb]? = w.heap[q.mb]? := by
    refine k.block _ h.sd.mp.lt fun hc => ?_
    rcases hc with hc | ⟨_, cs2, T, hc, ht⟩ | hc
    · exact h.sd.mp.no cs 37 (by rw [hc]; exact hl)
    · exact h.sd.mp.no cs2 T hc
    · have := h.sd.mp.lt
      omega
  refine ⟨h.ok, ⟨h.sd.ok, h.sd.hs, h.sd.hm, ?_, h.sd.mp.at_ hm, fun z e he => ?_⟩, ?_, ?_, fun g hg => ?_, h.hl, h.hr⟩
  · exact (k.ty hl h.sd.blk (by decide) (by decide) (by decide) (by decide)).trans h.sd.blk
  · have hd := h.sd.ld z e he
    exact ⟨hd.by_.at_ fun x hx => h5 _ (hd.ty x hx), hd.nil, hd.le, hd.mx, fun x hx => ⟨(hd.at_ x hx).1, Nat.lt_of_lt_of_le (hd.at_ x hx).2.1 k.size, (hd.at_ x hx).2.2⟩, fun x hx => (hd.ty x hx).imp fun cs hc => (h5 _ ⟨cs, hc⟩).trans hc⟩
  · obtain ⟨h1, cs3, h2, h3⟩ := h.rv
    exact ⟨h1, cs3, (k.ty hl h2 (by decide) (by decide) (by decide) (by decide)).trans h2, h3⟩
  · obtain ⟨cs3, h2, h3⟩ := h.lk
    exact ⟨cs3, (k.ty hl h2 (by decide) (by decide) (by decide) (by decide)).trans h2, h3⟩
  · have hd := h.gr g hg
    exact ⟨hd.by_.at_ fun x hx => h5 _ (hd.at_ x hx).2, hd.len, hd.le, hd.mx, hd.nil, fun x hx => ⟨(hd.at_ x hx).1, (hd.at_ x hx).2.imp fun cs hc => (h5 _ ⟨cs, hc⟩).trans hc⟩⟩
theorem KX.below {a w w' : World} {lb : Nat} (k : KX B lb w w') (h : Below B a w) (hB : B ≤ w.heap.size) (hl : B ≤ lb) : Below B a w' :=
  ⟨k.os.trans h.os, k.tape.trans h.tape, k.output.trans h.output, Nat.le_trans h.size k.size, fun i hi => (k.block i (by omega) (by
    intro hc
    rcases hc with hc | ⟨hc, _⟩ | hc <;> omega)).trans (h.block i hi)⟩
theorem XM.blk {w : World} {lb : Nat} {L : Lk} (h : XM B w lb L) : (∃ cs, Blk w lb cs 37) ∧ B ≤ lb ∧ lb < w.heap.size := by
  obtain ⟨d, v, rv, v0, v1, G0, G1, h⟩ := h
  exact ⟨⟨_, h.blk⟩, h.hl, h.blk.lt⟩
/-- BOTH LINKS, and what always holds of them. -/
structure PL (w wr : World) (B : Nat) (q : Qb) (lb : Nat) (L : Lk) (win : Int) (k : Nat) : Prop where
  k : LkI w wr B q L win k
  x : XM B wr lb L
theorem PL.step {w wr w' : World} {q : Qb} {lb : Nat} {L : Lk} {win : Int} {k : Nat} (h : PL w wr B q lb L win k) (hb : Below wr.heap.size wr w') : PL w w' B q lb L win k :=
  ⟨h.k.step hb, h.x.kept hb⟩
theorem Lm.dop {w : World} {q : Qb} {L : Lk} (h : Lm w B q L) (k : DoK L) : DoP L :=
  ⟨h.p, k.ep, k.tk, fun g hg hs => by
    have h1 := k.gr g hg hs
    have h2 := (h.gr g hg).len
    omega⟩
/-- What the law compares, behind an act. -/
structure Both (w : World) (B : Nat) (q : Qb) (lb : Nat) (M : Lk) (win : Int) (k H : Nat) (NX TK : Int) (W0 W1 : Nat) : Prop where
  held : ∀ x, PL w x B q lb M win k → Calls Tryz.prog 14 #[.pointer (some ⟨q.lb, 0, none⟩)] x fun e w' => e = .returned (.int .i64 (H : Nat)) ∧ Hid (PL w w' B q lb M win k)
  sent : ∀ x, PL w x B q lb M win k → Calls Tryz.prog 12 #[.pointer (some ⟨q.lb, 0, none⟩)] x fun e w' => e = .returned (.int .i64 NX) ∧ Hid (PL w w' B q lb M win k)
  got : ∀ x, PL w x B q lb M win k → Calls Tryz.prog 13 #[.pointer (some ⟨q.lb, 0, none⟩)] x fun e w' => e = .returned (.int .i64 TK) ∧ Hid (PL w w' B q lb M win k)
  way0 : ∀ x, PL w x B q lb M win k → Calls Tryz.prog 10 #[.pointer (some ⟨q.lb, 0, none⟩), .int .i64 0] x fun e w' => e = .returned (.int .i64 (W0 : Nat)) ∧ Hid (PL w w' B q lb M win k)
  way1 : ∀ x, PL w x B q lb M win k → Calls Tryz.prog 10 #[.pointer (some ⟨q.lb, 0, none⟩), .int .i64 1] x fun e w' => e = .returned (.int .i64 (W1 : Nat)) ∧ Hid (PL w w' B q lb M win k)
  xheld : ∀ x, PL w x B q lb M win k → Calls Tryz.prog 15 #[.pointer (some ⟨lb, 7, none⟩)] x fun e w' => e = .returned (.int .i64 (H : Nat)) ∧ Hid (PL w w' B q lb M win k)
  xway0 : ∀ x, PL w x B q lb M win k → Calls Tryz.prog 11 #[.pointer (some ⟨lb, 0, none⟩), .int .i64 0] x fun e w' => e = .returned (.int .i64 (W0 : Nat)) ∧ Hid (PL w w' B q lb M win k)
  xway1 : ∀ x, PL w x B q lb M win k → Calls Tryz.prog 11 #[.pointer (some ⟨lb, 0, none⟩), .int .i64 1] x fun e w' => e = .returned (.int .i64 (W1 : Nat)) ∧ Hid (PL w w' B q lb M win k)
  xsent : ∀ x, PL w x B q lb M win k → x.cell? ⟨lb, 12, none⟩ = some (.int .i64 NX) ∧ x.cell? ⟨lb, 13, none⟩ = some (.int .i64 TK)
theorem both (w : World) (q : Qb) (lb : Nat) (M : Lk) (win : Int) (k : Nat) : Both w B q lb M win k (hld M.r) (M.s.nxt - 1) M.r.tk M.n0.length M.n1.length := by
  refine ⟨fun x h => ?_, fun x h => ?_, fun x h => ?_, fun x h => ?_, fun x h => ?_, fun x h => ?_, fun x h => ?_, fun x h => ?_, fun x h => ?_⟩
  · refine (kheld_any h.k.lm).mono ?_
    rintro e w' ⟨he, hb⟩
    exact ⟨he, h.step hb.out⟩
  · refine (sent_any h.k.lm).mono ?_
    rintro e w' ⟨he, rfl⟩
    exact ⟨he, h⟩
  · refine (got_any h.k.lm).mono ?_
    rintro e w' ⟨he, rfl⟩
    exact ⟨he, h⟩
  · refine (Go.Proofs.YtfipdldoklkciaaGreat.way0 h.k.lm).mono ?_
    rintro e w' ⟨he, hb⟩
    exact ⟨he, h.step hb.out⟩
  · refine (Go.Proofs.YtfipdldoklkciaaGreat.way1 h.k.lm).mono ?_
    rintro e w' ⟨he, hb⟩
    exact ⟨he, h.step hb.out⟩
  · obtain ⟨d, v, rv, v0, v1, G0, G1, hB⟩ := id h.x
    refine (hB.mheld h.k.lm.p).mono ?_
    rintro e w' ⟨he, rfl⟩
    exact ⟨he, h⟩
  · refine (XC.way0 (L := M) h.x).mono ?_
    rintro e w' ⟨he, rfl⟩
    exact ⟨he, h⟩
  · refine (XC.way1 (L := M) h.x).mono ?_
    rintro e w' ⟨he, rfl⟩
    exact ⟨he, h⟩
  · obtain ⟨d, v, rv, v0, v1, G0, G1, hB⟩ := h.x
    exact ⟨hB.cells.2.2.2.1, hB.cells.2.2.2.2⟩
/-- An act, done at the program's link. -/
theorem PL.did {w wr w' : World} {q : Qb} {lb : Nat} {L L' : Lk} {win : Int} {k : Nat} {x : Ac} {b : List Int} {ok : Bool} {e : Int} (h : PL w wr B q lb L win k) (hk : k ≤ 1000000000000000) (hu : x.by_.toNat < 4294967296) (hd : DoS L x L' b ok e) (hL : Lm w' B q L') (hK : K4 q wr w') : LkI w w' B q L' win (k + 1) ∧ XM B w' lb L := by
  obtain ⟨S, hS⟩ := h.k.inv
  exact ⟨⟨hL, hK.below h.k.bel h.k.lm.B_le h.k.lm, ⟨_, (inv_step h.k.lm.p hL.p hS hk hu hd).1⟩⟩, h.x.k4 hK h.k.lm⟩
/-- And at the document's, behind it. -/
theorem PL.both_did {w wr w' : World} {q : Qb} {lb : Nat} {L L' L2 : Lk} {win : Int} {k : Nat} {x : Ac} {b b2 : List Int} {ok ok2 : Bool} {e e2 : Int} (h : LkI w wr B q L' win k) (hX : XM B wr lb L) (hd : DoS L x L' b ok e) (hd2 : DoS L x L2 b2 ok2 e2) (hX2 : XM B w' lb L2) (hK : KX B lb wr w') : b = b2 ∧ ok = ok2 ∧ e = e2 ∧ PL w w' B q lb L' win k := by
  obtain ⟨h1, h2, h3, h4⟩ := dos_det hd2 hd
  obtain ⟨⟨cs, hb⟩, hl, hlt⟩ := hX.blk
  exact ⟨h1.symm, h2.symm, h3.symm, ⟨h.lm.kx hK hb, hK.below h.bel (Nat.le_trans hl (Nat.le_of_lt hlt)) hl, h.inv⟩, hX2.same h4⟩
theorem ownsB_bytes {w : World} {base n c : Nat} {a : Option Addr} {zs : List Int} (h : OwnsB w base (.slice a n c) zs) : Bytes w a zs ∧ zs.length = n := by
  obtain ⟨a', cap, e, _, _, h4, _⟩ := h.shape
  cases e
  exact ⟨h4, rfl⟩
/-- What the program's link answered, behind the document's call. -/
theorem ans_kx {w w' : World} {b n c lb : Nat} {a : Option Addr} {zs : List Int} {M : Lk} (h : Sl w b a n c zs) (hX : XM B w lb M) (k : KX B lb w w') : Bytes w' a zs := by
  obtain ⟨⟨cs, hl⟩, _, _⟩ := hX.blk
  refine h.by_.at_ fun x hx => ?_
  obtain ⟨cs5, fr, h5⟩ := h.ty x hx
  have ne : ∀ (q : Nat) (cs' : Array Value) (T : TypeId), w.heap[q]? = some (.cells cs5 5 fr) → Blk w q cs' T → T = 5 := fun q cs' T e1 e2 => by
    unfold Blk at e2
    rw [e1] at e2
    injection e2 with e2
    injection e2 with _ e3
    exact e3.symm
  refine k.block x.block (h.at_ x hx).2 fun hc => ?_
  rcases hc with hc | ⟨_, cs2, T, hc, ht⟩ | hc
  · rw [hc] at h5
    exact absurd (ne _ _ _ h5 hl) (by decide)
  · have := ne _ _ _ h5 hc
    subst this
    exact absurd ht (by decide)
  · have := (h.at_ x hx).2
    omega
end Go.Proofs.YtfipdldoklkciaaGreat
namespace Go.Proofs.YtfipdldoklkciaaGreat
open Go.RowKit
set_option linter.unusedVariables false
variable {B : Nat}
theorem xm_start {w : World} {lb g n : Nat} {tok : Int} (h : Blk w lb #[.int .u64 tok, .int .i64 0, .int .i64 1, .int .i64 (n : Int), .int .i64 1, .int .i64 (n : Int), .slice none 0 0, .int .i64 (n : Int), .int .i64 0, .slice (some ⟨g, 0, none⟩) n n, .slice none 0 0, .slice none 0 0, .int .i64 0, .int .i64 0] 37) (hl : B ≤ lb) (hO : OwnsC w B (.slice (some ⟨g, 0, none⟩) n n) (List.replicate n (false, .slice none 0 0, []))) (h1 : 1 ≤ n) (h2 : n ≤ 32) : XM B w lb (l0 tok n) := by
  refine ⟨⟨n, 1, n, []⟩, .slice none 0 0, .slice (some ⟨g, 0, none⟩) n n, .slice none 0 0, .slice none 0 0, [], [], h, hl, rowD_nil _ _, ?_, ?_, ?_, rowG_nil _ _, rowG_nil _ _, rfl, rfl⟩
  · exact ⟨by show (1 : Int) ≤ n; omega, by show (n : Int) ≤ 32; omega, by show (1 : Int) ≤ 1; omega, by show (0 : Int) ≤ n; omega, by show (1 : Int) + 0 - 1 ≤ n; omega, by show (n : Int) ≤ 4611686018427387904; omega, fun e he => by cases he⟩
  · exact ⟨rfl, rfl, rfl, rfl, fun i e hi => by simp at hi⟩
  · refine ⟨g, n, n, _, rfl, ⟨hO.low (Nat.zero_le _), fun q hq => ?_⟩, rfl, List.length_replicate, Nat.le_refl _, by omega, fun k p hk => ?_⟩
    · obtain ⟨⟨cs, h3, _⟩, _⟩ := hO
      exact (own_at h3 q hq).1
    · have := List.mem_of_getElem? hk
      have := (List.mem_replicate.1 this).2
      subst this
      exact ⟨rfl, fun h => by cases h⟩
set_option maxRecDepth 100000 in
set_option maxHeartbeats 4000000 in
theorem wplays (win tok : Int) (a : Option Addr) (len cap : Nat) (L : List Ac) (w : World) (hA : AcArg w a len cap L) (hr : len ≤ 2199023255552) (ht : 0 ≤ tok ∧ tok < 18446744073709551616) :
    Calls Tryz.prog 3 #[.int .i64 win, .int .u64 tok, .slice a len cap] w fun e w' => e = .returned (.bool true) ∧ Below w.heap.size w w' := by
  by_cases hw : 1 ≤ win ∧ win ≤ 32
  · obtain ⟨wn, hwn⟩ := Int.eq_ofNat_of_zero_le (show 0 ≤ win by omega)
    have hwin : Hid (1 ≤ win ∧ win ≤ 32 ∧ 0 ≤ tok ∧ tok < 18446744073709551616) := ⟨hw.1, hw.2, ht⟩
    have kx : Hid (∀ x, Calls Tryz.prog 5 #[.int .i64 win, .int .u64 tok] x fun e w' => ∃ g, e = .returned (.tuple #[.agg #[.int .u64 tok, .int .i64 0, .int .i64 1, .int .i64 win, .int .i64 1, .int .i64 win, .slice none 0 0, .int .i64 win, .int .i64 0, .slice (some ⟨g, 0, none⟩) wn wn, .slice none 0 0, .slice none 0 0, .int .i64 0, .int .i64 0], .int .i64 0]) ∧ Hid (OwnsC w' x.heap.size (.slice (some ⟨g, 0, none⟩) wn wn) (List.replicate wn (false, .slice none 0 0, []))) ∧ Hid (Below x.heap.size x w')) := fun x => by
      rw [hwn]
      exact xnew_yes wn tok x (by omega) (by omega)
    have hst : Hid (∀ x B lb g, B ≤ lb → Blk x lb #[.int .u64 tok, .int .i64 0, .int .i64 1, .int .i64 win, .int .i64 1, .int .i64 win, .slice none 0 0, .int .i64 win, .int .i64 0, .slice (some ⟨g, 0, none⟩) wn wn, .slice none 0 0, .slice none 0 0, .int .i64 0, .int .i64 0] 37 → OwnsC x B (.slice (some ⟨g, 0, none⟩) wn wn) (List.replicate wn (false, .slice none 0 0, [])) → XM B x lb (l0 tok win)) := fun x B lb g h1 h2 h3 => by
      rw [hwn] at h2 ⊢
      exact xm_start h2 h1 h3 (by omega) (by omega)
    obtain ⟨hlen, hlc, hcm, hnil, hAc⟩ := hA
    have hAc' : Hid (Acs w a L) := hAc
    have hlen' : Hid (L.length = len) := hlen
    have hr' : Hid (len ≤ 2199023255552) := hr
    clear hAc hlen hw hr ht hwn
    go_enter Tryz.func3, Tryz.ntmps3
    go_wp2_with fail
    refine (knew_yes win tok w hwin.out.1 hwin.out.2.1 hwin.out.2.2.1 hwin.out.2.2.2).mono ?_
    rintro e w1 ⟨q, rfl, hL1, hB1⟩
    generalize hrb : w.heap.size = B at *
    have hN : Hid (w.heap.size = B) := hrb
    clear hrb
    have hI1 : Hid (LkI w w1 B q (l0 tok win) win 0) := ⟨hL1.out, hB1.out, [], inv_start tok win⟩
    have hBl : Hid (B ≤ w1.heap.size) := hL1.out.B_le
    clear hL1 hB1
    go_wp2_with fail
    refine (kx.out w1).mono ?_
    rintro e w2 ⟨g, rfl, hO2, hb2⟩
    have hI2 : Hid (LkI w (w2.alloc (.cells #[.int .u64 tok, .int .i64 0, .int .i64 1, .int .i64 win, .int .i64 1, .int .i64 win, .slice none 0 0, .int .i64 win, .int .i64 0, .slice (some ⟨g, 0, none⟩) wn wn, .slice none 0 0, .slice none 0 0, .int .i64 0, .int .i64 0] 37)) B q (l0 tok win) win 0) := (hI1.out.step hb2.out).step ((Below.refl _ _).alloc (Nat.le_refl _) _)
    have hX2 : Hid (XM B (w2.alloc (.cells #[.int .u64 tok, .int .i64 0, .int .i64 1, .int .i64 win, .int .i64 1, .int .i64 win, .slice none 0 0, .int .i64 win, .int .i64 0, .slice (some ⟨g, 0, none⟩) wn wn, .slice none 0 0, .slice none 0 0, .int .i64 0, .int .i64 0] 37)) w2.heap.size (l0 tok win)) := hst.out _ B _ g (Nat.le_trans hBl.out hb2.out.size) (blk_new w2 _ _) ((hO2.out.low hBl.out).kept ((Below.refl _ _).alloc (Nat.le_refl _) _))
    generalize hlb : w2.heap.size = lb at *
    clear hO2 hb2 hI1 hBl kx hst
    go_wp2_with (go_at_call 6; refine (alive_any _).mono ?_; rintro e w3 ⟨rfl, hb3⟩)
    have hP3 : Hid (PL w w3 B q lb (l0 tok win) win 0) := PL.step ⟨hI2.out, hX2.out⟩ hb3.out
    clear hI2 hX2 hb3 hlb
    generalize l0 tok win = L0 at *
    go_loopw [49] (fun s49 wr => ∃ (i : Nat) (M : Lk), i ≤ len ∧ s49 = .int .i64 (i : Nat) ∧ Hid (PL w wr B q lb M win i)) (fun i _ => len - (intOf i).toNat)
    case atStart => exact ⟨0, L0, Nat.zero_le _, rfl, hP3⟩
    case round =>
      obtain ⟨i, M, hi, rfl, hI⟩ := hrel
      clear hP3
      by_cases hlt : i < len
      · have hd : decide ((i : Int) < (len : Int)) = true := by simp; omega
        obtain ⟨x, hx⟩ : ∃ x, L[i]? = some x := ⟨L[i]'(by rw [hlen'.out]; exact hlt), List.getElem?_eq_getElem _⟩
        have hBw : Below w.heap.size w wr := by rw [hN.out]; exact hI.out.k.bel
        obtain ⟨b0, off0, hb0, -, -, hV0⟩ := acs_at hAc'.out hx
        obtain ⟨b, off, rfl, hbl, hc, hV⟩ := acs_at (hAc'.out.kept hBw) hx
        have hVw : Hid (AcW w x) := hV0
        have d0 : wr.cell? ⟨b, off + i * 6, none⟩ = some (.int .i64 x.kind) := hc 0 (by decide)
        have d1 : wr.cell? ⟨b, off + i * 6 + 1, none⟩ = some (.int .i64 x.net) := hc 1 (by decide)
        have d2 : wr.cell? ⟨b, off + i * 6 + 2, none⟩ = some (.int .i64 x.i) := hc 2 (by decide)
        have d3 : wr.cell? ⟨b, off + i * 6 + 3, none⟩ = some (.int .i64 x.at_) := hc 3 (by decide)
        have d4 : wr.cell? ⟨b, off + i * 6 + 4, none⟩ = some (.int .u32 x.by_) := hc 4 (by decide)
        have d5 : wr.cell? ⟨b, off + i * 6 + 5, none⟩ = some (.slice x.a x.n x.c) := hc 5 (by decide)
        have hal : Hid (Below wr.heap.size wr (wr.alloc (.cells #[.int .i64 x.kind, .int .i64 x.net, .int .i64 x.i, .int .i64 x.at_, .int .u32 x.by_, .slice x.a x.n x.c] 44))) := (Below.refl _ _).alloc (Nat.le_refl _) _
        have hIA : Hid (PL w (wr.alloc (.cells #[.int .i64 x.kind, .int .i64 x.net, .int .i64 x.i, .int .i64 x.at_, .int .u32 x.by_, .slice x.a x.n x.c] 44)) B q lb M win i) := hI.out.step hal.out
        have hbx : Hid (Blk (wr.alloc (.cells #[.int .i64 x.kind, .int .i64 x.net, .int .i64 x.i, .int .i64 x.at_, .int .u32 x.by_, .slice x.a x.n x.c] 44)) wr.heap.size #[.int .i64 x.kind, .int .i64 x.net, .int .i64 x.i, .int .i64 x.at_, .int .u32 x.by_, .slice x.a x.n x.c] 44) := blk_new wr _ _
        obtain ⟨S, hS⟩ := hIA.out.k.inv
        have hkk : i ≤ 1000000000000000 := by have := hr'.out; omega
        have hkk' : Hid (i ≤ 1000000000000000) := hkk
        have hV' : AcW (wr.alloc (.cells #[.int .i64 x.kind, .int .i64 x.net, .int .i64 x.i, .int .i64 x.at_, .int .u32 x.by_, .slice x.a x.n x.c] 44)) x := hV.kept hal.out
        have hu : Hid (x.by_.toNat < 4294967296) := by have := hV.u32; show _ < _; omega
        have hdk := hIA.out.k.lm.dok hS hkk
        have hdp : Hid (DoP M) := hIA.out.k.lm.dop hdk
        have k := does_any x hIA.out.k.lm hV' hdk
        unfold Ac.val at k
        clear hc hV hV0 hb0 hx hBw hbl hS hV' hkk hI hal hdk
        go_wp2_with fail
        refine k.mono ?_
        rintro e w3 hR
        obtain ⟨M2, a9, n9, c9, b9, ok, k9, rfl, hd9, hL9, hS9, hK9⟩ := hR.out
        obtain ⟨hI3, hX3⟩ := hIA.out.did hkk'.out hu.out hd9 hL9 hK9
        have hb3 : Blk w3 wr.heap.size #[.int .i64 x.kind, .int .i64 x.net, .int .i64 x.i, .int .i64 x.at_, .int .u32 x.by_, .slice x.a x.n x.c] 44 := (hK9.ty hIA.out.k.lm hbx.out (by decide) (by decide) (by decide)).trans hbx.out
        have g0 := hb3.cell 0
        have g1 := hb3.cell 1
        have g2 := hb3.cell 2
        have g3 := hb3.cell 3
        have g4 := hb3.cell 4
        have g5 := hb3.cell 5
        have hV3 : AcW w3 x := hVw.out.kept (by rw [hN.out]; exact hI3.bel)
        have k := would_any x hX3 hV3 hdp.out
        unfold Ac.val at k
        have hI3' : Hid (LkI w w3 B q M2 win (i + 1)) := hI3
        have hX3' : Hid (XM B w3 lb M) := hX3
        have hd9' : Hid (DoS M x M2 b9 ok k9) := hd9
        have hS9' : Hid (Sl w3 (wr.alloc (.cells #[.int .i64 x.kind, .int .i64 x.net, .int .i64 x.i, .int .i64 x.at_, .int .u32 x.by_, .slice x.a x.n x.c] 44)).heap.size a9 n9 c9 b9) := hS9
        clear hR hd9 hL9 hS9 hK9 hI3 hX3 hV3 hb3 hIA hbx d0 d1 d2 d3 d4 d5 hdp hVw hkk' hu
        go_wp2_with fail
        refine k.mono ?_
        rintro e w4 hR
        obtain ⟨M3, a8, n8, c8, b8, ok8, k8, rfl, hd8, hX8, hO8, hK8⟩ := hR.out
        obtain ⟨rfl, rfl, rfl, hP4⟩ := PL.both_did hI3'.out hX3'.out hd9'.out hd8 hX8 hK8
        have s1 : Bytes w4 a9 b9 := ans_kx hS9'.out hX3'.out hK8
        have s2 := hS9'.out.len
        obtain ⟨s3, s4⟩ := ownsB_bytes hO8
        have ks : Hid (∀ y, Below w4.heap.size w4 y → Calls Tryz.prog 9 #[.slice a9 n9 c9, .slice a8 n8 c8] y fun e w' => e = .returned (.bool true) ∧ w' = y) := fun y hy => by
          have := same_any a9 a8 n9 n8 c9 c8 b9 b9 y (s1.kept hy) (s3.kept hy) s2 s4
          simpa using this
        have hB : Hid (Both w B q lb M2 win (i + 1) (hld M2.r) (M2.s.nxt - 1) M2.r.tk M2.n0.length M2.n1.length) := both w q lb M2 win (i + 1)
        clear k hR hI3' hX3' hd9' hS9' hd8 hX8 hO8 hK8 s1 s2 s3 s4 g0 g1 g2 g3 g4 g5
        generalize hld M2.r = H at *
        generalize M2.s.nxt - 1 = NX at *
        generalize M2.r.tk = TK at *
        generalize M2.n0.length = W0 at *
        generalize M2.n1.length = W1 at *
        have hP : Hid (PL w w4.drew B q lb M2 win (i + 1)) := hP4.step (Below.refl _ _).drew
        have hdr : Hid (Below w4.heap.size w4 w4.drew) := (Below.refl _ _).drew
        have hw0 : Hid (∀ x, PL w x B q lb M2 win (i + 1) → Calls Tryz.prog 10 #[.pointer (some ⟨q.lb, 0, none⟩), .int .i64 0] x fun e w' => e = .returned (.int .i64 (W0 : Nat)) ∧ Hid (PL w w' B q lb M2 win (i + 1))) := hB.out.way0
        have hx0 : Hid (∀ x, PL w x B q lb M2 win (i + 1) → Calls Tryz.prog 11 #[.pointer (some ⟨lb, 0, none⟩), .int .i64 0] x fun e w' => e = .returned (.int .i64 (W0 : Nat)) ∧ Hid (PL w w' B q lb M2 win (i + 1))) := hB.out.xway0
        have hw1 : Hid (∀ x, PL w x B q lb M2 win (i + 1) → Calls Tryz.prog 10 #[.pointer (some ⟨q.lb, 0, none⟩), .int .i64 1] x fun e w' => e = .returned (.int .i64 (W1 : Nat)) ∧ Hid (PL w w' B q lb M2 win (i + 1))) := hB.out.way1
        have hx1 : Hid (∀ x, PL w x B q lb M2 win (i + 1) → Calls Tryz.prog 11 #[.pointer (some ⟨lb, 0, none⟩), .int .i64 1] x fun e w' => e = .returned (.int .i64 (W1 : Nat)) ∧ Hid (PL w w' B q lb M2 win (i + 1))) := hB.out.xway1
        clear hP4
        go_wp2_with fail
        go_region_held3 (fun y => y.cell? ⟨lb, 12, none⟩ = some (.int .i64 NX) ∧ y.cell? ⟨lb, 13, none⟩ = some (.int .i64 TK)) (exact hB.out.xsent _ hP.out) (first
          | (go_at_call 9; refine (ks.out _ hdr.out).mono ?_; rintro e wn ⟨rfl, hwn⟩; obtain rfl := hwn.symm; clear hwn)
          | (go_at_call 10; refine (hw0.out _ hP.out).mono ?_; rintro e wn ⟨rfl, hbn⟩; clear hP hw0; have hP : Hid (PL w wn B q lb M2 win (i + 1)) := hbn; clear hbn)
          | (go_at_call 11; refine (hx0.out _ hP.out).mono ?_; rintro e wn ⟨rfl, hbn⟩; clear hP hx0; have hP : Hid (PL w wn B q lb M2 win (i + 1)) := hbn; clear hbn)
          | (go_at_call 10; refine (hw1.out _ hP.out).mono ?_; rintro e wn ⟨rfl, hbn⟩; clear hP hw1; have hP : Hid (PL w wn B q lb M2 win (i + 1)) := hbn; clear hbn)
          | (go_at_call 11; refine (hx1.out _ hP.out).mono ?_; rintro e wn ⟨rfl, hbn⟩; clear hP hx1; have hP : Hid (PL w wn B q lb M2 win (i + 1)) := hbn; clear hbn)
          | (go_at_call 12; refine (hB.out.sent _ hP.out).mono ?_; rintro e wn ⟨rfl, hbn⟩; clear hP; have hP : Hid (PL w wn B q lb M2 win (i + 1)) := hbn; clear hbn)
          | (go_at_call 13; refine (hB.out.got _ hP.out).mono ?_; rintro e wn ⟨rfl, hbn⟩; clear hP; have hP : Hid (PL w wn B q lb M2 win (i + 1)) := hbn; clear hbn)
          | (go_at_call 14; refine (hB.out.held _ hP.out).mono ?_; rintro e wn ⟨rfl, hbn⟩; clear hP; have hP : Hid (PL w wn B q lb M2 win (i + 1)) := hbn; clear hbn)
          | (go_at_call 15; refine (hB.out.xheld _ hP.out).mono ?_; rintro e wn ⟨rfl, hbn⟩; clear hP; have hP : Hid (PL w wn B q lb M2 win (i + 1)) := hbn; clear hbn))
        go_wp2_with fail
        exact ⟨⟨i + 1, M2, by omega, by simp, hP⟩, by simp [intOf]; omega⟩
      · have hd : decide ((i : Int) < (len : Int)) = false := by simp; omega
        go_wp2
        go_ret
        exact ⟨rfl, by rw [hN.out]; exact hI.out.k.bel⟩
  · have hno : win < 1 ∨ 32 < win := by omega
    clear hA hw
    go_enter Tryz.func3, Tryz.ntmps3
    go_wp2_with fail
    refine (knew_no win tok w hno).mono ?_
    rintro e w1 ⟨rfl, hw1⟩
    obtain rfl := hw1.symm
    go_wp2_with fail
    refine (xnew_no win tok w hno).mono ?_
    rintro e w2 ⟨rfl, hb2⟩
    go_wp2_with (go_at_call 6; refine (alive_any _).mono ?_; rintro e w3 ⟨rfl, hb3⟩; have hb4 : Hid (Below w.heap.size w w3) := (Below.al hb2.out _).trans (hb3.out.mono (Below.al hb2.out _).size))
    go_ret
    exact ⟨rfl, hb4.out⟩
end Go.Proofs.YtfipdldoklkciaaGreat
