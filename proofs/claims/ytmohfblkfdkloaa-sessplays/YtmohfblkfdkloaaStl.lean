/-
  The two tables side by side: each has its own blocks, and some blocks are neither's.
-/
import Derived.Test.YtmohfblkfdkloaaSti
import Derived.Test.YtmohfblkfdkloaaSsm
import Derived.Test.YtmohfblkfdkloaaSsp
namespace Go.Proofs.Ytmohfblkfdkloaa
open Go.RowKit
set_option linter.unusedVariables false
structure PB (w0 : World) (B : Nat) (F : Nat → Prop) (tb mb rb k : Nat) (wr : World) (T R : Tb) (C E : Nat → Prop) (v x u : Value) (us : List Int) : Prop where
  tab : Tab wr C tb mb v T
  rtab : RTab wr E rb x u R us
  okt : Ok k T
  okr : Ok k R
  dis : ∀ q, q < wr.heap.size → C q → ¬ E q
  cn : ∀ q, wr.heap.size ≤ q → C q
  en : ∀ q, wr.heap.size ≤ q → E q
  fo : ∀ q, F q → q < wr.heap.size ∧ ¬ C q ∧ ¬ E q
  cl : ∀ q, C q → B ≤ q
  el : ∀ q, E q → B ≤ q
  bel : Below B w0 wr
  le : B ≤ wr.heap.size
def PA (w0 : World) (B : Nat) (F : Nat → Prop) (tb mb rb k : Nat) (wr : World) (T R : Tb) : Prop := ∃ C E v x u us, PB w0 B F tb mb rb k wr T R C E v x u us
/-- What is neither's is kept. -/
def KF (F : Nat → Prop) (w w' : World) : Prop := ∀ q, F q → w'.heap[q]? = w.heap[q]?
theorem Blk.kf {F : Nat → Prop} {w w' : World} {g : Nat} {cs : Array Value} {T : TypeId} (h : Blk w g cs T) (k : KF F w w') (hg : F g) : Blk w' g cs T := (k g hg).trans h
theorem OwnsW.kf {F : Nat → Prop} {w w' : World} {b : Nat} {v : Value} {L : List Int} (h : OwnsW w b v L) (k : KF F w w') (hg : ∀ g, v.ownBlock = some g → F g) : OwnsW w' b v L :=
  ownsRow_keep h fun b _ _ h1 _ => k b (hg b h1)
section
variable {w0 : World} {B : Nat} {F : Nat → Prop} {tb mb rb k : Nat} {wr : World} {T R : Tb}
theorem PA.weak {G : Nat → Prop} (h : PA w0 B F tb mb rb k wr T R) (hg : ∀ q, G q → F q) : PA w0 B G tb mb rb k wr T R := by
  obtain ⟨C, E, v, x, u, us, h⟩ := h
  exact ⟨C, E, v, x, u, us, h.tab, h.rtab, h.okt, h.okr, h.dis, h.cn, h.en, fun q hq => h.fo q (hg q hq), h.cl, h.el, h.bel, h.le⟩
theorem PA.more {k' : Nat} (h : PA w0 B F tb mb rb k wr T R) (hk : k ≤ k') : PA w0 B F tb mb rb k' wr T R := by
  obtain ⟨C, E, v, x, u, us, h⟩ := h
  exact ⟨C, E, v, x, u, us, h.tab, h.rtab, h.okt.mono hk, h.okr.mono hk, h.dis, h.cn, h.en, h.fo, h.cl, h.el, h.bel, h.le⟩
theorem PA.off {w' : World} (h : PA w0 B F tb mb rb k wr T R) (hb : Below wr.heap.size wr w') : PA w0 B (fun q => F q ∨ (wr.heap.size ≤ q ∧ q < w'.heap.size)) tb mb rb k w' T R := by
  obtain ⟨C, E, v, x, u, us, h⟩ := h
  have hs := hb.size
  refine ⟨fun q => C q ∧ (q < wr.heap.size ∨ w'.heap.size ≤ q), fun q => E q ∧ (q < wr.heap.size ∨ w'.heap.size ≤ q), v, x, u, us, (h.tab.to fun q hq hc => ⟨hc, .inl hq⟩).kept hb, (h.rtab.to fun q hq hc => ⟨hc, .inl hq⟩).kept hb, h.okt, h.okr, fun q hq hc he => ?_, fun q hq => ⟨h.cn q (Nat.le_trans hs hq), .inr hq⟩, fun q hq => ⟨h.en q (Nat.le_trans hs hq), .inr hq⟩, fun q hq => ?_, fun q hq => h.cl q hq.1, fun q hq => h.el q hq.1, h.bel.trans (hb.mono h.le), Nat.le_trans h.le hs⟩
  · rcases hc.2 with h1 | h1
    · exact h.dis q h1 hc.1 he.1
    · omega
  · rcases hq with hq | ⟨h1, h2⟩
    · have := h.fo q hq
      exact ⟨Nat.lt_of_lt_of_le this.1 hs, fun c => this.2.1 c.1, fun c => this.2.2 c.1⟩
    · exact ⟨h2, fun c => by have := c.2; omega, fun c => by have := c.2; omega⟩
theorem PA.step {w' : World} (h : PA w0 B F tb mb rb k wr T R) (hb : Below wr.heap.size wr w') : PA w0 B F tb mb rb k w' T R := (h.off hb).weak fun q hq => .inl hq
/-- A new box: it is neither's. -/
theorem PA.box (h : PA w0 B F tb mb rb k wr T R) (o : Obj) : PA w0 B (fun q => F q ∨ q = wr.heap.size) tb mb rb k (wr.alloc o) T R :=
  (h.off ((Below.refl _ _).alloc (Nat.le_refl _) o)).weak fun q hq => hq.elim .inl fun e => .inr ⟨by omega, by simp; omega⟩
theorem PA.lt {q : Nat} (h : PA w0 B F tb mb rb k wr T R) (hq : F q) : q < wr.heap.size := by
  obtain ⟨C, E, v, x, u, us, h⟩ := h
  exact (h.fo q hq).1
theorem PA.bel (h : PA w0 B F tb mb rb k wr T R) : Below B w0 wr := by
  obtain ⟨C, E, v, x, u, us, h⟩ := h
  exact h.bel
theorem PB.tturn {C E : Nat → Prop} {v x u : Value} {us : List Int} {w' : World} {T' : Tb} {v' : Value} {k' : Nat} (h : PB w0 B F tb mb rb k wr T R C E v x u us) (Z : Nat → Prop) (hT : Tab w' (fun q => C q ∧ ¬ Z q) tb mb v' T') (hZ : ∀ q, Z q → wr.heap.size ≤ q ∧ q < w'.heap.size) (hO : Ok k' T') (hk : k ≤ k') (hK : KS C wr w') : PA w0 B (fun q => F q ∨ Z q) tb mb rb k' w' T' R ∧ KF F wr w' := by
  have hs := hK.size
  refine ⟨⟨fun q => C q ∧ ¬ Z q, fun q => E q ∧ (q < wr.heap.size ∨ w'.heap.size ≤ q), v', x, u, us, hT, ?_, hO, h.okr.mono hk, fun q hq hc he => ?_, fun q hq => ⟨h.cn q (Nat.le_trans hs hq), fun z => by have := hZ q z; omega⟩, fun q hq => ⟨h.en q (Nat.le_trans hs hq), .inr hq⟩, fun q hq => ?_, fun q hq => h.cl q hq.1, fun q hq => h.el q hq.1, hK.below h.bel h.le h.cl, Nat.le_trans h.le hs⟩, fun q hq => hK.block q (h.fo q hq).1 (h.fo q hq).2.1⟩
  · exact (h.rtab.to (D := fun q => E q ∧ (q < wr.heap.size ∨ w'.heap.size ≤ q)) fun q hq he => ⟨he, .inl hq⟩).keep fun q hq he => hK.block q hq fun hc => h.dis q hq hc he.1
  · rcases he.2 with h1 | h1
    · exact h.dis q h1 hc.1 he.1
    · omega
  · rcases hq with hq | hq
    · have := h.fo q hq
      exact ⟨Nat.lt_of_lt_of_le this.1 hs, fun c => this.2.1 c.1, fun c => this.2.2 c.1⟩
    · have := hZ q hq
      exact ⟨this.2, fun c => c.2 hq, fun c => by have := c.2; omega⟩
theorem PB.rturn {C E : Nat → Prop} {v x u : Value} {us : List Int} {w' : World} {R' : Tb} {x' u' : Value} {us' : List Int} {k' : Nat} (h : PB w0 B F tb mb rb k wr T R C E v x u us) (Z : Nat → Prop) (hR : RTab w' (fun q => E q ∧ ¬ Z q) rb x' u' R' us') (hZ : ∀ q, Z q → wr.heap.size ≤ q ∧ q < w'.heap.size) (hO : Ok k' R') (hk : k ≤ k') (hK : KS E wr w') : PA w0 B (fun q => F q ∨ Z q) tb mb rb k' w' T R' ∧ KF F wr w' := by
  have hs := hK.size
  refine ⟨⟨fun q => C q ∧ (q < wr.heap.size ∨ w'.heap.size ≤ q), fun q => E q ∧ ¬ Z q, v, x', u', us', ?_, hR, h.okt.mono hk, hO, fun q hq hc he => ?_, fun q hq => ⟨h.cn q (Nat.le_trans hs hq), .inr hq⟩, fun q hq => ⟨h.en q (Nat.le_trans hs hq), fun z => by have := hZ q z; omega⟩, fun q hq => ?_, fun q hq => h.cl q hq.1, fun q hq => h.el q hq.1, hK.below h.bel h.le h.el, Nat.le_trans h.le hs⟩, fun q hq => hK.block q (h.fo q hq).1 (h.fo q hq).2.2⟩
  · exact (h.tab.to (D := fun q => C q ∧ (q < wr.heap.size ∨ w'.heap.size ≤ q)) fun q hq he => ⟨he, .inl hq⟩).keep fun q hq hc => hK.block q hq fun he => h.dis q hq hc.1 he
  · rcases hc.2 with h1 | h1
    · exact h.dis q h1 hc.1 he.1
    · omega
  · rcases hq with hq | hq
    · have := h.fo q hq
      exact ⟨Nat.lt_of_lt_of_le this.1 hs, fun c => this.2.1 c.1, fun c => this.2.2 c.1⟩
    · have := hZ q hq
      exact ⟨this.2, fun c => by have := c.2; omega, fun c => c.2 hq⟩
theorem Tab.noZ {w : World} {C : Nat → Prop} {v : Value} (h : Tab w C tb mb v T) : Tab w (fun q => C q ∧ ¬ False) tb mb v T := h.to fun q _ hc => ⟨hc, fun f => f⟩
theorem RTab.noZ {w : World} {E : Nat → Prop} {v u : Value} {us : List Int} (h : RTab w E rb v u R us) : RTab w (fun q => E q ∧ ¬ False) rb v u R us := h.to fun q _ hc => ⟨hc, fun f => f⟩
theorem PB.tt {C E : Nat → Prop} {v x u : Value} {us : List Int} {w' : World} {T' : Tb} {v' : Value} {k' : Nat} (h : PB w0 B F tb mb rb k wr T R C E v x u us) (hT : Tab w' C tb mb v' T') (hO : Ok k' T') (hk : k ≤ k') (hK : KS C wr w') : Hid (PA w0 B F tb mb rb k' w' T' R) ∧ Hid (KF F wr w') := by
  have := h.tturn (fun _ => False) hT.noZ (fun _ f => f.elim) hO hk hK
  exact ⟨this.1.weak fun q hq => .inl hq, this.2⟩
theorem PB.rr {C E : Nat → Prop} {v x u : Value} {us : List Int} {w' : World} {R' : Tb} {x' u' : Value} {us' : List Int} {k' : Nat} (h : PB w0 B F tb mb rb k wr T R C E v x u us) (hR : RTab w' E rb x' u' R' us') (hO : Ok k' R') (hk : k ≤ k') (hK : KS E wr w') : Hid (PA w0 B F tb mb rb k' w' T R') ∧ Hid (KF F wr w') := by
  have := h.rturn (fun _ => False) hR.noZ (fun _ f => f.elim) hO hk hK
  exact ⟨this.1.weak fun q hq => .inl hq, this.2⟩
theorem PA.hello_as {k0 t0 e0 s0 a0 b0 c0 f0 E0 : Int} (m : Mg) (d now : Int) (h : PA w0 B F tb mb rb k wr T R) (hk : k ≤ 5000000000000) (hd : 0 ≤ d ∧ d < 18446744073709551616) (hM : helM (goA T now) m d = ⟨k0, t0, e0, s0, a0, b0, c0, f0, none, 0, 0⟩) (hE : greE (goA T now) m d = E0) :
    Calls Try.prog 12 #[.pointer (some ⟨tb, 0, none⟩), m.val, .int .u64 d, .int .i64 now] wr fun e w' => e = .returned (.tuple #[.agg #[.int .i64 k0, .int .u64 t0, .int .i64 e0, .int .i64 s0, .int .i64 a0, .int .u64 b0, .int .i64 c0, .int .i64 f0, .slice none 0 0], .int .i64 E0]) ∧ Hid (PA w0 B F tb mb rb (k + 1) w' (greA (goA T now) m d) R) ∧ Hid (KF F wr w') := by
  obtain ⟨C, E, v, x, u, us, h⟩ := h
  refine (hello_any m d now h.tab h.okt (by omega) h.cn hd).mono ?_
  rintro e w' ⟨rfl, v2, hT, hK⟩
  rw [hM, hE]
  exact ⟨rfl, h.tt hT.out (gre_ok (go_ok h.okt now) hd) (by omega) hK.out⟩
theorem PA.xhello_as {k0 t0 e0 s0 a0 b0 c0 f0 E0 : Int} (m : Mg) (d now : Int) (h : PA w0 B F tb mb rb k wr T R) (hk : k ≤ 5000000000000) (hd : 0 ≤ d ∧ d < 18446744073709551616) (hM : helM (goA R now) m d = ⟨k0, t0, e0, s0, a0, b0, c0, f0, none, 0, 0⟩) (hE : greE (goA R now) m d = E0) :
    Calls Try.prog 13 #[.pointer (some ⟨rb, 0, none⟩), m.val, .int .u64 d, .int .i64 now] wr fun e w' => e = .returned (.tuple #[.agg #[.int .i64 k0, .int .u64 t0, .int .i64 e0, .int .i64 s0, .int .i64 a0, .int .u64 b0, .int .i64 c0, .int .i64 f0, .slice none 0 0], .int .i64 E0]) ∧ Hid (PA w0 B F tb mb rb (k + 1) w' T (greA (goA R now) m d)) ∧ Hid (KF F wr w') := by
  obtain ⟨C, E, v, x, u, us, h⟩ := h
  refine (xhello_any m d now h.rtab h.okr hk h.en).mono ?_
  rintro e w' ⟨rfl, v2, u2, us2, hT, hK⟩
  rw [hM, hE]
  exact ⟨rfl, h.rr hT.out (gre_ok (go_ok h.okr now) hd) (by omega) hK.out⟩
theorem PA.hear {E0 : Int} (m : Mg) (now : Int) (h : PA w0 B F tb mb rb k wr T R) (hE : heaE (goA T now) m = E0) :
    Calls Try.prog 15 #[.pointer (some ⟨tb, 0, none⟩), m.val, .int .i64 now] wr fun e w' => e = .returned (.int .i64 E0) ∧ Hid (PA w0 B F tb mb rb k w' (heaA (goA T now) m) R) ∧ Hid (KF F wr w') := by
  obtain ⟨C, E, v, x, u, us, h⟩ := h
  refine (hear_any m now h.tab h.okt h.cn).mono ?_
  rintro e w' ⟨rfl, v2, hT, hK⟩
  rw [hE]
  exact ⟨rfl, h.tt hT.out (hea_ok (go_ok h.okt now) m) (Nat.le_refl _) hK.out⟩
theorem PA.xhear {E0 : Int} (m : Mg) (now : Int) (h : PA w0 B F tb mb rb k wr T R) (hE : heaE (goA R now) m = E0) :
    Calls Try.prog 16 #[.pointer (some ⟨rb, 0, none⟩), m.val, .int .i64 now] wr fun e w' => e = .returned (.int .i64 E0) ∧ Hid (PA w0 B F tb mb rb k w' T (heaA (goA R now) m)) ∧ Hid (KF F wr w') := by
  obtain ⟨C, E, v, x, u, us, h⟩ := h
  refine (xhear_any m now h.rtab h.okr h.en).mono ?_
  rintro e w' ⟨rfl, v2, hT, hK⟩
  rw [hE]
  exact ⟨rfl, h.rr hT.out (hea_ok (go_ok h.okr now) m) (Nat.le_refl _) hK.out⟩
theorem PA.close {E0 : Int} (t now : Int) (h : PA w0 B F tb mb rb k wr T R) (hE : cloE (goA T now) t = E0) :
    Calls Try.prog 17 #[.pointer (some ⟨tb, 0, none⟩), .int .u64 t, .int .i64 now] wr fun e w' => e = .returned (.int .i64 E0) ∧ Hid (PA w0 B F tb mb rb k w' (remA (goA T now) t) R) ∧ Hid (KF F wr w') := by
  obtain ⟨C, E, v, x, u, us, h⟩ := h
  refine (close_any t now h.tab h.okt h.cn).mono ?_
  rintro e w' ⟨rfl, v2, hT, hK⟩
  rw [hE]
  exact ⟨rfl, h.tt hT.out (rem_ok (go_ok h.okt now) t) (Nat.le_refl _) hK.out⟩
theorem PA.xclose {E0 : Int} (t now : Int) (h : PA w0 B F tb mb rb k wr T R) (hE : cloE (goA R now) t = E0) :
    Calls Try.prog 18 #[.pointer (some ⟨rb, 0, none⟩), .int .u64 t, .int .i64 now] wr fun e w' => e = .returned (.int .i64 E0) ∧ Hid (PA w0 B F tb mb rb k w' T (remA (goA R now) t)) ∧ Hid (KF F wr w') := by
  obtain ⟨C, E, v, x, u, us, h⟩ := h
  refine (xclose_any t now h.rtab h.okr h.en).mono ?_
  rintro e w' ⟨rfl, v2, hT, hK⟩
  rw [hE]
  exact ⟨rfl, h.rr hT.out (rem_ok (go_ok h.okr now) t) (Nat.le_refl _) (hK.out.mono fun q _ e => by rw [e]; exact h.rtab.er)⟩
theorem PA.tick (now : Int) (h : PA w0 B F tb mb rb k wr T R) :
    Calls Try.prog 20 #[.pointer (some ⟨tb, 0, none⟩), .int .i64 now] wr fun e w' => ∃ v1, e = .returned v1 ∧ Hid (OwnsW w' 0 v1 (endA T now)) ∧ Hid (PA w0 B (fun q => F q ∨ v1.ownBlock = some q) tb mb rb k w' (goA T now) R) ∧ Hid (KF F wr w') := by
  obtain ⟨C, E, v, x, u, us, h⟩ := h
  refine (tick_any now h.tab h.okt h.cn).mono ?_
  rintro e w' ⟨v1, rfl, hW, v2, hT, hK⟩
  have hz := ownsRow_lt hW.out
  have hT' : Tab w' (fun q => C q ∧ ¬ v1.ownBlock = some q) tb mb v2 (goA T now) := by
    refine ⟨hT.out.blk, hT.out.row, fun g hg => ⟨hT.out.own g hg, fun e => ?_⟩, ⟨hT.out.ct, fun e => ?_⟩, ⟨hT.out.cm, fun e => ?_⟩, hT.out.mp⟩
    · obtain ⟨-, -, cur, hc⟩ := hz g e
      obtain ⟨-, -, cur2, hc2⟩ := ownsRow_lt hT.out.row g hg
      rw [hc] at hc2
      injection hc2 with hc2
      injection hc2 with _ hc2
      exact absurd hc2 (by decide)
    · obtain ⟨-, -, cur, hc⟩ := hz tb e
      have hc2 := hT.out.blk
      unfold Blk at hc2
      rw [hc] at hc2
      injection hc2 with hc2
      injection hc2 with _ hc2
      exact absurd hc2 (by decide)
    · obtain ⟨-, -, cur, hc⟩ := hz mb e
      exact hT.out.mp.ne hc rfl
  obtain ⟨h1, h2⟩ := h.tturn _ hT' (fun q hq => ⟨(hz q hq).1, (hz q hq).2.1⟩) (go_ok h.okt now) (Nat.le_refl _) hK.out
  exact ⟨v1, rfl, ownsRow_base hW.out (Nat.zero_le _), h1, h2⟩
theorem PA.xtick (now : Int) (h : PA w0 B F tb mb rb k wr T R) :
    Calls Try.prog 21 #[.pointer (some ⟨rb, 0, none⟩), .int .i64 now] wr fun e w' => ∃ v1, e = .returned v1 ∧ Hid (OwnsW w' 0 v1 (endA R now)) ∧ Hid (PA w0 B (fun q => F q ∨ v1.ownBlock = some q) tb mb rb k w' T (goA R now)) ∧ Hid (KF F wr w') := by
  obtain ⟨C, E, v, x, u, us, h⟩ := h
  refine (xtick_any now h.rtab h.okr h.en).mono ?_
  rintro e w' ⟨v1, v2, rfl, hW, hT, hK⟩
  have hz := ownsRow_lt hW.out
  have hT' : RTab w' (fun q => E q ∧ ¬ v1.ownBlock = some q) rb v2 u (goA R now) us := by
    refine ⟨hT.out.blk, hT.out.row, hT.out.urow, fun g hg => ⟨hT.out.ov g hg, fun e => ?_⟩, fun g hg => ⟨hT.out.ou g hg, fun e => ?_⟩, ⟨hT.out.er, fun e => ?_⟩, hT.out.mem, hT.out.cnt⟩
    · obtain ⟨-, -, cur, hc⟩ := hz g e
      obtain ⟨-, -, cur2, hc2⟩ := ownsRow_lt hT.out.row g hg
      rw [hc] at hc2
      injection hc2 with hc2
      injection hc2 with _ hc2
      exact absurd hc2 (by decide)
    · have h1 := (hz g e).1
      have h2 := (ownsRow_lt h.rtab.urow g hg).2.1
      omega
    · have h1 := (hz rb e).1
      have h2 := h.rtab.blk.lt
      omega
  obtain ⟨h1, h2⟩ := h.rturn _ hT' (fun q hq => ⟨(hz q hq).1, (hz q hq).2.1⟩) (go_ok h.okr now) (Nat.le_refl _) (hK.out.mono fun q _ e => by rw [e]; exact h.rtab.er)
  exact ⟨v1, rfl, ownsRow_base hW.out (Nat.zero_le _), h1, h2⟩
theorem PA.find {f1 f2 : Int} {f3 : Bool} (t : Int) (h : PA w0 B F tb mb rb k wr T R) (hf : findA T.L t = (f1, f2, f3)) :
    Calls Try.prog 22 #[.pointer (some ⟨tb, 0, none⟩), .int .u64 t] wr fun e w' => e = .returned (.tuple #[.int .i64 f1, .int .i64 f2, .bool f3]) ∧ Hid (PA w0 B F tb mb rb k w' T R) ∧ Hid (Below wr.heap.size wr w') := by
  have hh := h
  obtain ⟨C, E, v, x, u, us, h⟩ := h
  refine (find_any t h.tab).mono ?_
  rintro e w' ⟨rfl, hb⟩
  rw [hf]
  exact ⟨rfl, hh.step hb, hb⟩
theorem PA.xfind {f1 f2 : Int} {f3 : Bool} (t : Int) (h : PA w0 B F tb mb rb k wr T R) (hf : findA R.L t = (f1, f2, f3)) :
    Calls Try.prog 23 #[.pointer (some ⟨rb, 0, none⟩), .int .u64 t] wr fun e w' => e = .returned (.tuple #[.int .i64 f1, .int .i64 f2, .bool f3]) ∧ Hid (PA w0 B F tb mb rb k w' T R) ∧ Hid (Below wr.heap.size wr w') := by
  have hh := h
  obtain ⟨C, E, v, x, u, us, h⟩ := h
  refine (xfind_any t h.rtab (by have := h.okr.few; have := h.okr.m2; omega)).mono ?_
  rintro e w' ⟨rfl, hb⟩
  rw [hf]
  exact ⟨rfl, hh.step hb, hb⟩
theorem PA.live (h : PA w0 B F tb mb rb k wr T R) : Calls Try.prog 24 #[.pointer (some ⟨tb, 0, none⟩)] wr fun e w' => e = .returned (.int .i64 (T.L.length : Nat)) ∧ w' = wr := by
  obtain ⟨C, E, v, x, u, us, h⟩ := h
  exact live_any h.tab
theorem PA.rlen (h : PA w0 B F tb mb rb k wr T R) : ∃ a c, wr.cell? ⟨rb, 3, none⟩ = some (.slice a R.L.length c) := by
  obtain ⟨C, E, v, x, u, us, h⟩ := h
  obtain ⟨a, c, rfl, -⟩ := h.rtab.form
  exact ⟨a, c, h.rtab.c3⟩
/-- The words of both Ticks are alike. -/
theorem PA.alike (now : Int) {w : World} (v1 v2 : Value) (hO : Ok k T) (h1 : OwnsW w 0 v1 (endA T now)) (h2 : OwnsW w 0 v2 (endA T now)) :
    Calls Try.prog 19 #[v1, v2] w fun e w' => e = .returned (.bool true) ∧ Below w.heap.size w w' := by
  obtain ⟨a1, c1, rfl, g1, -, -⟩ := ownsRow_form h1
  obtain ⟨a2, c2, rfl, g2, -, -⟩ := ownsRow_form h2
  refine words_any a1 a2 _ c1 c2 0 0 _ w h1 h2 rfl ?_ g1 g2
  have := hO.few
  have := hO.m2
  have h3 : (endA T now).length ≤ T.L.length := by
    unfold endA wordsA
    rw [List.length_map]
    exact List.length_filter_le _ _
  omega
end
theorem pa_new {w0 w1 w2 : World} {B tb mb : Nat} (most idle : Int) (h1 : 1 ≤ most) (h2 : most ≤ 64) (h3 : 1 ≤ idle) (h4 : idle ≤ 1048576) (hT : TA w0 B (fun q => B ≤ q) tb mb 0 w1 (t0 most idle)) (hb : Below w1.heap.size w1 w2) :
    PA w0 B (fun _ => False) tb mb w2.heap.size 0 (w2.alloc (.cells #[.int .i64 most, .int .i64 idle, .int .i64 0, .slice none 0 0, .slice none 0 0] 30)) (t0 most idle) (t0 most idle) := by
  obtain ⟨v, hv⟩ := hT.tab
  have hs := hb.size
  have hle := hT.le
  have hbb : Below w1.heap.size w1 (w2.alloc (.cells #[.int .i64 most, .int .i64 idle, .int .i64 0, .slice none 0 0, .slice none 0 0] 30)) := hb.alloc hs _
  refine ⟨fun q => B ≤ q ∧ q ≠ w2.heap.size, fun q => w2.heap.size ≤ q, v, .slice none 0 0, .slice none 0 0, [], ⟨?_, ?_, hT.ok, new_ok h1 h2 h3 h4, fun q hq hc he => ?_, fun q hq => ?_, fun q hq => ?_, fun q hq => hq.elim, fun q hq => hq.1, fun q hq => ?_, hT.bel.trans (hbb.mono hle), Nat.le_trans hle hbb.size⟩⟩
  · exact (hv.to fun q hq hc => ⟨hc, by omega⟩).kept hbb
  · exact ⟨blk_new w2 _ _, ownsX_nil _ _, ownsW_nil _ _, (fun g hg => by cases hg), (fun g hg => by cases hg), Nat.le_refl _, (fun z => by simp [t0]), rfl⟩
  · simp at hq
    have := hc.2
    omega
  · simp at hq
    exact ⟨by omega, by omega⟩
  · simp at hq
    omega
  · show B ≤ q
    have : w2.heap.size ≤ q := hq
    omega
theorem hel_form (T : Tb) (m : Mg) (d : Int) : ∃ k0 t0 e0 s0 a0 b0 c0 f0, helM T m d = ⟨k0, t0, e0, s0, a0, b0, c0, f0, none, 0, 0⟩ := by
  unfold helM
  split
  · exact ⟨_, _, _, _, _, _, _, _, rfl⟩
  · exact ⟨_, _, _, _, _, _, _, _, rfl⟩
theorem find_form (L : List Se) (t : Int) : ∃ f1 f2 f3, findA L t = (f1, f2, f3) := ⟨_, _, _, rfl⟩
end Go.Proofs.Ytmohfblkfdkloaa
