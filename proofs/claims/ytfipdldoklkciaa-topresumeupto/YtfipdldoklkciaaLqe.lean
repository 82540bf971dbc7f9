/-
  A fair round.
-/
import Derived.Test.YtfipdldoklkciaaLqc
import Derived.Test.YtfipdldoklkciaaLqd
namespace Go.Proofs.Ytfipdldoklkciaa
open Go.RowKit
set_option linter.unusedVariables false
theorem inv_low {L : Lk} {win : Int} {S : List (List Int)} {k : Nat} (h : Inv L win S (k + 1)) (h1 : L.ep ≤ (k : Int) + 1) (h2 : S.length ≤ k) : Inv L win S k :=
  ⟨h.sw, h.rw, h.nx, h.lm, h.sl, h.rl, h.tk, h.n0, h.n1, h1, h2⟩
theorem Wt.turn {w0 w w' : World} {B : Nat} {q : Qb} {g : Nat} {L L' : Lk} {win : Int} {S : List (List Int)} {k : Nat} (h : Wt w0 w B q g L win S k) (hL : Lm w' B q L') (hK : K4 q w w') (hI : Inv L' win S k) (ht : L'.r.tk = L.r.tk) : Wt w0 w' B q g L' win S k := by
  obtain ⟨v, hb, ho⟩ := h.wb
  exact ⟨hL, hK.below h.bel h.lm.B_le h.lm, hI, ⟨v, by rw [ht]; exact hb.k4 hK h.lm (by decide) (by decide) (by decide), ho.k4 hK h.lm⟩, h.hg⟩
/-- A link that is watched, within a fair round: at this time, T being when all is over. -/
structure Fw (w0 w : World) (B : Nat) (q : Qb) (g : Nat) (L : Lk) (win : Int) (S : List (List Int)) (k : Nat) (N : Int) : Prop where
  wt : Wt w0 w B q g L win S k
  lv : Lv L
  nw : L.now = N
theorem Fw.kept {w0 w w' : World} {B : Nat} {q : Qb} {g : Nat} {L : Lk} {win : Int} {S : List (List Int)} {k : Nat} {N : Int} (h : Fw w0 w B q g L win S k N) (hb : Below w.heap.size w w') : Fw w0 w' B q g L win S k N := ⟨h.wt.kept hb, h.lv, h.nw⟩
theorem Fw.c0 {w0 w : World} {B : Nat} {q : Qb} {g : Nat} {L : Lk} {win : Int} {S : List (List Int)} {k : Nat} {N : Int} (h : Fw w0 w B q g L win S k N) : w.cell? ⟨g, 0, none⟩ = some (.pointer (some ⟨q.lb, 0, none⟩)) := by
  obtain ⟨v, hb, _⟩ := h.wt.wb
  exact hb.cell 0
/-- Before a fair round: the first, or a later one. -/
def Bef (L : Lk) (T : Int) : Prop := (Wait L T ∧ L.n0 = [] ∧ L.n1 = []) ∨ T = L.now + 65
theorem f1_tick {w0 w : World} {B : Nat} {q : Qb} {g : Nat} {L : Lk} {win : Int} {S : List (List Int)} {k : Nat} {N T : Int} (h : Fw w0 w B q g L win S k N) (hB : Bef L T) (hk : k ≤ 2199023255552) (hN : N < 1099511627776) :
    Calls Try.prog 27 #[.pointer (some ⟨q.lb, 0, none⟩)] w fun e w' => e = .returned (.tuple #[]) ∧ Hid (∃ L', Fw w0 w' B q g L' win S k (N + 1) ∧ Pend L' T) := by
  have hI := h.wt.inv
  have hep := hI.ep
  have hct := hI.ct
  have htk := hI.tk
  have hn := h.nw
  refine (tick_any h.wt.lm (by omega) (by omega)).mono ?_
  rintro e w' ⟨rfl, hT, hK⟩
  obtain ⟨gs, g', e1, e2, e3, hL⟩ := hT.out.2 (by omega)
  have ht : TickS L { tk1 L with n0 := gs.foldl putG L.n0, n1 := putG L.n1 g' } := ⟨fun k => by omega, fun _ => ⟨gs, g', e1, e2, e3, rfl⟩⟩
  obtain ⟨i1, i2⟩ := inv_tick h.wt.lm.p hI (by omega) ht
  have lv' := lv_tick h.wt.lm.p hI (by omega) h.lv ht
  have hw := h.wt.turn hL hK.out (inv_low i1 hep hct) i2
  refine ⟨rfl, _, ⟨hw, lv', by show L.now + 1 = N + 1; rw [hn]⟩, ?_⟩
  rcases hB with ⟨b1, b2, b3⟩ | b1
  · exact (tick_next h.wt.lm.p hI (by omega) h.lv b1 b2 (by omega) ht).1
  · have h2 := (tick_first h.wt.lm.p h.lv (by omega) ht).1
    rw [← b1] at h2
    exact fun z e he hno => .inl (h2 z e he hno)
theorem f1_way0 {w0 w : World} {B : Nat} {q : Qb} {g : Nat} {L : Lk} {win : Int} {S : List (List Int)} {k : Nat} {N : Int} (h : Fw w0 w B q g L win S k N) :
    Calls Try.prog 22 #[.pointer (some ⟨q.lb, 0, none⟩), .int .i64 0] w fun e w' => e = .returned (.int .i64 (L.n0.length : Nat)) ∧ Hid (Fw w0 w' B q g L win S k N) := by
  refine (way0 h.wt.lm).mono ?_
  rintro e w' ⟨rfl, hb⟩
  exact ⟨rfl, h.kept hb.out⟩
theorem f1_way1 {w0 w : World} {B : Nat} {q : Qb} {g : Nat} {L : Lk} {win : Int} {S : List (List Int)} {k : Nat} {N : Int} (h : Fw w0 w B q g L win S k N) :
    Calls Try.prog 22 #[.pointer (some ⟨q.lb, 0, none⟩), .int .i64 1] w fun e w' => e = .returned (.int .i64 (L.n1.length : Nat)) ∧ Hid (Fw w0 w' B q g L win S k N) := by
  refine (way1 h.wt.lm).mono ?_
  rintro e w' ⟨rfl, hb⟩
  exact ⟨rfl, h.kept hb.out⟩
theorem f1_del0 {w0 w : World} {B : Nat} {q : Qb} {g : Nat} {L : Lk} {win : Int} {S : List (List Int)} {k : Nat} {N T : Int} {m : Nat} (h : Fw w0 w B q g L win S k N) (hP : Pend L T) (hm : L.n0.length = m + 1) :
    Calls Try.prog 28 #[.pointer (some ⟨q.lb, 0, none⟩), .int .i64 0, .int .i64 0] w fun e w' => (∃ E : Int, e = .returned (.int .i64 E)) ∧ Hid (∃ L', Fw w0 w' B q g L' win S k N ∧ Pend L' T ∧ L'.n0.length = m) := by
  obtain ⟨x, G, h0⟩ : ∃ x G, L.n0 = x :: G := by
    cases hx : L.n0 with
    | nil => rw [hx] at hm; simp at hm
    | cons x G => exact ⟨x, G, rfl⟩
  have hI := h.wt.inv
  obtain ⟨a1, a2, a3, a4, a5, a6⟩ := pend_del h.wt.lm.p hI hP h0
  obtain ⟨i1, i2⟩ := inv_del h.wt.lm.p hI 0 0
  refine (del_any 0 0 h.wt.lm).mono ?_
  rintro e w' ⟨rfl, hL, hK⟩
  refine ⟨⟨_, rfl⟩, _, ⟨h.wt.turn hL.out hK.out (inv_low i1 (by rw [a5]; exact hI.ep) hI.ct) i2, lv_del h.lv 0 0, by rw [a4]; exact h.nw⟩, a1, ?_⟩
  rw [a2]
  rw [h0] at hm
  simpa using hm
theorem f1_del1 {w0 w : World} {B : Nat} {q : Qb} {g : Nat} {L : Lk} {win : Int} {S : List (List Int)} {k : Nat} {N T : Int} {m : Nat} (h : Fw w0 w B q g L win S k N) (hP : Wait L T) (h00 : L.n0 = []) (hm : L.n1.length = m + 1) :
    Calls Try.prog 28 #[.pointer (some ⟨q.lb, 0, none⟩), .int .i64 1, .int .i64 0] w fun e w' => (∃ E : Int, e = .returned (.int .i64 E)) ∧ Hid (∃ L', Fw w0 w' B q g L' win S k N ∧ Wait L' T ∧ L'.n0 = [] ∧ L'.n1.length = m) := by
  obtain ⟨x, G, h0⟩ : ∃ x G, L.n1 = x :: G := by
    cases hx : L.n1 with
    | nil => rw [hx] at hm; simp at hm
    | cons x G => exact ⟨x, G, rfl⟩
  have hI := h.wt.inv
  obtain ⟨a1, a2, a3, a4, a5, a6, a7⟩ := wait_del h.wt.lm.p hP h0
  obtain ⟨i1, i2⟩ := inv_del h.wt.lm.p hI 1 0
  refine (del_any 1 0 h.wt.lm).mono ?_
  rintro e w' ⟨rfl, hL, hK⟩
  refine ⟨⟨_, rfl⟩, _, ⟨h.wt.turn hL.out hK.out (inv_low i1 (by rw [a5]; exact hI.ep) hI.ct) i2, lv_del h.lv 1 0, by rw [a4]; exact h.nw⟩, a1, by rw [a3]; exact h00, ?_⟩
  rw [a2]
  rw [h0] at hm
  simpa using hm
/-- A load polled by who watches. -/
def pollX : Ac := ⟨1, 0, 0, 0, 0, none, 0, 0, []⟩
/-- What is left to be polled, behind j of 33. -/
structure Po (L : Lk) (T : Int) (j : Nat) : Prop where
  wt : Wait L T
  n0 : L.n0 = []
  n1 : L.n1 = []
  rem : T ≤ L.now → L.s.nxt - 1 ≤ L.r.tk + ((32 - j : Nat) : Int)
theorem po_start {L : Lk} {win T : Int} {S : List (List Int)} {k : Nat} (p : Lp L) (hI : Inv L win S k) (h1 : Wait L T) (h2 : L.n0 = []) (h3 : L.n1 = []) : Po L T 0 := by
  refine ⟨h1, h2, h3, fun _ => ?_⟩
  have := p.so.l1
  have := hI.lm
  have := hI.rw
  have := p.ro.w2
  show L.s.nxt - 1 ≤ L.r.tk + 32
  omega
theorem f1_poll {w0 w : World} {B : Nat} {q : Qb} {g : Nat} {L : Lk} {win : Int} {S : List (List Int)} {k : Nat} {N T : Int} {j : Nat} (h : Fw w0 w B q g L win S k N) (hP : Po L T j) (hk : k ≤ 2199023255552) :
    Calls Try.prog 19 #[.pointer (some ⟨g, 0, none⟩), .agg #[.int .i64 1, .int .i64 0, .int .i64 0, .int .i64 0, .int .u32 0, .slice none 0 0]] w fun e w' => e = .returned (.bool true) ∧ Hid (∃ L', Fw w0 w' B q g L' win S k N ∧ Po L' T (j + 1)) := by
  have hI := h.wt.inv
  have hW : AcW w pollX := ⟨⟨by simp [pollX], by simp [pollX], .inl rfl⟩, rfl, Nat.le_refl _, by decide, fun _ => rfl, by decide, by decide⟩
  refine (wstep2 pollX h.wt hW ⟨by simp [pollX], by simp [pollX], .inl rfl⟩ (fun y hy => by cases hy) hk).mono ?_
  rintro e w' ⟨rfl, hE⟩
  obtain ⟨L', b, ok, E, hd, hw⟩ := hE.out
  refine ⟨rfl, ?_⟩
  have hS : nxS S pollX E = S := nxS_no (by decide)
  rw [hS] at hw
  cases hd with
  | poll _ =>
    refine ⟨_, ⟨⟨hw.lm, hw.bel, inv_low hw.inv hI.ep hI.ct, hw.wb, hw.hg⟩, lv_take h.lv, h.nw⟩, wait_take hP.wt, hP.n0, hP.n1, fun hT => ?_⟩
    have ha := all_had h.wt.lm.p h.lv hP.wt hT
    have := take_rem h.wt.lm.p ha (hP.rem hT)
    show L.s.nxt - 1 ≤ (takeS L.r).tk + ((32 - (j + 1) : Nat) : Int)
    rw [show 32 - (j + 1) = 32 - j - 1 by omega]
    exact this
  | send h _ => exact absurd h (by decide)
  | tick h _ => exact absurd h (by decide)
  | del h => exact absurd h (by decide)
  | drop h => exact absurd h (by decide)
  | twice h => exact absurd h (by decide)
  | turn h _ => exact absurd h (by decide)
  | forge h _ => exact absurd h (by decide)
  | again h => exact absurd h (by decide)
  | none h => exact absurd h (by decide)
/-- How far a round is. -/
def Stg (L : Lk) (T : Int) : Nat → Prop
  | 0 => Pend L T
  | 1 => Wait L T ∧ L.n0 = []
  | _ => Wait L T ∧ L.n0 = [] ∧ L.n1 = []
set_option maxRecDepth 100000 in
set_option maxHeartbeats 4000000 in
theorem fair_any {w0 w : World} {B : Nat} {q : Qb} {g : Nat} {L : Lk} {win : Int} {S : List (List Int)} {k : Nat} {N T : Int} (h : Fw w0 w B q g L win S k N) (hB : Bef L T) (hk : k ≤ 2199023255552) (hN : N < 1099511627776) :
    Calls Try.prog 23 #[.pointer (some ⟨g, 0, none⟩)] w fun e w' => e = .returned (.bool true) ∧ Hid (∃ L', Fw w0 w' B q g L' win S k (N + 1) ∧ Po L' T 33) := by
  have kT := f1_tick h hB hk hN
  have c0 := h.c0
  have hk' : Hid (k ≤ 2199023255552) := hk
  clear h hB hk hN
  generalize hM : N + 1 = M at *
  clear hM
  go_enter Try.func23, Try.ntmps23
  go_wp2_with (go_at_call 27; refine kT.mono ?_; rintro e w1 ⟨rfl, hT⟩; clear kT c0)
  have hA0 : Hid (∃ L, Fw w0 w1 B q g L win S k M ∧ Stg L T 0) := by
    obtain ⟨L', a, b⟩ := hT.out
    exact ⟨L', a, b⟩
  clear hT
  go_loopw [10] (fun s10 wr => ∃ i : Nat, i ≤ 2 ∧ s10 = .int .i64 (i : Nat) ∧ Hid (∃ L, Fw w0 wr B q g L win S k M ∧ Stg L T i)) (fun i _ => 2 - (intOf i).toNat)
  case atStart => exact ⟨0, by omega, rfl, hA0⟩
  case round =>
    obtain ⟨i, hi, rfl, hA⟩ := hrel
    clear hA0
    rcases (show i = 0 ∨ i = 1 ∨ i = 2 by omega) with rfl | rfl | rfl
    · obtain ⟨L, hF, hP⟩ := hA.out
      have kW := f1_way0 hF
      have c0 := hF.c0
      have hP' : Hid (Pend L T) := hP
      have hl : L.n0.length ≤ 256 := hF.wt.lm.p.f0
      generalize hnn : L.n0.length = nn at *
      have hnn' : Hid (L.n0.length = nn) := hnn
      clear hF hP hA hnn
      go_wp2_with (go_at_call 22; refine kW.mono ?_; rintro e w2 ⟨rfl, hF2⟩; clear kW c0)
      go_loopw [4] (fun s4 wx => ∃ n : Nat, n ≤ 256 ∧ s4 = .int .i64 (n : Nat) ∧ Hid (∃ L, Fw w0 wx B q g L win S k M ∧ Pend L T ∧ L.n0.length = n)) (fun n _ => (intOf n).toNat)
      case atStart => exact ⟨nn, hl, rfl, L, hF2.out, hP'.out, hnn'.out⟩
      case round =>
        obtain ⟨n, hn, rfl, hC⟩ := hrel
        clear hF2 hP' hnn'
        match n, hn with
        | m + 1, hn =>
          have hd3 : decide ((((m + 1 : Nat) : Nat) : Int) > 0) = true := by rw [decide_eq_true_iff]; omega
          obtain ⟨L, hF, hP, hm⟩ := hC.out
          have kD := f1_del0 hF hP hm
          have c0 := hF.c0
          have e1 : IntKind.i64.wrap ((((m + 1 : Nat) : Nat) : Int) - 1) = ((m : Nat) : Int) := by rw [IntKind.wrap_i64]; omega
          clear hF hP hm hC
          go_wp2_with (go_at_call 28; refine kD.mono ?_; rintro e w3 ⟨⟨E, rfl⟩, hI3⟩; clear kD c0)
          exact ⟨⟨m, by omega, rfl, hI3⟩, by first | (simp [intOf]; done) | (simp [intOf]; omega)⟩
        | 0, hn =>
          obtain ⟨L, hF, hP, hm⟩ := hC.out
          have h0 : L.n0 = [] := List.eq_nil_of_length_eq_zero hm
          have hA1 : Hid (∃ L, Fw w0 wr B q g L win S k M ∧ Stg L T 1) := ⟨L, hF, hP.wait h0, h0⟩
          clear hF hP hm h0 hC
          go_wp2_with fail
          exact ⟨⟨1, by omega, rfl, hA1⟩, by simp [intOf]⟩
    · obtain ⟨L, hF, hP, h0⟩ := hA.out
      have kW := f1_way1 hF
      have c0 := hF.c0
      have hP' : Hid (Wait L T ∧ L.n0 = []) := ⟨hP, h0⟩
      have hl : L.n1.length ≤ 256 := hF.wt.lm.p.f1
      generalize hnn : L.n1.length = nn at *
      have hnn' : Hid (L.n1.length = nn) := hnn
      clear hF hP h0 hA hnn
      go_wp2_with (go_at_call 22; refine kW.mono ?_; rintro e w2 ⟨rfl, hF2⟩; clear kW c0)
      go_loopw [4] (fun s4 wx => ∃ n : Nat, n ≤ 256 ∧ s4 = .int .i64 (n : Nat) ∧ Hid (∃ L, Fw w0 wx B q g L win S k M ∧ Wait L T ∧ L.n0 = [] ∧ L.n1.length = n)) (fun n _ => (intOf n).toNat)
      case atStart => exact ⟨nn, hl, rfl, L, hF2.out, hP'.out.1, hP'.out.2, hnn'.out⟩
      case round =>
        obtain ⟨n, hn, rfl, hC⟩ := hrel
        clear hF2 hP' hnn'
        match n, hn with
        | m + 1, hn =>
          have hd3 : decide ((((m + 1 : Nat) : Nat) : Int) > 0) = true := by rw [decide_eq_true_iff]; omega
          obtain ⟨L, hF, hP, h0, hm⟩ := hC.out
          have kD := f1_del1 hF hP h0 hm
          have c0 := hF.c0
          have e1 : IntKind.i64.wrap ((((m + 1 : Nat) : Nat) : Int) - 1) = ((m : Nat) : Int) := by rw [IntKind.wrap_i64]; omega
          clear hF hP hm h0 hC
          go_wp2_with (go_at_call 28; refine kD.mono ?_; rintro e w3 ⟨⟨E, rfl⟩, hI3⟩; clear kD c0)
          exact ⟨⟨m, by omega, rfl, hI3⟩, by first | (simp [intOf]; done) | (simp [intOf]; omega)⟩
        | 0, hn =>
          obtain ⟨L, hF, hP, h0, hm⟩ := hC.out
          have h1 : L.n1 = [] := List.eq_nil_of_length_eq_zero hm
          have hA1 : Hid (∃ L, Fw w0 wr B q g L win S k M ∧ Stg L T 2) := ⟨L, hF, hP, h0, h1⟩
          clear hF hP hm h0 h1 hC
          go_wp2_with fail
          exact ⟨⟨2, by omega, rfl, hA1⟩, by simp [intOf]⟩
    · obtain ⟨L, hF, hP, h0, h1⟩ := hA.out
      have hQ : Hid (∃ L, Fw w0 wr B q g L win S k M ∧ Po L T 0) := ⟨L, hF, po_start hF.wt.lm.p hF.wt.inv hP h0 h1⟩
      clear hF hP h0 h1 hA
      go_wp2_with fail
      go_loopw [30] (fun s30 wx => ∃ j : Nat, j ≤ 33 ∧ s30 = .int .i64 (j : Nat) ∧ Hid (∃ L, Fw w0 wx B q g L win S k M ∧ Po L T j)) (fun j _ => 33 - (intOf j).toNat)
      case atStart => exact ⟨0, by omega, rfl, hQ⟩
      case round =>
        obtain ⟨j, hj, rfl, hC⟩ := hrel
        clear hQ
        obtain ⟨L, hF, hP⟩ := hC.out
        by_cases hlt : j < 33
        · have hd3 : decide ((j : Int) < 33) = true := by simp; omega
          have kP := f1_poll hF hP hk'.out
          clear hF hP hC
          go_wp2_with (go_at_call 19; refine kP.mono ?_; rintro e w3 ⟨rfl, hI3⟩; clear kP)
          exact ⟨⟨_, _, _, _, _, _, _, _, ⟨j + 1, by omega, by simp, hI3⟩, rfl⟩, by simp [intOf]; omega⟩
        · have hd3 : decide ((j : Int) < 33) = false := by simp; omega
          obtain rfl : j = 33 := by omega
          have hR : Hid (∃ L', Fw w0 wr B q g L' win S k M ∧ Po L' T 33) := ⟨L, hF, hP⟩
          clear hF hP hC
          go_wp2
          go_ret
          exact ⟨rfl, hR⟩
end Go.Proofs.Ytfipdldoklkciaa
