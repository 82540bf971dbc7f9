/-
  A link whose loads are in a slice; what the breaks do.
-/
import Derived.Test.YtfipdldoklkciaaLqf
import Derived.Test.YtfipdldoklkciaaLlm
namespace Go.Proofs.Ytfipdldoklkciaa
open Go.RowKit
set_option linter.unusedVariables false
/-- A link of window 5, the loads taken in v; at the time N. -/
structure Fz (w0 w : World) (B : Nat) (q : Qb) (v : Value) (L : Lk) (S : List (List Int)) (k : Nat) (N : Int) : Prop where
  lm : Lm w B q L
  bel : Below B w0 w
  inv : Inv L 5 S k
  ow : OwnsO w B v S
  lv : Lv L
  nw : L.now = N
theorem Fz.kept {w0 w w' : World} {B : Nat} {q : Qb} {v : Value} {L : Lk} {S : List (List Int)} {k : Nat} {N : Int} (h : Fz w0 w B q v L S k N) (hb : Below w.heap.size w w') : Fz w0 w' B q v L S k N :=
  ⟨h.lm.kept hb, h.bel.trans (hb.mono h.lm.B_le), h.inv, h.ow.kept hb h.lm.B_le, h.lv, h.nw⟩
theorem Fz.turn {w0 w w' : World} {B : Nat} {q : Qb} {v : Value} {L L' : Lk} {S : List (List Int)} {k k' : Nat} {N N' : Int} (h : Fz w0 w B q v L S k N) (hL : Lm w' B q L') (hK : K4 q w w') (hI : Inv L' 5 S k') (hl : Lv L') (hn : L'.now = N') : Fz w0 w' B q v L' S k' N' :=
  ⟨hL, hK.below h.bel h.lm.B_le h.lm, hI, h.ow.k4 hK h.lm, hl, hn⟩
/-- .. behind k acts. -/
def Rs (w0 w : World) (B : Nat) (q : Qb) (v : Value) (k : Nat) : Prop := ∃ L S N, N ≤ (k : Int) ∧ L.r.tk = 0 ∧ Fz w0 w B q v L S k N
theorem Rs.kept {w0 w w' : World} {B : Nat} {q : Qb} {v : Value} {k : Nat} (h : Rs w0 w B q v k) (hb : Below w.heap.size w w') : Rs w0 w' B q v k := by
  obtain ⟨L, S, N, h1, h0, h2⟩ := h
  exact ⟨L, S, N, h1, h0, h2.kept hb⟩
theorem Rs.up {w0 w : World} {B : Nat} {q : Qb} {v : Value} {k : Nat} (h : Rs w0 w B q v k) : Rs w0 w B q v (k + 1) := by
  obtain ⟨L, S, N, h1, h0, h2⟩ := h
  exact ⟨L, S, N, by omega, h0, h2.lm, h2.bel, h2.inv.up, h2.ow, h2.lv, h2.nw⟩
theorem Rs.ups {w0 w : World} {B : Nat} {q : Qb} {v : Value} {k : Nat} (h : Rs w0 w B q v k) (m : Nat) : Rs w0 w B q v (k + m) := by
  induction m with
  | zero => exact h
  | succ m ih => exact ih.up
theorem Rs.len {w0 w : World} {B : Nat} {q : Qb} {v : Value} {k : Nat} (h : Rs w0 w B q v k) : ∃ a n c, v = .slice a n c := by
  obtain ⟨L, S, N, h1, h0, h2⟩ := h
  obtain ⟨a, n, c, e, _⟩ := h2.ow.form
  exact ⟨a, n, c, e⟩
/-- What an act without a load does. -/
theorem Fz.act {w0 w w' : World} {B : Nat} {q : Qb} {v : Value} {L L' : Lk} {S : List (List Int)} {k : Nat} {N : Int} (h : Fz w0 w B q v L S k N) (hN : N ≤ (k : Int)) (hk : k ≤ 2199023255552) {x : Ac} {b : List Int} {ok : Bool} {E : Int} (hx : x.kind ≠ 0) (hx1 : x.kind ≠ 1) (ht : L.r.tk = 0) (hy : x.by_ = 0) (d : DoS L x L' b ok E) (hL : Lm w' B q L') (hK : K4 q w w') : Rs w0 w' B q v (k + 1) := by
  obtain ⟨i1, i2⟩ := inv_step h.lm.p hL.p h.inv (by omega) (by rw [hy]; decide) d
  rw [nxS_no hx] at i1
  have h1 := dos_now d
  have h2 := h.nw
  have h3 : L'.r.tk = 0 := by
    rcases i2 with ⟨z, _⟩ | ⟨_, z⟩
    · exact absurd z hx1
    · rw [z]; exact ht
  exact ⟨L', S, L'.now, by omega, h3, h.turn hL hK i1 (lv_step h.lm.p h.inv h.lv (by omega) (by rw [hy]; decide) d) rfl⟩
def actX (k n : Int) : Ac := ⟨k, n, 0, 0, 0, none, 0, 0, []⟩
theorem s_tick {w0 w : World} {B : Nat} {q : Qb} {v : Value} {k : Nat} (h : Rs w0 w B q v k) (hk : k ≤ 2199023255552) :
    Calls Try.prog 27 #[.pointer (some ⟨q.lb, 0, none⟩)] w fun e w' => e = .returned (.tuple #[]) ∧ Hid (Rs w0 w' B q v (k + 1)) := by
  obtain ⟨L, S, N, hN, h0, h⟩ := h
  have h1 := h.inv.ep
  have h2 := h.inv.tk
  have h3 := h.inv.ct
  refine (tick_any h.lm (by omega) (by omega)).mono ?_
  rintro e w' ⟨rfl, hT, hK⟩
  refine ⟨rfl, ?_⟩
  by_cases hE : 1099511627776 ≤ L.now
  · exact h.act hN hk (x := actX 2 0) (by decide) (by decide) h0 rfl (.tick rfl ⟨fun _ => rfl, fun z => by omega⟩) (hT.out.1 hE) hK.out
  · obtain ⟨gs, g, e1, e2, e3, hL⟩ := hT.out.2 (by omega)
    exact h.act hN hk (x := actX 2 0) (by decide) (by decide) h0 rfl (.tick rfl ⟨fun z => absurd z hE, fun _ => ⟨gs, g, e1, e2, e3, rfl⟩⟩) hL hK.out
theorem s_rec {w0 w : World} {B : Nat} {q : Qb} {v : Value} {k : Nat} (h : Rs w0 w B q v k) (hk : k ≤ 2199023255552) :
    Calls Try.prog 34 #[.pointer (some ⟨q.lb, 0, none⟩)] w fun e w' => e = .returned (.tuple #[]) ∧ Hid (Rs w0 w' B q v (k + 1)) := by
  obtain ⟨L, S, N, hN, h0, h⟩ := h
  have h1 := h.inv.ep
  refine (rec_any h.lm (by omega)).mono ?_
  rintro e w' ⟨rfl, hL, hK⟩
  exact ⟨rfl, h.act hN hk (x := actX 8 0) (by decide) (by decide) h0 rfl (.again rfl) hL.out hK.out⟩
theorem s_drop {w0 w : World} {B : Nat} {q : Qb} {v : Value} {k : Nat} (h : Rs w0 w B q v k) (hk : k ≤ 2199023255552) (n : Int) :
    Calls Try.prog 33 #[.pointer (some ⟨q.lb, 0, none⟩), .int .i64 n, .int .i64 0] w fun e w' => ∃ E : Int, e = .returned (.int .i64 E) ∧ Hid (Rs w0 w' B q v (k + 1)) := by
  obtain ⟨L, S, N, hN, h0, h⟩ := h
  refine (drop_any n 0 h.lm).mono ?_
  rintro e w' ⟨rfl, hL, hK⟩
  exact ⟨_, rfl, h.act hN hk (x := actX 4 n) (by simp [actX]) (by simp [actX]) h0 rfl (.drop rfl) hL.out hK.out⟩
theorem s_del {w0 w : World} {B : Nat} {q : Qb} {v : Value} {k : Nat} (h : Rs w0 w B q v k) (hk : k ≤ 2199023255552) (n : Int) :
    Calls Try.prog 28 #[.pointer (some ⟨q.lb, 0, none⟩), .int .i64 n, .int .i64 0] w fun e w' => ∃ E : Int, e = .returned (.int .i64 E) ∧ Hid (Rs w0 w' B q v (k + 1)) := by
  obtain ⟨L, S, N, hN, h0, h⟩ := h
  refine (del_any n 0 h.lm).mono ?_
  rintro e w' ⟨rfl, hL, hK⟩
  exact ⟨_, rfl, h.act hN hk (x := actX 3 n) (by simp [actX]) (by simp [actX]) h0 rfl (.del rfl) hL.out hK.out⟩
/-- A load was taken; it is not yet put behind the others. -/
structure Rp (w0 w : World) (B : Nat) (q : Qb) (v : Value) (l : List Int) (k : Nat) : Prop where
  ex : ∃ L S N, N ≤ (k : Int) ∧ L.r.tk = 0 ∧ Lm w B q L ∧ Below B w0 w ∧ Inv L 5 (S ++ [l]) k ∧ OwnsO w B v S ∧ Lv L ∧ L.now = N ∧ S.length ≤ k
theorem s_send {w0 w : World} {B : Nat} {q : Qb} {v : Value} {k : Nat} (h : Rs w0 w B q v k) (hk : k ≤ 2199023255552) (a : Option Addr) (n c : Nat) (zs : List Int) (hn : zs.length = n) (hnil : a = none → c = 0) (hb : Bytes w a zs) :
    Calls Try.prog 26 #[.pointer (some ⟨q.lb, 0, none⟩), .slice a n c] w fun e w' => ∃ E : Int, e = .returned (.int .i64 E) ∧ ((E = 0 ∧ Hid (Rp w0 w' B q v zs (k + 1))) ∨ (E ≠ 0 ∧ Hid (Rs w0 w' B q v (k + 1)))) := by
  obtain ⟨L, S, N, hN, h0, h⟩ := h
  refine (send_any a n c zs h.lm h.lm.B_le hn hnil hb).mono ?_
  rintro e w' ⟨rfl, hR, hK⟩
  subst hn
  have hct := h.inv.ct
  have h2 := h.nw
  refine ⟨_, rfl, ?_⟩
  have fin : ∀ L', SendS L L' zs → Lm w' B q L' → Inv L' 5 (nxS S ⟨0, 0, 0, 0, 0, a, zs.length, c, zs⟩ (sendE L zs.length)) (k + 1) ∧ L'.now ≤ (k + 1 : Nat) ∧ Lv L' ∧ L'.r.tk = 0 := fun L' hs hL => by
    have d : DoS L ⟨0, 0, 0, 0, 0, a, zs.length, c, zs⟩ L' [] false (sendE L zs.length) := .send rfl hs
    have h1 := dos_now d
    obtain ⟨i1, i2⟩ := inv_step h.lm.p hL.p h.inv (by omega) (by show (0 : Int).toNat < _; decide) d
    refine ⟨i1, by omega, lv_step h.lm.p h.inv h.lv (by omega) (by show (0 : Int).toNat < _; decide) d, ?_⟩
    rcases i2 with ⟨z, _⟩ | ⟨_, z⟩
    · cases z
    · rw [z]; exact h0
  by_cases hE : sendE L zs.length = 0
  · obtain ⟨en, e1, e2, e3, e4, hL⟩ := hR.out.2 hE
    obtain ⟨f1, f2, f3, f4⟩ := fin _ ⟨fun z => absurd hE z, fun _ => ⟨en, e1, e2, e3, e4, rfl⟩⟩ hL
    have eS : nxS S (⟨0, 0, 0, 0, 0, a, zs.length, c, zs⟩ : Ac) (sendE L zs.length) = S ++ [zs] := by unfold nxS; rw [if_pos ⟨rfl, hE⟩]
    rw [eS] at f1
    exact .inl ⟨hE, ⟨_, S, _, f2, f4, hL, hK.out.below h.bel h.lm.B_le h.lm, f1, h.ow.k4 hK.out h.lm, f3, rfl, by omega⟩⟩
  · have hL := hR.out.1 hE
    obtain ⟨f1, f2, f3, f4⟩ := fin L ⟨fun _ => rfl, fun z => absurd z hE⟩ hL
    have eS : nxS S (⟨0, 0, 0, 0, 0, a, zs.length, c, zs⟩ : Ac) (sendE L zs.length) = S := by unfold nxS; rw [if_neg (fun z => hE z.2)]
    rw [eS] at f1
    exact .inr ⟨hE, L, S, _, f2, f4, hL, hK.out.below h.bel h.lm.B_le h.lm, f1, h.ow.k4 hK.out h.lm, f3, rfl⟩
/-- .. and is put there. -/
theorem rp_put {w0 w w1 w2 : World} {B : Nat} {q : Qb} {v v' : Value} {l : List Int} {k : Nat} {L : Lk} {S : List (List Int)} {N : Int} (hN : N ≤ (k : Int)) (h0 : L.r.tk = 0) (h1 : Lm w B q L) (h2 : Below B w0 w) (h3 : Inv L 5 (S ++ [l]) k) (h4 : OwnsO w B v S) (h5 : Lv L) (h6 : L.now = N)
    (hy : Below w.heap.size w w1) (hO : OwnsO w2 B v' (S ++ [l])) (hg : w1.grownBy w2 v.ownBlock) : Rs w0 w2 B q v' k := by
  have hB := h1.B_le
  have o1 := h4.kept hy hB
  exact ⟨L, S ++ [l], N, hN, h0, (h1.kept hy).grows o1 hg, (h2.trans (hy.mono hB)).grown hg (Nat.le_trans hB hy.size) (fun z hz => (o1.own z hz).1), h3, hO, h5, h6⟩
/-! ### fair rounds -/
theorem z_tick {w0 w : World} {B : Nat} {q : Qb} {v : Value} {L : Lk} {S : List (List Int)} {k : Nat} {N T : Int} (h : Fz w0 w B q v L S k N) (hB : Bef L T) (hk : k ≤ 2199023255552) (hN : N < 1099511627776) :
    Calls Try.prog 27 #[.pointer (some ⟨q.lb, 0, none⟩)] w fun e w' => e = .returned (.tuple #[]) ∧ Hid (∃ L', Fz w0 w' B q v L' S k (N + 1) ∧ Pend L' T ∧ L'.r.tk = L.r.tk) := by
  have hI := h.inv
  have hep := hI.ep
  have hct := hI.ct
  have htk := hI.tk
  have hn := h.nw
  refine (tick_any h.lm (by omega) (by omega)).mono ?_
  rintro e w' ⟨rfl, hT, hK⟩
  obtain ⟨gs, g', e1, e2, e3, hL⟩ := hT.out.2 (by omega)
  have ht : TickS L { tk1 L with n0 := gs.foldl putG L.n0, n1 := putG L.n1 g' } := ⟨fun k => by omega, fun _ => ⟨gs, g', e1, e2, e3, rfl⟩⟩
  obtain ⟨i1, i2⟩ := inv_tick h.lm.p hI (by omega) ht
  have lv' := lv_tick h.lm.p hI (by omega) h.lv ht
  refine ⟨rfl, _, h.turn hL hK.out (inv_low i1 hep hct) lv' (by show L.now + 1 = N + 1; rw [hn]), ?_, i2⟩
  rcases hB with ⟨b1, b2, b3⟩ | b1
  · exact (tick_next h.lm.p hI (by omega) h.lv b1 b2 (by omega) ht).1
  · have h2 := (tick_first h.lm.p h.lv (by omega) ht).1
    rw [← b1] at h2
    exact fun z e he hno => .inl (h2 z e he hno)
theorem z_way0 {w0 w : World} {B : Nat} {q : Qb} {v : Value} {L : Lk} {S : List (List Int)} {k : Nat} {N : Int} (h : Fz w0 w B q v L S k N) :
    Calls Try.prog 22 #[.pointer (some ⟨q.lb, 0, none⟩), .int .i64 0] w fun e w' => e = .returned (.int .i64 (L.n0.length : Nat)) ∧ Hid (Fz w0 w' B q v L S k N) := by
  refine (way0 h.lm).mono ?_
  rintro e w' ⟨rfl, hb⟩
  exact ⟨rfl, h.kept hb.out⟩
theorem z_way1 {w0 w : World} {B : Nat} {q : Qb} {v : Value} {L : Lk} {S : List (List Int)} {k : Nat} {N : Int} (h : Fz w0 w B q v L S k N) :
    Calls Try.prog 22 #[.pointer (some ⟨q.lb, 0, none⟩), .int .i64 1] w fun e w' => e = .returned (.int .i64 (L.n1.length : Nat)) ∧ Hid (Fz w0 w' B q v L S k N) := by
  refine (way1 h.lm).mono ?_
  rintro e w' ⟨rfl, hb⟩
  exact ⟨rfl, h.kept hb.out⟩
theorem z_del0 {w0 w : World} {B : Nat} {q : Qb} {v : Value} {L : Lk} {S : List (List Int)} {k : Nat} {N T : Int} {m : Nat} (h : Fz w0 w B q v L S k N) (hP : Pend L T) (hm : L.n0.length = m + 1) :
    Calls Try.prog 28 #[.pointer (some ⟨q.lb, 0, none⟩), .int .i64 0, .int .i64 0] w fun e w' => (∃ E : Int, e = .returned (.int .i64 E)) ∧ Hid (∃ L', Fz w0 w' B q v L' S k N ∧ Pend L' T ∧ L'.r.tk = L.r.tk ∧ L'.n0.length = m) := by
  obtain ⟨x, G, h0⟩ : ∃ x G, L.n0 = x :: G := by
    cases hx : L.n0 with
    | nil => rw [hx] at hm; simp at hm
    | cons x G => exact ⟨x, G, rfl⟩
  have hI := h.inv
  obtain ⟨a1, a2, a3, a4, a5, a6⟩ := pend_del h.lm.p hI hP h0
  obtain ⟨i1, i2⟩ := inv_del h.lm.p hI 0 0
  refine (del_any 0 0 h.lm).mono ?_
  rintro e w' ⟨rfl, hL, hK⟩
  refine ⟨⟨_, rfl⟩, _, h.turn hL.out hK.out (inv_low i1 (by rw [a5]; exact hI.ep) hI.ct) (lv_del h.lv 0 0) (by rw [a4]; exact h.nw), a1, i2, ?_⟩
  rw [a2]
  rw [h0] at hm
  simpa using hm
theorem z_del1 {w0 w : World} {B : Nat} {q : Qb} {v : Value} {L : Lk} {S : List (List Int)} {k : Nat} {N T : Int} {m : Nat} (h : Fz w0 w B q v L S k N) (hP : Wait L T) (h00 : L.n0 = []) (hm : L.n1.length = m + 1) :
    Calls Try.prog 28 #[.pointer (some ⟨q.lb, 0, none⟩), .int .i64 1, .int .i64 0] w fun e w' => (∃ E : Int, e = .returned (.int .i64 E)) ∧ Hid (∃ L', Fz w0 w' B q v L' S k N ∧ Wait L' T ∧ L'.n0 = [] ∧ L'.r.tk = L.r.tk ∧ L'.n1.length = m) := by
  obtain ⟨x, G, h0⟩ : ∃ x G, L.n1 = x :: G := by
    cases hx : L.n1 with
    | nil => rw [hx] at hm; simp at hm
    | cons x G => exact ⟨x, G, rfl⟩
  have hI := h.inv
  obtain ⟨a1, a2, a3, a4, a5, a6, a7⟩ := wait_del h.lm.p hP h0
  obtain ⟨i1, i2⟩ := inv_del h.lm.p hI 1 0
  refine (del_any 1 0 h.lm).mono ?_
  rintro e w' ⟨rfl, hL, hK⟩
  refine ⟨⟨_, rfl⟩, _, h.turn hL.out hK.out (inv_low i1 (by rw [a5]; exact hI.ep) hI.ct) (lv_del h.lv 1 0) (by rw [a4]; exact h.nw), a1, by rw [a3]; exact h00, i2, ?_⟩
  rw [a2]
  rw [h0] at hm
  simpa using hm
/-- What is left to be polled, behind j of 6. -/
structure Pz (L : Lk) (T : Int) (j : Nat) : Prop where
  wt : Wait L T
  n0 : L.n0 = []
  n1 : L.n1 = []
  rem : T ≤ L.now → L.s.nxt - 1 ≤ L.r.tk + ((5 - j : Nat) : Int)
theorem pz_start {L : Lk} {T : Int} {S : List (List Int)} {k : Nat} (p : Lp L) (hI : Inv L 5 S k) (h1 : Wait L T) (h2 : L.n0 = []) (h3 : L.n1 = []) : Pz L T 0 := by
  refine ⟨h1, h2, h3, fun _ => ?_⟩
  have := p.so.l1
  have := hI.lm
  show L.s.nxt - 1 ≤ L.r.tk + 5
  omega
/-- A poll that answers a load, the next of those taken; or none, and then none is left. -/
theorem z_poll {w0 w : World} {B : Nat} {q : Qb} {v : Value} {L : Lk} {S : List (List Int)} {k : Nat} {N T : Int} {j : Nat} (h : Fz w0 w B q v L S k N) (hP : Pz L T j) (hk : k ≤ 2199023255552) :
    Calls Try.prog 29 #[.pointer (some ⟨q.lb, 0, none⟩)] w fun e w' => ∃ a n c ok, e = .returned (.tuple #[.slice a n c, .bool ok]) ∧
      ((ok = true ∧ Hid (∃ L' b, Fz w0 w' B q v L' S k N ∧ Pz L' T (j + 1) ∧ L'.r.tk = L.r.tk + 1 ∧ S[L.r.tk.toNat]? = some b ∧ Sl w' w.heap.size a n c b)) ∨ (ok = false ∧ Hid (Fz w0 w' B q v L S k N ∧ Pz L T 5))) := by
  have hI := h.inv
  have hct := hI.ct
  have htk := hI.tk
  refine (poll_any h.lm (by omega)).mono ?_
  rintro e w' ⟨hR, hL, hK⟩
  obtain ⟨a, n, c, rfl, hS⟩ := hR.out
  refine ⟨a, n, c, _, rfl, ?_⟩
  have d : DoS L (actX 1 0) { L with r := takeS L.r } ((L.r.L (L.r.tk + 1)).getD []) (L.r.L (L.r.tk + 1)).isSome 0 := .poll rfl
  obtain ⟨i1, i2⟩ := inv_step h.lm.p hL.out.p hI (by omega) (by decide) d
  rw [nxS_no (by decide)] at i1
  cases hx : L.r.L (L.r.tk + 1) with
  | some b =>
    rw [hx] at hS i2
    refine .inl ⟨rfl, ⟨_, b, h.turn hL.out hK.out (inv_low i1 hI.ep hct) (lv_take h.lv) h.nw, ⟨wait_take hP.wt, hP.n0, hP.n1, fun hT => ?_⟩, ?_, ?_, hS.out⟩⟩
    · have ha := all_had h.lm.p h.lv hP.wt hT
      have := take_rem h.lm.p ha (hP.rem hT)
      show L.s.nxt - 1 ≤ (takeS L.r).tk + ((5 - (j + 1) : Nat) : Int)
      rw [show 5 - (j + 1) = 5 - j - 1 by omega]
      exact this
    · rcases i2 with ⟨_, _, i3, _⟩ | ⟨i3, _⟩
      · exact i3
      · cases i3
    · rcases i2 with ⟨_, _, _, i3⟩ | ⟨i3, _⟩
      · exact i3
      · cases i3
  | none =>
    have e2 : takeS L.r = L.r := by unfold takeS; rw [hx]; rfl
    have hL' : Lm w' B q { L with r := takeS L.r } := hL.out
    rw [e2] at hL'
    refine .inr ⟨rfl, h.turn hL' hK.out hI h.lv h.nw, hP.wt, hP.n0, hP.n1, fun hT => ?_⟩
    have ha := all_had h.lm.p h.lv hP.wt hT
    have t1 := h.lm.p.ro.t1
    by_cases h1 : L.s.nxt - 1 ≤ L.r.tk
    · show L.s.nxt - 1 ≤ L.r.tk + ((5 - 5 : Nat) : Int)
      omega
    · rcases ha (L.r.tk + 1) (by omega) (by omega) with h2 | h2
      · omega
      · rw [hx] at h2; cases h2
/-- How far a round is. -/
def Sz (L : Lk) (T : Int) : Nat → Prop
  | 0 => Pend L T
  | 1 => Wait L T ∧ L.n0 = []
  | _ => Wait L T ∧ L.n0 = [] ∧ L.n1 = []
/-- At the start of a round: behind j rounds that began at the time N; t loads were answered. -/
def Rk (w0 w : World) (B : Nat) (q : Qb) (v : Value) (k : Nat) (N : Int) (j t : Nat) : Prop :=
  ∃ L S, Fz w0 w B q v L S k (N + (j : Nat)) ∧ Bef L (N + 65) ∧ (1 ≤ j → Pz L (N + 65) 5) ∧ L.r.tk = (t : Int)
/-- Within the round, i nets are empty. -/
def Ck (w0 w : World) (B : Nat) (q : Qb) (v : Value) (k : Nat) (N : Int) (j t i : Nat) : Prop :=
  ∃ L S, Fz w0 w B q v L S k (N + (j + 1 : Nat)) ∧ Sz L (N + 65) i ∧ L.r.tk = (t : Int)
def Ck0 (w0 w : World) (B : Nat) (q : Qb) (v : Value) (k : Nat) (N : Int) (j t n : Nat) : Prop :=
  ∃ L S, Fz w0 w B q v L S k (N + (j + 1 : Nat)) ∧ Pend L (N + 65) ∧ L.r.tk = (t : Int) ∧ L.n0.length = n
def Ck1 (w0 w : World) (B : Nat) (q : Qb) (v : Value) (k : Nat) (N : Int) (j t n : Nat) : Prop :=
  ∃ L S, Fz w0 w B q v L S k (N + (j + 1 : Nat)) ∧ (Wait L (N + 65) ∧ L.n0 = []) ∧ L.r.tk = (t : Int) ∧ L.n1.length = n
/-- .. and m polls were made. -/
def Ek (w0 w : World) (B : Nat) (q : Qb) (v : Value) (k : Nat) (N : Int) (j t m : Nat) : Prop :=
  ∃ L S, Fz w0 w B q v L S k (N + (j + 1 : Nat)) ∧ Pz L (N + 65) m ∧ L.r.tk = (t : Int)
theorem Rs.rk {w0 w : World} {B : Nat} {q : Qb} {v : Value} {k : Nat} (h : Rs w0 w B q v k) : ∃ N : Int, N ≤ (k : Int) ∧ Rk w0 w B q v k N 0 0 := by
  obtain ⟨L, S, N, hN, h0, h⟩ := h
  have hn := h.nw
  exact ⟨N, hN, L, S, ⟨h.lm, h.bel, h.inv, h.ow, h.lv, by rw [hn]; simp⟩, .inr (by rw [hn]), fun z => by omega, h0⟩
theorem k_tick {w0 w : World} {B : Nat} {q : Qb} {v : Value} {k : Nat} {N : Int} {j t : Nat} (h : Rk w0 w B q v k N j t) (hk : k ≤ 2199023255552) (hN : N + (j : Nat) < 1099511627776) :
    Calls Try.prog 27 #[.pointer (some ⟨q.lb, 0, none⟩)] w fun e w' => e = .returned (.tuple #[]) ∧ Hid (Ck w0 w' B q v k N j t 0) := by
  obtain ⟨L, S, h1, h2, h3, h4⟩ := h
  refine (z_tick h1 h2 hk hN).mono ?_
  rintro e w' ⟨rfl, hE⟩
  obtain ⟨L', a, b, c⟩ := hE.out
  exact ⟨rfl, L', S, ⟨a.lm, a.bel, a.inv, a.ow, a.lv, by rw [a.nw]; omega⟩, b, by rw [c]; exact h4⟩
theorem k_way0 {w0 w : World} {B : Nat} {q : Qb} {v : Value} {k : Nat} {N : Int} {j t : Nat} (h : Ck w0 w B q v k N j t 0) :
    Calls Try.prog 22 #[.pointer (some ⟨q.lb, 0, none⟩), .int .i64 0] w fun e w' => ∃ n : Nat, n ≤ 256 ∧ e = .returned (.int .i64 (n : Nat)) ∧ Hid (Ck0 w0 w' B q v k N j t n) := by
  obtain ⟨L, S, h1, h2, h3⟩ := h
  refine (z_way0 h1).mono ?_
  rintro e w' ⟨rfl, hE⟩
  exact ⟨_, h1.lm.p.f0, rfl, L, S, hE.out, h2, h3, rfl⟩
theorem k_way1 {w0 w : World} {B : Nat} {q : Qb} {v : Value} {k : Nat} {N : Int} {j t : Nat} (h : Ck w0 w B q v k N j t 1) :
    Calls Try.prog 22 #[.pointer (some ⟨q.lb, 0, none⟩), .int .i64 1] w fun e w' => ∃ n : Nat, n ≤ 256 ∧ e = .returned (.int .i64 (n : Nat)) ∧ Hid (Ck1 w0 w' B q v k N j t n) := by
  obtain ⟨L, S, h1, h2, h3⟩ := h
  refine (z_way1 h1).mono ?_
  rintro e w' ⟨rfl, hE⟩
  exact ⟨_, h1.lm.p.f1, rfl, L, S, hE.out, h2, h3, rfl⟩
theorem k_del0 {w0 w : World} {B : Nat} {q : Qb} {v : Value} {k : Nat} {N : Int} {j t m : Nat} (h : Ck0 w0 w B q v k N j t (m + 1)) :
    Calls Try.prog 28 #[.pointer (some ⟨q.lb, 0, none⟩), .int .i64 0, .int .i64 0] w fun e w' => (∃ E : Int, e = .returned (.int .i64 E)) ∧ Hid (Ck0 w0 w' B q v k N j t m) := by
  obtain ⟨L, S, h1, h2, h3, h4⟩ := h
  refine (z_del0 h1 h2 h4).mono ?_
  rintro e w' ⟨he, hE⟩
  obtain ⟨L', a, b, c, d⟩ := hE.out
  exact ⟨he, L', S, a, b, by rw [c]; exact h3, d⟩
theorem k_del1 {w0 w : World} {B : Nat} {q : Qb} {v : Value} {k : Nat} {N : Int} {j t m : Nat} (h : Ck1 w0 w B q v k N j t (m + 1)) :
    Calls Try.prog 28 #[.pointer (some ⟨q.lb, 0, none⟩), .int .i64 1, .int .i64 0] w fun e w' => (∃ E : Int, e = .returned (.int .i64 E)) ∧ Hid (Ck1 w0 w' B q v k N j t m) := by
  obtain ⟨L, S, h1, h2, h3, h4⟩ := h
  refine (z_del1 h1 h2.1 h2.2 h4).mono ?_
  rintro e w' ⟨he, hE⟩
  obtain ⟨L', a, b, b2, c, d⟩ := hE.out
  exact ⟨he, L', S, a, ⟨b, b2⟩, by rw [c]; exact h3, d⟩
theorem Ck0.fin {w0 w : World} {B : Nat} {q : Qb} {v : Value} {k : Nat} {N : Int} {j t : Nat} (h : Ck0 w0 w B q v k N j t 0) : Ck w0 w B q v k N j t 1 := by
  obtain ⟨L, S, h1, h2, h3, h4⟩ := h
  have h0 : L.n0 = [] := List.eq_nil_of_length_eq_zero h4
  exact ⟨L, S, h1, ⟨h2.wait h0, h0⟩, h3⟩
theorem Ck1.fin {w0 w : World} {B : Nat} {q : Qb} {v : Value} {k : Nat} {N : Int} {j t : Nat} (h : Ck1 w0 w B q v k N j t 0) : Ck w0 w B q v k N j t 2 := by
  obtain ⟨L, S, h1, h2, h3, h4⟩ := h
  exact ⟨L, S, h1, ⟨h2.1, h2.2, List.eq_nil_of_length_eq_zero h4⟩, h3⟩
theorem Ck.ek {w0 w : World} {B : Nat} {q : Qb} {v : Value} {k : Nat} {N : Int} {j t : Nat} (h : Ck w0 w B q v k N j t 2) : Ek w0 w B q v k N j t 0 := by
  obtain ⟨L, S, h1, ⟨h2, h3, h4⟩, h5⟩ := h
  exact ⟨L, S, h1, pz_start h1.lm.p h1.inv h2 h3 h4, h5⟩
theorem Ek.rk {w0 w : World} {B : Nat} {q : Qb} {v : Value} {k : Nat} {N : Int} {j t m : Nat} (h : Ek w0 w B q v k N j t m) (hm : 5 ≤ m) : Rk w0 w B q v k N (j + 1) t := by
  obtain ⟨L, S, h1, h2, h3⟩ := h
  refine ⟨L, S, h1, .inl ⟨h2.wt, h2.n0, h2.n1⟩, fun _ => ⟨h2.wt, h2.n0, h2.n1, fun hT => ?_⟩, h3⟩
  have := h2.rem hT
  rw [show 5 - m = 0 by omega] at this
  exact this
theorem Ek.kept {w0 w w' : World} {B : Nat} {q : Qb} {v : Value} {k : Nat} {N : Int} {j t m : Nat} (h : Ek w0 w B q v k N j t m) (hb : Below w.heap.size w w') : Ek w0 w' B q v k N j t m := by
  obtain ⟨L, S, h1, h2, h3⟩ := h
  exact ⟨L, S, h1.kept hb, h2, h3⟩
/-- What is seen of a load that was polled. -/
structure Kp (w' : World) (v : Value) (t : Nat) (a : Option Addr) (n c : Nat) : Prop where
  ex : ∃ g vn cap a2 c2 b, v = .slice (some ⟨g, 0, none⟩) vn cap ∧ t < vn ∧ w'.cell? ⟨g, t, none⟩ = some (.slice a2 b.length c2) ∧ Bytes w' a2 b ∧ Bytes w' a b ∧ b.length = n
theorem k_poll {w0 w : World} {B : Nat} {q : Qb} {v : Value} {k : Nat} {N : Int} {j t m : Nat} (h : Ek w0 w B q v k N j t m) (hk : k ≤ 2199023255552) :
    Calls Try.prog 29 #[.pointer (some ⟨q.lb, 0, none⟩)] w fun e w' => ∃ a n c ok, e = .returned (.tuple #[.slice a n c, .bool ok]) ∧
      ((ok = true ∧ Hid (Ek w0 w' B q v k N j (t + 1) (m + 1)) ∧ Hid (Kp w' v t a n c)) ∨ (ok = false ∧ Hid (Ek w0 w' B q v k N j t 5))) := by
  obtain ⟨L, S, h1, h2, h3⟩ := h
  refine (z_poll h1 h2 hk).mono ?_
  rintro e w' ⟨a, n, c, ok, rfl, hE⟩
  refine ⟨a, n, c, ok, rfl, ?_⟩
  rcases hE with ⟨rfl, hE⟩ | ⟨rfl, hE⟩
  · obtain ⟨L', b, e1, e2, e3, e4, e5⟩ := hE.out
    rw [h3] at e3 e4
    obtain ⟨g, cap, a2, c2, o1, o2, o3⟩ := e1.ow.at e4
    have hlt : ((t : Nat) : Int).toNat < S.length := (List.getElem?_eq_some_iff.1 e4).1
    simp only [Int.toNat_natCast] at hlt o2
    exact .inl ⟨rfl, ⟨L', S, e1, e2, by rw [e3]; simp⟩, ⟨g, S.length, cap, a2, c2, b, o1, hlt, o2, o3, e5.by_, e5.len⟩⟩
  · exact .inr ⟨rfl, L, S, hE.out.1, hE.out.2, h3⟩
theorem k_end {w0 w : World} {B : Nat} {q : Qb} {v : Value} {k : Nat} {N : Int} {t : Nat} (h : Rk w0 w B q v k N 70 t) : ∃ a c, v = .slice a t c ∧ Below B w0 w := by
  obtain ⟨L, S, h1, h2, h3, h4⟩ := h
  have hp := h3 (by omega)
  obtain ⟨a, n, c, rfl, hn, _, _⟩ := h1.ow.form
  have hnw := h1.nw
  have hr := hp.rem (by rw [hnw]; show N + 65 ≤ N + 70; omega)
  have hnx := h1.inv.nx
  have htk := h1.inv.tk
  have hr : L.s.nxt - 1 ≤ L.r.tk + ((0 : Nat) : Int) := hr
  obtain rfl : n = t := by omega
  exact ⟨a, c, rfl, h1.bel⟩
end Go.Proofs.Ytfipdldoklkciaa
