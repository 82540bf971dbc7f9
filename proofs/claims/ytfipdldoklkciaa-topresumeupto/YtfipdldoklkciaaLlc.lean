/-
  A datagram turned.
-/
import Derived.Test.YtfipdldoklkciaaLkq
import Derived.Test.YtfipdldoklkciaaLlb
namespace Go.Proofs.Ytfipdldoklkciaa
open Go.RowKit
set_option linter.unusedVariables false
theorem net_set {cs : Array Value} {o i : Nat} {G : List Gr} {g0 : Gr} (h : Net cs o G) (hi : G[i]? = some g0) (g : Gr) :
    Net ((cs.setIfInBounds (o + i * 2) (.slice g.a g.n g.c)).setIfInBounds (o + i * 2 + 1) (.bool g.sp)) o (G.set i g) := by
  obtain ⟨h1, h2, h3, h4⟩ := h
  have hl := (List.getElem?_eq_some_iff.1 hi).1
  refine ⟨by simpa using h1, ?_, fun j x hx => ?_, by simpa using h4⟩
  · rw [Array.getElem?_setIfInBounds_ne (by omega), Array.getElem?_setIfInBounds_ne (by omega), List.length_set]
    exact h2
  · rw [List.getElem?_set] at hx
    by_cases hj : i = j
    · subst hj
      rw [if_pos rfl, if_pos hl] at hx
      obtain rfl := Option.some.inj hx
      rw [Array.getElem?_setIfInBounds_ne (by omega), Array.getElem?_setIfInBounds_self_of_lt (by omega), Array.getElem?_setIfInBounds_self_of_lt (by simp; omega)]
      exact ⟨rfl, rfl⟩
    · rw [if_neg hj] at hx
      have hjl := (List.getElem?_eq_some_iff.1 hx).1
      rw [Array.getElem?_setIfInBounds_ne (by omega), Array.getElem?_setIfInBounds_ne (by omega), Array.getElem?_setIfInBounds_ne (by omega), Array.getElem?_setIfInBounds_ne (by omega)]
      exact h3 j x hx
theorem set_mem {G : List Gr} {i : Nat} {g x : Gr} (h : x ∈ G.set i g) : x ∈ G ∨ x = g := (List.mem_or_eq_of_mem_set h)
theorem Lm.nset0 {w : World} {B : Nat} {q : Qb} {L : Lk} {i : Nat} {g0 : Gr} (h : Lm w B q L) (hg : L.n0[i]? = some g0) (g : Gr) (hG : GrIn w B g) : Lm ((w.setCell ⟨q.lb, 6 + i * 2, none⟩ (.slice g.a g.n g.c)).setCell ⟨q.lb, 6 + i * 2 + 1, none⟩ (.bool g.sp)) B q { L with n0 := L.n0.set i g } ∧ K4 q w ((w.setCell ⟨q.lb, 6 + i * 2, none⟩ (.slice g.a g.n g.c)).setCell ⟨q.lb, 6 + i * 2 + 1, none⟩ (.bool g.sp)) := by
  obtain ⟨cs, hb, hc⟩ := h.lk
  have hi := (List.getElem?_eq_some_iff.1 hg).1
  have hf := hc.n0.few
  have hK : K2 q.lb q.lb w ((w.setCell ⟨q.lb, 6 + i * 2, none⟩ (.slice g.a g.n g.c)).setCell ⟨q.lb, 6 + i * 2 + 1, none⟩ (.bool g.sp)) := (K2.set w _ _).trans (K2.set _ _ _)
  refine ⟨?_, K4.of_l hK⟩
  have hA : Apart cs ((cs.setIfInBounds (6 + i * 2) (.slice g.a g.n g.c)).setIfInBounds (6 + i * 2 + 1) (.bool g.sp)) 6 := by
    refine ⟨by simp, fun j hj => ?_⟩
    rw [Array.getElem?_setIfInBounds_ne (by omega), Array.getElem?_setIfInBounds_ne (by omega)]
  refine h.turnL ((hb.set _ _).set _ _) (lkc_n0 hc hA (net_set hc.n0 hg g)) hK rfl rfl ⟨h.ok.t1, h.ok.t2, h.ok.n1, h.ok.n2, h.ok.e1, h.ok.few⟩ (fun x hx => ?_)
  rcases hx with hx | hx
  · rcases set_mem hx with hx | hx
    · exact .inl (.inl hx)
    · subst hx; exact .inr (hG.k2 hK h.no5.1 h.no5.1)
  · exact .inl (.inr hx)
theorem Lm.nset1 {w : World} {B : Nat} {q : Qb} {L : Lk} {i : Nat} {g0 : Gr} (h : Lm w B q L) (hg : L.n1[i]? = some g0) (g : Gr) (hG : GrIn w B g) : Lm ((w.setCell ⟨q.lb, 521 + i * 2, none⟩ (.slice g.a g.n g.c)).setCell ⟨q.lb, 521 + i * 2 + 1, none⟩ (.bool g.sp)) B q { L with n1 := L.n1.set i g } ∧ K4 q w ((w.setCell ⟨q.lb, 521 + i * 2, none⟩ (.slice g.a g.n g.c)).setCell ⟨q.lb, 521 + i * 2 + 1, none⟩ (.bool g.sp)) := by
  obtain ⟨cs, hb, hc⟩ := h.lk
  have hi := (List.getElem?_eq_some_iff.1 hg).1
  have hf := hc.n1.few
  have hK : K2 q.lb q.lb w ((w.setCell ⟨q.lb, 521 + i * 2, none⟩ (.slice g.a g.n g.c)).setCell ⟨q.lb, 521 + i * 2 + 1, none⟩ (.bool g.sp)) := (K2.set w _ _).trans (K2.set _ _ _)
  refine ⟨?_, K4.of_l hK⟩
  have hA : Apart cs ((cs.setIfInBounds (521 + i * 2) (.slice g.a g.n g.c)).setIfInBounds (521 + i * 2 + 1) (.bool g.sp)) 521 := by
    refine ⟨by simp, fun j hj => ?_⟩
    rw [Array.getElem?_setIfInBounds_ne (by omega), Array.getElem?_setIfInBounds_ne (by omega)]
  refine h.turnL ((hb.set _ _).set _ _) (lkc_n1 hc hA (net_set hc.n1 hg g)) hK rfl rfl ⟨h.ok.t1, h.ok.t2, h.ok.n1, h.ok.n2, h.ok.e1, h.ok.few⟩ (fun x hx => ?_)
  rcases hx with hx | hx
  · exact .inl (.inl hx)
  · rcases set_mem hx with hx | hx
    · exact .inl (.inr hx)
    · subst hx; exact .inr (hG.k2 hK h.no5.1 h.no5.1)
theorem kturn_no {w : World} {B : Nat} {q : Qb} {L : Lk} (n i x y : Int) (h : Lm w B q L) (hE : canE L n i ≠ 0) :
    Calls Try.prog 32 #[.pointer (some ⟨q.lb, 0, none⟩), .int .i64 n, .int .i64 i, .int .i64 x, .int .u32 y] w fun e w' => e = .returned (.int .i64 (canE L n i)) ∧ Hid (Below w.heap.size w w') := by
  have k0 := can_any n i h
  have d0 : (canE L n i != 0) = true := by simpa using hE
  clear h hE
  generalize canE L n i = x at *
  go_enter Try.func32, Try.ntmps32
  go_wp2_with (go_at_call 68; refine k0.mono ?_; rintro e w1 ⟨rfl, hb1⟩; clear k0)
  go_ret
  exact ⟨rfl, hb1⟩
set_option maxRecDepth 100000 in
theorem kturn0_sp {w : World} {B : Nat} {q : Qb} {L : Lk} (i : Nat) (g : Gr) (x y : Int) (h : Lm w B q L) (hE : canE L 0 (i : Nat) = 0) (hg : L.n0[i]? = some g) (hs : g.sp = true) :
    Calls Try.prog 32 #[.pointer (some ⟨q.lb, 0, none⟩), .int .i64 0, .int .i64 (i : Nat), .int .i64 x, .int .u32 y] w fun e w' => e = .returned (.int .i64 18) ∧ Hid (Below w.heap.size w w') := by
  have k0 := can_any 0 (i : Nat) h
  rw [hE] at k0
  have hL : Hid (Lm w B q L) := h
  have hgi : Hid (GrIn w B g) := h.gr g (.inl (List.mem_of_getElem? hg))
  have hib : i < 256 := by
    obtain ⟨cs, hb, hc⟩ := h.lk
    have := hc.n0.few
    have := (List.getElem?_eq_some_iff.1 hg).1
    omega
  have hc2 : Hid (∀ x, Below w.heap.size w x → x.cell? ⟨q.lb, 6 + i * 2, none⟩ = some (.slice g.a g.n g.c) ∧ x.cell? ⟨q.lb, 6 + i * 2 + 1, none⟩ = some (.bool g.sp) ∧ x.frozen? ⟨q.lb, 6 + i * 2, none⟩ = false ∧ x.frozen? ⟨q.lb, 6 + i * 2 + 1, none⟩ = false) := fun x hx => by
    obtain ⟨cs, hb, hc⟩ := h.lk
    have hb' := hb.kept hx
    exact ⟨(hb'.cell _).trans (hc.n0.row i g hg).1, (hb'.cell _).trans (hc.n0.row i g hg).2, hb'.fz _, hb'.fz _⟩
  have d0 : decide ((0 : Int) ≤ (i : Int)) = true := by simp
  have d1 : decide ((i : Int) < 256) = true := by simp; omega
  rw [hs] at hc2
  clear h hE hg hL hgi
  go_enter Try.func32, Try.ntmps32
  go_wp2_with fail
  refine k0.mono ?_
  rintro e w1 ⟨rfl, hb1⟩
  clear k0
  obtain ⟨c1, c2, f1, f2⟩ := hc2.out w1 hb1.out
  go_wp2
  go_ret
  exact ⟨rfl, hb1⟩
set_option maxRecDepth 100000 in
theorem kturn0 {w : World} {B : Nat} {q : Qb} {L : Lk} (i : Nat) (g : Gr) (x : Int) (y : Nat) (h : Lm w B q L) (hE : canE L 0 (i : Nat) = 0) (hg : L.n0[i]? = some g) (hs : g.sp = false) (h4 : 4 ≤ g.n) (hl : g.n ≤ 100000) (hx : (Lit.int .i64 x).wf = true) (hy : y < 4294967296) :
    Calls Try.prog 32 #[.pointer (some ⟨q.lb, 0, none⟩), .int .i64 0, .int .i64 (i : Nat), .int .i64 x, .int .u32 (y : Nat)] w fun e w' => e = .returned (.int .i64 0) ∧ Hid (∃ g' : Gr, g'.zs = turnL g.zs (x % ((g.n : Int) - 3)).toNat y ∧ g'.sp = ((y : Int) != 0) ∧ Lm w' B q { L with n0 := L.n0.set i g' }) ∧ Hid (K4 q w w') := by
  have k0 := can_any 0 (i : Nat) h
  rw [hE] at k0
  have hL : Hid (Lm w B q L) := h
  have hgi : Hid (GrIn w B g) := h.gr g (.inl (List.mem_of_getElem? hg))
  have hib : i < 256 := by
    obtain ⟨cs, hb, hc⟩ := h.lk
    have := hc.n0.few
    have := (List.getElem?_eq_some_iff.1 hg).1
    omega
  have hc2 : Hid (∀ x, Below w.heap.size w x → x.cell? ⟨q.lb, 6 + i * 2, none⟩ = some (.slice g.a g.n g.c) ∧ x.cell? ⟨q.lb, 6 + i * 2 + 1, none⟩ = some (.bool g.sp) ∧ x.frozen? ⟨q.lb, 6 + i * 2, none⟩ = false ∧ x.frozen? ⟨q.lb, 6 + i * 2 + 1, none⟩ = false) := fun x hx => by
    obtain ⟨cs, hb, hc⟩ := h.lk
    have hb' := hb.kept hx
    exact ⟨(hb'.cell _).trans (hc.n0.row i g hg).1, (hb'.cell _).trans (hc.n0.row i g hg).2, hb'.fz _, hb'.fz _⟩
  have d0 : decide ((0 : Int) ≤ (i : Int)) = true := by simp
  have d1 : decide ((i : Int) < 256) = true := by simp; omega
  rw [hs] at hc2
  have kT : Hid (∀ z, Below w.heap.size w z → Calls Try.prog 74 #[.slice g.a g.n g.c, .int .i64 x, .int .u32 (y : Nat)] z fun e w' => ∃ v, e = .returned v ∧ Hid (OwnsB w' z.heap.size v (turnL g.zs (x % ((g.n : Int) - 3)).toNat y)) ∧ Hid (Below z.heap.size z w')) := fun z hz => by
    have k := hgi.out.kept hz
    exact turned_any g.a g.n g.c g.zs x y z k.len k.nil k.le k.by_ h4 hl hx hy
  have hg' : Hid (L.n0[i]? = some g) := hg
  obtain ⟨sp, hsp⟩ : ∃ sp, ((y : Int) != 0) = sp := ⟨_, rfl⟩
  rw [hsp]
  generalize turnL g.zs (x % ((g.n : Int) - 3)).toNat y = T at *
  clear h hE hg h4 hl hx hy
  go_enter Try.func32, Try.ntmps32
  go_wp2_with fail
  refine k0.mono ?_
  rintro e w1 ⟨rfl, hb1⟩
  clear k0
  obtain ⟨c1, c2, f1, f2⟩ := hc2.out w1 hb1.out
  go_wp2_with (go_at_call 74; refine (kT.out _ hb1.out).mono ?_; rintro e w2 ⟨v, rfl, hO, hb2⟩; clear kT c1 c2 f1 f2; obtain ⟨c1, c2, f1, f2⟩ := hc2.out w2 (hb1.out.trans (hb2.out.mono hb1.out.size)); obtain ⟨g', e1, e2, rfl, hG⟩ := gr_of_owns sp hO.out; have hG' : Hid (GrIn w2 w1.heap.size g' ∧ g'.zs = T ∧ g'.sp = sp) := ⟨hG, e1, e2⟩; clear hG e1 e2 hO hc2)
  go_ret
  have hL2 : Lm w2 B q L := (hL.out.kept hb1.out).kept hb2.out
  have hz : B ≤ w1.heap.size := (hL.out.kept hb1.out).B_le
  obtain ⟨m1, m2⟩ := hL2.nset0 hg'.out g' (hG'.out.1.mono hz)
  rw [hG'.out.2.2] at m1 m2
  exact ⟨rfl, ⟨g', hG'.out.2.1, hG'.out.2.2, m1⟩, ((K4.of_below hb1.out).trans (K4.of_below hb2.out)).trans m2⟩
set_option maxRecDepth 100000 in
theorem kturn1_sp {w : World} {B : Nat} {q : Qb} {L : Lk} (i : Nat) (g : Gr) (x y : Int) (h : Lm w B q L) (hE : canE L 1 (i : Nat) = 0) (hg : L.n1[i]? = some g) (hs : g.sp = true) :
    Calls Try.prog 32 #[.pointer (some ⟨q.lb, 0, none⟩), .int .i64 1, .int .i64 (i : Nat), .int .i64 x, .int .u32 y] w fun e w' => e = .returned (.int .i64 18) ∧ Hid (Below w.heap.size w w') := by
  have k0 := can_any 1 (i : Nat) h
  rw [hE] at k0
  have hL : Hid (Lm w B q L) := h
  have hgi : Hid (GrIn w B g) := h.gr g (.inr (List.mem_of_getElem? hg))
  have hib : i < 256 := by
    obtain ⟨cs, hb, hc⟩ := h.lk
    have := hc.n1.few
    have := (List.getElem?_eq_some_iff.1 hg).1
    omega
  have hc2 : Hid (∀ x, Below w.heap.size w x → x.cell? ⟨q.lb, 521 + i * 2, none⟩ = some (.slice g.a g.n g.c) ∧ x.cell? ⟨q.lb, 521 + i * 2 + 1, none⟩ = some (.bool g.sp) ∧ x.frozen? ⟨q.lb, 521 + i * 2, none⟩ = false ∧ x.frozen? ⟨q.lb, 521 + i * 2 + 1, none⟩ = false) := fun x hx => by
    obtain ⟨cs, hb, hc⟩ := h.lk
    have hb' := hb.kept hx
    exact ⟨(hb'.cell _).trans (hc.n1.row i g hg).1, (hb'.cell _).trans (hc.n1.row i g hg).2, hb'.fz _, hb'.fz _⟩
  have d0 : decide ((0 : Int) ≤ (i : Int)) = true := by simp
  have d1 : decide ((i : Int) < 256) = true := by simp; omega
  rw [hs] at hc2
  clear h hE hg hL hgi
  go_enter Try.func32, Try.ntmps32
  go_wp2_with fail
  refine k0.mono ?_
  rintro e w1 ⟨rfl, hb1⟩
  clear k0
  obtain ⟨c1, c2, f1, f2⟩ := hc2.out w1 hb1.out
  go_wp2
  go_ret
  exact ⟨rfl, hb1⟩
set_option maxRecDepth 100000 in
theorem kturn1 {w : World} {B : Nat} {q : Qb} {L : Lk} (i : Nat) (g : Gr) (x : Int) (y : Nat) (h : Lm w B q L) (hE : canE L 1 (i : Nat) = 0) (hg : L.n1[i]? = some g) (hs : g.sp = false) (h4 : 4 ≤ g.n) (hl : g.n ≤ 100000) (hx : (Lit.int .i64 x).wf = true) (hy : y < 4294967296) :
    Calls Try.prog 32 #[.pointer (some ⟨q.lb, 0, none⟩), .int .i64 1, .int .i64 (i : Nat), .int .i64 x, .int .u32 (y : Nat)] w fun e w' => e = .returned (.int .i64 0) ∧ Hid (∃ g' : Gr, g'.zs = turnL g.zs (x % ((g.n : Int) - 3)).toNat y ∧ g'.sp = ((y : Int) != 0) ∧ Lm w' B q { L with n1 := L.n1.set i g' }) ∧ Hid (K4 q w w') := by
  have k0 := can_any 1 (i : Nat) h
  rw [hE] at k0
  have hL : Hid (Lm w B q L) := h
  have hgi : Hid (GrIn w B g) := h.gr g (.inr (List.mem_of_getElem? hg))
  have hib : i < 256 := by
    obtain ⟨cs, hb, hc⟩ := h.lk
    have := hc.n1.few
    have := (List.getElem?_eq_some_iff.1 hg).1
    omega
  have hc2 : Hid (∀ x, Below w.heap.size w x → x.cell? ⟨q.lb, 521 + i * 2, none⟩ = some (.slice g.a g.n g.c) ∧ x.cell? ⟨q.lb, 521 + i * 2 + 1, none⟩ = some (.bool g.sp) ∧ x.frozen? ⟨q.lb, 521 + i * 2, none⟩ = false ∧ x.frozen? ⟨q.lb, 521 + i * 2 + 1, none⟩ = false) := fun x hx => by
    obtain ⟨cs, hb, hc⟩ := h.lk
    have hb' := hb.kept hx
    exact ⟨(hb'.cell _).trans (hc.n1.row i g hg).1, (hb'.cell _).trans (hc.n1.row i g hg).2, hb'.fz _, hb'.fz _⟩
  have d0 : decide ((0 : Int) ≤ (i : Int)) = true := by simp
  have d1 : decide ((i : Int) < 256) = true := by simp; omega
  rw [hs] at hc2
  have kT : Hid (∀ z, Below w.heap.size w z → Calls Try.prog 74 #[.slice g.a g.n g.c, .int .i64 x, .int .u32 (y : Nat)] z fun e w' => ∃ v, e = .returned v ∧ Hid (OwnsB w' z.heap.size v (turnL g.zs (x % ((g.n : Int) - 3)).toNat y)) ∧ Hid (Below z.heap.size z w')) := fun z hz => by
    have k := hgi.out.kept hz
    exact turned_any g.a g.n g.c g.zs x y z k.len k.nil k.le k.by_ h4 hl hx hy
  have hg' : Hid (L.n1[i]? = some g) := hg
  obtain ⟨sp, hsp⟩ : ∃ sp, ((y : Int) != 0) = sp := ⟨_, rfl⟩
  rw [hsp]
  generalize turnL g.zs (x % ((g.n : Int) - 3)).toNat y = T at *
  clear h hE hg h4 hl hx hy
  go_enter Try.func32, Try.ntmps32
  go_wp2_with fail
  refine k0.mono ?_
  rintro e w1 ⟨rfl, hb1⟩
  clear k0
  obtain ⟨c1, c2, f1, f2⟩ := hc2.out w1 hb1.out
  go_wp2_with (go_at_call 74; refine (kT.out _ hb1.out).mono ?_; rintro e w2 ⟨v, rfl, hO, hb2⟩; clear kT c1 c2 f1 f2; obtain ⟨c1, c2, f1, f2⟩ := hc2.out w2 (hb1.out.trans (hb2.out.mono hb1.out.size)); obtain ⟨g', e1, e2, rfl, hG⟩ := gr_of_owns sp hO.out; have hG' : Hid (GrIn w2 w1.heap.size g' ∧ g'.zs = T ∧ g'.sp = sp) := ⟨hG, e1, e2⟩; clear hG e1 e2 hO hc2)
  go_ret
  have hL2 : Lm w2 B q L := (hL.out.kept hb1.out).kept hb2.out
  have hz : B ≤ w1.heap.size := (hL.out.kept hb1.out).B_le
  obtain ⟨m1, m2⟩ := hL2.nset1 hg'.out g' (hG'.out.1.mono hz)
  rw [hG'.out.2.2] at m1 m2
  exact ⟨rfl, ⟨g', hG'.out.2.1, hG'.out.2.2, m1⟩, ((K4.of_below hb1.out).trans (K4.of_below hb2.out)).trans m2⟩
/-- What Turn answers. -/
def turnE (L : Lk) (n i : Int) : Int := if canE L n i ≠ 0 then canE L n i else match (netL L n)[i.toNat]? with
  | some g => if g.sp = true then 18 else 0
  | none => 0
/-- What Turn leaves. -/
def TurnS (L L' : Lk) (n i x : Int) (y : Nat) : Prop := (turnE L n i ≠ 0 → L' = L) ∧ (turnE L n i = 0 → ∃ g g' : Gr, (netL L n)[i.toNat]? = some g ∧ g.sp = false ∧ canE L n i = 0 ∧ g'.zs = turnL g.zs (x % ((g.zs.length : Int) - 3)).toNat y ∧ g'.sp = ((y : Int) != 0) ∧ L' = netS L n ((netL L n).set i.toNat g'))
theorem kturn_any {w : World} {B : Nat} {q : Qb} {L : Lk} (n i x : Int) (y : Nat) (h : Lm w B q L) (hG : ∀ g, g ∈ L.n0 ∨ g ∈ L.n1 → g.sp = false → 4 ≤ g.n ∧ g.n ≤ 100000) (hx : (Lit.int .i64 x).wf = true) (hy : y < 4294967296) :
    Calls Try.prog 32 #[.pointer (some ⟨q.lb, 0, none⟩), .int .i64 n, .int .i64 i, .int .i64 x, .int .u32 (y : Nat)] w fun e w' => e = .returned (.int .i64 (turnE L n i)) ∧ Hid (∃ L', TurnS L L' n i x y ∧ Lm w' B q L') ∧ Hid (K4 q w w') := by
  by_cases hE : canE L n i = 0
  · obtain ⟨h1, h2, h3⟩ := can_zero hE
    obtain ⟨i, rfl⟩ : ∃ k : Nat, i = (k : Int) := ⟨i.toNat, by omega⟩
    by_cases h0 : n = 0
    · subst h0
      have h3 : ((i : Nat) : Int) < L.n0.length := h3
      obtain ⟨g, hg⟩ : ∃ g, L.n0[i]? = some g := ⟨_, List.getElem?_eq_getElem (by omega)⟩
      have hgn : (netL L 0)[((i : Nat) : Int).toNat]? = some g := hg
      by_cases hs : g.sp = true
      · have e : turnE L 0 (i : Nat) = 18 := by unfold turnE; rw [if_neg (fun k => k hE), hgn]; show (if g.sp = true then (18 : Int) else 0) = 18; rw [if_pos hs]
        rw [e]
        refine (kturn0_sp i g x _ h hE hg hs).mono ?_
        rintro e' w' ⟨rfl, hb⟩
        exact ⟨rfl, ⟨L, ⟨fun _ => rfl, fun k => by rw [e] at k; cases k⟩, h.kept hb.out⟩, K4.of_below hb.out⟩
      · have hs : g.sp = false := by simpa using hs
        have e : turnE L 0 (i : Nat) = 0 := by unfold turnE; rw [if_neg (fun k => k hE), hgn]; show (if g.sp = true then (18 : Int) else 0) = 0; rw [hs]; rfl
        rw [e]
        obtain ⟨b1, b2⟩ := hG g (.inl (List.mem_of_getElem? hg)) hs
        have hlen := (h.gr g (.inl (List.mem_of_getElem? hg))).len
        refine (kturn0 i g x y h hE hg hs b1 b2 hx hy).mono ?_
        rintro e' w' ⟨rfl, hR, hK⟩
        obtain ⟨g', e1, e2, hL⟩ := hR.out
        exact ⟨rfl, ⟨_, ⟨fun k => absurd e k, fun _ => ⟨g, g', hgn, hs, hE, by rw [e1, ← hlen], e2, rfl⟩⟩, hL⟩, hK⟩
    · have hn1 : n = 1 := by
        unfold netB at h1
        simp at h1
        omega
      subst hn1
      have h3 : ((i : Nat) : Int) < L.n1.length := h3
      obtain ⟨g, hg⟩ : ∃ g, L.n1[i]? = some g := ⟨_, List.getElem?_eq_getElem (by omega)⟩
      have hgn : (netL L 1)[((i : Nat) : Int).toNat]? = some g := hg
      by_cases hs : g.sp = true
      · have e : turnE L 1 (i : Nat) = 18 := by unfold turnE; rw [if_neg (fun k => k hE), hgn]; show (if g.sp = true then (18 : Int) else 0) = 18; rw [if_pos hs]
        rw [e]
        refine (kturn1_sp i g x _ h hE hg hs).mono ?_
        rintro e' w' ⟨rfl, hb⟩
        exact ⟨rfl, ⟨L, ⟨fun _ => rfl, fun k => by rw [e] at k; cases k⟩, h.kept hb.out⟩, K4.of_below hb.out⟩
      · have hs : g.sp = false := by simpa using hs
        have e : turnE L 1 (i : Nat) = 0 := by unfold turnE; rw [if_neg (fun k => k hE), hgn]; show (if g.sp = true then (18 : Int) else 0) = 0; rw [hs]; rfl
        rw [e]
        obtain ⟨b1, b2⟩ := hG g (.inr (List.mem_of_getElem? hg)) hs
        have hlen := (h.gr g (.inr (List.mem_of_getElem? hg))).len
        refine (kturn1 i g x y h hE hg hs b1 b2 hx hy).mono ?_
        rintro e' w' ⟨rfl, hR, hK⟩
        obtain ⟨g', e1, e2, hL⟩ := hR.out
        exact ⟨rfl, ⟨_, ⟨fun k => absurd e k, fun _ => ⟨g, g', hgn, hs, hE, by rw [e1, ← hlen], e2, rfl⟩⟩, hL⟩, hK⟩
  · have e : turnE L n i = canE L n i := by unfold turnE; rw [if_pos hE]
    rw [e]
    refine (kturn_no n i x _ h hE).mono ?_
    rintro e' w' ⟨rfl, hb⟩
    exact ⟨rfl, ⟨L, ⟨fun _ => rfl, fun k => absurd (e.symm.trans k) hE⟩, h.kept hb.out⟩, K4.of_below hb.out⟩
end Go.Proofs.Ytfipdldoklkciaa
