/-
  Gaps between tokens: the text with a gap put together and read, in any order that Go leaves open.
  Gaps between tokens: the region as a whole.
  The constant texts of the program's own look, as plain data.
  The program's own look: a text has its tree, a wrong byte its place.
-/
import Derived.Test.YtmlacmoembjeoaaGreatDoorG24
import Derived.Lib.SlBytesConst
namespace Go.Proofs.YtmlacmoembjeoaaGreatDoor
open Go.RowKit
set_option linter.unusedVariables false

/-- What is given. -/
structure GC (W0 : World) (u0 : Nat → Value) (bb oo n0 c0 q : Nat) (g : Int) (zs : List Int) (T : Tr) : Prop where
  e0 : u0 0 = .slice (some ⟨bb, oo, none⟩) n0 c0
  e1 : u0 1 = .int .i64 q
  e11 : u0 11 = .int .u8 g
  hb : Bytes W0 (some ⟨bb, oo, none⟩) zs
  hl : zs.length = n0
  hq : q < n0
  hn : n0 < 4096
  hc : n0 ≤ c0
  hm : c0 ≤ 140737488351232
  hg : 0 ≤ g ∧ g < 256
  hp : parA (zs.take q ++ [g] ++ zs.drop q) = (T, 0, 0)
/-- The blocks that the tree read may lie in: not the two boxes. -/
def GS (L : Nat → Bool) (u : Nat → Value) (k : Nat) : Prop := (∀ p, L 15 = true → u 12 = .pointer (some ⟨p, 0, none⟩) → k ≠ p) ∧ (∀ p, L 16 = true → u 13 = .pointer (some ⟨p, 0, none⟩) → k ≠ p)
/-- What holds, whatever has been done so far. -/
structure GI (W0 : World) (u0 : Nat → Value) (bb oo n0 c0 q : Nat) (g : Int) (zs : List Int) (T : Tr) (L : Nat → Bool) (u : Nat → Value) (w : World) : Prop where
  old : ∀ k, (k < 12 ∨ (13 < k ∧ k < 57) ∨ 71 < k) → u k = u0 k
  bel : Below W0.heap.size W0 w
  f0 : L 0 = true → u 58 = .slice (some ⟨bb, oo, none⟩) n0 c0
  f1 : L 1 = true → u 59 = .int .i64 q
  f2 : L 2 = true → u 60 = .slice (some ⟨bb, oo, none⟩) q c0
  f3 : L 3 = true → L 6 = false → OwnsB w W0.heap.size (u 61) (zs.take q)
  f4 : L 4 = true → u 62 = .int .u8 g
  f5 : L 5 = true → L 6 = false → ∃ gb, u 63 = .slice (some ⟨gb, 0, none⟩) 1 1 ∧ Blk w gb #[.int .u8 g] 5
  f6 : L 6 = true → L 10 = false → OwnsB w W0.heap.size (u 64) (zs.take q ++ [g])
  f7 : L 7 = true → u 65 = .slice (some ⟨bb, oo, none⟩) n0 c0
  f8 : L 8 = true → u 66 = .int .i64 q
  f9 : L 9 = true → u 67 = .slice (some ⟨bb, oo + q, none⟩) (n0 - q) (c0 - q)
  f10 : L 10 = true → L 11 = false → OwnsB w W0.heap.size (u 68) (zs.take q ++ [g] ++ zs.drop q)
  f11 : L 11 = true → ∃ D b, u 69 = .tuple #[.agg b.arr, .agg #[.int .i64 0, .int .i64 0]] ∧ NdS (GS L u) D w b T ∧ (L 17 = true → ∃ p, u 12 = .pointer (some ⟨p, 0, none⟩) ∧ NBox w p b)
  f12 : L 12 = true → u 57 = u 69
  f13 : L 13 = true → ∃ b r, u 69 = .tuple #[.agg b, r] ∧ u 70 = .agg b
  f14 : L 14 = true → u 71 = .agg #[.int .i64 0, .int .i64 0]
  f15 : L 15 = true → L 17 = false → ∃ p, u 12 = .pointer (some ⟨p, 0, none⟩) ∧ NBox w p zN ∧ W0.heap.size ≤ p
  f16 : L 16 = true → ∃ p, u 13 = .pointer (some ⟨p, 0, none⟩) ∧ Blk w p #[.int .i64 0, .int .i64 0] 29 ∧ W0.heap.size ≤ p
  d10 : L 10 = true → L 6 = true
  d6 : L 6 = true → L 3 = true
  d6b : L 6 = true → L 5 = true
  d12 : L 12 = true → L 11 = true
  d13 : L 13 = true → L 12 = true
  d11 : L 11 = true → L 10 = true
  d17 : L 17 = true → L 11 = true ∧ L 15 = true

def up (L : Nat → Bool) (i : Nat) : Nat → Bool := fun k => if k = i then true else L k

theorem NdS.lt2 {S : Nat → Prop} : ∀ {d : Nat} {w : World} {b : Nb} {t : Tr}, NdS S d w b t → NdS (fun k => S k ∧ k < w.heap.size) d w b t := by
  intro d
  induction d with
  | zero => intro w b t h; exact h
  | succ d ih =>
    intro w b t h
    obtain ⟨h0, h1, h2, ⟨i0, i1, i2⟩, h3, h4⟩ := h
    have j0 : In (· < w.heap.size) b.ab b.lb := by have := bytes_in h2.2.2; rwa [h2.1] at this
    exact ⟨h0, h1, h2, ⟨fun a x e => ⟨i0 a x e, j0 a x e⟩, fun a x e => ⟨i1 a x e, h3.in a x e⟩, fun a x e => ⟨i2 a x e, h4.in a x e⟩⟩, h3.mono fun _ _ _ q => ih q, h4.mono fun _ _ _ q => ih q⟩
/-- A tree stays where nothing old turns, whatever is said of its blocks. -/
theorem NdS.stays2 {S : Nat → Prop} {d : Nat} {w w' : World} {b : Nb} {t : Tr} (h : NdS S d w b t) (hb : Below w.heap.size w w') : NdS S d w' b t := by
  have hlt : NdS (fun k => S k ∧ k < w.heap.size) d w b t := h.lt2
  exact (hlt.stays fun k hk => hb.block k hk.2).mono fun k hk => hk.1
/-- Where nothing old turns all stays. -/
theorem GI.kept {W0 : World} {u0 : Nat → Value} {bb oo n0 c0 q : Nat} {g : Int} {zs : List Int} {T : Tr} {L : Nat → Bool} {u : Nat → Value} {w w' : World} (h : GI W0 u0 bb oo n0 c0 q g zs T L u w) (hb : Below w.heap.size w w') : GI W0 u0 bb oo n0 c0 q g zs T L u w' :=
  { h with
    bel := h.bel.trans (hb.mono h.bel.size)
    f3 := fun a b => (h.f3 a b).below hb
    f5 := fun a b => let ⟨x, y, z⟩ := h.f5 a b; ⟨x, y, z.kept hb z.lt⟩
    f6 := fun a b => (h.f6 a b).below hb
    f10 := fun a b => (h.f10 a b).below hb
    f11 := fun a => let ⟨D, b, x, y, z⟩ := h.f11 a; ⟨D, b, x, (y.stays2 hb), fun c => let ⟨p, r, s⟩ := z c; ⟨p, r, s.kept hb s.lt⟩⟩
    f15 := fun a b => let ⟨x, y, z, t⟩ := h.f15 a b; ⟨x, y, z.kept hb z.lt, t⟩
    f16 := fun a => let ⟨x, y, z, t⟩ := h.f16 a; ⟨x, y, z.kept hb z.lt, t⟩ }
theorem old_upd {u u0 : Nat → Value} {d : Nat} (v : Value) (h : ∀ k, (k < 12 ∨ (13 < k ∧ k < 57) ∨ 71 < k) → u k = u0 k) (hd : (11 < d ∧ d < 14) ∨ (56 < d ∧ d < 72)) : ∀ k, (k < 12 ∨ (13 < k ∧ k < 57) ∨ 71 < k) → upd u d v k = u0 k :=
  fun k hk => by rw [upd_ne u v (by omega)]; exact h k hk
theorem gi0 {W0 : World} {u0 : Nat → Value} {bb oo n0 c0 q : Nat} {g : Int} {zs : List Int} {T : Tr} {L : Nat → Bool} {u : Nat → Value} {w : World} (c : GC W0 u0 bb oo n0 c0 q g zs T) (h : GI W0 u0 bb oo n0 c0 q g zs T L u w) : GI W0 u0 bb oo n0 c0 q g zs T (up L 0) (upd u 58 (u 0)) w :=
  { h with old := old_upd _ h.old (by omega), f0 := fun _ => (h.old 0 (by omega)).trans c.e0 }
theorem gi1 {W0 : World} {u0 : Nat → Value} {bb oo n0 c0 q : Nat} {g : Int} {zs : List Int} {T : Tr} {L : Nat → Bool} {u : Nat → Value} {w : World} (c : GC W0 u0 bb oo n0 c0 q g zs T) (h : GI W0 u0 bb oo n0 c0 q g zs T L u w) : GI W0 u0 bb oo n0 c0 q g zs T (up L 1) (upd u 59 (u 1)) w :=
  { h with old := old_upd _ h.old (by omega), f1 := fun _ => (h.old 1 (by omega)).trans c.e1 }
theorem gi2 {W0 : World} {u0 : Nat → Value} {bb oo n0 c0 q : Nat} {g : Int} {zs : List Int} {T : Tr} {L : Nat → Bool} {u : Nat → Value} {w : World} (c : GC W0 u0 bb oo n0 c0 q g zs T) (h : GI W0 u0 bb oo n0 c0 q g zs T L u w) : GI W0 u0 bb oo n0 c0 q g zs T (up L 2) (upd u 60 (.slice (some ⟨bb, oo, none⟩) q c0)) w :=
  { h with old := old_upd _ h.old (by omega), f2 := fun _ => rfl }
theorem gi4 {W0 : World} {u0 : Nat → Value} {bb oo n0 c0 q : Nat} {g : Int} {zs : List Int} {T : Tr} {L : Nat → Bool} {u : Nat → Value} {w : World} (c : GC W0 u0 bb oo n0 c0 q g zs T) (h : GI W0 u0 bb oo n0 c0 q g zs T L u w) : GI W0 u0 bb oo n0 c0 q g zs T (up L 4) (upd u 62 (u 11)) w :=
  { h with old := old_upd _ h.old (by omega), f4 := fun _ => (h.old 11 (by omega)).trans c.e11 }
theorem gi7 {W0 : World} {u0 : Nat → Value} {bb oo n0 c0 q : Nat} {g : Int} {zs : List Int} {T : Tr} {L : Nat → Bool} {u : Nat → Value} {w : World} (c : GC W0 u0 bb oo n0 c0 q g zs T) (h : GI W0 u0 bb oo n0 c0 q g zs T L u w) : GI W0 u0 bb oo n0 c0 q g zs T (up L 7) (upd u 65 (u 0)) w :=
  { h with old := old_upd _ h.old (by omega), f7 := fun _ => (h.old 0 (by omega)).trans c.e0 }
theorem gi8 {W0 : World} {u0 : Nat → Value} {bb oo n0 c0 q : Nat} {g : Int} {zs : List Int} {T : Tr} {L : Nat → Bool} {u : Nat → Value} {w : World} (c : GC W0 u0 bb oo n0 c0 q g zs T) (h : GI W0 u0 bb oo n0 c0 q g zs T L u w) : GI W0 u0 bb oo n0 c0 q g zs T (up L 8) (upd u 66 (u 1)) w :=
  { h with old := old_upd _ h.old (by omega), f8 := fun _ => (h.old 1 (by omega)).trans c.e1 }
theorem gi9 {W0 : World} {u0 : Nat → Value} {bb oo n0 c0 q : Nat} {g : Int} {zs : List Int} {T : Tr} {L : Nat → Bool} {u : Nat → Value} {w : World} (c : GC W0 u0 bb oo n0 c0 q g zs T) (h : GI W0 u0 bb oo n0 c0 q g zs T L u w) : GI W0 u0 bb oo n0 c0 q g zs T (up L 9) (upd u 67 (.slice (some ⟨bb, oo + q, none⟩) (n0 - q) (c0 - q))) w :=
  { h with old := old_upd _ h.old (by omega), f9 := fun _ => rfl }
theorem gi12 {W0 : World} {u0 : Nat → Value} {bb oo n0 c0 q : Nat} {g : Int} {zs : List Int} {T : Tr} {L : Nat → Bool} {u : Nat → Value} {w : World} (c : GC W0 u0 bb oo n0 c0 q g zs T) (h : GI W0 u0 bb oo n0 c0 q g zs T L u w) (h11 : L 11 = true) : GI W0 u0 bb oo n0 c0 q g zs T (up L 12) (upd u 57 (u 69)) w :=
  { h with old := old_upd _ h.old (by omega), f12 := fun _ => rfl, d12 := fun _ => h11, d13 := fun _ => rfl }
theorem gi14 {W0 : World} {u0 : Nat → Value} {bb oo n0 c0 q : Nat} {g : Int} {zs : List Int} {T : Tr} {L : Nat → Bool} {u : Nat → Value} {w : World} (c : GC W0 u0 bb oo n0 c0 q g zs T) (h : GI W0 u0 bb oo n0 c0 q g zs T L u w) : GI W0 u0 bb oo n0 c0 q g zs T (up L 14) (upd u 71 (.agg #[.int .i64 0, .int .i64 0])) w :=
  { h with old := old_upd _ h.old (by omega), f14 := fun _ => rfl }
theorem nb_inj {b c : Nb} (h : b.arr = c.arr) : b = c := by
  cases b; cases c
  simp [Nb.arr] at h
  simp [h]

theorem own_other {w w' : World} {base p : Nat} {v : Value} {zs : List Int} {cs : Array Value} {T : TypeId} (h : OwnsB w base v zs) (hg : w.grownBy w' v.ownBlock) (hp : Blk w p cs T) (hT : T ≠ 5) : Blk w' p cs T := by
  refine (hg.block p hp.lt fun e => ?_).trans hp
  rcases h.1.2 with ⟨hv, _⟩ | ⟨k, cap, cur, hv, hk, hc, _⟩
  · rw [hv] at e; simp [Value.ownBlock] at e
  · rw [hv] at e
    simp [Value.ownBlock] at e
    subst e
    unfold Blk at hp
    rw [hc] at hp
    simp at hp
    exact hT hp.2.symm
theorem grown_none {w w' : World} (hb : w.grownBy w' none) : Below w.heap.size w w' := ⟨hb.os, hb.tape, hb.output, hb.size, fun k hk => hb.block k hk (fun e => by cases e)⟩
theorem gi3 {W0 : World} {u0 : Nat → Value} {bb oo n0 c0 q : Nat} {g : Int} {zs : List Int} {T : Tr} {L : Nat → Bool} {u : Nat → Value} {w w' : World} (c : GC W0 u0 bb oo n0 c0 q g zs T) (h : GI W0 u0 bb oo n0 c0 q g zs T L u w) {v : Value} (h6 : L 6 = false) (ho : OwnsB w' W0.heap.size v (zs.take q)) (hg : w.grownBy w' none) : GI W0 u0 bb oo n0 c0 q g zs T (up L 3) (upd u 61 v) w' :=
  { h.kept (grown_none hg) with old := old_upd _ h.old (by omega), f3 := fun _ _ => ho, d6 := fun _ => rfl }
theorem gi5 {W0 : World} {u0 : Nat → Value} {bb oo n0 c0 q : Nat} {g : Int} {zs : List Int} {T : Tr} {L : Nat → Bool} {u : Nat → Value} {w w' : World} (c : GC W0 u0 bb oo n0 c0 q g zs T) (h : GI W0 u0 bb oo n0 c0 q g zs T L u w) (h6 : L 6 = false) : GI W0 u0 bb oo n0 c0 q g zs T (up L 5) (upd u 63 (.slice (some ⟨w.heap.size, 0, none⟩) 1 1)) (w.alloc (.cells #[.int .u8 g] 5)) :=
  { h.kept (alloc_below w _) with old := old_upd _ h.old (by omega), f5 := fun _ _ => ⟨_, rfl, blk_new w _ _⟩, d6b := fun _ => rfl }
theorem gi6 {W0 : World} {u0 : Nat → Value} {bb oo n0 c0 q : Nat} {g : Int} {zs : List Int} {T : Tr} {L : Nat → Bool} {u : Nat → Value} {w w' : World} (c : GC W0 u0 bb oo n0 c0 q g zs T) (h : GI W0 u0 bb oo n0 c0 q g zs T L u w) {v : Value} (h3 : L 3 = true) (h6 : L 6 = false) (h5 : L 5 = true) (ho : OwnsB w' W0.heap.size v (zs.take q ++ [g])) (hg : w.grownBy w' (u 61).ownBlock) : GI W0 u0 bb oo n0 c0 q g zs T (up L 6) (upd u 64 v) w' := by
  have h10 : L 10 = false := by cases e : L 10 with | false => rfl | true => exact absurd (h.d10 e) (by rw [h6]; decide)
  have h11 : L 11 = false := by cases e : L 11 with | false => rfl | true => exact absurd (h.d11 e) (by rw [h10]; decide)
  have hx := h.f3 h3 h6
  exact { h with
    old := old_upd _ h.old (by omega)
    bel := grown_below h.bel hx hg h.bel.size
    f3 := fun _ e => absurd (show true = false from e) (by decide)
    f5 := fun _ e => absurd (show true = false from e) (by decide)
    f6 := fun _ _ => ho
    f10 := fun e _ => absurd (show L 10 = true from e) (by rw [h10]; decide)
    f11 := fun e => absurd (show L 11 = true from e) (by rw [h11]; decide)
    f15 := fun a b => let ⟨x, y, z, t⟩ := h.f15 a b; ⟨x, y, own_other hx hg z (by decide), t⟩
    f16 := fun a => let ⟨x, y, z, t⟩ := h.f16 a; ⟨x, y, own_other hx hg z (by decide), t⟩
    d10 := fun _ => rfl
    d6 := fun _ => h3
    d6b := fun _ => h5 }
theorem gi10 {W0 : World} {u0 : Nat → Value} {bb oo n0 c0 q : Nat} {g : Int} {zs : List Int} {T : Tr} {L : Nat → Bool} {u : Nat → Value} {w w' : World} (c : GC W0 u0 bb oo n0 c0 q g zs T) (h : GI W0 u0 bb oo n0 c0 q g zs T L u w) {v : Value} (h6 : L 6 = true) (h10 : L 10 = false) (ho : OwnsB w' W0.heap.size v (zs.take q ++ [g] ++ zs.drop q)) (hg : w.grownBy w' (u 64).ownBlock) : GI W0 u0 bb oo n0 c0 q g zs T (up L 10) (upd u 68 v) w' := by
  have h11 : L 11 = false := by cases e : L 11 with | false => rfl | true => exact absurd (h.d11 e) (by rw [h10]; decide)
  have hx := h.f6 h6 h10
  exact { h with
    old := old_upd _ h.old (by omega)
    bel := grown_below h.bel hx hg h.bel.size
    f3 := fun _ e => absurd (show L 6 = false from e) (by rw [h6]; decide)
    f5 := fun _ e => absurd (show L 6 = false from e) (by rw [h6]; decide)
    f6 := fun _ e => absurd (show true = false from e) (by decide)
    f10 := fun _ _ => ho
    f11 := fun e => absurd (show L 11 = true from e) (by rw [h11]; decide)
    f15 := fun a b => let ⟨x, y, z, t⟩ := h.f15 a b; ⟨x, y, own_other hx hg z (by decide), t⟩
    f16 := fun a => let ⟨x, y, z, t⟩ := h.f16 a; ⟨x, y, own_other hx hg z (by decide), t⟩
    d10 := fun _ => h6
    d11 := fun _ => rfl }
theorem gi11 {W0 : World} {u0 : Nat → Value} {bb oo n0 c0 q : Nat} {g : Int} {zs : List Int} {T : Tr} {L : Nat → Bool} {u : Nat → Value} {w w' : World} (c : GC W0 u0 bb oo n0 c0 q g zs T) (h : GI W0 u0 bb oo n0 c0 q g zs T L u w) {D : Nat} {b : Nb} (h10 : L 10 = true) (h11 : L 11 = false) (hN : NdS (fun k => w.heap.size ≤ k ∧ k < w'.heap.size) D w' b T) (hb : Below w.heap.size w w') : GI W0 u0 bb oo n0 c0 q g zs T (up L 11) (upd u 69 (.tuple #[.agg b.arr, .agg #[.int .i64 0, .int .i64 0]])) w' := by
  have h17 : L 17 = false := by cases e : L 17 with | false => rfl | true => exact absurd (h.d17 e).1 (by rw [h11]; decide)
  have h12 : L 12 = true → False := fun e => absurd (h.d12 e) (by rw [h11]; decide)
  have h13 : L 13 = true → False := fun e => h12 (h.d13 e)
  have hk := h.kept hb
  exact { hk with
    old := old_upd _ h.old (by omega)
    f10 := fun _ e => absurd (show true = false from e) (by decide)
    f11 := fun _ => ⟨D, b, rfl, hN.mono fun k hk' => ⟨fun p e15 ep => by
        obtain ⟨x, y, z, _⟩ := h.f15 e15 h17
        have e := y.symm.trans ep
        simp at e
        have := z.lt
        omega, fun p e16 ep => by
        obtain ⟨x, y, z, _⟩ := h.f16 e16
        have e := y.symm.trans ep
        simp at e
        have := z.lt
        omega⟩, fun e => absurd (show L 17 = true from e) (by rw [h17]; decide)⟩
    f12 := fun e => absurd e h12
    f13 := fun e => absurd e h13
    d11 := fun _ => h10
    d12 := fun e => absurd e h12
    d17 := fun e => absurd (show L 17 = true from e) (by rw [h17]; decide) }
theorem gi13 {W0 : World} {u0 : Nat → Value} {bb oo n0 c0 q : Nat} {g : Int} {zs : List Int} {T : Tr} {L : Nat → Bool} {u : Nat → Value} {w w' : World} (c : GC W0 u0 bb oo n0 c0 q g zs T) (h : GI W0 u0 bb oo n0 c0 q g zs T L u w) (h12 : L 12 = true) : ∃ b r, u 57 = .tuple #[.agg b, r] ∧ GI W0 u0 bb oo n0 c0 q g zs T (up L 13) (upd u 70 (.agg b)) w := by
  obtain ⟨D, b, h1, _⟩ := h.f11 (h.d12 h12)
  exact ⟨b.arr, _, (h.f12 h12).trans h1, { h with old := old_upd _ h.old (by omega), f13 := fun _ => ⟨_, _, h1, rfl⟩, d13 := fun _ => h12 }⟩
theorem gi14b {W0 : World} {u0 : Nat → Value} {bb oo n0 c0 q : Nat} {g : Int} {zs : List Int} {T : Tr} {L : Nat → Bool} {u : Nat → Value} {w w' : World} (c : GC W0 u0 bb oo n0 c0 q g zs T) (h : GI W0 u0 bb oo n0 c0 q g zs T L u w) (h12 : L 12 = true) : ∃ b, u 57 = .tuple #[b, .agg #[.int .i64 0, .int .i64 0]] := by
  obtain ⟨D, b, h1, _⟩ := h.f11 (h.d12 h12)
  exact ⟨_, (h.f12 h12).trans h1⟩
theorem gi15 {W0 : World} {u0 : Nat → Value} {bb oo n0 c0 q : Nat} {g : Int} {zs : List Int} {T : Tr} {L : Nat → Bool} {u : Nat → Value} {w w' : World} (c : GC W0 u0 bb oo n0 c0 q g zs T) (h : GI W0 u0 bb oo n0 c0 q g zs T L u w) (h15 : L 15 = false) : GI W0 u0 bb oo n0 c0 q g zs T (up L 15) (upd u 12 (.pointer (some ⟨w.heap.size, 0, none⟩))) (w.alloc (.cells zN.arr 26)) := by
  have hk := h.kept (alloc_below w (.cells zN.arr 26))
  have h17 : L 17 = false := by cases e : L 17 with | false => rfl | true => exact absurd (h.d17 e).2 (by rw [h15]; decide)
  exact { hk with
    old := old_upd _ h.old (by omega)
    f11 := fun a => let ⟨D, b, x, y, z⟩ := h.f11 a; ⟨D, b, x, (y.lt2.stays fun k hk => (alloc_below w (.cells zN.arr 26)).block k hk.2).mono fun k hk => ⟨fun p _ ep => by
        have e : Value.pointer (some ⟨w.heap.size, 0, none⟩) = .pointer (some ⟨p, 0, none⟩) := ep
        simp at e
        have := hk.2
        omega, hk.1.2⟩, fun e => absurd (show L 17 = true from e) (by rw [h17]; decide)⟩
    f15 := fun _ _ => ⟨_, rfl, nbox_new w zN, h.bel.size⟩
    d17 := fun e => absurd (show L 17 = true from e) (by rw [h17]; decide) }
theorem gi16 {W0 : World} {u0 : Nat → Value} {bb oo n0 c0 q : Nat} {g : Int} {zs : List Int} {T : Tr} {L : Nat → Bool} {u : Nat → Value} {w w' : World} (c : GC W0 u0 bb oo n0 c0 q g zs T) (h : GI W0 u0 bb oo n0 c0 q g zs T L u w) (h16 : L 16 = false) : GI W0 u0 bb oo n0 c0 q g zs T (up L 16) (upd u 13 (.pointer (some ⟨w.heap.size, 0, none⟩))) (w.alloc (.cells #[.int .i64 0, .int .i64 0] 29)) := by
  have hk := h.kept (alloc_below w (.cells #[.int .i64 0, .int .i64 0] 29))
  exact { hk with
    old := old_upd _ h.old (by omega)
    f11 := fun a => let ⟨D, b, x, y, z⟩ := h.f11 a; ⟨D, b, x, (y.lt2.stays fun k hk => (alloc_below w (.cells #[.int .i64 0, .int .i64 0] 29)).block k hk.2).mono fun k hk => ⟨hk.1.1, fun p _ ep => by
        have e : Value.pointer (some ⟨w.heap.size, 0, none⟩) = .pointer (some ⟨p, 0, none⟩) := ep
        simp at e
        have := hk.2
        omega⟩, fun c => let ⟨p, r, s⟩ := z c; ⟨p, r, s.kept (alloc_below w _) s.lt⟩⟩
    f16 := fun _ => ⟨_, rfl, blk_new w _ _, h.bel.size⟩ }
/-- A block turned that is at or above the base. -/
theorem gi17 {W0 : World} {u0 : Nat → Value} {bb oo n0 c0 q : Nat} {g : Int} {zs : List Int} {T : Tr} {L : Nat → Bool} {u : Nat → Value} {w w' : World} (c : GC W0 u0 bb oo n0 c0 q g zs T) (h : GI W0 u0 bb oo n0 c0 q g zs T L u w) {p : Nat} {b : Nb} {z : Nb} (h6 : L 6 = true) (h10 : L 10 = true) (h11 : L 11 = true) (h15 : L 15 = true) (h17 : L 17 = false) (hp : u 12 = .pointer (some ⟨p, 0, none⟩)) (hb : ∃ r, u 69 = .tuple #[.agg b.arr, r]) (hz : NBox w p z) (hW : W0.heap.size ≤ p) (hn : NBox w' p b) (hk : Kp (fun k => k = p) w w') : GI W0 u0 bb oo n0 c0 q g zs T (up L 17) u w' := by
  obtain ⟨D, b', h1, h2, _⟩ := h.f11 h11
  obtain ⟨r, hr⟩ := hb
  have e : b' = b := by
    have e := h1.symm.trans hr
    simp at e
    exact nb_inj e.1
  subst e
  exact { h with
    bel := h.bel.trans (hk.below h.bel.size fun k e => by omega)
    f3 := fun _ e => absurd (show L 6 = false from e) (by rw [h6]; decide)
    f5 := fun _ e => absurd (show L 6 = false from e) (by rw [h6]; decide)
    f6 := fun _ e => absurd (show L 10 = false from e) (by rw [h10]; decide)
    f10 := fun _ e => absurd (show L 11 = false from e) (by rw [h11]; decide)
    f11 := fun _ => ⟨D, b', h1, (h2.lt2.stays fun k hk' => hk.block k hk'.2 (hk'.1.1 p h15 hp)).mono fun k hk' => hk'.1, fun _ => ⟨p, hp, hn⟩⟩
    f15 := fun _ e => absurd (show true = false from e) (by decide)
    f16 := fun a => let ⟨x, y, s, t⟩ := h.f16 a; ⟨x, y, (hk.block x s.lt (fun e => by
      subst e
      unfold Blk at s
      unfold NBox at hz
      rw [hz] at s
      simp at s)).trans s, t⟩
    d17 := fun _ => ⟨h11, h15⟩ }
theorem gi18 {W0 : World} {u0 : Nat → Value} {bb oo n0 c0 q : Nat} {g : Int} {zs : List Int} {T : Tr} {L : Nat → Bool} {u : Nat → Value} {w w' : World} (c : GC W0 u0 bb oo n0 c0 q g zs T) (h : GI W0 u0 bb oo n0 c0 q g zs T L u w) {p : Nat} (h6 : L 6 = true) (h10 : L 10 = true) (h11 : L 11 = true) (h16 : L 16 = true) (h17 : L 17 = true) (hp : u 13 = .pointer (some ⟨p, 0, none⟩)) (hz : Blk w p #[.int .i64 0, .int .i64 0] 29) (hW : W0.heap.size ≤ p) (hn : Blk w' p #[.int .i64 0, .int .i64 0] 29) (hk : Kp (fun k => k = p) w w') : GI W0 u0 bb oo n0 c0 q g zs T (up L 18) u w' := by
  obtain ⟨D, b', h1, h2, h3⟩ := h.f11 h11
  exact { h with
    bel := h.bel.trans (hk.below h.bel.size fun k e => by omega)
    f3 := fun _ e => absurd (show L 6 = false from e) (by rw [h6]; decide)
    f5 := fun _ e => absurd (show L 6 = false from e) (by rw [h6]; decide)
    f6 := fun _ e => absurd (show L 10 = false from e) (by rw [h10]; decide)
    f10 := fun _ e => absurd (show L 11 = false from e) (by rw [h11]; decide)
    f11 := fun _ => ⟨D, b', h1, (h2.lt2.stays fun k hk' => hk.block k hk'.2 (hk'.1.2 p h16 hp)).mono fun k hk' => hk'.1, fun c => let ⟨x, y, s⟩ := h3 c; ⟨x, y, s.same (hk.block x s.lt (fun e => by
      subst e
      unfold Blk at hz
      unfold NBox at s
      rw [hz] at s
      simp at s))⟩⟩
    f15 := fun _ e => absurd (show L 17 = false from e) (by rw [h17]; decide)
    f16 := fun _ => ⟨p, hp, hn, hW⟩ }

/-- A Go function called, as a step of a region. -/
theorem step_callE {f : FuncId} {v : Value} {w : World} {ops : Array Oper} {o : Oper} {a : Act} {K : Act → World → Prop} {Q : Exit → Act → World → Prop} {E : Prop} {R : Value → World → Prop} (hgd : o.guard = none) (n : Nat) (T : TypeId)
    (ho : o.op = .call { callee := .value (.func f), args := #[.tmp n], argTypes := #[T] }) (hx : a.eval (.tmp n) = v) (hcf : ∀ args w, (callFunc f args).run Tryz.prog w = .ok (.enter f args) w)
    (k : Calls Tryz.prog f #[v] w fun e w' => ∃ r, e = .returned r ∧ R r w') (h : ∀ r w', R r w' → K (a.put o.dst r) w') :
    if Region.wanted o (yielded ops a.tmps) = true then Oper.wp Tryz.prog o a w K Q else E := by
  have hw : Region.wanted o (yielded ops a.tmps) = true := by simp [Region.wanted, hgd]
  rw [if_pos hw]
  unfold Oper.wp
  simp [Act.eval] at hx
  simp [execOp, ho, resolve, invoke, hcf, hx, go_sem]
  refine Calls.mono (R := fun e w' => ∃ r, e = .returned r ∧ R r w') k ?_
  rintro e w' ⟨r, he, hr⟩
  subst he
  exact h r w' hr
/-- Bytes appended to bytes of one's own, as a step of a region. -/
theorem step_append_b {w : World} {ops : Array Oper} {o : Oper} {a : Act} {K : Act → World → Prop} {Q : Exit → Act → World → Prop} {E : Prop} (hgd : o.guard = none) (s x : Operand)
    (ho : o.op = .call { callee := .builtin .append, args := #[s, x], argTypes := #[22, 22] })
    (base : Nat) (v : Value) (ys zs : List Int) (hs : a.eval s = v) (hown : OwnsB w base v ys)
    (ad : Addr) (m c : Nat) (hx : a.eval x = .slice (some ad) m c) (hm : zs.length = m) (hb : Bytes w (some ad) zs)
    (hbytes : ys.length + zs.length ≤ 140737488355328) (hbase : base ≤ w.heap.size)
    (h : ∀ v' w', OwnsB w' base v' (ys ++ zs) → w.grownBy w' v.ownBlock → K (a.put o.dst v') w') :
    if Region.wanted o (yielded ops a.tmps) = true then Oper.wp Tryz.prog o a w K Q else E := by
  have hw : Region.wanted o (yielded ops a.tmps) = true := by simp [Region.wanted, hgd]
  rw [if_pos hw]
  subst hm
  obtain ⟨i, hi, hz, hsz, hby⟩ := info_parts info5
  refine wp_append_own w s x 22 ho base 5 i (.int .u8 0) 1 1 Tryz.underlying22 hi hz hsz hby rfl (by decide) v ys.length _ hs hown.1 ad zs.length c (zs.map (Value.int .u8)) hx (by simp) (bytes_news hb) (bytes_one zs) ?_ (by omega) hbase ?_
  · unfold maxLen; omega
  · intro v' w' ho' hg _
    refine h v' w' ⟨?_, fun c hc => ?_⟩ hg
    · rw [List.length_append, List.map_append]
      exact ho'
    · rcases List.mem_append.1 hc with h1 | h1
      · exact hown.2 c h1
      · exact hb.1 c h1
end Go.Proofs.YtmlacmoembjeoaaGreatDoor
namespace Go.Proofs.YtmlacmoembjeoaaGreatDoor
open Go.RowKit
set_option linter.unusedVariables false
def GX (W0 : World) (u0 : Nat → Value) (bb oo n0 c0 q : Nat) (g : Int) (zs : List Int) (T : Tr) (d : List Deferred) (listed : Array Bool) (a : Act) (w : World) : Prop :=
  ∃ u, a = frm 83 u d ∧ listed.size = 19 ∧ GI W0 u0 bb oo n0 c0 q g zs T (fun k => listed.getD k false) u w
theorem gx_put {W0 : World} {u0 : Nat → Value} {bb oo n0 c0 q : Nat} {g : Int} {zs : List Int} {T : Tr} {d : List Deferred} {listed : Array Bool} {i dd : Nat} {u : Nat → Value} {v : Value} {w : World} (hsz : listed.size = 19) (hi : i < 19) (h : GI W0 u0 bb oo n0 c0 q g zs T (up (fun k => listed.getD k false) i) (upd u dd v) w) : GX W0 u0 bb oo n0 c0 q g zs T d (listed.setIfInBounds i true) ((frm 83 u d).put (some dd) v) w :=
  ⟨_, frm_put, by simp [hsz], by rw [show (fun k => (listed.setIfInBounds i true).getD k false) = up (fun k => listed.getD k false) i from funext fun k => got_set (by omega)]; exact h⟩
theorem gx_none {W0 : World} {u0 : Nat → Value} {bb oo n0 c0 q : Nat} {g : Int} {zs : List Int} {T : Tr} {d : List Deferred} {listed : Array Bool} {i : Nat} {u : Nat → Value} {v : Value} {w : World} (hsz : listed.size = 19) (hi : i < 19) (h : GI W0 u0 bb oo n0 c0 q g zs T (up (fun k => listed.getD k false) i) u w) : GX W0 u0 bb oo n0 c0 q g zs T d (listed.setIfInBounds i true) ((frm 83 u d).put none v) w :=
  ⟨u, rfl, by simp [hsz], by rw [show (fun k => (listed.setIfInBounds i true).getD k false) = up (fun k => listed.getD k false) i from funext fun k => got_set (by omega)]; exact h⟩
theorem k1_set (w : World) (p j : Nat) (v : Value) : Kp (fun k => k = p) w (w.setCell ⟨p, j, none⟩ v) := ⟨rfl, rfl, rfl, by simp [World.setCell], fun k _ hc => setk hc v⟩
theorem n1_set {w w' : World} {p : Nat} {z b : Nb} (h : NBox w' p z ∧ Kp (fun k => k = p) w w') (b' : Nb) (j : Nat) (v : Value) (hv : b'.arr = z.arr.setIfInBounds j v) : NBox (w'.setCell ⟨p, j, none⟩ v) p b' ∧ Kp (fun k => k = p) w (w'.setCell ⟨p, j, none⟩ v) := ⟨nbox_setc h.1 j v hv, h.2.trans (k1_set _ _ _ _)⟩
theorem nine_kp {w : World} {p : Nat} {z b : Nb} (h : NBox w p z) : NBox (((((((((w.setCell ⟨p, 0, none⟩ (.int .i64 b.kind)).setCell ⟨p, 1, none⟩ (.int .u64 b.num)).setCell ⟨p, 2, none⟩ (.bool b.neg)).setCell ⟨p, 3, none⟩ (.string b.dig)).setCell ⟨p, 4, none⟩ (.int .i64 b.exp)).setCell ⟨p, 5, none⟩ (.string b.txt)).setCell ⟨p, 6, none⟩ (.slice b.ab b.lb b.cb)).setCell ⟨p, 7, none⟩ (.slice b.ak b.lk b.ck)).setCell ⟨p, 8, none⟩ (.slice b.ai b.li b.ci)) p b ∧ Kp (fun k => k = p) w (((((((((w.setCell ⟨p, 0, none⟩ (.int .i64 b.kind)).setCell ⟨p, 1, none⟩ (.int .u64 b.num)).setCell ⟨p, 2, none⟩ (.bool b.neg)).setCell ⟨p, 3, none⟩ (.string b.dig)).setCell ⟨p, 4, none⟩ (.int .i64 b.exp)).setCell ⟨p, 5, none⟩ (.string b.txt)).setCell ⟨p, 6, none⟩ (.slice b.ab b.lb b.cb)).setCell ⟨p, 7, none⟩ (.slice b.ak b.lk b.ck)).setCell ⟨p, 8, none⟩ (.slice b.ai b.li b.ci)) := by
  obtain ⟨x0, x1, x2, x3, x4, x5, xa, xb, xc, xd, xe, xf, xg, xh, xi⟩ := b
  obtain ⟨c0, c1, c2, c3, c4, c5, ca, cb, cc, cd, ce, cf, cg, ch, ci⟩ := z
  have h0 := n1_set (b := zN) ⟨h, Kp.refl _ _⟩ ⟨x0, c1, c2, c3, c4, c5, ca, cb, cc, cd, ce, cf, cg, ch, ci⟩ 0 _ rfl
  have h1 := n1_set (b := zN) h0 ⟨x0, x1, c2, c3, c4, c5, ca, cb, cc, cd, ce, cf, cg, ch, ci⟩ 1 _ rfl
  have h2 := n1_set (b := zN) h1 ⟨x0, x1, x2, c3, c4, c5, ca, cb, cc, cd, ce, cf, cg, ch, ci⟩ 2 _ rfl
  have h3 := n1_set (b := zN) h2 ⟨x0, x1, x2, x3, c4, c5, ca, cb, cc, cd, ce, cf, cg, ch, ci⟩ 3 _ rfl
  have h4 := n1_set (b := zN) h3 ⟨x0, x1, x2, x3, x4, c5, ca, cb, cc, cd, ce, cf, cg, ch, ci⟩ 4 _ rfl
  have h5 := n1_set (b := zN) h4 ⟨x0, x1, x2, x3, x4, x5, ca, cb, cc, cd, ce, cf, cg, ch, ci⟩ 5 _ rfl
  have h6 := n1_set (b := zN) h5 ⟨x0, x1, x2, x3, x4, x5, xa, xb, xc, cd, ce, cf, cg, ch, ci⟩ 6 _ rfl
  have h7 := n1_set (b := zN) h6 ⟨x0, x1, x2, x3, x4, x5, xa, xb, xc, xd, xe, xf, cg, ch, ci⟩ 7 _ rfl
  exact n1_set (b := zN) h7 ⟨x0, x1, x2, x3, x4, x5, xa, xb, xc, xd, xe, xf, xg, xh, xi⟩ 8 _ rfl
theorem byte_one {w : World} {gb : Nat} {g : Int} (h : Blk w gb #[.int .u8 g] 5) (hg : 0 ≤ g ∧ g < 256) : Bytes w (some ⟨gb, 0, none⟩) [g] := by
  refine ⟨fun c hc => by simp at hc; subst hc; exact hg, by show 1 ≤ maxLen; unfold maxLen; omega, .inr ⟨gb, 0, rfl, fun i hi => ?_⟩⟩
  have e : i = 0 := by simp at hi; omega
  subst e
  exact h.cell 0
set_option maxRecDepth 100000 in
/-- THE REGION, in whatever order. -/
theorem gap_region {W0 : World} {u0 : Nat → Value} {bb oo n0 c0 q : Nat} {g : Int} {zs : List Int} {T : Tr} (c : GC W0 u0 bb oo n0 c0 q g zs T) (d : List Deferred) (Q : Exit → Act → World → Prop)
    (hQ : ∀ u w p12 p13 D b, (∀ k, (k < 12 ∨ (13 < k ∧ k < 57) ∨ 71 < k) → u k = u0 k) → u 12 = .pointer (some ⟨p12, 0, none⟩) → u 13 = .pointer (some ⟨p13, 0, none⟩) → Below W0.heap.size W0 w → NBox w p12 b → Nd D w b T → Blk w p13 #[.int .i64 0, .int .i64 0] 29 → Q .normal (frm 83 u d) w) :
    wpAny Tryz.prog .any gapOps Q 19 (Array.replicate 19 false) (frm 83 u0 d) W0 := by
  have hL : ∀ k, (Array.replicate 19 false).getD k false = false := fun k => by
    rcases Nat.lt_or_ge k 19 with hk | hk
    · simp [hk]
    · simp [Nat.not_lt.2 hk]
  refine wpAny_inv (GX W0 u0 bb oo n0 c0 q g zs T d) ?_ ?_ 19 _ _ _ (by decide) ⟨u0, rfl, by simp, ?_⟩
  case refine_3 =>
    have hF : ∀ k, (Array.replicate 19 false).getD k false = true → False := fun k e => by rw [hL k] at e; cases e
    exact ⟨fun _ _ => rfl, Below.refl _ _, fun e => (hF _ e).elim, fun e => (hF _ e).elim, fun e => (hF _ e).elim, fun e => (hF _ e).elim, fun e => (hF _ e).elim, fun e => (hF _ e).elim, fun e => (hF _ e).elim, fun e => (hF _ e).elim, fun e => (hF _ e).elim, fun e => (hF _ e).elim, fun e => (hF _ e).elim, fun e => (hF _ e).elim, fun e => (hF _ e).elim, fun e => (hF _ e).elim, fun e => (hF _ e).elim, fun e => (hF _ e).elim, fun e => (hF _ e).elim, fun e => (hF _ e).elim, fun e => (hF _ e).elim, fun e => (hF _ e).elim, fun e => (hF _ e).elim, fun e => (hF _ e).elim, fun e => (hF _ e).elim, fun e => (hF _ e).elim⟩
  · intro listed a w i hI hi
    obtain ⟨u, rfl, hsz, h⟩ := hI
    have hlt : i < 19 := ready_lt hi
    obtain (rfl | rfl | rfl | rfl | rfl | rfl | rfl | rfl | rfl | rfl | rfl | rfl | rfl | rfl | rfl | rfl | rfl | rfl | rfl) : i = 0 ∨ i = 1 ∨ i = 2 ∨ i = 3 ∨ i = 4 ∨ i = 5 ∨ i = 6 ∨ i = 7 ∨ i = 8 ∨ i = 9 ∨ i = 10 ∨ i = 11 ∨ i = 12 ∨ i = 13 ∨ i = 14 ∨ i = 15 ∨ i = 16 ∨ i = 17 ∨ i = 18 := by omega
    · have hn := ready_needs (l := []) hi (by kernel_rfl)
      refine wpOp_run rfl rfl (run_mv rfl) ?_
      rw [frm_eval (by decide)]
      exact gx_put hsz (by decide) (gi0 c h)
    · have hn := ready_needs (l := []) hi (by kernel_rfl)
      refine wpOp_run rfl rfl (run_mv rfl) ?_
      rw [frm_eval (by decide)]
      exact gx_put hsz (by decide) (gi1 c h)
    · have hn := ready_needs (l := [0, 1]) hi (by kernel_rfl)
      exact wpOp_run rfl rfl (run_sl1 rfl ((frm_eval (by decide)).trans (h.f0 (hn 0 (by simp)))) ((frm_eval (by decide)).trans (h.f1 (hn 1 (by simp)))) (Nat.le_of_lt c.hq) c.hc c.hm) (gx_put hsz (by decide) (gi2 c h))
    · have hn := ready_needs (l := [2]) hi (by kernel_rfl)
      have h6 : listed.getD 6 false = false := by
        cases e : listed.getD 6 false with
        | false => rfl
        | true => exact absurd (h.d6 e) (by rw [ready_not hi]; decide)
      refine wpOp_of rfl (step_append_b rfl (.const (.slice none 0 0)) (.tmp 60) rfl W0.heap.size (.slice none 0 0) [] (zs.take q) rfl (ownsB_nil _ _) _ _ _ ((frm_eval (by decide)).trans (h.f2 (hn 2 (by simp)))) (by rw [List.length_take, c.hl]; have := c.hq; omega) ((c.hb.kept h.bel).take q) (by rw [List.length_take, c.hl]; have := c.hn; simp; omega) h.bel.size ?_)
      intro v' w' ho hg
      exact gx_put hsz (by decide) (gi3 c h h6 ho hg)
    · have hn := ready_needs (l := []) hi (by kernel_rfl)
      refine wpOp_run rfl rfl (run_mv rfl) ?_
      rw [frm_eval (by decide)]
      exact gx_put hsz (by decide) (gi4 c h)
    · have hn := ready_needs (l := [4]) hi (by kernel_rfl)
      have h6 : listed.getD 6 false = false := by
        cases e : listed.getD 6 false with
        | false => rfl
        | true => exact absurd (h.d6b e) (by rw [ready_not hi]; decide)
      exact wpOp_run rfl rfl (run_bs rfl ((frm_eval (by decide)).trans (h.f4 (hn 4 (by simp))))) (gx_put hsz (by decide) (gi5 (w' := w) c h h6))
    · have hn := ready_needs (l := [3, 5, 3]) hi (by kernel_rfl)
      have h3 := hn 3 (by simp)
      have h6 := ready_not hi
      obtain ⟨gb, e63, hB⟩ := h.f5 (hn 5 (by simp)) h6
      refine wpOp_of rfl (step_append_b rfl (.tmp 61) (.tmp 63) rfl W0.heap.size (u 61) (zs.take q) [g] (frm_eval (by decide)) (h.f3 h3 h6) _ _ _ ((frm_eval (by decide)).trans e63) rfl (byte_one hB c.hg) (by rw [List.length_take, c.hl]; have := c.hn; simp; omega) h.bel.size ?_)
      intro v' w' ho hg
      exact gx_put hsz (by decide) (gi6 c h h3 h6 (hn 5 (by simp)) ho hg)
    · have hn := ready_needs (l := []) hi (by kernel_rfl)
      refine wpOp_run rfl rfl (run_mv rfl) ?_
      rw [frm_eval (by decide)]
      exact gx_put hsz (by decide) (gi7 c h)
    · have hn := ready_needs (l := []) hi (by kernel_rfl)
      refine wpOp_run rfl rfl (run_mv rfl) ?_
      rw [frm_eval (by decide)]
      exact gx_put hsz (by decide) (gi8 c h)
    · have hn := ready_needs (l := [7, 8]) hi (by kernel_rfl)
      exact wpOp_run rfl rfl (run_sl2 rfl ((frm_eval (by decide)).trans (h.f7 (hn 7 (by simp)))) ((frm_eval (by decide)).trans (h.f8 (hn 8 (by simp)))) c.hq c.hc c.hm) (gx_put hsz (by decide) (gi9 c h))
    · have hn := ready_needs (l := [6, 9, 6]) hi (by kernel_rfl)
      have h6 := hn 6 (by simp)
      have h10 := ready_not hi
      refine wpOp_of rfl (step_append_b rfl (.tmp 64) (.tmp 67) rfl W0.heap.size (u 64) (zs.take q ++ [g]) (zs.drop q) (frm_eval (by decide)) (h.f6 h6 h10) _ _ _ ((frm_eval (by decide)).trans (h.f9 (hn 9 (by simp)))) (by rw [List.length_drop, c.hl]) ((c.hb.kept h.bel).drop q) (by rw [List.length_append, List.length_take, List.length_drop, c.hl]; have := c.hn; simp; omega) h.bel.size ?_)
      intro v' w' ho hg
      exact gx_put hsz (by decide) (gi10 c h h6 h10 ho hg)
    · have hn := ready_needs (l := [10, 10]) hi (by kernel_rfl)
      have h10 := hn 10 (by simp)
      have h11 := ready_not hi
      have ho := h.f10 h10 h11
      obtain ⟨av, cv, ev, hnn, hcc, hB, hx⟩ := ho.shape
      refine wpOp_of rfl (step_callE (R := fun r w' => ∃ D b, r = .tuple #[.agg b.arr, .agg #[.int .i64 0, .int .i64 0]] ∧ NdS (fun k => w.heap.size ≤ k ∧ k < w'.heap.size) D w' b T ∧ Below w.heap.size w w') rfl 68 22 rfl ((frm_eval (by decide)).trans ev) (fun _ _ => rfl) ?_ ?_)
      · refine (rparse_new _ _ _ _ w rfl hB hcc.1 (by simp only [List.length_append, List.length_take, List.length_drop, List.length_cons, List.length_nil, c.hl]; have := c.hn; omega) (by rw [c.hp])).mono ?_
        rintro e w' ⟨D, b, he, hN, hb⟩
        rw [c.hp] at he hN
        exact ⟨_, he, D, b, rfl, hN, hb⟩
      · rintro r w' ⟨D, b, rfl, hN, hb⟩
        exact gx_put hsz (by decide) (gi11 c h h10 h11 hN hb)
    · have hn := ready_needs (l := [11]) hi (by kernel_rfl)
      refine wpOp_run rfl rfl (run_mv rfl) ?_
      rw [frm_eval (by decide)]
      exact gx_put hsz (by decide) (gi12 c h (hn 11 (by simp)))
    · have hn := ready_needs (l := [12]) hi (by kernel_rfl)
      obtain ⟨b, r, e57, hG⟩ := gi13 (w' := w) c h (hn 12 (by simp))
      exact wpOp_run rfl rfl (run_ex rfl ((frm_eval (by decide)).trans e57) rfl) (gx_put hsz (by decide) hG)
    · have hn := ready_needs (l := [12]) hi (by kernel_rfl)
      obtain ⟨b, e57⟩ := gi14b (w' := w) c h (hn 12 (by simp))
      exact wpOp_run rfl rfl (run_ex rfl ((frm_eval (by decide)).trans e57) rfl) (gx_put hsz (by decide) (gi14 c h))
    · have hn := ready_needs (l := []) hi (by kernel_rfl)
      exact wpOp_run rfl rfl (run_al1 rfl) (gx_put hsz (by decide) (gi15 (w' := w) c h (ready_not hi)))
    · have hn := ready_needs (l := []) hi (by kernel_rfl)
      exact wpOp_run rfl rfl (run_al2 rfl) (gx_put hsz (by decide) (gi16 (w' := w) c h (ready_not hi)))
    · have hn := ready_needs (l := [15, 13, 11, 0, 1, 2, 3, 4, 5, 6, 7, 8, 9, 10, 11, 12, 13, 15, 16]) hi (by kernel_rfl)
      have h17 := ready_not hi
      have h11 := hn 11 (by simp)
      have h15 := hn 15 (by simp)
      obtain ⟨p, e12, hz, hW⟩ := h.f15 h15 h17
      obtain ⟨D, b, e69, _⟩ := h.f11 h11
      obtain ⟨b', r, e69', e70⟩ := h.f13 (hn 13 (by simp))
      have eb : b' = b.arr := by
        have e := e69'.symm.trans e69
        simp at e
        exact e.1
      subst eb
      have hk := nine_kp (b := b) hz
      exact wpOp_skip rfl rfl (run_st1 rfl ((frm_eval (by decide)).trans e12) ((frm_eval (by decide)).trans e70) hz) (gx_none hsz (by decide) (gi17 c h (hn 6 (by simp)) (hn 10 (by simp)) h11 h15 h17 e12 ⟨_, e69⟩ hz hW hk.1 hk.2))
    · have hn := ready_needs (l := [16, 14, 17, 0, 1, 2, 3, 4, 5, 6, 7, 8, 9, 10, 11, 12, 13, 14, 15, 16, 17]) hi (by kernel_rfl)
      obtain ⟨p, e13, hz, hW⟩ := h.f16 (hn 16 (by simp))
      exact wpOp_skip rfl rfl (run_st2 rfl ((frm_eval (by decide)).trans e13) ((frm_eval (by decide)).trans (h.f14 (hn 14 (by simp)))) hz) (gx_none hsz (by decide) (gi18 c h (hn 6 (by simp)) (hn 10 (by simp)) (hn 11 (by simp)) (hn 16 (by simp)) (hn 17 (by simp)) e13 hz hW ((hz.set 0 (.int .i64 0)).set 1 (.int .i64 0)) ⟨rfl, rfl, rfl, by simp [World.setCell], fun k hk hc => by rw [setk hc, setk hc]⟩))
  · intro listed a w hI hr
    obtain ⟨u, rfl, hsz, h⟩ := hI
    have hd := ready_done hr hsz (by decide)
    obtain ⟨D, b, _, hN, h17⟩ := h.f11 (hd 11 (by decide))
    obtain ⟨p, e12, hB⟩ := h17 (hd 17 (by decide))
    obtain ⟨p3, e13, hF, _⟩ := h.f16 (hd 16 (by decide))
    exact hQ u w p p3 D b h.old e12 e13 h.bel hB hN.nd hF
end Go.Proofs.YtmlacmoembjeoaaGreatDoor
namespace Go.Proofs.YtmlacmoembjeoaaGreatDoor
open Go.RowKit
set_option linter.unusedVariables false
def c0L : List Int := [123, 34, 97, 34, 58, 91, 49, 44, 50, 46, 53, 48, 93, 125]
def t0T : Tr := mapT [txtT ⟨#[97]⟩] [arrT [intT false ⟨#[49]⟩, decT false ⟨#[50, 53]⟩ (-1)]]
theorem par_c0 : parA c0L = (t0T, 0, 0) := by kernel_rfl
theorem par_c1 : parA [91, 49, 44, 93] = (zT, 5, 3) := by kernel_rfl
theorem val_c2 : (readA (newS true) [49]).2.1 = 0 := by kernel_rfl
end Go.Proofs.YtmlacmoembjeoaaGreatDoor
namespace Go.Proofs.YtmlacmoembjeoaaGreatDoor
open Go.RowKit
set_option linter.unusedVariables false
theorem bytes_row (w : World) (zs : List Int) (m : Nat × Nat) (hz : ∀ c ∈ zs, 0 ≤ c ∧ c < 256) (hl : zs.length ≤ maxLen) : Bytes (w.alloc (.cells (zs.map (Value.int .u8)).toArray 5 m)) (some ⟨w.heap.size, 0, none⟩) zs := by
  refine ⟨hz, hl, .inr ⟨_, _, rfl, ?_⟩⟩
  intro i hi
  rw [Nat.zero_add, World.cell?_alloc_mark]
  simp [List.getElem?_map, List.getElem?_eq_getElem hi, List.getD_eq_getElem?_getD]
/-- What stands in memory of the first text's tree. -/
structure T0At (w : World) (b : Nb) (g1 o1 g2 o2 c2 : Nat) : Prop where
  k : b.lk = 1
  i : b.li = 1
  a : b.ai = some ⟨g1, o1, none⟩
  ck : 1 ≤ b.ck ∧ b.ck ≤ maxLen
  ci : 1 ≤ b.ci ∧ b.ci ≤ maxLen
  c : 2 ≤ c2 ∧ c2 ≤ maxLen
  l1 : g1 < w.heap.size
  l2 : g2 < w.heap.size
  x1 : w.cell? ⟨g1, o1 + 8, none⟩ = some (.slice (some ⟨g2, o2, none⟩) 2 c2)
  x2 : w.cell? ⟨g2, o2 + 13, none⟩ = some (.int .i64 (-1))
theorem t0_at {D : Nat} {w : World} {b : Nb} (h : Nd D w b t0T) : ∃ g1 o1 g2 o2 c2, T0At w b g1 o1 g2 o2 c2 := by
  rcases D with _ | D
  · exact absurd h id
  obtain ⟨_, _, _, ⟨k1, k2, k3⟩, ⟨i1, i2, i3⟩⟩ := h
  have e1 : b.lk = 1 := k1.symm
  have e2 : b.li = 1 := i1.symm
  rcases i3 with i3 | ⟨g1, o1, ha, hc⟩
  · exact absurd i3 (by simp [t0T, mapT])
  obtain ⟨nb, hn, hq⟩ := hc 0 (by omega)
  have hq' : Nd D w nb (arrT [intT false ⟨#[49]⟩, decT false ⟨#[50, 53]⟩ (-1)]) := hq
  rcases D with _ | D
  · exact absurd hq' id
  obtain ⟨_, _, _, _, ⟨j1, j2, j3⟩⟩ := hq'
  have e3 : nb.li = 2 := j1.symm
  rcases j3 with j3 | ⟨g2, o2, hb, hd⟩
  · exact absurd j3 (by simp [arrT])
  obtain ⟨mb, hm, hr⟩ := hd 1 (by omega)
  have hr' : Nd D w mb (decT false ⟨#[50, 53]⟩ (-1)) := hr
  rcases D with _ | D
  · exact absurd hr' id
  have e4 : mb.exp = -1 := hr'.1.2.2.2.2.1
  have x1 := hn 8 (by omega)
  have x2 := hm 4 (by omega)
  rw [show nb.cells[8]? = some (.slice nb.ai nb.li nb.ci) from rfl, hb, e3] at x1
  rw [show mb.cells[4]? = some (.int .i64 mb.exp) from rfl, e4] at x2
  exact ⟨g1, o1, g2, o2, nb.ci, e1, e2, ha, ⟨by have := k2.1; omega, k2.2.1⟩, ⟨by have := i2.1; omega, i2.2.1⟩, ⟨by have := j2.1; omega, j2.2.1⟩, some_block x1, some_block x2, by simpa using x1, by simpa using x2⟩
theorem T0At.kept {w w' : World} {b : Nb} {g1 o1 g2 o2 c2 : Nat} (h : T0At w b g1 o1 g2 o2 c2) (hb : Below w.heap.size w w') : T0At w' b g1 o1 g2 o2 c2 := ⟨h.k, h.i, h.a, h.ck, h.ci, h.c, Nat.lt_of_lt_of_le h.l1 hb.size, Nat.lt_of_lt_of_le h.l2 hb.size, (hb.cell (p := ⟨g1, o1 + 8, none⟩) h.l1).trans h.x1, (hb.cell (p := ⟨g2, o2 + 13, none⟩) h.l2).trans h.x2⟩
set_option maxHeartbeats 1000000 in
set_option maxRecDepth 100000 in
theorem alive_any (w : World) : Calls Tryz.prog 12 #[] w fun e w' => e = .returned (.bool true) ∧ Below w.heap.size w w' := by
  have kc := fun (w : World) (C : Array Value) (n c : Nat) => Lib.run_convert_bytes_const (P := Tryz.prog) w 22 5 C n c Tryz.underlying22 Tryz.underlying5
  have kP : Calls Tryz.prog 9 #[.slice (some ⟨w.heap.size, 0, none⟩) 14 14] (w.alloc (.cells #[.int .u8 123, .int .u8 34, .int .u8 97, .int .u8 34, .int .u8 58, .int .u8 91, .int .u8 49, .int .u8 44, .int .u8 50, .int .u8 46, .int .u8 53, .int .u8 48, .int .u8 93, .int .u8 125] 5 (14, 15))) fun e w' => ∃ b g1 o1 g2 o2 c2, e = .returned (.tuple #[.agg b.arr, .agg #[.int .i64 0, .int .i64 0]]) ∧ Hid (T0At w' b g1 o1 g2 o2 c2) ∧ Hid (Below w.heap.size w w') := by
    have hA := alloc_below w (.cells (c0L.map (Value.int .u8)).toArray 5 (14, 15))
    have := rparse_any (some ⟨w.heap.size, 0, none⟩) 14 14 c0L (w.alloc (.cells (c0L.map (Value.int .u8)).toArray 5 (14, 15))) rfl (bytes_row w c0L (14, 15) (by decide) (by decide)) (Nat.le_refl _) (by decide)
    rw [par_c0] at this
    refine this.mono ?_
    rintro e w' ⟨D, b, h1, h2, h3⟩
    obtain ⟨g1, o1, g2, o2, c2, h4⟩ := t0_at h2
    exact ⟨b, g1, o1, g2, o2, c2, h1, h4, hA.trans (h3.mono hA.size)⟩
  have kQ : Hid (∀ w, Calls Tryz.prog 9 #[.slice (some ⟨w.heap.size, 0, none⟩) 4 4] (w.alloc (.cells #[.int .u8 91, .int .u8 49, .int .u8 44, .int .u8 93] 5 (4, 5))) fun e w' => ∃ b : Nb, e = .returned (.tuple #[.agg b.arr, .agg #[.int .i64 5, .int .i64 3]]) ∧ Hid (Below w.heap.size w w')) := fun w => by
    have hA := alloc_below w (.cells (([91, 49, 44, 93] : List Int).map (Value.int .u8)).toArray 5 (4, 5))
    have := rparse_any (some ⟨w.heap.size, 0, none⟩) 4 4 [91, 49, 44, 93] (w.alloc (.cells (([91, 49, 44, 93] : List Int).map (Value.int .u8)).toArray 5 (4, 5))) rfl (bytes_row w [91, 49, 44, 93] (4, 5) (by decide) (by decide)) (Nat.le_refl _) (by decide)
    rw [par_c1] at this
    refine this.mono ?_
    rintro e w' ⟨D, b, h1, h2, h3⟩
    exact ⟨b, h1, hA.trans (h3.mono hA.size)⟩
  have kV : Hid (∀ w, Calls Tryz.prog 13 #[.slice (some ⟨w.heap.size, 0, none⟩) 1 1] (w.alloc (.cells #[.int .u8 49] 5 (1, 2))) fun e w' => e = .returned (.bool true) ∧ Hid (Below w.heap.size w w')) := fun w => by
    have hA := alloc_below w (.cells (([49] : List Int).map (Value.int .u8)).toArray 5 (1, 2))
    have := rvalid_any (some ⟨w.heap.size, 0, none⟩) 1 1 [49] (w.alloc (.cells (([49] : List Int).map (Value.int .u8)).toArray 5 (1, 2))) rfl (bytes_row w [49] (1, 2) (by decide) (by decide)) (Nat.le_refl _) (by decide)
    rw [val_c2] at this
    refine this.mono ?_
    rintro e w' ⟨h1, h3⟩
    exact ⟨h1, hA.trans (h3.mono hA.size)⟩
  go_enter Tryz.func12, Tryz.ntmps12
  go_wp2_with (go_at_call 9; refine kP.mono ?_; rintro e w1 ⟨b, g1, o1, g2, o2, c2, he, hT, hB⟩; rw [Nb.arr] at he; subst he; clear kP; have hs : ((w1.alloc (.cells #[.int .i64 b.kind, .int .u64 b.num, .bool b.neg, .string b.dig, .int .i64 b.exp, .string b.txt, .slice b.ab b.lb b.cb, .slice b.ak b.lk b.ck, .slice b.ai b.li b.ci] 26)).alloc (.cells #[.int .i64 0, .int .i64 0] 29)).heap.size = w1.heap.size + 1 + 1 := (by simp); have kc1 := kc ((w1.alloc (.cells #[.int .i64 b.kind, .int .u64 b.num, .bool b.neg, .string b.dig, .int .i64 b.exp, .string b.txt, .slice b.ab b.lb b.cb, .slice b.ak b.lk b.ck, .slice b.ai b.li b.ci] 26)).alloc (.cells #[.int .i64 0, .int .i64 0] 29)) #[.int .u8 91, .int .u8 49, .int .u8 44, .int .u8 93] 4 4; rw [hs] at kc1; have kQ1 := kQ.out ((w1.alloc (.cells #[.int .i64 b.kind, .int .u64 b.num, .bool b.neg, .string b.dig, .int .i64 b.exp, .string b.txt, .slice b.ab b.lb b.cb, .slice b.ak b.lk b.ck, .slice b.ai b.li b.ci] 26)).alloc (.cells #[.int .i64 0, .int .i64 0] 29)); rw [hs] at kQ1; clear kQ; have A1 := (alloc_below w1 (.cells #[.int .i64 b.kind, .int .u64 b.num, .bool b.neg, .string b.dig, .int .i64 b.exp, .string b.txt, .slice b.ab b.lb b.cb, .slice b.ak b.lk b.ck, .slice b.ai b.li b.ci] 26)); have A2 := alloc_below (w1.alloc (.cells #[.int .i64 b.kind, .int .u64 b.num, .bool b.neg, .string b.dig, .int .i64 b.exp, .string b.txt, .slice b.ab b.lb b.cb, .slice b.ak b.lk b.ck, .slice b.ai b.li b.ci] 26)) (.cells #[.int .i64 0, .int .i64 0] 29); have A3 : Hid (Below w1.heap.size w1 ((w1.alloc (.cells #[.int .i64 b.kind, .int .u64 b.num, .bool b.neg, .string b.dig, .int .i64 b.exp, .string b.txt, .slice b.ab b.lb b.cb, .slice b.ak b.lk b.ck, .slice b.ai b.li b.ci] 26)).alloc (.cells #[.int .i64 0, .int .i64 0] 29))) := A1.trans (A2.mono (by simp)); have X0 : Hid (NBox ((w1.alloc (.cells #[.int .i64 b.kind, .int .u64 b.num, .bool b.neg, .string b.dig, .int .i64 b.exp, .string b.txt, .slice b.ab b.lb b.cb, .slice b.ak b.lk b.ck, .slice b.ai b.li b.ci] 26)).alloc (.cells #[.int .i64 0, .int .i64 0] 29)) w1.heap.size b ∧ Blk ((w1.alloc (.cells #[.int .i64 b.kind, .int .u64 b.num, .bool b.neg, .string b.dig, .int .i64 b.exp, .string b.txt, .slice b.ab b.lb b.cb, .slice b.ak b.lk b.ck, .slice b.ai b.li b.ci] 26)).alloc (.cells #[.int .i64 0, .int .i64 0] 29)) (w1.heap.size + 1) #[.int .i64 0, .int .i64 0] 29) := ⟨(nbox_new w1 b).kept A2 (by simp), by have := blk_new (w1.alloc (.cells #[.int .i64 b.kind, .int .u64 b.num, .bool b.neg, .string b.dig, .int .i64 b.exp, .string b.txt, .slice b.ab b.lb b.cb, .slice b.ak b.lk b.ck, .slice b.ai b.li b.ci] 26)) #[.int .i64 0, .int .i64 0] 29; simpa using this⟩; have hs' : Hid (((w1.alloc (.cells #[.int .i64 b.kind, .int .u64 b.num, .bool b.neg, .string b.dig, .int .i64 b.exp, .string b.txt, .slice b.ab b.lb b.cb, .slice b.ak b.lk b.ck, .slice b.ai b.li b.ci] 26)).alloc (.cells #[.int .i64 0, .int .i64 0] 29)).heap.size = w1.heap.size + 1 + 1) := hs; clear A1 A2 hs)
  refine kQ1.mono ?_
  rintro e w2 ⟨b2, he, hB2⟩
  rw [Nb.arr] at he; subst he; clear kQ1 kc1
  have hs2 : ((w2.alloc (.cells #[.int .i64 b2.kind, .int .u64 b2.num, .bool b2.neg, .string b2.dig, .int .i64 b2.exp, .string b2.txt, .slice b2.ab b2.lb b2.cb, .slice b2.ak b2.lk b2.ck, .slice b2.ai b2.li b2.ci] 26)).alloc (.cells #[.int .i64 5, .int .i64 3] 29)).heap.size = w2.heap.size + 1 + 1 := by simp
  have kc2 := kc ((w2.alloc (.cells #[.int .i64 b2.kind, .int .u64 b2.num, .bool b2.neg, .string b2.dig, .int .i64 b2.exp, .string b2.txt, .slice b2.ab b2.lb b2.cb, .slice b2.ak b2.lk b2.ck, .slice b2.ai b2.li b2.ci] 26)).alloc (.cells #[.int .i64 5, .int .i64 3] 29)) #[.int .u8 49] 1 1; rw [hs2] at kc2; have kV2 := kV.out ((w2.alloc (.cells #[.int .i64 b2.kind, .int .u64 b2.num, .bool b2.neg, .string b2.dig, .int .i64 b2.exp, .string b2.txt, .slice b2.ab b2.lb b2.cb, .slice b2.ak b2.lk b2.ck, .slice b2.ai b2.li b2.ci] 26)).alloc (.cells #[.int .i64 5, .int .i64 3] 29)); rw [hs2] at kV2; clear kV
  have D1 := (alloc_below w2 (.cells #[.int .i64 b2.kind, .int .u64 b2.num, .bool b2.neg, .string b2.dig, .int .i64 b2.exp, .string b2.txt, .slice b2.ab b2.lb b2.cb, .slice b2.ak b2.lk b2.ck, .slice b2.ai b2.li b2.ci] 26)); have D2 := alloc_below (w2.alloc (.cells #[.int .i64 b2.kind, .int .u64 b2.num, .bool b2.neg, .string b2.dig, .int .i64 b2.exp, .string b2.txt, .slice b2.ab b2.lb b2.cb, .slice b2.ak b2.lk b2.ck, .slice b2.ai b2.li b2.ci] 26)) (.cells #[.int .i64 5, .int .i64 3] 29)
  have D3 : Hid (Below w2.heap.size w2 ((w2.alloc (.cells #[.int .i64 b2.kind, .int .u64 b2.num, .bool b2.neg, .string b2.dig, .int .i64 b2.exp, .string b2.txt, .slice b2.ab b2.lb b2.cb, .slice b2.ak b2.lk b2.ck, .slice b2.ai b2.li b2.ci] 26)).alloc (.cells #[.int .i64 5, .int .i64 3] 29))) := D1.trans (D2.mono (by simp))
  have Y0 : Blk ((w2.alloc (.cells #[.int .i64 b2.kind, .int .u64 b2.num, .bool b2.neg, .string b2.dig, .int .i64 b2.exp, .string b2.txt, .slice b2.ab b2.lb b2.cb, .slice b2.ak b2.lk b2.ck, .slice b2.ai b2.li b2.ci] 26)).alloc (.cells #[.int .i64 5, .int .i64 3] 29)) (w2.heap.size + 1) #[.int .i64 5, .int .i64 3] 29 := by have := blk_new (w2.alloc (.cells #[.int .i64 b2.kind, .int .u64 b2.num, .bool b2.neg, .string b2.dig, .int .i64 b2.exp, .string b2.txt, .slice b2.ab b2.lb b2.cb, .slice b2.ak b2.lk b2.ck, .slice b2.ai b2.li b2.ci] 26)) #[.int .i64 5, .int .i64 3] 29; simpa using this
  have E1 : Hid (Below w1.heap.size w1 ((w2.alloc (.cells #[.int .i64 b2.kind, .int .u64 b2.num, .bool b2.neg, .string b2.dig, .int .i64 b2.exp, .string b2.txt, .slice b2.ab b2.lb b2.cb, .slice b2.ak b2.lk b2.ck, .slice b2.ai b2.li b2.ci] 26)).alloc (.cells #[.int .i64 5, .int .i64 3] 29))) := A3.out.trans ((hB2.out.mono (by omega)).trans (D3.out.mono (by have := hB2.out.size; rw [hs'.out] at this; omega)))
  have T2 := hT.out.kept E1.out
  have E2 : Below (w1.heap.size + 1 + 1) ((w1.alloc (.cells #[.int .i64 b.kind, .int .u64 b.num, .bool b.neg, .string b.dig, .int .i64 b.exp, .string b.txt, .slice b.ab b.lb b.cb, .slice b.ak b.lk b.ck, .slice b.ai b.li b.ci] 26)).alloc (.cells #[.int .i64 0, .int .i64 0] 29)) ((w2.alloc (.cells #[.int .i64 b2.kind, .int .u64 b2.num, .bool b2.neg, .string b2.dig, .int .i64 b2.exp, .string b2.txt, .slice b2.ab b2.lb b2.cb, .slice b2.ak b2.lk b2.ck, .slice b2.ai b2.li b2.ci] 26)).alloc (.cells #[.int .i64 5, .int .i64 3] 29)) := by have h1 := hB2.out; exact h1.trans (D3.out.mono (by have := hB2.out.size; rw [hs'.out] at this; omega))
  have X2 := X0.out.1.kept E2 (by omega)
  have Z2 : Blk ((w2.alloc (.cells #[.int .i64 b2.kind, .int .u64 b2.num, .bool b2.neg, .string b2.dig, .int .i64 b2.exp, .string b2.txt, .slice b2.ab b2.lb b2.cb, .slice b2.ak b2.lk b2.ck, .slice b2.ai b2.li b2.ci] 26)).alloc (.cells #[.int .i64 5, .int .i64 3] 29)) (w1.heap.size + 1) #[.int .i64 0, .int .i64 0] 29 := (E2.block _ (by omega)).trans X0.out.2
  obtain ⟨n0, n1, n2, n3, n4, n5, n6, n7, n8⟩ := X2.fields
  have y0 := Y0.cell 0; have y1 := Y0.cell 1; have z0 := Z2.cell 0; have z1 := Z2.cell 1
  obtain ⟨k1, k2, k3, k4, k5, k6, k7, k8, k9, k10⟩ := T2
  rw [k1] at n7; rw [k2, k3] at n8
  have E3 : Hid (Below w.heap.size w ((w2.alloc (.cells #[.int .i64 b2.kind, .int .u64 b2.num, .bool b2.neg, .string b2.dig, .int .i64 b2.exp, .string b2.txt, .slice b2.ab b2.lb b2.cb, .slice b2.ak b2.lk b2.ck, .slice b2.ai b2.li b2.ci] 26)).alloc (.cells #[.int .i64 5, .int .i64 3] 29))) := hB.out.trans (E1.out.mono hB.out.size)
  clear hs2 D1 D2 Y0 Z2 X2 E2 X0 hT hB hs' A3 D3 hB2
  go_wp2_with (go_at_call 13; refine kV2.mono ?_; rintro e w3 ⟨rfl, hB3⟩; clear kV2)
  go_ret
  exact ⟨rfl, E3.out.trans (hB3.out.mono (by have := E3.out.size; simpa using this))⟩
end Go.Proofs.YtmlacmoembjeoaaGreatDoor
