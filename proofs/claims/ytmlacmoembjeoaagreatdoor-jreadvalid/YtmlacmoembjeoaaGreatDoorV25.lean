/-
  A text read, and told valid: jread.Parse, jread.Valid.
  The library's calls, as this program bears them: told of in Lib.
  Nodes of which all is zero: where they are told of.
  A tree in new memory: tree.clone.
  Which trees may be, as plain data: the fault of the first node that has one, and keys that stand twice.
  The fault of one node, as plain data: gt tells which bytes are a text, ri which digits are a number, rd which numbers may a Dec have.
  What should be zero of a node: tree.rest; and which numbers and counts a Kind may have: tree.mayBe.
  A text read: jread.Parse.
-/
import Derived.Test.YtmlacmoembjeoaaGreatDoorV24
import Derived.Test.YtmlacmoembjeoaaGreatDoorV3
import Derived.Test.YtmlacmoembjeoaaGreatDoorV12
import Derived.Test.YtmlacmoembjeoaaGreatDoorV2
import Derived.Test.YtmlacmoembjeoaaGreatDoorV1
namespace Go.Proofs.YtmlacmoembjeoaaGreatDoor
open Go.RowKit
set_option linter.unusedVariables false
theorem frm_below {lab lab' : Nat → Nat} {w w' : World} {B : Nat} (h : Frm lab lab' w w') (hB : B ≤ w.heap.size) (hl : ∀ k, k < B → lab k = 0) : Below B w w' := ⟨h.os, h.tape, h.output, h.size, fun k hk => (h.rest k (by omega) (hl k hk)).2⟩
/-- A new reader reads. -/
theorem read_new (free : Bool) {w : World} {g B : Nat} (h : RBox w g free 27 none 0 0 0 zN false) (hB : B ≤ g) (a : Option Addr) (n cap : Nat) (zs : List Int) (hl : zs.length = n) (hb : Bytes w a zs) (hc : n ≤ cap) (hsm : n ≤ 140737488351232) :
    Calls Tryz.prog 18 #[.pointer (some ⟨g, 0, none⟩), .slice a n cap] w fun e w' => e = .returned (.agg #[.int .i64 (readA (newS free) zs).2.1, .int .i64 ((readA (newS free) zs).2.2 : Nat)]) ∧ ((readA (newS free) zs).2.1 = 0 → ∃ lab', JMX B lab' w' g (readA (newS free) zs).1) ∧ (∀ k, k < w.heap.size → k ≠ g → w'.heap[k]? = w.heap[k]?) ∧ Below B w w' := by
  refine (read_loop (jmx_new free h hB) (new_nxt free) (new_few free) (by have := h.lt; omega) a n cap zs hl hb hc hsm (lexW_short zs) (lexW_few zs)).mono ?_
  rintro e w' ⟨h1, lab', h2, h3⟩
  exact ⟨h1, fun q => ⟨lab', h2 q⟩, fun k hk hn => (h3.rest k hk (if_neg hn)).2, frm_below h3 (by have := h.lt; omega) fun k hk => if_neg (by omega)⟩
set_option maxHeartbeats 1000000 in
set_option maxRecDepth 100000 in
/-- jread.Valid. -/
theorem rvalid_any (a : Option Addr) (n cap : Nat) (zs : List Int) (w : World) (hl : zs.length = n) (hb : Bytes w a zs) (hc : n ≤ cap) (hsm : n ≤ 140737488351232) :
    Calls Tryz.prog 13 #[.slice a n cap] w fun e w' => e = .returned (.bool (decide ((readA (newS true) zs).2.1 = 0))) ∧ Below w.heap.size w w' := by
  have k1 := new_any w
  have kR : Hid (∀ w1 g, RBox w1 g true 27 none 0 0 0 zN false → w.heap.size ≤ g → Below w.heap.size w w1 → Calls Tryz.prog 18 #[.pointer (some ⟨g, 0, none⟩), .slice a n cap] w1 fun e w' => e = .returned (.agg #[.int .i64 (readA (newS true) zs).2.1, .int .i64 ((readA (newS true) zs).2.2 : Nat)]) ∧ Below w.heap.size w1 w') := fun w1 g h hg hw =>
    (read_new true h hg a n cap zs hl (hb.kept hw) hc hsm).mono fun e w' ⟨q1, _, _, q2⟩ => ⟨q1, q2⟩
  obtain ⟨X, hX⟩ : ∃ X, (readA (newS true) zs).2.1 = X := ⟨_, rfl⟩
  obtain ⟨Y, hY⟩ : ∃ Y, (readA (newS true) zs).2.2 = Y := ⟨_, rfl⟩
  rw [hX, hY] at kR
  rw [hX]
  have hfw := fun (x y : Value) (w : World) => field_why x y w
  clear hX hY hl hb hc hsm
  go_enter Tryz.func13, Tryz.ntmps13
  go_wp2_with (first
    | (go_at_call 17; refine k1.mono ?_; rintro e w1 ⟨rfl, hr1, hb1, hs1⟩; clear k1; have c0 := hr1.fields.1; have f0 := hr1.fz 0; have k2 := kR.out _ _ (hr1.set (free' := true) (nx' := 27) (ao' := none) (no' := 0) (co' := 0) (nodes' := 0) (r' := zN) (ended' := false) 0 (.bool true) rfl) (Nat.le_refl _) (hb1.setCell (p := ⟨w.heap.size, 0, none⟩) (Nat.le_refl _) (.bool true)); have B1 : Hid (Below w.heap.size w (w1.setCell ⟨w.heap.size, 0, none⟩ (.bool true))) := hb1.setCell (p := ⟨w.heap.size, 0, none⟩) (Nat.le_refl _) (.bool true); clear hr1 hb1 hs1)
    | (go_at_call 18; refine k2.mono ?_; rintro e w2 ⟨rfl, hb2⟩))
  go_ret
  exact ⟨rfl, B1.out.trans hb2⟩
end Go.Proofs.YtmlacmoembjeoaaGreatDoor
namespace Go.Proofs.YtmlacmoembjeoaaGreatDoor
end Go.Proofs.YtmlacmoembjeoaaGreatDoor
namespace Go.Proofs.YtmlacmoembjeoaaGreatDoor
end Go.Proofs.YtmlacmoembjeoaaGreatDoor
namespace Go.Proofs.YtmlacmoembjeoaaGreatDoor
open Go.RowKit
set_option linter.unusedVariables false

/-- Two boxes, and a world in which only they have turned. -/
structure Bx (W w : World) (g1 g2 : Nat) (b c : Nb) : Prop where
  one : NBox w g1 b
  two : NBox w g2 c
  kp : Kp (fun k => k = g1 ∨ k = g2) W w
theorem Bx.call {W w w' : World} {g1 g2 : Nat} {b c : Nb} (h : Bx W w g1 g2 b c) (hb : Below w.heap.size w w') : Bx W w' g1 g2 b c :=
  ⟨h.one.kept hb h.one.lt, h.two.kept hb h.two.lt, h.kp.trans (Kp.of hb)⟩
theorem Bx.grown {W w w' : World} {g1 g2 : Nat} {b c : Nb} (h : Bx W w g1 g2 b c) (hb : w.grownBy w' none) : Bx W w' g1 g2 b c :=
  h.call ⟨hb.os, hb.tape, hb.output, hb.size, fun k hk => hb.block k hk (fun e => by cases e)⟩
theorem nbox_setc {w : World} {g : Nat} {b b' : Nb} (h : NBox w g b) (j : Nat) (v : Value) (hv : b'.arr = b.arr.setIfInBounds j v) : NBox (w.setCell ⟨g, j, none⟩ v) g b' := by
  unfold NBox
  rw [heap_setCell_same w g j b.arr 26 v h, hv]
theorem Bx.set {W w : World} {g1 g2 : Nat} {b c : Nb} (h : Bx W w g1 g2 b c) (hne : g1 ≠ g2) (b' : Nb) (j : Nat) (v : Value) (hv : b'.arr = b.arr.setIfInBounds j v) : Bx W (w.setCell ⟨g1, j, none⟩ v) g1 g2 b' c :=
  ⟨nbox_setc h.one j v hv, h.two.same (setk (Ne.symm hne) v), h.kp.trans ⟨rfl, rfl, rfl, by simp [World.setCell], fun k _ hc => setk (fun e => hc (.inl e)) v⟩⟩
theorem Bx.set2 {W w : World} {g1 g2 : Nat} {b c : Nb} (h : Bx W w g1 g2 b c) (hne : g1 ≠ g2) (c' : Nb) (j : Nat) (v : Value) (hv : c'.arr = c.arr.setIfInBounds j v) : Bx W (w.setCell ⟨g2, j, none⟩ v) g1 g2 b c' :=
  ⟨h.one.same (setk hne v), nbox_setc h.two j v hv, h.kp.trans ⟨rfl, rfl, rfl, by simp [World.setCell], fun k _ hc => setk (fun e => hc (.inr e)) v⟩⟩
/-- A node written whole into a box. -/
theorem Bx.put {W w : World} {g1 g2 : Nat} {b c : Nb} (h : Bx W w g1 g2 b c) (hne : g1 ≠ g2) (x : Nb) :
    Bx W (((((((((w.setCell ⟨g2, 0, none⟩ (.int .i64 x.kind)).setCell ⟨g2, 1, none⟩ (.int .u64 x.num)).setCell ⟨g2, 2, none⟩ (.bool x.neg)).setCell ⟨g2, 3, none⟩ (.string x.dig)).setCell ⟨g2, 4, none⟩ (.int .i64 x.exp)).setCell ⟨g2, 5, none⟩ (.string x.txt)).setCell ⟨g2, 6, none⟩ (.slice x.ab x.lb x.cb)).setCell ⟨g2, 7, none⟩ (.slice x.ak x.lk x.ck)).setCell ⟨g2, 8, none⟩ (.slice x.ai x.li x.ci)) g1 g2 b x := by
  obtain ⟨x0, x1, x2, x3, x4, x5, xa, xb, xc, xd, xe, xf, xg, xh, xi⟩ := x
  obtain ⟨c0, c1, c2, c3, c4, c5, ca, cb, cc, cd, ce, cf, cg, ch, ci⟩ := c
  exact ((((((((h.set2 hne ⟨x0, c1, c2, c3, c4, c5, ca, cb, cc, cd, ce, cf, cg, ch, ci⟩ 0 _ rfl).set2 hne ⟨x0, x1, c2, c3, c4, c5, ca, cb, cc, cd, ce, cf, cg, ch, ci⟩ 1 _ rfl).set2 hne ⟨x0, x1, x2, c3, c4, c5, ca, cb, cc, cd, ce, cf, cg, ch, ci⟩ 2 _ rfl).set2 hne ⟨x0, x1, x2, x3, c4, c5, ca, cb, cc, cd, ce, cf, cg, ch, ci⟩ 3 _ rfl).set2 hne ⟨x0, x1, x2, x3, x4, c5, ca, cb, cc, cd, ce, cf, cg, ch, ci⟩ 4 _ rfl).set2 hne ⟨x0, x1, x2, x3, x4, x5, ca, cb, cc, cd, ce, cf, cg, ch, ci⟩ 5 _ rfl).set2 hne ⟨x0, x1, x2, x3, x4, x5, xa, xb, xc, cd, ce, cf, cg, ch, ci⟩ 6 _ rfl).set2 hne ⟨x0, x1, x2, x3, x4, x5, xa, xb, xc, xd, xe, xf, cg, ch, ci⟩ 7 _ rfl).set2 hne ⟨x0, x1, x2, x3, x4, x5, xa, xb, xc, xd, xe, xf, xg, xh, xi⟩ 8 _ rfl
theorem FreshR.kp {C : Nat → Prop} {B D : Nat} {w w' : World} {a : Option Addr} {n c : Nat} {l : List Tr} {f : List Nat} (h : FreshR B D w a n c l f) (hk : Kp C w w') (hC : ∀ k, C k → k < B) : FreshR B D w' a n c l f := by
  have hs : ∀ k, k ∈ f → w'.heap[k]? = w.heap[k]? := fun k hk' => hk.block k (h.2.2.2.2 k hk').2 (fun hc => by have := hC k hc; have := (h.2.2.2.2 k hk').1; omega)
  exact ⟨h.1.stays h.2.1 hs fun _ _ _ q => q.stays hs, h.2.1, h.2.2.1.stays hs fun _ e he q => q.stays fun k hk' => hs k (he k hk'), h.2.2.2.1, fun k hk' => ⟨(h.2.2.2.2 k hk').1, Nat.lt_of_lt_of_le (h.2.2.2.2 k hk').2 hk.size⟩⟩
/-- Bytes of one's own, in a block of their own. -/
theorem OwnsB.fr {w : World} {base : Nat} {a : Option Addr} {n c : Nat} {zs : List Int} (h : OwnsB w base (.slice a n c) zs) : ∃ f0, FrB w a n f0 ∧ In (· ∈ f0) a n ∧ f0.Nodup ∧ ∀ k ∈ f0, base ≤ k ∧ k < w.heap.size := by
  obtain ⟨⟨hl, hv⟩, hz⟩ := h
  rcases hv with ⟨e, hn⟩ | ⟨g, cap, cur, e, hb, hg, hnc, hcm, hcs, htk⟩
  · cases e
    exact ⟨[], .inl ⟨rfl, rfl⟩, (fun h => by cases h), by simp, fun k hk => by cases hk⟩
  · cases e
    by_cases h0 : zs.length = 0
    · exact ⟨[], .inl ⟨h0, rfl⟩, fun h => by omega, by simp, fun k hk => by cases hk⟩
    · refine ⟨[g], .inr ⟨g, cur, rfl, rfl, hg, by rw [hcs]; omega, fun i hi => ?_⟩, fun _ x hx => by cases hx; exact List.mem_singleton.2 rfl, by simp, fun k hk => ?_⟩
      · have h1 : (cur.toList.take (zs.length * 1))[i]? = (zs.map (Value.int .u8))[i]? := by rw [htk]
        rw [List.getElem?_take, if_pos (by omega), List.getElem?_map, List.getElem?_eq_getElem hi] at h1
        exact ⟨zs[i], by rw [← Array.getElem?_toList]; exact h1, hz _ (List.getElem_mem hi)⟩
      · rw [List.mem_singleton] at hk
        subst hk
        exact ⟨hb, (Array.getElem?_eq_some_iff.1 hg).1⟩
theorem FrB.kp {C : Nat → Prop} {w w' : World} {a : Option Addr} {n : Nat} {f : List Nat} (h : FrB w a n f) (hk : Kp C w w') (hf : ∀ k ∈ f, k < w.heap.size ∧ ¬ C k) : FrB w' a n f := h.stays fun k hk' => hk.block k (hf k hk').1 (hf k hk').2
theorem Bytes.kp {C : Nat → Prop} {w w' : World} {a : Option Addr} {zs : List Int} {f : List Nat} (h : Bytes w a zs) (hi : In (· ∈ f) a zs.length) (hk : Kp C w w') (hf : ∀ k ∈ f, k < w.heap.size ∧ ¬ C k) : Bytes w' a zs := h.stays hi fun k hk' => hk.block k (hf k hk').1 (hf k hk').2

end Go.Proofs.YtmlacmoembjeoaaGreatDoor
namespace Go.Proofs.YtmlacmoembjeoaaGreatDoor
set_option linter.unusedVariables false
namespace Tr

/-- One of each, in turn. -/
def inter {α : Type} : List α → List α → List α
  | a :: l, b :: m => a :: b :: inter l m
  | _, _ => []
/-- All nodes, each ahead of what is in it. -/
def pre : Tr → List Tr
  | ⟨k, b, c, d, e, f, g, keys, kids⟩ => ⟨k, b, c, d, e, f, g, keys, kids⟩ :: (if k = 8 then inter (keys.map pre) (kids.map pre) else kids.map pre).flatten
end Tr
end Go.Proofs.YtmlacmoembjeoaaGreatDoor
namespace Go.Proofs.YtmlacmoembjeoaaGreatDoor
set_option linter.unusedVariables false

namespace Tr
end Tr
end Go.Proofs.YtmlacmoembjeoaaGreatDoor
namespace Go.Proofs.YtmlacmoembjeoaaGreatDoor
open Go.RowKit
set_option linter.unusedVariables false

theorem room_nil (k : Nat) : Room k none 0 0 := ⟨Nat.le_refl _, Nat.zero_le _, fun _ => rfl, by simp⟩
theorem rowN_nil (Q : Nb → Tr → Prop) (w : World) : RowN Q w none 0 0 [] := ⟨rfl, room_nil _, .inl rfl⟩
theorem bytes_nil (w : World) : Bytes w none [] := ⟨by simp, by simp, .inl rfl⟩
theorem nd_zero (D : Nat) (w : World) : Nd (D + 1) w zN zT := ⟨⟨rfl, rfl, rfl, rfl, rfl, rfl⟩, ⟨by decide, by decide, by decide, by decide, by decide⟩, ⟨rfl, room_nil _, bytes_nil w⟩, rowN_nil _ _, rowN_nil _ _⟩
end Go.Proofs.YtmlacmoembjeoaaGreatDoor
namespace Go.Proofs.YtmlacmoembjeoaaGreatDoor
open Go.RowKit
set_option linter.unusedVariables false
/-- What Parse answers. -/
def parA (zs : List Int) : Tr × Int × Nat := if (readA (newS false) zs).2.1 ≠ 0 then (zT, (readA (newS false) zs).2) else ((readA (newS false) zs).1.root, 0, 0)
theorem jmx_root {B : Nat} {lab : Nat → Nat} {w : World} {g : Nat} {s : JS} (h : JMX B lab w g s) : ∃ D r free nx ao no co nodes ended, RBox w g free nx ao no co nodes r ended ∧ NdS (fun k => B ≤ k ∧ k < w.heap.size) D w r s.root := by
  obtain ⟨D, nbs, ao, co, r, h⟩ := h
  exact ⟨D, r, _, _, _, _, _, _, _, h.box, h.rt.mono fun k hk => hk.2⟩
/-- The places of two answers. -/
def Res (w : World) (g : Nat) (b : Nb) (x y : Int) : Prop := NBox w g b ∧ Blk w (g + 1) #[.int .i64 x, .int .i64 y] 29
theorem Res.call {w w' : World} {g : Nat} {b : Nb} {x y : Int} (h : Res w g b x y) (hk : w'.heap[g]? = w.heap[g]?) (hk2 : w'.heap[g + 1]? = w.heap[g + 1]?) : Res w' g b x y := ⟨h.1.same hk, hk2.trans h.2⟩
theorem res_put {W : World} {g : Nat} {b : Nb} {x y : Int} (h : Res W g b x y) (r : Nb) (u v : Int) :
    Res (((((((((((W.setCell ⟨g, 0, none⟩ (.int .i64 r.kind)).setCell ⟨g, 1, none⟩ (.int .u64 r.num)).setCell ⟨g, 2, none⟩ (.bool r.neg)).setCell ⟨g, 3, none⟩ (.string r.dig)).setCell ⟨g, 4, none⟩ (.int .i64 r.exp)).setCell ⟨g, 5, none⟩ (.string r.txt)).setCell ⟨g, 6, none⟩ (.slice r.ab r.lb r.cb)).setCell ⟨g, 7, none⟩ (.slice r.ak r.lk r.ck)).setCell ⟨g, 8, none⟩ (.slice r.ai r.li r.ci)).setCell ⟨g + 1, 0, none⟩ (.int .i64 u)).setCell ⟨g + 1, 1, none⟩ (.int .i64 v)) g r u v ∧
    (∀ k, k ≠ g → k ≠ g + 1 → (((((((((((W.setCell ⟨g, 0, none⟩ (.int .i64 r.kind)).setCell ⟨g, 1, none⟩ (.int .u64 r.num)).setCell ⟨g, 2, none⟩ (.bool r.neg)).setCell ⟨g, 3, none⟩ (.string r.dig)).setCell ⟨g, 4, none⟩ (.int .i64 r.exp)).setCell ⟨g, 5, none⟩ (.string r.txt)).setCell ⟨g, 6, none⟩ (.slice r.ab r.lb r.cb)).setCell ⟨g, 7, none⟩ (.slice r.ak r.lk r.ck)).setCell ⟨g, 8, none⟩ (.slice r.ai r.li r.ci)).setCell ⟨g + 1, 0, none⟩ (.int .i64 u)).setCell ⟨g + 1, 1, none⟩ (.int .i64 v)).heap[k]? = W.heap[k]?) ∧ Below g W (((((((((((W.setCell ⟨g, 0, none⟩ (.int .i64 r.kind)).setCell ⟨g, 1, none⟩ (.int .u64 r.num)).setCell ⟨g, 2, none⟩ (.bool r.neg)).setCell ⟨g, 3, none⟩ (.string r.dig)).setCell ⟨g, 4, none⟩ (.int .i64 r.exp)).setCell ⟨g, 5, none⟩ (.string r.txt)).setCell ⟨g, 6, none⟩ (.slice r.ab r.lb r.cb)).setCell ⟨g, 7, none⟩ (.slice r.ak r.lk r.ck)).setCell ⟨g, 8, none⟩ (.slice r.ai r.li r.ci)).setCell ⟨g + 1, 0, none⟩ (.int .i64 u)).setCell ⟨g + 1, 1, none⟩ (.int .i64 v)) := by
  obtain ⟨h1, h2⟩ := h
  obtain ⟨p1, p2⟩ := nbox_put h1 r
  have hg : g + 1 ≠ g := by omega
  have q1 : Blk (((((((((W.setCell ⟨g, 0, none⟩ (.int .i64 r.kind)).setCell ⟨g, 1, none⟩ (.int .u64 r.num)).setCell ⟨g, 2, none⟩ (.bool r.neg)).setCell ⟨g, 3, none⟩ (.string r.dig)).setCell ⟨g, 4, none⟩ (.int .i64 r.exp)).setCell ⟨g, 5, none⟩ (.string r.txt)).setCell ⟨g, 6, none⟩ (.slice r.ab r.lb r.cb)).setCell ⟨g, 7, none⟩ (.slice r.ak r.lk r.ck)).setCell ⟨g, 8, none⟩ (.slice r.ai r.li r.ci)) (g + 1) #[.int .i64 x, .int .i64 y] 29 := by
    unfold Blk
    rw [setk hg, setk hg, setk hg, setk hg, setk hg, setk hg, setk hg, setk hg, setk hg]
    exact h2
  refine ⟨⟨p1.same (by rw [setk (by omega), setk (by omega)]), (q1.set 0 (.int .i64 u)).set 1 (.int .i64 v)⟩, fun k hk hk2 => ?_, ?_⟩
  · rw [setk hk2, setk hk2, setk hk, setk hk, setk hk, setk hk, setk hk, setk hk, setk hk, setk hk, setk hk]
  · exact (((((((((((Below.refl g W).setCell (p := ⟨g, 0, none⟩) (Nat.le_refl _) _).setCell (p := ⟨g, 1, none⟩) (Nat.le_refl _) _).setCell (p := ⟨g, 2, none⟩) (Nat.le_refl _) _).setCell (p := ⟨g, 3, none⟩) (Nat.le_refl _) _).setCell (p := ⟨g, 4, none⟩) (Nat.le_refl _) _).setCell (p := ⟨g, 5, none⟩) (Nat.le_refl _) _).setCell (p := ⟨g, 6, none⟩) (Nat.le_refl _) _).setCell (p := ⟨g, 7, none⟩) (Nat.le_refl _) _).setCell (p := ⟨g, 8, none⟩) (Nat.le_refl _) _).setCell (p := ⟨g + 1, 0, none⟩) (Nat.le_succ _) _).setCell (p := ⟨g + 1, 1, none⟩) (Nat.le_succ _) _
set_option maxHeartbeats 4000000 in
set_option maxRecDepth 100000 in
/-- jread.Parse. -/
theorem rparse_any (a : Option Addr) (n cap : Nat) (zs : List Int) (w : World) (hl : zs.length = n) (hb : Bytes w a zs) (hc : n ≤ cap) (hsm : n ≤ 140737488351232) :
    Calls Tryz.prog 9 #[.slice a n cap] w fun e w' => ∃ D b, e = .returned (.tuple #[.agg b.arr, .agg #[.int .i64 (parA zs).2.1, .int .i64 ((parA zs).2.2 : Nat)]]) ∧ Nd D w' b (parA zs).1 ∧ Below w.heap.size w w' := by
  have hA1 := alloc_below w (.cells #[.int .i64 0, .int .u64 0, .bool false, .string ⟨#[]⟩, .int .i64 0, .string ⟨#[]⟩, .slice none 0 0, .slice none 0 0, .slice none 0 0] 26)
  have hA2 := alloc_below (w.alloc (.cells #[.int .i64 0, .int .u64 0, .bool false, .string ⟨#[]⟩, .int .i64 0, .string ⟨#[]⟩, .slice none 0 0, .slice none 0 0, .slice none 0 0] 26)) (.cells #[.int .i64 0, .int .i64 0] 29)
  have s1 : (w.alloc (.cells #[.int .i64 0, .int .u64 0, .bool false, .string ⟨#[]⟩, .int .i64 0, .string ⟨#[]⟩, .slice none 0 0, .slice none 0 0, .slice none 0 0] 26)).heap.size = w.heap.size + 1 := by simp
  have s2 : ((w.alloc (.cells #[.int .i64 0, .int .u64 0, .bool false, .string ⟨#[]⟩, .int .i64 0, .string ⟨#[]⟩, .slice none 0 0, .slice none 0 0, .slice none 0 0] 26)).alloc (.cells #[.int .i64 0, .int .i64 0] 29)).heap.size = w.heap.size + 2 := by simp
  have R0 : Res ((w.alloc (.cells #[.int .i64 0, .int .u64 0, .bool false, .string ⟨#[]⟩, .int .i64 0, .string ⟨#[]⟩, .slice none 0 0, .slice none 0 0, .slice none 0 0] 26)).alloc (.cells #[.int .i64 0, .int .i64 0] 29)) w.heap.size zN 0 0 :=
    ⟨(nbox_new w zN).kept hA2 (by omega), by have := blk_new (w.alloc (.cells #[.int .i64 0, .int .u64 0, .bool false, .string ⟨#[]⟩, .int .i64 0, .string ⟨#[]⟩, .slice none 0 0, .slice none 0 0, .slice none 0 0] 26)) #[.int .i64 0, .int .i64 0] 29; rwa [s1] at this⟩
  have B0 : Below w.heap.size w ((w.alloc (.cells #[.int .i64 0, .int .u64 0, .bool false, .string ⟨#[]⟩, .int .i64 0, .string ⟨#[]⟩, .slice none 0 0, .slice none 0 0, .slice none 0 0] 26)).alloc (.cells #[.int .i64 0, .int .i64 0] 29)) := hA1.trans (hA2.mono (by omega))
  have k1 : Calls Tryz.prog 17 #[] ((w.alloc (.cells #[.int .i64 0, .int .u64 0, .bool false, .string ⟨#[]⟩, .int .i64 0, .string ⟨#[]⟩, .slice none 0 0, .slice none 0 0, .slice none 0 0] 26)).alloc (.cells #[.int .i64 0, .int .i64 0] 29)) fun e w1 => ∃ g, e = .returned (.pointer (some ⟨g, 0, none⟩)) ∧ Hid (g = w.heap.size + 2 ∧ RBox w1 g false 27 none 0 0 0 zN false ∧ Below w.heap.size w w1 ∧ w1.heap.size = w.heap.size + 3 ∧ Res w1 w.heap.size zN 0 0) :=
    (new_any _).mono fun e w1 ⟨q1, q2, q3, q4⟩ => ⟨_, q1, s2, q2, B0.trans (q3.mono (by omega)), by rw [q4, s2], R0.call (q3.block _ (by omega)) (q3.block _ (by omega))⟩
  have kR : Hid (∀ w1 g, g = w.heap.size + 2 ∧ RBox w1 g false 27 none 0 0 0 zN false ∧ Below w.heap.size w w1 ∧ w1.heap.size = w.heap.size + 3 ∧ Res w1 w.heap.size zN 0 0 → Calls Tryz.prog 18 #[.pointer (some ⟨g, 0, none⟩), .slice a n cap] w1 fun e w2 => e = .returned (.agg #[.int .i64 (readA (newS false) zs).2.1, .int .i64 ((readA (newS false) zs).2.2 : Nat)]) ∧ Hid (Below w.heap.size w w2 ∧ w.heap.size + 3 ≤ w2.heap.size ∧ Res w2 w.heap.size zN 0 0 ∧ ((readA (newS false) zs).2.1 = 0 → ∃ D r free nx ao no co nodes ended, RBox w2 g free nx ao no co nodes r ended ∧ NdS (fun k => w.heap.size + 2 ≤ k ∧ k < w2.heap.size) D w2 r (readA (newS false) zs).1.root))) := fun w1 g ⟨q1, q2, q3, q4, q5⟩ =>
    (read_new false (B := w.heap.size + 2) q2 (by omega) a n cap zs hl (hb.kept q3) hc hsm).mono fun e w2 ⟨p1, p2, p3, p4⟩ => ⟨p1, q3.trans (p4.mono (by omega)), by have := p4.size; omega, q5.call (p3 _ (by omega) (by omega)) (p3 _ (by omega) (by omega)), fun h0 => by obtain ⟨lab', hj⟩ := p2 h0; exact jmx_root hj⟩
  have hP : Hid (parA zs = if (readA (newS false) zs).2.1 ≠ 0 then (zT, (readA (newS false) zs).2) else ((readA (newS false) zs).1.root, 0, 0)) := rfl
  obtain ⟨PA, hPA⟩ : ∃ PA, parA zs = PA := ⟨_, rfl⟩
  rw [hPA] at hP ⊢
  obtain ⟨⟨s, X, Y⟩, hRA⟩ : ∃ R, readA (newS false) zs = R := ⟨_, rfl⟩
  rw [hRA] at kR hP
  simp only at kR hP
  clear hRA hPA hl hb hc hsm hA1 hA2 s1 s2 R0 B0
  by_cases hX : X = 0
  · subst hX
    have hP' : Hid (PA = (s.root, 0, 0)) := by show _ = _; rw [hP.out]; rfl
    clear hP
    go_enter Tryz.func9, Tryz.ntmps9
    go_wp2_with (first
      | (go_at_call 17; refine k1.mono ?_; rintro e w1 ⟨g, rfl, h1⟩; clear k1; have k2 := kR.out w1 g h1.out; have hg : Hid (g = w.heap.size + 2) := h1.out.1; clear h1)
      | (go_at_call 18; refine k2.mono ?_; rintro e w2 ⟨rfl, h2⟩; clear k2; obtain ⟨D, r, free, nx, ao, no, co, nodes, ended, hR, hN⟩ := h2.out.2.2.2 (by first | rfl | trivial); have HR : Hid (NdS (fun k => w.heap.size + 2 ≤ k ∧ k < w2.heap.size) D w2 r s.root) := hN; have hA3 := alloc_below w2 (.cells #[.int .i64 0, .int .i64 (Y : Nat)] 29); have R3 : Hid (RBox (w2.alloc (.cells #[.int .i64 0, .int .i64 (Y : Nat)] 29)) g free nx ao no co nodes r ended) := hR.same (hA3.block _ hR.lt); obtain ⟨m0, m1, m2, m3, m4, m5, m6, m7, m8⟩ := R3.out.root; have X3 : Hid (Res (w2.alloc (.cells #[.int .i64 0, .int .i64 (Y : Nat)] 29)) w.heap.size zN 0 0) := h2.out.2.2.1.call (hA3.block _ (by have := h2.out.2.1; omega)) (hA3.block _ (by have := h2.out.2.1; omega)); obtain ⟨n0, n1, n2, n3, n4, n5, n6, n7, n8⟩ := X3.out.1.fields; have z0 := X3.out.1.fz 0; have z1 := X3.out.1.fz 1; have z2 := X3.out.1.fz 2; have z3 := X3.out.1.fz 3; have z4 := X3.out.1.fz 4; have z5 := X3.out.1.fz 5; have z6 := X3.out.1.fz 6; have z7 := X3.out.1.fz 7; have z8 := X3.out.1.fz 8; have y0 := X3.out.2.cell 0; have y1 := X3.out.2.cell 1; have v0 := X3.out.2.fz 0; have v1 := X3.out.2.fz 1; clear hR hN hA3))
    have F := res_put (W := w2.alloc (.cells #[.int .i64 0, .int .i64 (Y : Nat)] 29)) X3.out r 0 0
    obtain ⟨u0, u1, u2, u3, u4, u5, u6, u7, u8⟩ := F.1.1.fields
    have t0 := F.1.2.cell 0
    have t1 := F.1.2.cell 1
    refine bodyPost_ret (v := .tuple #[.agg r.arr, .agg #[.int .i64 0, .int .i64 0]]) (by simp [results, Tryz.results9, go_sem, u0, u1, u2, u3, u4, u5, u6, u7, u8, t0, t1, Nb.arr]) rfl ⟨D, r, by rw [hP'.out]; rfl, ?_, ?_⟩
    · rw [hP'.out]
      exact (HR.out.stays fun k hk => (F.2.1 k (by omega) (by omega)).trans ((alloc_below w2 _).block k hk.2)).nd
    · have hb := h2.out.1.trans ((alloc_below w2 (.cells #[.int .i64 0, .int .i64 (Y : Nat)] 29)).mono h2.out.1.size)
      exact hb.trans F.2.2
  · have hP' : Hid (PA = (zT, X, Y)) := by show _ = _; rw [hP.out, if_pos hX]
    have hXb : (X != 0) = true := by simpa using hX
    clear hP hX
    go_enter Tryz.func9, Tryz.ntmps9
    go_wp2_with (first
      | (go_at_call 17; refine k1.mono ?_; rintro e w1 ⟨g, rfl, h1⟩; clear k1; have k2 := kR.out w1 g h1.out; clear h1)
      | (go_at_call 18; refine k2.mono ?_; rintro e w2 ⟨rfl, h2⟩; clear k2 kR; have HB : Hid (Below w.heap.size w w2) := h2.out.1; have hA3 := alloc_below w2 (.cells #[.int .i64 X, .int .i64 (Y : Nat)] 29); have X3 : Hid (Res (w2.alloc (.cells #[.int .i64 X, .int .i64 (Y : Nat)] 29)) w.heap.size zN 0 0) := h2.out.2.2.1.call (hA3.block _ (by have := h2.out.2.1; omega)) (hA3.block _ (by have := h2.out.2.1; omega)); have Z3 : Blk (w2.alloc (.cells #[.int .i64 X, .int .i64 (Y : Nat)] 29)) w2.heap.size #[.int .i64 X, .int .i64 (Y : Nat)] 29 := blk_new w2 _ _; have q0 := Z3.cell 0; have q1 := Z3.cell 1; obtain ⟨n0, n1, n2, n3, n4, n5, n6, n7, n8⟩ := X3.out.1.fields; have z0 := X3.out.1.fz 0; have z1 := X3.out.1.fz 1; have z2 := X3.out.1.fz 2; have z3 := X3.out.1.fz 3; have z4 := X3.out.1.fz 4; have z5 := X3.out.1.fz 5; have z6 := X3.out.1.fz 6; have z7 := X3.out.1.fz 7; have z8 := X3.out.1.fz 8; have y0 := X3.out.2.cell 0; have y1 := X3.out.2.cell 1; have v0 := X3.out.2.fz 0; have v1 := X3.out.2.fz 1; have hne : Hid (w.heap.size + 3 ≤ w2.heap.size) := h2.out.2.1; clear hA3 h2 Z3))
    have HB3 : Hid (Below w.heap.size w (w2.alloc (.cells #[.int .i64 X, .int .i64 (Y : Nat)] 29))) := HB.out.trans ((alloc_below w2 _).mono HB.out.size)
    have d1 : ¬ w2.heap.size = w.heap.size := by have := hne.out; omega
    have d2 : ¬ w.heap.size = w2.heap.size := by have := hne.out; omega
    have d3 : ¬ w2.heap.size = w.heap.size + 1 := by have := hne.out; omega
    have d4 : ¬ w.heap.size + 1 = w2.heap.size := by have := hne.out; omega
    clear HB hne
    generalize w2.alloc (.cells #[.int .i64 X, .int .i64 (Y : Nat)] 29) = W3 at *
    generalize w2.heap.size = g5 at *
    have F := res_put X3.out zN X (Y : Nat)
    have F0 : Hid (Nd 1 (((((((((((W3.setCell ⟨w.heap.size, 0, none⟩ (.int .i64 0)).setCell ⟨w.heap.size, 1, none⟩ (.int .u64 0)).setCell ⟨w.heap.size, 2, none⟩ (.bool false)).setCell ⟨w.heap.size, 3, none⟩ (.string ⟨#[]⟩)).setCell ⟨w.heap.size, 4, none⟩ (.int .i64 0)).setCell ⟨w.heap.size, 5, none⟩ (.string ⟨#[]⟩)).setCell ⟨w.heap.size, 6, none⟩ (.slice none 0 0)).setCell ⟨w.heap.size, 7, none⟩ (.slice none 0 0)).setCell ⟨w.heap.size, 8, none⟩ (.slice none 0 0)).setCell ⟨w.heap.size + 1, 0, none⟩ (.int .i64 X)).setCell ⟨w.heap.size + 1, 1, none⟩ (.int .i64 (Y : Nat))) zN zT ∧ Below w.heap.size w (((((((((((W3.setCell ⟨w.heap.size, 0, none⟩ (.int .i64 0)).setCell ⟨w.heap.size, 1, none⟩ (.int .u64 0)).setCell ⟨w.heap.size, 2, none⟩ (.bool false)).setCell ⟨w.heap.size, 3, none⟩ (.string ⟨#[]⟩)).setCell ⟨w.heap.size, 4, none⟩ (.int .i64 0)).setCell ⟨w.heap.size, 5, none⟩ (.string ⟨#[]⟩)).setCell ⟨w.heap.size, 6, none⟩ (.slice none 0 0)).setCell ⟨w.heap.size, 7, none⟩ (.slice none 0 0)).setCell ⟨w.heap.size, 8, none⟩ (.slice none 0 0)).setCell ⟨w.heap.size + 1, 0, none⟩ (.int .i64 X)).setCell ⟨w.heap.size + 1, 1, none⟩ (.int .i64 (Y : Nat)))) := ⟨nd_zero 0 _, HB3.out.trans F.2.2⟩
    obtain ⟨u0, u1, u2, u3, u4, u5, u6, u7, u8⟩ := F.1.1.fields
    have t0 := F.1.2.cell 0
    have t1 := F.1.2.cell 1
    simp only [zN] at u0 u1 u2 u3 u4 u5 u6 u7 u8 t0 t1 n0 n1 n2 n3 n4 n5 n6 n7 n8
    clear F
    go_region
    all_goals
      go_wp2_with fail
      refine bodyPost_ret (v := .tuple #[.agg #[.int .i64 0, .int .u64 0, .bool false, .string ⟨#[]⟩, .int .i64 0, .string ⟨#[]⟩, .slice none 0 0, .slice none 0 0, .slice none 0 0], .agg #[.int .i64 X, .int .i64 (Y : Nat)]]) (by simp [results, Tryz.results9, go_sem, u0, u1, u2, u3, u4, u5, u6, u7, u8, t0, t1]) rfl ⟨1, zN, by rw [hP'.out]; rfl, by rw [hP'.out]; exact nd_zero 0 _, F0.out.2.drew⟩
end Go.Proofs.YtmlacmoembjeoaaGreatDoor
