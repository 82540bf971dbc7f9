/-
  The walk of the law on links that nobody made, and bytes that are written over.
-/
import Derived.Test.YtfipdldoklkciaaLku
import Derived.Test.YtfipdldoklkciaaLky
namespace Go.Proofs.Ytfipdldoklkciaa
open Go.RowKit Go.ChangeShapes Go.WideShapes
set_option linter.unusedVariables false
set_option linter.unusedSimpArgs false
/-- An act's cells, its kind another. -/
def acK (k : Int) (x : Ac) : Array Value := #[.int .i64 k, .int .i64 x.net, .int .i64 x.i, .int .i64 x.at_, .int .u32 x.by_, .slice x.a x.n x.c]
/-- WHAT HOLDS WHILE THE LINKS THAT NOBODY MADE ARE CALLED. -/
structure NI (w wr : World) (b3 lz ls : Nat) (x : Ac) : Prop where
  bel : Below w.heap.size w wr
  c : ∃ k, Blk wr b3 (acK k x) 49
  z : wr.cell? ⟨lz, 0, none⟩ = some (.bool false)
  s0 : wr.cell? ⟨ls, 0, none⟩ = some (.pointer none)
  s1 : wr.cell? ⟨ls, 1, none⟩ = some (.pointer (some ⟨lz, 0, none⟩))
  hb : w.heap.size ≤ b3
  h1 : b3 < lz
  h2 : lz < ls
  h3 : ls < wr.heap.size
theorem NI.kept {w wr wr' : World} {b3 lz ls : Nat} {x : Ac} (h : NI w wr b3 lz ls x) (hb : Below wr.heap.size wr wr') : NI w wr' b3 lz ls x := by
  have a1 := h.hb; have a2 := h.h1; have a3 := h.h2; have a4 := h.h3
  exact ⟨h.bel.trans (hb.mono h.bel.size), h.c.imp fun k hk => hk.kept hb, (hb.cell (p := ⟨lz, 0, none⟩) (by show lz < _; omega)).trans h.z, (hb.cell (p := ⟨ls, 0, none⟩) (by show ls < _; omega)).trans h.s0, (hb.cell (p := ⟨ls, 1, none⟩) (by show ls < _; omega)).trans h.s1, a1, a2, a3, Nat.lt_of_lt_of_le a4 hb.size⟩
theorem NI.set {w wr : World} {b3 lz ls : Nat} {x : Ac} (h : NI w wr b3 lz ls x) (k : Int) : NI w (wr.setCell ⟨b3, 0, none⟩ (.int .i64 k)) b3 lz ls x ∧ Blk (wr.setCell ⟨b3, 0, none⟩ (.int .i64 k)) b3 (acK k x) 49 := by
  have a1 := h.hb; have a2 := h.h1; have a3 := h.h2; have a4 := h.h3
  obtain ⟨k0, hk⟩ := h.c
  have hs : Blk (wr.setCell ⟨b3, 0, none⟩ (.int .i64 k)) b3 (acK k x) 49 := hk.set 0 _
  have hf : ∀ g o, g ≠ b3 → (wr.setCell ⟨b3, 0, none⟩ (.int .i64 k)).cell? ⟨g, o, none⟩ = wr.cell? ⟨g, o, none⟩ := fun g o hg => World.cell?_of_block (Below.heap_setCell _ _ _ _ (by simpa using hg))
  exact ⟨⟨(K2.set (q := b3) (g := b3) wr 0 _).below h.bel h.bel.size a1 a1, ⟨k, hs⟩, (hf lz 0 (by omega)).trans h.z, (hf ls 0 (by omega)).trans h.s0, (hf ls 1 (by omega)).trans h.s1, a1, a2, a3, by simpa [World.setCell] using a4⟩, hs⟩
theorem zl0 : zl[0]? = some (.bool false) := by kernel_rfl
/-- The world behind the boxes. -/
def nw (w : World) (x : Ac) : World := (((w.alloc (.cells #[.int .i64 x.kind, .int .i64 x.net, .int .i64 x.i, .int .i64 x.at_, .int .u32 x.by_, .slice x.a x.n x.c] 49)).alloc (.cells zl 66)).alloc (.cells #[.pointer none, .pointer (some ⟨w.heap.size + 1, 0, none⟩)] 41))
theorem NI.start (w : World) (x : Ac) : NI w (nw w x) w.heap.size (w.heap.size + 1) (w.heap.size + 1 + 1) x := by
  have s1 : (w.alloc (.cells #[.int .i64 x.kind, .int .i64 x.net, .int .i64 x.i, .int .i64 x.at_, .int .u32 x.by_, .slice x.a x.n x.c] 49)).heap.size = w.heap.size + 1 := by simp
  have b1 := blk_new w #[.int .i64 x.kind, .int .i64 x.net, .int .i64 x.i, .int .i64 x.at_, .int .u32 x.by_, .slice x.a x.n x.c] 49
  generalize hw1 : w.alloc (.cells #[.int .i64 x.kind, .int .i64 x.net, .int .i64 x.i, .int .i64 x.at_, .int .u32 x.by_, .slice x.a x.n x.c] 49) = w1 at *
  have B1 : Below w.heap.size w w1 := by rw [← hw1]; exact (Below.refl _ _).alloc (Nat.le_refl _) _
  have s2 : (w1.alloc (.cells zl 66)).heap.size = w.heap.size + 1 + 1 := by simp [s1]
  have b2 := blk_new w1 zl 66
  rw [s1] at b2
  have B2 : Below w1.heap.size w1 (w1.alloc (.cells zl 66)) := (Below.refl _ _).alloc (Nat.le_refl _) _
  unfold nw
  rw [hw1]
  generalize w1.alloc (.cells zl 66) = w2 at *
  have b3 := blk_new w2 #[.pointer none, .pointer (some ⟨w.heap.size + 1, 0, none⟩)] 41
  have B3 : Below w2.heap.size w2 (w2.alloc (.cells #[.pointer none, .pointer (some ⟨w.heap.size + 1, 0, none⟩)] 41)) := (Below.refl _ _).alloc (Nat.le_refl _) _
  have s3 : (w2.alloc (.cells #[.pointer none, .pointer (some ⟨w.heap.size + 1, 0, none⟩)] 41)).heap.size = w.heap.size + 1 + 1 + 1 := by simp [s2]
  rw [s2] at b3
  generalize w2.alloc (.cells #[.pointer none, .pointer (some ⟨w.heap.size + 1, 0, none⟩)] 41) = w3 at *
  exact ⟨(B1.trans (B2.mono (by omega))).trans (B3.mono (by omega)), ⟨x.kind, (b1.kept B2).kept B3⟩, ((b2.kept B3).cell 0).trans zl0, b3.cell 0, b3.cell 1, by omega, by omega, by omega, by omega⟩
theorem NI.nl {w wr : World} {b3 lz ls : Nat} {x : Ac} (h : NI w wr b3 lz ls x) : Un wr (.pointer none) := .inl rfl
theorem NI.un {w wr : World} {b3 lz ls : Nat} {x : Ac} (h : NI w wr b3 lz ls x) : Un wr (.pointer (some ⟨lz, 0, none⟩)) := .inr ⟨lz, rfl, h.z, by have := h.h2; have := h.h3; omega⟩
set_option maxRecDepth 100000 in
set_option maxHeartbeats 4000000 in
theorem wnobody (a : Option Addr) (len cap : Nat) (zs : List Int) (x : Ac) (w : World) (hz0 : IsRow .u8 w a len cap zs) (hcap : cap ≤ 140737488351232) :
    Calls Try.prog 8 #[.slice a len cap, x.val] w fun e w' => e = .returned (.bool true) ∧ Below w.heap.size w w' := by
  have hz := zero_lk
  have hz1 := zl_ne
  have hz2 := zl_size
  have hS := NI.start w x
  obtain ⟨hlen0, hby0⟩ := bytes_of_row hz0
  have hle0 := (row_le hz0).1
  have hnil := nil_cap hz0
  obtain ⟨l, hl⟩ : ∃ l, l = zs.take len := ⟨_, rfl⟩
  rw [← hl] at hlen0 hby0
  have hlen : Hid (l.length = len) := hlen0
  have hby : Hid (Bytes w a l) := hby0
  have hnil' : Hid (a = none → cap = 0) := hnil
  have hcm : cap ≤ 9223372036854775807 := by omega
  have hcl : Hid (len ≤ 140737488351232) := by show _ ≤ _; omega
  have hS' : Hid (NI w (nw w x) w.heap.size (w.heap.size + 1) (w.heap.size + 1 + 1) x) := hS
  clear hz0 hlen0 hby0 hl hnil hS
  unfold Ac.val
  go_enter Try.func8, Try.ntmps8
  go_wp2_with fail
  have hW : (((w.alloc (.cells #[.int .i64 x.kind, .int .i64 x.net, .int .i64 x.i, .int .i64 x.at_, .int .u32 x.by_, .slice x.a x.n x.c] 49)).alloc (.cells zl 66)).alloc (.cells #[.pointer none, .pointer (some ⟨w.heap.size + 1, 0, none⟩)] 41)) = nw w x := rfl
  rw [hW]
  clear hz hz1 hz2 hW
  generalize nw w x = W at *
  generalize zl = zl' at *
  generalize hb3 : w.heap.size = b3 at *
  have hN : Hid (w.heap.size = b3) := hb3
  clear hb3
  go_loopw [22] (fun s22 wr => ∃ i : Nat, i ≤ 2 ∧ s22 = .int .i64 (i : Nat) ∧ Hid (NI w wr b3 (b3 + 1) (b3 + 1 + 1) x)) (fun i _ => 2 - (intOf i).toNat)
  case atStart => exact ⟨0, by omega, rfl, hS'⟩
  case round =>
    obtain ⟨i, hi, rfl, hI⟩ := hrel
    have s0 := hI.out.s0
    have s1 := hI.out.s1
    match i, hi with
    | 0, _ =>
      go_wp2_with fail
      go_loopw [26] (fun s26 wr => ∃ j : Nat, j ≤ 9 ∧ s26 = .int .i64 (j : Nat) ∧ Hid (NI w wr b3 (b3 + 1) (b3 + 1 + 1) x)) (fun j _ => 9 - (intOf j).toNat)
      case atStart => exact ⟨0, by omega, rfl, hI⟩
      case round =>
        obtain ⟨j, hj, rfl, hJ⟩ := hrel
        match j, hj with
        | 0, _ =>
          obtain ⟨k0, hk0⟩ := hJ.out.c
          have f0 := hk0.fz 0
          have c0 : _ = some (Value.int .i64 k0) := hk0.cell 0
          have c1 : _ = some (Value.int .i64 x.net) := hk0.cell 1
          have c2 : _ = some (Value.int .i64 x.i) := hk0.cell 2
          have c3 : _ = some (Value.int .i64 x.at_) := hk0.cell 3
          have c4 : _ = some (Value.int .u32 x.by_) := hk0.cell 4
          have c5 : _ = some (Value.slice x.a x.n x.c) := hk0.cell 5
          have kD := undo0 x.net x.i x.at_ x.by_ x.a x.n x.c ((hJ.out.set 0).1.nl)
          have hJ0 := (hJ.out.set 0).1
          have hJ1 : Hid (NI w _ b3 (b3 + 1) (b3 + 1 + 1) x) := hJ0
          clear hk0 hJ0
          go_wp2_with (go_at_call 24; refine kD.mono ?_; rintro e w1 ⟨rfl, hb1⟩; have hI1 : Hid (NI w w1 b3 (b3 + 1) (b3 + 1 + 1) x) := hJ1.out.kept hb1.out; clear hJ1 hb1 kD c0 c1 c2 c3 c4 c5 f0 hJ)
          refine ⟨?_, by simp [intOf]⟩
          exact ⟨_, _, _, _, _, _, _, _, _, _, _, _, _, _, _, _, _, _, _, _, _, _, _, _, _, _, _, _, _, _, _, _, _, _, _, _, _, _, _, _, _, _, _, _, _, _, _, _, ⟨0 + 1, by omega, rfl, hI1⟩, rfl⟩
        | 1, _ =>
          obtain ⟨k0, hk0⟩ := hJ.out.c
          have f0 := hk0.fz 0
          have c0 : _ = some (Value.int .i64 k0) := hk0.cell 0
          have c1 : _ = some (Value.int .i64 x.net) := hk0.cell 1
          have c2 : _ = some (Value.int .i64 x.i) := hk0.cell 2
          have c3 : _ = some (Value.int .i64 x.at_) := hk0.cell 3
          have c4 : _ = some (Value.int .u32 x.by_) := hk0.cell 4
          have c5 : _ = some (Value.slice x.a x.n x.c) := hk0.cell 5
          have kD := undo1 x.net x.i x.at_ x.by_ x.a x.n x.c ((hJ.out.set 1).1.nl)
          have hJ0 := (hJ.out.set 1).1
          have hJ1 : Hid (NI w _ b3 (b3 + 1) (b3 + 1 + 1) x) := hJ0
          clear hk0 hJ0
          go_wp2_with (go_at_call 24; refine kD.mono ?_; rintro e w1 ⟨rfl, hb1⟩; have hI1 : Hid (NI w w1 b3 (b3 + 1) (b3 + 1 + 1) x) := hJ1.out.kept hb1.out; clear hJ1 hb1 kD c0 c1 c2 c3 c4 c5 f0 hJ)
          refine ⟨?_, by simp [intOf]⟩
          exact ⟨_, _, _, _, _, _, _, _, _, _, _, _, _, _, _, _, _, _, _, _, _, _, _, _, _, _, _, _, _, _, _, _, _, _, _, _, _, _, _, _, _, _, _, _, _, _, _, _, ⟨1 + 1, by omega, rfl, hI1⟩, rfl⟩
        | 2, _ =>
          obtain ⟨k0, hk0⟩ := hJ.out.c
          have f0 := hk0.fz 0
          have c0 : _ = some (Value.int .i64 k0) := hk0.cell 0
          have c1 : _ = some (Value.int .i64 x.net) := hk0.cell 1
          have c2 : _ = some (Value.int .i64 x.i) := hk0.cell 2
          have c3 : _ = some (Value.int .i64 x.at_) := hk0.cell 3
          have c4 : _ = some (Value.int .u32 x.by_) := hk0.cell 4
          have c5 : _ = some (Value.slice x.a x.n x.c) := hk0.cell 5
          have kD := undo2 x.net x.i x.at_ x.by_ x.a x.n x.c ((hJ.out.set 2).1.nl)
          have hJ0 := (hJ.out.set 2).1
          have hJ1 : Hid (NI w _ b3 (b3 + 1) (b3 + 1 + 1) x) := hJ0
          clear hk0 hJ0
          go_wp2_with (go_at_call 24; refine kD.mono ?_; rintro e w1 ⟨rfl, hb1⟩; have hI1 : Hid (NI w w1 b3 (b3 + 1) (b3 + 1 + 1) x) := hJ1.out.kept hb1.out; clear hJ1 hb1 kD c0 c1 c2 c3 c4 c5 f0 hJ)
          refine ⟨?_, by simp [intOf]⟩
          exact ⟨_, _, _, _, _, _, _, _, _, _, _, _, _, _, _, _, _, _, _, _, _, _, _, _, _, _, _, _, _, _, _, _, _, _, _, _, _, _, _, _, _, _, _, _, _, _, _, _, ⟨2 + 1, by omega, rfl, hI1⟩, rfl⟩
        | 3, _ =>
          obtain ⟨k0, hk0⟩ := hJ.out.c
          have f0 := hk0.fz 0
          have c0 : _ = some (Value.int .i64 k0) := hk0.cell 0
          have c1 : _ = some (Value.int .i64 x.net) := hk0.cell 1
          have c2 : _ = some (Value.int .i64 x.i) := hk0.cell 2
          have c3 : _ = some (Value.int .i64 x.at_) := hk0.cell 3
          have c4 : _ = some (Value.int .u32 x.by_) := hk0.cell 4
          have c5 : _ = some (Value.slice x.a x.n x.c) := hk0.cell 5
          have kD := undo3 x.net x.i x.at_ x.by_ x.a x.n x.c ((hJ.out.set 3).1.nl)
          have hJ0 := (hJ.out.set 3).1
          have hJ1 : Hid (NI w _ b3 (b3 + 1) (b3 + 1 + 1) x) := hJ0
          clear hk0 hJ0
          go_wp2_with (go_at_call 24; refine kD.mono ?_; rintro e w1 ⟨rfl, hb1⟩; have hI1 : Hid (NI w w1 b3 (b3 + 1) (b3 + 1 + 1) x) := hJ1.out.kept hb1.out; clear hJ1 hb1 kD c0 c1 c2 c3 c4 c5 f0 hJ)
          refine ⟨?_, by simp [intOf]⟩
          exact ⟨_, _, _, _, _, _, _, _, _, _, _, _, _, _, _, _, _, _, _, _, _, _, _, _, _, _, _, _, _, _, _, _, _, _, _, _, _, _, _, _, _, _, _, _, _, _, _, _, ⟨3 + 1, by omega, rfl, hI1⟩, rfl⟩
        | 4, _ =>
          obtain ⟨k0, hk0⟩ := hJ.out.c
          have f0 := hk0.fz 0
          have c0 : _ = some (Value.int .i64 k0) := hk0.cell 0
          have c1 : _ = some (Value.int .i64 x.net) := hk0.cell 1
          have c2 : _ = some (Value.int .i64 x.i) := hk0.cell 2
          have c3 : _ = some (Value.int .i64 x.at_) := hk0.cell 3
          have c4 : _ = some (Value.int .u32 x.by_) := hk0.cell 4
          have c5 : _ = some (Value.slice x.a x.n x.c) := hk0.cell 5
          have kD := undo4 x.net x.i x.at_ x.by_ x.a x.n x.c ((hJ.out.set 4).1.nl)
          have hJ0 := (hJ.out.set 4).1
          have hJ1 : Hid (NI w _ b3 (b3 + 1) (b3 + 1 + 1) x) := hJ0
          clear hk0 hJ0
          go_wp2_with (go_at_call 24; refine kD.mono ?_; rintro e w1 ⟨rfl, hb1⟩; have hI1 : Hid (NI w w1 b3 (b3 + 1) (b3 + 1 + 1) x) := hJ1.out.kept hb1.out; clear hJ1 hb1 kD c0 c1 c2 c3 c4 c5 f0 hJ)
          refine ⟨?_, by simp [intOf]⟩
          exact ⟨_, _, _, _, _, _, _, _, _, _, _, _, _, _, _, _, _, _, _, _, _, _, _, _, _, _, _, _, _, _, _, _, _, _, _, _, _, _, _, _, _, _, _, _, _, _, _, _, ⟨4 + 1, by omega, rfl, hI1⟩, rfl⟩
        | 5, _ =>
          obtain ⟨k0, hk0⟩ := hJ.out.c
          have f0 := hk0.fz 0
          have c0 : _ = some (Value.int .i64 k0) := hk0.cell 0
          have c1 : _ = some (Value.int .i64 x.net) := hk0.cell 1
          have c2 : _ = some (Value.int .i64 x.i) := hk0.cell 2
          have c3 : _ = some (Value.int .i64 x.at_) := hk0.cell 3
          have c4 : _ = some (Value.int .u32 x.by_) := hk0.cell 4
          have c5 : _ = some (Value.slice x.a x.n x.c) := hk0.cell 5
          have kD := undo5 x.net x.i x.at_ x.by_ x.a x.n x.c ((hJ.out.set 5).1.nl)
          have hJ0 := (hJ.out.set 5).1
          have hJ1 : Hid (NI w _ b3 (b3 + 1) (b3 + 1 + 1) x) := hJ0
          clear hk0 hJ0
          go_wp2_with (go_at_call 24; refine kD.mono ?_; rintro e w1 ⟨rfl, hb1⟩; have hI1 : Hid (NI w w1 b3 (b3 + 1) (b3 + 1 + 1) x) := hJ1.out.kept hb1.out; clear hJ1 hb1 kD c0 c1 c2 c3 c4 c5 f0 hJ)
          refine ⟨?_, by simp [intOf]⟩
          exact ⟨_, _, _, _, _, _, _, _, _, _, _, _, _, _, _, _, _, _, _, _, _, _, _, _, _, _, _, _, _, _, _, _, _, _, _, _, _, _, _, _, _, _, _, _, _, _, _, _, ⟨5 + 1, by omega, rfl, hI1⟩, rfl⟩
        | 6, _ =>
          obtain ⟨k0, hk0⟩ := hJ.out.c
          have f0 := hk0.fz 0
          have c0 : _ = some (Value.int .i64 k0) := hk0.cell 0
          have c1 : _ = some (Value.int .i64 x.net) := hk0.cell 1
          have c2 : _ = some (Value.int .i64 x.i) := hk0.cell 2
          have c3 : _ = some (Value.int .i64 x.at_) := hk0.cell 3
          have c4 : _ = some (Value.int .u32 x.by_) := hk0.cell 4
          have c5 : _ = some (Value.slice x.a x.n x.c) := hk0.cell 5
          have kD := undo6 x.net x.i x.at_ x.by_ x.a x.n x.c ((hJ.out.set 6).1.nl)
          have hJ0 := (hJ.out.set 6).1
          have hJ1 : Hid (NI w _ b3 (b3 + 1) (b3 + 1 + 1) x) := hJ0
          clear hk0 hJ0
          go_wp2_with (go_at_call 24; refine kD.mono ?_; rintro e w1 ⟨rfl, hb1⟩; have hI1 : Hid (NI w w1 b3 (b3 + 1) (b3 + 1 + 1) x) := hJ1.out.kept hb1.out; clear hJ1 hb1 kD c0 c1 c2 c3 c4 c5 f0 hJ)
          refine ⟨?_, by simp [intOf]⟩
          exact ⟨_, _, _, _, _, _, _, _, _, _, _, _, _, _, _, _, _, _, _, _, _, _, _, _, _, _, _, _, _, _, _, _, _, _, _, _, _, _, _, _, _, _, _, _, _, _, _, _, ⟨6 + 1, by omega, rfl, hI1⟩, rfl⟩
        | 7, _ =>
          obtain ⟨k0, hk0⟩ := hJ.out.c
          have f0 := hk0.fz 0
          have c0 : _ = some (Value.int .i64 k0) := hk0.cell 0
          have c1 : _ = some (Value.int .i64 x.net) := hk0.cell 1
          have c2 : _ = some (Value.int .i64 x.i) := hk0.cell 2
          have c3 : _ = some (Value.int .i64 x.at_) := hk0.cell 3
          have c4 : _ = some (Value.int .u32 x.by_) := hk0.cell 4
          have c5 : _ = some (Value.slice x.a x.n x.c) := hk0.cell 5
          have kD := undo7 x.net x.i x.at_ x.by_ x.a x.n x.c ((hJ.out.set 7).1.nl)
          have hJ0 := (hJ.out.set 7).1
          have hJ1 : Hid (NI w _ b3 (b3 + 1) (b3 + 1 + 1) x) := hJ0
          clear hk0 hJ0
          go_wp2_with (go_at_call 24; refine kD.mono ?_; rintro e w1 ⟨rfl, hb1⟩; have hI1 : Hid (NI w w1 b3 (b3 + 1) (b3 + 1 + 1) x) := hJ1.out.kept hb1.out; clear hJ1 hb1 kD c0 c1 c2 c3 c4 c5 f0 hJ)
          refine ⟨?_, by simp [intOf]⟩
          exact ⟨_, _, _, _, _, _, _, _, _, _, _, _, _, _, _, _, _, _, _, _, _, _, _, _, _, _, _, _, _, _, _, _, _, _, _, _, _, _, _, _, _, _, _, _, _, _, _, _, ⟨7 + 1, by omega, rfl, hI1⟩, rfl⟩
        | 8, _ =>
          obtain ⟨k0, hk0⟩ := hJ.out.c
          have f0 := hk0.fz 0
          have c0 : _ = some (Value.int .i64 k0) := hk0.cell 0
          have c1 : _ = some (Value.int .i64 x.net) := hk0.cell 1
          have c2 : _ = some (Value.int .i64 x.i) := hk0.cell 2
          have c3 : _ = some (Value.int .i64 x.at_) := hk0.cell 3
          have c4 : _ = some (Value.int .u32 x.by_) := hk0.cell 4
          have c5 : _ = some (Value.slice x.a x.n x.c) := hk0.cell 5
          have kD := undo8 x.net x.i x.at_ x.by_ x.a x.n x.c ((hJ.out.set 8).1.nl)
          have hJ0 := (hJ.out.set 8).1
          have hJ1 : Hid (NI w _ b3 (b3 + 1) (b3 + 1 + 1) x) := hJ0
          clear hk0 hJ0
          go_wp2_with (go_at_call 24; refine kD.mono ?_; rintro e w1 ⟨rfl, hb1⟩; have hI1 : Hid (NI w w1 b3 (b3 + 1) (b3 + 1 + 1) x) := hJ1.out.kept hb1.out; clear hJ1 hb1 kD c0 c1 c2 c3 c4 c5 f0 hJ)
          refine ⟨?_, by simp [intOf]⟩
          exact ⟨_, _, _, _, _, _, _, _, _, _, _, _, _, _, _, _, _, _, _, _, _, _, _, _, _, _, _, _, _, _, _, _, _, _, _, _, _, _, _, _, _, _, _, _, _, _, _, _, ⟨8 + 1, by omega, rfl, hI1⟩, rfl⟩
        | 9, _ =>
          have hK0 : Hid (NI w _ b3 (b3 + 1) (b3 + 1 + 1) x) := hJ.out
          clear hJ hI
          go_wp2_with (first | (go_at_call 22; refine (un_way _ hK0.out.nl).mono ?_; rintro e v0 ⟨rfl, hv0⟩; have hK1 : Hid (NI w v0 b3 (b3 + 1) (b3 + 1 + 1) x) := hK0.out.kept hv0.out; clear hv0 hK0) | (go_at_call 20; refine (un_sent hK1.out.nl).mono ?_; rintro e v1 ⟨rfl, hv1⟩; have hK2 : Hid (NI w v1 b3 (b3 + 1) (b3 + 1 + 1) x) := hK1.out.kept hv1.out; clear hv1 hK1) | (go_at_call 21; refine (un_got hK2.out.nl).mono ?_; rintro e v2 ⟨rfl, hv2⟩; have hK3 : Hid (NI w v2 b3 (b3 + 1) (b3 + 1 + 1) x) := hK2.out.kept hv2.out; clear hv2 hK2) | (go_at_call 25; refine (un_held hK3.out.nl).mono ?_; rintro e v3 ⟨rfl, hv3⟩; have hK4 : Hid (NI w v3 b3 (b3 + 1) (b3 + 1 + 1) x) := hK3.out.kept hv3.out; clear hv3 hK3))
          exact ⟨⟨0 + 1, by omega, rfl, hK4⟩, by simp [intOf]⟩

    | 1, _ =>
      go_wp2_with fail
      go_loopw [26] (fun s26 wr => ∃ j : Nat, j ≤ 9 ∧ s26 = .int .i64 (j : Nat) ∧ Hid (NI w wr b3 (b3 + 1) (b3 + 1 + 1) x)) (fun j _ => 9 - (intOf j).toNat)
      case atStart => exact ⟨0, by omega, rfl, hI⟩
      case round =>
        obtain ⟨j, hj, rfl, hJ⟩ := hrel
        match j, hj with
        | 0, _ =>
          obtain ⟨k0, hk0⟩ := hJ.out.c
          have f0 := hk0.fz 0
          have c0 : _ = some (Value.int .i64 k0) := hk0.cell 0
          have c1 : _ = some (Value.int .i64 x.net) := hk0.cell 1
          have c2 : _ = some (Value.int .i64 x.i) := hk0.cell 2
          have c3 : _ = some (Value.int .i64 x.at_) := hk0.cell 3
          have c4 : _ = some (Value.int .u32 x.by_) := hk0.cell 4
          have c5 : _ = some (Value.slice x.a x.n x.c) := hk0.cell 5
          have kD := undo0 x.net x.i x.at_ x.by_ x.a x.n x.c ((hJ.out.set 0).1.un)
          have hJ0 := (hJ.out.set 0).1
          have hJ1 : Hid (NI w _ b3 (b3 + 1) (b3 + 1 + 1) x) := hJ0
          clear hk0 hJ0
          go_wp2_with (go_at_call 24; refine kD.mono ?_; rintro e w1 ⟨rfl, hb1⟩; have hI1 : Hid (NI w w1 b3 (b3 + 1) (b3 + 1 + 1) x) := hJ1.out.kept hb1.out; clear hJ1 hb1 kD c0 c1 c2 c3 c4 c5 f0 hJ)
          refine ⟨?_, by simp [intOf]⟩
          exact ⟨_, _, _, _, _, _, _, _, _, _, _, _, _, _, _, _, _, _, _, _, _, _, _, _, _, _, _, _, _, _, _, _, _, _, _, _, _, _, _, _, _, _, _, _, _, _, _, _, ⟨0 + 1, by omega, rfl, hI1⟩, rfl⟩
        | 1, _ =>
          obtain ⟨k0, hk0⟩ := hJ.out.c
          have f0 := hk0.fz 0
          have c0 : _ = some (Value.int .i64 k0) := hk0.cell 0
          have c1 : _ = some (Value.int .i64 x.net) := hk0.cell 1
          have c2 : _ = some (Value.int .i64 x.i) := hk0.cell 2
          have c3 : _ = some (Value.int .i64 x.at_) := hk0.cell 3
          have c4 : _ = some (Value.int .u32 x.by_) := hk0.cell 4
          have c5 : _ = some (Value.slice x.a x.n x.c) := hk0.cell 5
          have kD := undo1 x.net x.i x.at_ x.by_ x.a x.n x.c ((hJ.out.set 1).1.un)
          have hJ0 := (hJ.out.set 1).1
          have hJ1 : Hid (NI w _ b3 (b3 + 1) (b3 + 1 + 1) x) := hJ0
          clear hk0 hJ0
          go_wp2_with (go_at_call 24; refine kD.mono ?_; rintro e w1 ⟨rfl, hb1⟩; have hI1 : Hid (NI w w1 b3 (b3 + 1) (b3 + 1 + 1) x) := hJ1.out.kept hb1.out; clear hJ1 hb1 kD c0 c1 c2 c3 c4 c5 f0 hJ)
          refine ⟨?_, by simp [intOf]⟩
          exact ⟨_, _, _, _, _, _, _, _, _, _, _, _, _, _, _, _, _, _, _, _, _, _, _, _, _, _, _, _, _, _, _, _, _, _, _, _, _, _, _, _, _, _, _, _, _, _, _, _, ⟨1 + 1, by omega, rfl, hI1⟩, rfl⟩
        | 2, _ =>
          obtain ⟨k0, hk0⟩ := hJ.out.c
          have f0 := hk0.fz 0
          have c0 : _ = some (Value.int .i64 k0) := hk0.cell 0
          have c1 : _ = some (Value.int .i64 x.net) := hk0.cell 1
          have c2 : _ = some (Value.int .i64 x.i) := hk0.cell 2
          have c3 : _ = some (Value.int .i64 x.at_) := hk0.cell 3
          have c4 : _ = some (Value.int .u32 x.by_) := hk0.cell 4
          have c5 : _ = some (Value.slice x.a x.n x.c) := hk0.cell 5
          have kD := undo2 x.net x.i x.at_ x.by_ x.a x.n x.c ((hJ.out.set 2).1.un)
          have hJ0 := (hJ.out.set 2).1
          have hJ1 : Hid (NI w _ b3 (b3 + 1) (b3 + 1 + 1) x) := hJ0
          clear hk0 hJ0
          go_wp2_with (go_at_call 24; refine kD.mono ?_; rintro e w1 ⟨rfl, hb1⟩; have hI1 : Hid (NI w w1 b3 (b3 + 1) (b3 + 1 + 1) x) := hJ1.out.kept hb1.out; clear hJ1 hb1 kD c0 c1 c2 c3 c4 c5 f0 hJ)
          refine ⟨?_, by simp [intOf]⟩
          exact ⟨_, _, _, _, _, _, _, _, _, _, _, _, _, _, _, _, _, _, _, _, _, _, _, _, _, _, _, _, _, _, _, _, _, _, _, _, _, _, _, _, _, _, _, _, _, _, _, _, ⟨2 + 1, by omega, rfl, hI1⟩, rfl⟩
        | 3, _ =>
          obtain ⟨k0, hk0⟩ := hJ.out.c
          have f0 := hk0.fz 0
          have c0 : _ = some (Value.int .i64 k0) := hk0.cell 0
          have c1 : _ = some (Value.int .i64 x.net) := hk0.cell 1
          have c2 : _ = some (Value.int .i64 x.i) := hk0.cell 2
          have c3 : _ = some (Value.int .i64 x.at_) := hk0.cell 3
          have c4 : _ = some (Value.int .u32 x.by_) := hk0.cell 4
          have c5 : _ = some (Value.slice x.a x.n x.c) := hk0.cell 5
          have kD := undo3 x.net x.i x.at_ x.by_ x.a x.n x.c ((hJ.out.set 3).1.un)
          have hJ0 := (hJ.out.set 3).1
          have hJ1 : Hid (NI w _ b3 (b3 + 1) (b3 + 1 + 1) x) := hJ0
          clear hk0 hJ0
          go_wp2_with (go_at_call 24; refine kD.mono ?_; rintro e w1 ⟨rfl, hb1⟩; have hI1 : Hid (NI w w1 b3 (b3 + 1) (b3 + 1 + 1) x) := hJ1.out.kept hb1.out; clear hJ1 hb1 kD c0 c1 c2 c3 c4 c5 f0 hJ)
          refine ⟨?_, by simp [intOf]⟩
          exact ⟨_, _, _, _, _, _, _, _, _, _, _, _, _, _, _, _, _, _, _, _, _, _, _, _, _, _, _, _, _, _, _, _, _, _, _, _, _, _, _, _, _, _, _, _, _, _, _, _, ⟨3 + 1, by omega, rfl, hI1⟩, rfl⟩
        | 4, _ =>
          obtain ⟨k0, hk0⟩ := hJ.out.c
          have f0 := hk0.fz 0
          have c0 : _ = some (Value.int .i64 k0) := hk0.cell 0
          have c1 : _ = some (Value.int .i64 x.net) := hk0.cell 1
          have c2 : _ = some (Value.int .i64 x.i) := hk0.cell 2
          have c3 : _ = some (Value.int .i64 x.at_) := hk0.cell 3
          have c4 : _ = some (Value.int .u32 x.by_) := hk0.cell 4
          have c5 : _ = some (Value.slice x.a x.n x.c) := hk0.cell 5
          have kD := undo4 x.net x.i x.at_ x.by_ x.a x.n x.c ((hJ.out.set 4).1.un)
          have hJ0 := (hJ.out.set 4).1
          have hJ1 : Hid (NI w _ b3 (b3 + 1) (b3 + 1 + 1) x) := hJ0
          clear hk0 hJ0
          go_wp2_with (go_at_call 24; refine kD.mono ?_; rintro e w1 ⟨rfl, hb1⟩; have hI1 : Hid (NI w w1 b3 (b3 + 1) (b3 + 1 + 1) x) := hJ1.out.kept hb1.out; clear hJ1 hb1 kD c0 c1 c2 c3 c4 c5 f0 hJ)
          refine ⟨?_, by simp [intOf]⟩
          exact ⟨_, _, _, _, _, _, _, _, _, _, _, _, _, _, _, _, _, _, _, _, _, _, _, _, _, _, _, _, _, _, _, _, _, _, _, _, _, _, _, _, _, _, _, _, _, _, _, _, ⟨4 + 1, by omega, rfl, hI1⟩, rfl⟩
        | 5, _ =>
          obtain ⟨k0, hk0⟩ := hJ.out.c
          have f0 := hk0.fz 0
          have c0 : _ = some (Value.int .i64 k0) := hk0.cell 0
          have c1 : _ = some (Value.int .i64 x.net) := hk0.cell 1
          have c2 : _ = some (Value.int .i64 x.i) := hk0.cell 2
          have c3 : _ = some (Value.int .i64 x.at_) := hk0.cell 3
          have c4 : _ = some (Value.int .u32 x.by_) := hk0.cell 4
          have c5 : _ = some (Value.slice x.a x.n x.c) := hk0.cell 5
          have kD := undo5 x.net x.i x.at_ x.by_ x.a x.n x.c ((hJ.out.set 5).1.un)
          have hJ0 := (hJ.out.set 5).1
          have hJ1 : Hid (NI w _ b3 (b3 + 1) (b3 + 1 + 1) x) := hJ0
          clear hk0 hJ0
          go_wp2_with (go_at_call 24; refine kD.mono ?_; rintro e w1 ⟨rfl, hb1⟩; have hI1 : Hid (NI w w1 b3 (b3 + 1) (b3 + 1 + 1) x) := hJ1.out.kept hb1.out; clear hJ1 hb1 kD c0 c1 c2 c3 c4 c5 f0 hJ)
          refine ⟨?_, by simp [intOf]⟩
          exact ⟨_, _, _, _, _, _, _, _, _, _, _, _, _, _, _, _, _, _, _, _, _, _, _, _, _, _, _, _, _, _, _, _, _, _, _, _, _, _, _, _, _, _, _, _, _, _, _, _, ⟨5 + 1, by omega, rfl, hI1⟩, rfl⟩
        | 6, _ =>
          obtain ⟨k0, hk0⟩ := hJ.out.c
          have f0 := hk0.fz 0
          have c0 : _ = some (Value.int .i64 k0) := hk0.cell 0
          have c1 : _ = some (Value.int .i64 x.net) := hk0.cell 1
          have c2 : _ = some (Value.int .i64 x.i) := hk0.cell 2
          have c3 : _ = some (Value.int .i64 x.at_) := hk0.cell 3
          have c4 : _ = some (Value.int .u32 x.by_) := hk0.cell 4
          have c5 : _ = some (Value.slice x.a x.n x.c) := hk0.cell 5
          have kD := undo6 x.net x.i x.at_ x.by_ x.a x.n x.c ((hJ.out.set 6).1.un)
          have hJ0 := (hJ.out.set 6).1
          have hJ1 : Hid (NI w _ b3 (b3 + 1) (b3 + 1 + 1) x) := hJ0
          clear hk0 hJ0
          go_wp2_with (go_at_call 24; refine kD.mono ?_; rintro e w1 ⟨rfl, hb1⟩; have hI1 : Hid (NI w w1 b3 (b3 + 1) (b3 + 1 + 1) x) := hJ1.out.kept hb1.out; clear hJ1 hb1 kD c0 c1 c2 c3 c4 c5 f0 hJ)
          refine ⟨?_, by simp [intOf]⟩
          exact ⟨_, _, _, _, _, _, _, _, _, _, _, _, _, _, _, _, _, _, _, _, _, _, _, _, _, _, _, _, _, _, _, _, _, _, _, _, _, _, _, _, _, _, _, _, _, _, _, _, ⟨6 + 1, by omega, rfl, hI1⟩, rfl⟩
        | 7, _ =>
          obtain ⟨k0, hk0⟩ := hJ.out.c
          have f0 := hk0.fz 0
          have c0 : _ = some (Value.int .i64 k0) := hk0.cell 0
          have c1 : _ = some (Value.int .i64 x.net) := hk0.cell 1
          have c2 : _ = some (Value.int .i64 x.i) := hk0.cell 2
          have c3 : _ = some (Value.int .i64 x.at_) := hk0.cell 3
          have c4 : _ = some (Value.int .u32 x.by_) := hk0.cell 4
          have c5 : _ = some (Value.slice x.a x.n x.c) := hk0.cell 5
          have kD := undo7 x.net x.i x.at_ x.by_ x.a x.n x.c ((hJ.out.set 7).1.un)
          have hJ0 := (hJ.out.set 7).1
          have hJ1 : Hid (NI w _ b3 (b3 + 1) (b3 + 1 + 1) x) := hJ0
          clear hk0 hJ0
          go_wp2_with (go_at_call 24; refine kD.mono ?_; rintro e w1 ⟨rfl, hb1⟩; have hI1 : Hid (NI w w1 b3 (b3 + 1) (b3 + 1 + 1) x) := hJ1.out.kept hb1.out; clear hJ1 hb1 kD c0 c1 c2 c3 c4 c5 f0 hJ)
          refine ⟨?_, by simp [intOf]⟩
          exact ⟨_, _, _, _, _, _, _, _, _, _, _, _, _, _, _, _, _, _, _, _, _, _, _, _, _, _, _, _, _, _, _, _, _, _, _, _, _, _, _, _, _, _, _, _, _, _, _, _, ⟨7 + 1, by omega, rfl, hI1⟩, rfl⟩
        | 8, _ =>
          obtain ⟨k0, hk0⟩ := hJ.out.c
          have f0 := hk0.fz 0
          have c0 : _ = some (Value.int .i64 k0) := hk0.cell 0
          have c1 : _ = some (Value.int .i64 x.net) := hk0.cell 1
          have c2 : _ = some (Value.int .i64 x.i) := hk0.cell 2
          have c3 : _ = some (Value.int .i64 x.at_) := hk0.cell 3
          have c4 : _ = some (Value.int .u32 x.by_) := hk0.cell 4
          have c5 : _ = some (Value.slice x.a x.n x.c) := hk0.cell 5
          have kD := undo8 x.net x.i x.at_ x.by_ x.a x.n x.c ((hJ.out.set 8).1.un)
          have hJ0 := (hJ.out.set 8).1
          have hJ1 : Hid (NI w _ b3 (b3 + 1) (b3 + 1 + 1) x) := hJ0
          clear hk0 hJ0
          go_wp2_with (go_at_call 24; refine kD.mono ?_; rintro e w1 ⟨rfl, hb1⟩; have hI1 : Hid (NI w w1 b3 (b3 + 1) (b3 + 1 + 1) x) := hJ1.out.kept hb1.out; clear hJ1 hb1 kD c0 c1 c2 c3 c4 c5 f0 hJ)
          refine ⟨?_, by simp [intOf]⟩
          exact ⟨_, _, _, _, _, _, _, _, _, _, _, _, _, _, _, _, _, _, _, _, _, _, _, _, _, _, _, _, _, _, _, _, _, _, _, _, _, _, _, _, _, _, _, _, _, _, _, _, ⟨8 + 1, by omega, rfl, hI1⟩, rfl⟩
        | 9, _ =>
          have hK0 : Hid (NI w _ b3 (b3 + 1) (b3 + 1 + 1) x) := hJ.out
          clear hJ hI
          go_wp2_with (first | (go_at_call 22; refine (un_way _ hK0.out.un).mono ?_; rintro e v0 ⟨rfl, hv0⟩; have hK1 : Hid (NI w v0 b3 (b3 + 1) (b3 + 1 + 1) x) := hK0.out.kept hv0.out; clear hv0 hK0) | (go_at_call 20; refine (un_sent hK1.out.un).mono ?_; rintro e v1 ⟨rfl, hv1⟩; have hK2 : Hid (NI w v1 b3 (b3 + 1) (b3 + 1 + 1) x) := hK1.out.kept hv1.out; clear hv1 hK1) | (go_at_call 21; refine (un_got hK2.out.un).mono ?_; rintro e v2 ⟨rfl, hv2⟩; have hK3 : Hid (NI w v2 b3 (b3 + 1) (b3 + 1 + 1) x) := hK2.out.kept hv2.out; clear hv2 hK2) | (go_at_call 25; refine (un_held hK3.out.un).mono ?_; rintro e v3 ⟨rfl, hv3⟩; have hK4 : Hid (NI w v3 b3 (b3 + 1) (b3 + 1 + 1) x) := hK3.out.kept hv3.out; clear hv3 hK3))
          exact ⟨⟨1 + 1, by omega, rfl, hK4⟩, by simp [intOf]⟩

    | 2, _ =>
      clear s0 s1
      go_wp2_with fail
      generalize wr = W0 at *
      have hB1 : Hid (Below w.heap.size w W0) := hI.out.bel
      have hzW : Hid (b3 ≤ W0.heap.size) := by have := hB1.out.size; rw [hN.out] at this; exact this
      refine (knew_yes 2 1 W0 (by decide) (by decide) (by decide) (by decide)).mono ?_
      rintro e w1 ⟨q, rfl, hL1, hb1⟩
      generalize hrb : W0.heap.size = B at *
      have hNb : Hid (W0.heap.size = B) := hrb
      clear hrb hI hS'
      have hL1' : Hid (Lm w1 B q bL1) := hL1
      have hbW : Hid (Bytes w1 a l) := (hby.out.kept hB1.out).kept (by rw [hNb.out]; exact hb1.out)
      have hz1 : Hid (B ≤ w1.heap.size) := hL1.out.B_le
      have hq1 : Hid (q.lb < w1.heap.size ∧ q.sb < w1.heap.size ∧ q.mb < w1.heap.size ∧ q.rb < w1.heap.size) := by
        obtain ⟨cr, hr⟩ := hL1.out.rv.bk
        exact ⟨hL1.out.lt, hL1.out.sd.blk.lt, hL1.out.sd.mp.lt, hr.lt⟩
      clear hL1
      go_wp2_with (at_builtin; refine wpList_append_bytes rfl _ _ rfl w1.heap.size (.slice none 0 0) [] l rfl (ownsB_nil _ _) a len cap rfl hlen.out hnil'.out hbW.out (by have := hcl.out; have := hlen.out; simp; omega) (Nat.le_refl _) ?_; intro v' w2 hO2 hg2)
      have hb2 : Hid (Below w1.heap.size w1 w2) := (Below.refl _ _).grown hg2 (Nat.le_refl _) (by simp [Value.ownBlock])
      have hL2 : Hid (Lm w2 B q bL1) := hL1'.out.kept hb2.out
      have hB2 : Hid (Below B W0 w2) := hb1.out.trans (hb2.out.mono hz1.out)
      have hO2' : Hid (OwnsB w2 w1.heap.size v' l) := by have := hO2; rw [List.nil_append] at this; exact this
      obtain ⟨a2, c2, rfl, hn2, ⟨hle2, hmx2⟩, hby2, hat2⟩ := hO2'.out.shape
      have hO3 : Hid (OwnsB w2 w1.heap.size (.slice a2 l.length c2) l) := hO2'.out
      have hnl : l.length = len := hlen.out
      rw [hnl] at hle2 ⊢
      have hmx2' : c2 ≤ 9223372036854775807 := by unfold maxLen at hmx2; exact hmx2
      have hby2' : Hid (Bytes w2 a2 l) := hby2
      have hn2' : Hid (a2 = none → c2 = 0) := hn2
      have hz2 : Hid (B ≤ w2.heap.size) := hL2.out.B_le
      clear hnl hmx2 hby2 hn2 hat2 hO2' hO2 hg2 hbW hL1' hb1 hb2
      by_cases hq : 1100 < len
      · have k := send_any a2 len c2 l hL2.out hz2.out hlen.out hn2'.out hby2'.out
        have hE : sendE bL1 len = 8 := by rw [b_send, if_pos hq]
        rw [hE] at k
        have hE' : Hid (sendE bL1 l.length ≠ 0) := by show _ ≠ _; rw [hlen.out, hE]; decide
        clear hE hq
        go_wp2_with (first
          | (go_at_call 26; refine k.mono ?_; rintro e w3 ⟨rfl, hR3, hK3⟩; clear k; have hL3 : Hid (Lm w3 B q bL1) := hR3.out.1 hE'.out; have hB3 : Hid (Below B W0 w3) := hK3.out.below hB2.out hz2.out hL2.out; clear hR3 hK3 hL2 hB2)
          | (go_at_call 17; refine (alive_any _).mono ?_; rintro e w6 ⟨rfl, hb6⟩))
        go_ret
        have hb5 : Below B W0 w6 := hB3.out.trans (hb6.out.mono hL3.out.B_le)
        exact ⟨rfl, hB1.out.trans (hb5.mono (by rw [hN.out]; exact hzW.out))⟩
      · have hlz : l.length ≤ 1100 := by rw [hlen.out]; omega
        have hlz' : Hid (l.length ≤ 1100) := hlz
        have hE : sendE bL1 len = 0 := by rw [b_send, if_neg hq]
        have k := send_far a2 len c2 l hL2.out hz2.out hlen.out hn2'.out hby2'.out hE
        clear hE hq hlz
        go_wp2_with fail
        refine k.mono ?_
        rintro e w3 ⟨rfl, hR3, hK3⟩
        clear k
        obtain ⟨en, he1, he2, _, he4, he5, hL3⟩ := hR3.out
        have hL3' : Hid (Lm w3 B q (bL2 en)) := hL3
        have hB3 : Hid (Below B W0 w3) := hK3.out.below hB2.out hz2.out hL2.out
        have hen : Hid (en.zs = l ∧ en.time = 0 ∧ en.there = false) := ⟨he1, he2, he4⟩
        have hfar : Hid (∀ x, en.a = some x → w2.heap.size ≤ x.block) := he5
        have hD3 : Hid (len = 0 ∨ ∃ g2, a2 = some ⟨g2, 0, none⟩ ∧ (w1.heap.size ≤ g2 ∧ g2 < w2.heap.size) ∧ DW w3 g2 len) := by
          by_cases h0 : len = 0
          · exact .inl h0
          · refine .inr ?_
            obtain ⟨g2, n2, cc2, hv, hOr, _, _, _⟩ := hO3.out.row (by rw [hlen.out]; omega)
            cases hv
            have hd := DW.of hO3.out
            rw [hlen.out] at hd
            have hlt : g2 < w2.heap.size := by
              obtain ⟨⟨c, hc⟩, _⟩ := hd 0 (by omega)
              rcases Nat.lt_or_ge g2 w2.heap.size with h | h
              · exact h
              · simp [World.cell?, Array.getElem?_eq_none h] at hc
            have hge : w1.heap.size ≤ g2 := hOr.out.2.2.2
            refine ⟨g2, rfl, ⟨hge, hlt⟩, ?_⟩
            intro i hi
            have hb := hK3.out.block g2 hlt (by have := hq1.out.1; omega) (by have := hq1.out.2.1; omega) (by have := hq1.out.2.2.1; omega) (by have := hq1.out.2.2.2; omega)
            obtain ⟨⟨c, hc⟩, hf⟩ := hd i hi
            refine ⟨⟨c, by rw [World.cell?_of_block hb]; exact hc⟩, ?_⟩
            unfold World.frozen? at hf ⊢
            rw [hb]
            exact hf
        clear hL3 he1 he2 he4 he5 hR3 hK3 hO3 hby2' hL2 hB2 hz2 hle2
        go_wp2_with fail
        go_loopw [112] (fun s112 wx => ∃ j : Nat, j ≤ len ∧ s112 = .int .i64 (j : Nat) ∧ Hid (Lm wx B q (bL2 en)) ∧ Hid (Below B W0 wx) ∧ Hid (len = 0 ∨ ∃ g2, a2 = some ⟨g2, 0, none⟩ ∧ (w1.heap.size ≤ g2 ∧ g2 < w2.heap.size) ∧ DW wx g2 len)) (fun j _ => len - (intOf j).toNat)
        case atStart => exact ⟨0, Nat.zero_le _, rfl, hL3', hB3, hD3⟩
        case round =>
          obtain ⟨j, hj, rfl, hA, hBx, hD⟩ := hrel
          clear hL3' hB3 hD3
          by_cases hjl : j < len
          · have hdj : decide ((j : Int) < (len : Int)) = true := by simp; omega
            obtain ⟨g2, rfl, hg2, hDW⟩ : ∃ g2, a2 = some ⟨g2, 0, none⟩ ∧ (w1.heap.size ≤ g2 ∧ g2 < w2.heap.size) ∧ DW wr g2 len := by
              rcases hD.out with h | h
              · omega
              · exact h
            obtain ⟨⟨c, hc⟩, hf⟩ := hDW j hjl
            have hDW' : Hid (DW wr g2 len) := hDW
            have hA' : Hid (∀ v, Lm (wr.setCell ⟨g2, j, none⟩ v) B q (bL2 en)) := fun v => hA.out.away (K2.set (q := g2) (g := g2) _ j v) (by have := hq1.out.1; omega) (by have := hq1.out.2.1; omega) (by have := hq1.out.2.2.1; omega) (by have := hq1.out.2.2.2; omega) (b_far en (fun x hx => by have := hfar.out x hx; omega)) rfl rfl
            have hBx' : Hid (∀ v, Below B W0 (wr.setCell ⟨g2, j, none⟩ v)) := fun v => (K2.set (q := g2) (g := g2) _ j v).below hBx.out (by have := hA.out.B_le; exact this) (by have := hz1.out; omega) (by have := hz1.out; omega)
            have hg2' : Hid (w1.heap.size ≤ g2 ∧ g2 < w2.heap.size) := hg2
            clear hDW hD hA hBx hg2
            go_wp2
            exact ⟨⟨j + 1, by omega, by simp, hA'.out _, hBx'.out _, .inr ⟨g2, rfl, hg2'.out, hDW'.out.set j _⟩⟩, by simp [intOf]; omega⟩
          · have hdj : decide ((j : Int) < (len : Int)) = false := by simp; omega
            clear hD
            have k4 := tick_any hA.out (by show (1 : Int) ≤ _; decide) (by show (0 : Int) ≤ _; decide)
            have hz3 := hA.out.B_le
            go_wp2_with fail
            refine k4.mono ?_
            rintro e w4 ⟨rfl, hT4, hK4⟩
            obtain ⟨g1, g3, hg1, hL4⟩ := b_tick en hen.out.2.1 hen.out.2.2 hT4.out
            have hL4' : Hid (Lm w4 B q (bL3 en g1 g3)) := hL4
            have hB4 : Hid (Below B W0 w4) := hK4.out.below hBx.out hz3 hA.out
            have hby3 : Hid (∀ c ∈ en.zs, 0 ≤ c ∧ c < 256) := by rw [hen.out.1]; exact hby.out.1
            have hlen3 : Hid (en.zs.length ≤ 1100) := by rw [hen.out.1]; exact hlz'.out
            have hd : Hid (delR { bL3 en g1 g3 with n0 := (bL3 en g1 g3).n0.eraseIdx 0 } 0 g1.zs = (0, bL4 en g1 g3 en.zs)) := b_del en g1 g3 hlen3.out hby3.out hg1
            have hx0 : Hid (canE (bL3 en g1 g3) 0 (0 : Nat) = 0) := rfl
            have hx1 : Hid ((bL3 en g1 g3).n0[0]? = some g1) := rfl
            have k6 := del0 0 g1 hL4'.out hx0.out hx1.out
            rw [hd.out] at k6
            clear hT4 hK4 hL4 hA hBx k4 hg1
            go_wp2_with fail
            refine k6.mono ?_
            rintro e w6 ⟨rfl, hL6, hK6⟩
            have hL6' : Hid (Lm w6 B q (bL4 en g1 g3 en.zs)) := hL6
            have hB6 : Hid (Below B W0 w6) := hK6.out.below hB4.out hL4'.out.B_le hL4'.out
            clear k6 hL6 hK6 hL4' hB4
            go_wp2_with fail
            refine (poll_any hL6'.out (by show (0 : Int) < _; decide)).mono ?_
            rintro e w7 ⟨hP7, hL7, hK7⟩
            obtain ⟨a7, n7, c7, rfl, hS7⟩ := hP7.out
            have hB7 : Hid (Below B W0 w7) := hK7.out.below hB6.out hL6'.out.B_le hL6'.out
            have hz7 : Hid (B ≤ w7.heap.size) := hL7.out.B_le
            have hS7' : Hid (Sl w7 w6.heap.size a7 n7 c7 en.zs) := hS7
            have hi : ((bL4 en g1 g3 en.zs).r.L ((bL4 en g1 g3 en.zs).r.tk + 1)).isSome = true := rfl
            rw [hi]
            have hby7 : Hid (Bytes w7 a l) := hby.out.kept (hB1.out.trans (hB7.out.mono (show w.heap.size ≤ B by rw [hN.out]; exact hzW.out)))
            have kS := same_any a7 a n7 len c7 cap en.zs l w7 hS7'.out.by_ hby7.out hS7'.out.len hlen.out
            rw [hen.out.1, show decide (l = l) = true by simp] at kS
            clear hP7 hL7 hK7 hB6 hL6' hS7 hS7' hby7
            go_wp2_with (first
              | (go_at_call 15; refine kS.mono ?_; rintro e wn ⟨rfl, hbn⟩; obtain rfl := hbn.symm; clear hbn kS)
              | (go_at_call 17; refine (alive_any _).mono ?_; rintro e w8 ⟨rfl, hb8⟩))
            go_ret
            have hb9 : Below B W0 w8 := hB7.out.trans (hb8.out.mono hz7.out)
            exact ⟨rfl, hB1.out.trans (hb9.mono (by rw [hN.out]; exact hzW.out))⟩
end Go.Proofs.Ytfipdldoklkciaa
