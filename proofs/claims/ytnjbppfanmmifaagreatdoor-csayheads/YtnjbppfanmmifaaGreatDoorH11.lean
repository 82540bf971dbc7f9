/-
  The program's reader of CBOR: an item's beginning is read.
  The program's reader of CBOR: an item's beginning with an argument behind it.
  The program's reader of CBOR: an item's beginning with its argument behind it.
  The program's reader of CBOR: an item's beginning, whatever it is.
  The program's reader of CBOR: the bytes of a run.
  The program's reader of CBOR: the bytes of a run, whole.
  The program's reader of CBOR: the bytes of a run, at the end of all.
  The program's reader of CBOR: the bytes of a Bytes or a Text, of all its parts.
-/
import Derived.Test.YtnjbppfanmmifaaGreatDoorH10
import Derived.Test.YtnjbppfanmmifaaGreatDoorH7
import Derived.Lib.MinMax
namespace Go.Proofs.YtnjbppfanmmifaaGreatDoor
open Go.RowKit
set_option linter.unusedVariables false
set_option maxRecDepth 100000 in
theorem and31 : ∀ r : Nat, r < 256 → bits BinOp.and IntKind.u8 (r : Int) 31 = ((r % 32 : Nat) : Int) := by decide
theorem and31i {c : Int} (h0 : 0 ≤ c) (h1 : c < 256) : bits BinOp.and IntKind.u8 c 31 = c % 32 := by
  obtain ⟨r, rfl⟩ : ∃ r : Nat, c = (r : Int) := ⟨c.toNat, by omega⟩
  rw [and31 r (by omega)]
  omega
/-- THE READER, AND WHAT HAS TURNED SINCE w. -/
def RK (C : CX) (w X : World) (p m : Nat) : Prop := RSt C X p m ∧ Kq C.g w.heap.size w X ∧ C.g < w.heap.size
theorem RSt.rk {C : CX} {w : World} {p m : Nat} (h : RSt C w p m) : RK C w w p m := ⟨h, Kq.refl _ _ _, h.lt⟩
theorem RK.below {C : CX} {w X Y : World} {p m : Nat} (h : RK C w X p m) (hb : Below X.heap.size X Y) : RK C w Y p m := ⟨h.1.below hb, h.2.1.trans ((Kq.of hb).mono h.2.1.size), h.2.2⟩
theorem RK.alloc {C : CX} {w X : World} {p m : Nat} (h : RK C w X p m) (o : Obj) : RK C w (X.alloc o) p m := h.below (alloc_below X o)
theorem RK.dn {C : CX} {w X : World} {p m : Nat} (h : RK C w X p m) (q : Nat) : RK C w (X.drewN q) p m := h.below (bdn X q)
theorem RK.drew {C : CX} {w X : World} {p m : Nat} (h : RK C w X p m) : RK C w X.drew p m := h.below (Below.refl _ _).drew
theorem RK.set {C : CX} {w X : World} {p m k j : Nat} {v : Value} (h : RK C w X p m) (hk : w.heap.size ≤ k) : RK C w (X.setCell ⟨k, j, none⟩ v) p m := by
  obtain ⟨h1, h2, h3⟩ := h
  have hq := Kq.set k X.heap.size X j v
  have hlt := h1.lt
  refine ⟨h1.on ((Below.refl C.g X).setCell (p := ⟨k, j, none⟩) (by show C.g ≤ k; omega) v) (Blk.kq h1.1 hq hlt (by omega)), ⟨hq.os.trans h2.os, hq.tape.trans h2.tape, hq.output.trans h2.output, Nat.le_trans h2.size hq.size, fun i hi hg => ?_⟩, h3⟩
  rw [hq.block i (by have := h2.size; omega) (by omega), h2.block i hi hg]
theorem RK.at_ {C : CX} {w X : World} {p m : Nat} (h : RK C w X p m) (q : Nat) : RK C w (X.setCell ⟨C.g, 1, none⟩ (.int .i64 (q : Nat))) q m := ⟨h.1.at_ q, h.2.1.trans (Kq.set _ _ _ _ _), h.2.2⟩
theorem RK.no_ {C : CX} {w X : World} {p m : Nat} (h : RK C w X p m) (q : Nat) : RK C w (X.setCell ⟨C.g, 2, none⟩ (.int .i64 (q : Nat))) p q := ⟨h.1.no_ q, h.2.1.trans (Kq.set _ _ _ _ _), h.2.2⟩
theorem RK.next {C : CX} {w X Y : World} {p m q n : Nat} (h : RK C w X p m) (k : RK C X Y q n) : RK C w Y q n := ⟨k.1, h.2.1.next k.2.1, h.2.2⟩
set_option maxHeartbeats 2000000 in
set_option maxRecDepth 100000 in
theorem chead_none {C : CX} {w : World} {p m : Nat} (h : RSt C w p m) (hp : C.zs.length ≤ p) : Calls Tryz.prog 82 #[.pointer (some ⟨C.g, 0, none⟩)] w fun e w' => e = Pn (3, C.zs.length) ∧ Kq C.g w.heap.size w w' := by
  have c0 : w.cell? ⟨C.g, 0, none⟩ = some (.slice C.a C.zs.length C.c) := Blk.cell h.1 0
  have c1 : w.cell? ⟨C.g, 1, none⟩ = some (.int .i64 (p : Nat)) := Blk.cell h.1 1
  have kN : Hid (∀ wx, RSt C wx p m → Calls Tryz.prog 85 #[.pointer (some ⟨C.g, 0, none⟩), .bool false] wx fun e w' => e = Pn (3, C.zs.length) ∧ w' = wx) := fun wx hx => cneeds_no hx
  have hd : decide ((p : Int) < (C.zs.length : Int)) = false := by simp; omega
  have hd' : decide (p < C.zs.length) = false := by simp; omega
  have hg := h.lt
  have hne : ¬ w.heap.size = C.g := by omega
  have hR : Hid (∀ wx, Below w.heap.size w wx → RSt C wx p m ∧ Kq C.g w.heap.size w wx.drew) := fun wx hx => ⟨h.below hx, kqd (Kq.of hx)⟩
  generalize C.zs.length = n at *
  clear h hp
  go_enter Tryz.func82, Tryz.ntmps82
  go_wp2_with fail
  go_region_dies
  all_goals (refine (kN.out _ ((hR.out _ (alloc_below w _)).1.drew)).mono ?_; rintro e w2 ⟨rfl, rfl⟩; exact ⟨rfl, rfl, (hR.out _ (alloc_below w _)).2⟩)
set_option maxHeartbeats 2000000 in
set_option maxRecDepth 100000 in
theorem chead_low {C : CX} {w : World} {p m : Nat} (h : RSt C w p m) (hp : p < C.zs.length) (hl : C.zs[p] % 32 < 24) : Calls Tryz.prog 82 #[.pointer (some ⟨C.g, 0, none⟩)] w fun e w' => e = .returned (.agg #[.int .i64 (p : Nat), .int .u8 (C.zs[p] / 32), .int .u8 (C.zs[p] % 32), .int .u64 (C.zs[p] % 32), .bool false]) ∧ RK C w w' (p + 1) m := by
  obtain ⟨b, off, ha, ⟨hbg, hc⟩, hgd, hz0, hz1⟩ := h.byte hp
  have c0 : w.cell? ⟨C.g, 0, none⟩ = some (.slice (some ⟨b, off, none⟩) C.zs.length C.c) := by rw [← ha]; exact Blk.cell h.1 0
  have c1 : w.cell? ⟨C.g, 1, none⟩ = some (.int .i64 (p : Nat)) := Blk.cell h.1 1
  have f1 : w.frozen? ⟨C.g, 1, none⟩ = false := Blk.fz h.1 1
  have cb : w.cell? ⟨b, off + p, none⟩ = some (.int .u8 C.zs[p]) := by rw [hc p hp, hgd]
  have kN := cneeds_yes C
  have hlt : (p : Int) < (C.zs.length : Int) := by omega
  have hd : decide ((p : Int) < (C.zs.length : Int)) = true := by simp; omega
  have hd' : decide (p < C.zs.length) = true := by simp; omega
  have h46 := h.2.2.2.1
  have wi : IntKind.i64.wrap ((p : Int) + 1) = (p : Int) + 1 := by rw [IntKind.wrap_i64]; omega
  have hg := h.lt
  have n1 : ¬ w.heap.size = C.g := by omega
  have n2 : ¬ w.heap.size + 1 = C.g := by omega
  have n3 : ¬ w.heap.size = b := by omega
  have n4 : ¬ w.heap.size + 1 = b := by omega
  have n5 : ¬ C.g = b := by omega
  have hbw : b < w.heap.size := by omega
  have hA := and31i hz0 hz1
  have hdl : decide (C.zs[p] % 32 < 24) = true := by simpa using hl
  have wl : IntKind.u64.wrap (C.zs[p] % 32) = C.zs[p] % 32 := by rw [IntKind.wrap_u64]; omega
  have hR : Hid (∀ wx, RK C w wx p m → RK C w (wx.setCell ⟨C.g, 1, none⟩ (.int .i64 ((p : Int) + 1))) (p + 1) m) := fun wx hx => by have := hx.at_ (p + 1); rw [show (((p + 1 : Nat) : Nat) : Int) = (p : Int) + 1 by omega] at this; exact this
  have hR0 : Hid (RK C w w p m) := h.rk
  clear h hc hgd ha hbg hl h46 
  generalize C.zs[p] = c at *
  generalize C.zs.length = n at *
  go_enter Tryz.func82, Tryz.ntmps82
  go_wp2_with fail
  go_quiet ((first | (go_at_call 85; exact Calls.quiet_of_same (kN _))))
  go_wp2_with fail
  go_region
  go_wp2_with fail
  refine bodyPost_ret (v := .agg #[.int .i64 (p : Nat), .int .u8 (c / 32), .int .u8 (c % 32), .int .u64 (c % 32), .bool false]) (by simp [results, Tryz.results82, go_sem, *]) rfl ⟨rfl, ?_⟩
  refine RK.alloc (RK.set (RK.set (RK.set (RK.set (RK.set (hR.out _ ((hR0.out.alloc _).dn _)) (Nat.le_refl _)) (Nat.le_refl _)) (Nat.le_refl _)) (Nat.le_refl _)) (Nat.le_refl _)) _
end Go.Proofs.YtnjbppfanmmifaaGreatDoor
namespace Go.Proofs.YtnjbppfanmmifaaGreatDoor
open Go.RowKit
set_option linter.unusedVariables false
set_option maxHeartbeats 4000000 in
set_option maxRecDepth 100000 in
theorem chead_cut {C : CX} {w : World} {p m : Nat} (h : RSt C w p m) (hp : p < C.zs.length) (hl : ¬ C.zs[p] % 32 < 24) (hcut : C.zs.length < p + 1 + hwd (C.zs[p] % 32)) : Calls Tryz.prog 82 #[.pointer (some ⟨C.g, 0, none⟩)] w fun e w' => e = .returned (.agg #[.int .i64 (p : Nat), .int .u8 (C.zs[p] / 32), .int .u8 (C.zs[p] % 32), .int .u64 0, .bool true]) ∧ RK C w w' (p + 1) m := by
  obtain ⟨b, off, ha, ⟨hbg, hc⟩, hgd, hz0, hz1⟩ := h.byte hp
  have c0 : w.cell? ⟨C.g, 0, none⟩ = some (.slice (some ⟨b, off, none⟩) C.zs.length C.c) := by rw [← ha]; exact Blk.cell h.1 0
  have c1 : w.cell? ⟨C.g, 1, none⟩ = some (.int .i64 (p : Nat)) := Blk.cell h.1 1
  have f1 : w.frozen? ⟨C.g, 1, none⟩ = false := Blk.fz h.1 1
  have cb : w.cell? ⟨b, off + p, none⟩ = some (.int .u8 C.zs[p]) := by rw [hc p hp, hgd]
  have kN := cneeds_yes C
  have hlt : (p : Int) < (C.zs.length : Int) := by omega
  have hd : decide ((p : Int) < (C.zs.length : Int)) = true := by simp; omega
  have hd' : decide (p < C.zs.length) = true := by simp; omega
  have h46 := h.2.2.2.1
  have wi : IntKind.i64.wrap ((p : Int) + 1) = (p : Int) + 1 := by rw [IntKind.wrap_i64]; omega
  have hg := h.lt
  have n1 : ¬ w.heap.size = C.g := by omega
  have n2 : ¬ w.heap.size + 1 = C.g := by omega
  have n3 : ¬ w.heap.size = b := by omega
  have n4 : ¬ w.heap.size + 1 = b := by omega
  have n5 : ¬ C.g = b := by omega
  have hbw : b < w.heap.size := by omega
  have hA := and31i hz0 hz1
  have hdl : decide (C.zs[p] % 32 < 24) = false := by simpa using hl
  have hR : Hid (∀ wx, RK C w wx p m → RK C w (wx.setCell ⟨C.g, 1, none⟩ (.int .i64 ((p : Int) + 1))) (p + 1) m) := fun wx hx => by have := hx.at_ (p + 1); rw [show (((p + 1 : Nat) : Nat) : Int) = (p : Int) + 1 by omega] at this; exact this
  have hR0 : Hid (RK C w w p m) := h.rk
  have kW : Hid (∀ wx, Calls Tryz.prog 122 #[.agg #[.int .i64 (p : Nat), .int .u8 (C.zs[p] / 32), .int .u8 (C.zs[p] % 32), .int .u64 0, .bool false]] wx fun e w' => e = .returned (.int .i64 (hwd (C.zs[p] % 32) : Nat)) ∧ Below wx.heap.size wx w') := fun wx => cwidth_any ⟨p, C.zs[p] / 32, C.zs[p] % 32, 0, false⟩ wx
  have kB : Hid (∀ V0 w2 : World, V0.heap.size = w.heap.size + 1 → Below (V0.alloc (.cells #[.int .i64 (p : Nat), .int .u8 (C.zs[p] / 32), .int .u8 (C.zs[p] % 32), .int .u64 0, .bool false] 94)).heap.size (V0.alloc (.cells #[.int .i64 (p : Nat), .int .u8 (C.zs[p] / 32), .int .u8 (C.zs[p] % 32), .int .u64 0, .bool false] 94)) w2 → Blk w2 (w.heap.size + 1) #[.int .i64 (p : Nat), .int .u8 (C.zs[p] / 32), .int .u8 (C.zs[p] % 32), .int .u64 0, .bool false] 94) := fun V0 w2 hV hb => by rw [← hV]; exact Blk.kept (blk_new _ _ _) hb (by simp)
  have kZ : Hid (∀ (q : Nat) (v : Value) (o : Obj) (w2 : World), Below ((((w.alloc (.cells #[.int .i64 0, .int .u8 0, .int .u8 0, .int .u64 0, .bool false] 94)).drewN q).setCell ⟨C.g, 1, none⟩ v).alloc o).heap.size ((((w.alloc (.cells #[.int .i64 0, .int .u8 0, .int .u8 0, .int .u64 0, .bool false] 94)).drewN q).setCell ⟨C.g, 1, none⟩ v).alloc o) w2 → Blk w2 w.heap.size #[.int .i64 0, .int .u8 0, .int .u8 0, .int .u64 0, .bool false] 94) := fun q v o w2 hb => by
    refine Blk.kept (Blk.kept (Blk.kq (Blk.kept (blk_new w _ _) (bdn _ q) (by simp)) (Kq.set C.g _ _ 1 v) (B := w.heap.size + 1) (by omega) (by omega)) (alloc_below _ o) (by simp [World.setCell])) hb (by simp [World.setCell]; omega)
  have hcell : Hid (∀ {wx q}, RSt C wx q m → wx.cell? ⟨C.g, 0, none⟩ = some (.slice (some ⟨b, off, none⟩) C.zs.length C.c)) := fun {wx q} hx => by rw [← ha]; exact Blk.cell hx.1 0
  have hcell1 : Hid (∀ {wx}, RSt C wx (p + 1) m → wx.cell? ⟨C.g, 1, none⟩ = some (.int .i64 ((p : Int) + 1))) := fun {wx} hx => by have := Blk.cell hx.1 1; rw [show (((p + 1 : Nat) : Nat) : Int) = (p : Int) + 1 by omega] at this; exact this
  have w8 := hwd_le (C.zs[p] % 32)
  have wn : IntKind.i64.wrap ((C.zs.length : Int) - ((p : Int) + 1)) = (C.zs.length : Int) - ((p : Int) + 1) := by rw [IntKind.wrap_i64]; omega
  have hgt : decide ((C.zs.length : Int) - ((p : Int) + 1) < (hwd (C.zs[p] % 32) : Int)) = true := by simp; omega
  clear h hc hgd ha hbg hl h46 hcut w8
  generalize C.zs[p] = c at *
  generalize hwd (c % 32) = W at *
  generalize C.zs.length = n at *
  go_enter Tryz.func82, Tryz.ntmps82
  go_wp2_with fail
  go_quiet ((first | (go_at_call 85; exact Calls.quiet_of_same (kN _))))
  go_wp2_with fail
  go_region
  go_wp2_with (go_at_call 122; refine (kW.out _).mono ?_; rintro e w2 ⟨rfl, hb2⟩; have R2 : Hid (RK C w w2 (p + 1) m) := RK.below (RK.alloc (hR.out _ ((hR0.out.alloc _).dn _)) _) hb2; have B2 : Blk w2 (w.heap.size + 1) #[.int .i64 (p : Nat), .int .u8 (c / 32), .int .u8 (c % 32), .int .u64 0, .bool false] 94 := kB.out _ _ (by simp [World.setCell]) hb2; have Z2 := kZ.out _ _ _ _ hb2; have e0 : w2.cell? ⟨C.g, 0, none⟩ = some (.slice (some ⟨b, off, none⟩) n C.c) := hcell.out R2.out.1; have e1 : w2.cell? ⟨C.g, 1, none⟩ = some (.int .i64 ((p : Int) + 1)) := hcell1.out R2.out.1; have b0 := B2.cell 0; have b1 := B2.cell 1; have b2 := B2.cell 2; have b3 := B2.cell 3; have b4 := B2.cell 4; have g4 := B2.fz 4; have g3 := B2.fz 3; have z0 := Z2.cell 0; have z1 := Z2.cell 1; have z2 := Z2.cell 2; have z3 := Z2.cell 3; have z4 := Z2.cell 4; have y0 := Z2.fz 0; have y1 := Z2.fz 1; have y2 := Z2.fz 2; have y3 := Z2.fz 3; have y4 := Z2.fz 4; simp at b0 b1 b2 b3 b4 z0 z1 z2 z3 z4; have B2' : Hid (Blk w2 (w.heap.size + 1) #[.int .i64 (p : Nat), .int .u8 (c / 32), .int .u8 (c % 32), .int .u64 0, .bool false] 94) := B2; have Z2' : Hid (Blk w2 w.heap.size #[.int .i64 0, .int .u8 0, .int .u8 0, .int .u64 0, .bool false] 94) := Z2; clear hb2 B2 Z2 kB kZ kW)
  go_region
  go_wp2_with fail
  refine bodyPost_ret (v := .agg #[.int .i64 (p : Nat), .int .u8 (c / 32), .int .u8 (c % 32), .int .u64 0, .bool true]) (by simp [results, Tryz.results82, go_sem, *]) rfl ⟨rfl, ?_⟩
  repeat (first | with_reducible exact R2.out | with_reducible refine RK.drew ?_ | with_reducible refine RK.dn ?_ _ | with_reducible refine RK.set ?_ (by omega))
end Go.Proofs.YtnjbppfanmmifaaGreatDoor
namespace Go.Proofs.YtnjbppfanmmifaaGreatDoor
open Go.RowKit
set_option linter.unusedVariables false
/-- One byte more of an argument. -/
theorem arg_more {n : Nat} {c : Int} (hn : n < 72057594037927936) (h0 : 0 ≤ c) (h1 : c < 256) : bits BinOp.or IntKind.u64 ((n : Int) * 256) c = ((n * 256 + c.toNat : Nat) : Int) := by
  rw [or_hi 8 ((n : Int) * 256) c (by omega) (by omega) (by omega) h0 (by omega) (by omega)]
  omega
theorem seg_more {zs : List Int} {q i : Nat} (h : q + i < zs.length) : here zs q (i + 1) = here zs q i ++ [zs[q + i]] := by
  unfold here
  rw [List.take_succ_eq_append_getElem (by rw [List.length_drop]; omega)]
  congr 2
  rw [List.getElem_drop]
theorem bytV_app (l : List Int) (c : Int) : bytV (l ++ [c]) = bytV l * 256 + c.toNat := by unfold bytV; rw [List.foldl_append]; rfl
/-- What the loop keeps. -/
def HL (C : CX) (w wr : World) (p q m : Nat) (c : Int) (v : Nat) : Prop := RK C w wr q m ∧ Blk wr (w.heap.size + 1) #[.int .i64 (p : Nat), .int .u8 (c / 32), .int .u8 (c % 32), .int .u64 (v : Nat), .bool false] 94 ∧ Blk wr w.heap.size #[.int .i64 0, .int .u8 0, .int .u8 0, .int .u64 0, .bool false] 94
theorem HL.drew {C : CX} {w wr : World} {p q m : Nat} {c : Int} {v : Nat} (h : HL C w wr p q m c v) (k : Nat) : HL C w (wr.drewN k) p q m c v := ⟨h.1.dn k, Blk.kept h.2.1 (bdn wr k) h.2.1.lt, Blk.kept h.2.2 (bdn wr k) h.2.2.lt⟩
theorem HL.put {C : CX} {w wr : World} {p q m : Nat} {c : Int} {v : Nat} (h : HL C w wr p q m c v) (u : Nat) : HL C w (wr.setCell ⟨w.heap.size + 1, 3, none⟩ (.int .u64 (u : Nat))) p q m c u := ⟨h.1.set (by omega), Blk.set h.2.1 3 _, Blk.kq h.2.2 (Kq.set _ _ _ _ _) (B := w.heap.size + 1) (by omega) (by omega)⟩
set_option maxHeartbeats 4000000 in
set_option maxRecDepth 100000 in
theorem chead_wide {C : CX} {w : World} {p m : Nat} (h : RSt C w p m) (hp : p < C.zs.length) (hl : ¬ C.zs[p] % 32 < 24) (hcut : ¬ C.zs.length < p + 1 + hwd (C.zs[p] % 32)) (hW0 : hwd (C.zs[p] % 32) ≠ 0) : Calls Tryz.prog 82 #[.pointer (some ⟨C.g, 0, none⟩)] w fun e w' => e = .returned (.agg #[.int .i64 (p : Nat), .int .u8 (C.zs[p] / 32), .int .u8 (C.zs[p] % 32), .int .u64 (bytV (here C.zs (p + 1) (hwd (C.zs[p] % 32))) : Nat), .bool false]) ∧ RK C w w' (p + 1 + hwd (C.zs[p] % 32)) m := by
  obtain ⟨q, hq⟩ : ∃ q, q = p + 1 := ⟨_, rfl⟩
  obtain ⟨b, off, ha, ⟨hbg, hc⟩, hgd, hz0, hz1⟩ := h.byte hp
  have c0 : w.cell? ⟨C.g, 0, none⟩ = some (.slice (some ⟨b, off, none⟩) C.zs.length C.c) := by rw [← ha]; exact Blk.cell h.1 0
  have c1 : w.cell? ⟨C.g, 1, none⟩ = some (.int .i64 (p : Nat)) := Blk.cell h.1 1
  have f1 : w.frozen? ⟨C.g, 1, none⟩ = false := Blk.fz h.1 1
  have cb : w.cell? ⟨b, off + p, none⟩ = some (.int .u8 C.zs[p]) := by rw [hc p hp, hgd]
  have kN := cneeds_yes C
  have hlt : (p : Int) < (C.zs.length : Int) := by omega
  have hd : decide ((p : Int) < (C.zs.length : Int)) = true := by simp; omega
  have hd' : decide (p < C.zs.length) = true := by simp; omega
  have h46 := h.2.2.2.1
  have wi : IntKind.i64.wrap ((p : Int) + 1) = (q : Int) := by rw [IntKind.wrap_i64]; omega
  have hg := h.lt
  have n1 : ¬ w.heap.size = C.g := by omega
  have n2 : ¬ w.heap.size + 1 = C.g := by omega
  have n3 : ¬ w.heap.size = b := by omega
  have n4 : ¬ w.heap.size + 1 = b := by omega
  have n5 : ¬ C.g = b := by omega
  have hbw : b < w.heap.size := by omega
  have hA := and31i hz0 hz1
  have hdl : decide (C.zs[p] % 32 < 24) = false := by simpa using hl
  have hR : Hid (∀ wx, RK C w wx p m → RK C w (wx.setCell ⟨C.g, 1, none⟩ (.int .i64 (q : Int))) q m) := fun wx hx => hx.at_ q
  have hR0 : Hid (RK C w w p m) := h.rk
  have kW : Hid (∀ wx, Calls Tryz.prog 122 #[.agg #[.int .i64 (p : Nat), .int .u8 (C.zs[p] / 32), .int .u8 (C.zs[p] % 32), .int .u64 0, .bool false]] wx fun e w' => e = .returned (.int .i64 (hwd (C.zs[p] % 32) : Nat)) ∧ Below wx.heap.size wx w') := fun wx => cwidth_any ⟨p, C.zs[p] / 32, C.zs[p] % 32, 0, false⟩ wx
  have kB : Hid (∀ V0 w2 : World, V0.heap.size = w.heap.size + 1 → Below (V0.alloc (.cells #[.int .i64 (p : Nat), .int .u8 (C.zs[p] / 32), .int .u8 (C.zs[p] % 32), .int .u64 0, .bool false] 94)).heap.size (V0.alloc (.cells #[.int .i64 (p : Nat), .int .u8 (C.zs[p] / 32), .int .u8 (C.zs[p] % 32), .int .u64 0, .bool false] 94)) w2 → Blk w2 (w.heap.size + 1) #[.int .i64 (p : Nat), .int .u8 (C.zs[p] / 32), .int .u8 (C.zs[p] % 32), .int .u64 0, .bool false] 94) := fun V0 w2 hV hb => by rw [← hV]; exact Blk.kept (blk_new _ _ _) hb (by simp)
  have kZ : Hid (∀ (q : Nat) (v : Value) (o : Obj) (w2 : World), Below ((((w.alloc (.cells #[.int .i64 0, .int .u8 0, .int .u8 0, .int .u64 0, .bool false] 94)).drewN q).setCell ⟨C.g, 1, none⟩ v).alloc o).heap.size ((((w.alloc (.cells #[.int .i64 0, .int .u8 0, .int .u8 0, .int .u64 0, .bool false] 94)).drewN q).setCell ⟨C.g, 1, none⟩ v).alloc o) w2 → Blk w2 w.heap.size #[.int .i64 0, .int .u8 0, .int .u8 0, .int .u64 0, .bool false] 94) := fun q v o w2 hb => by
    refine Blk.kept (Blk.kept (Blk.kq (Blk.kept (blk_new w _ _) (bdn _ q) (by simp)) (Kq.set C.g _ _ 1 v) (B := w.heap.size + 1) (by omega) (by omega)) (alloc_below _ o) (by simp [World.setCell])) hb (by simp [World.setCell]; omega)
  have hcell : Hid (∀ {wx q}, RSt C wx q m → wx.cell? ⟨C.g, 0, none⟩ = some (.slice (some ⟨b, off, none⟩) C.zs.length C.c)) := fun {wx q} hx => by rw [← ha]; exact Blk.cell hx.1 0
  have hcell1 : Hid (∀ {wx}, RSt C wx q m → wx.cell? ⟨C.g, 1, none⟩ = some (.int .i64 (q : Int))) := fun {wx} hx => Blk.cell hx.1 1
  have hby : Hid (∀ {wx}, RSt C wx q m → ∀ i, q + i < C.zs.length → ∃ x : Int, wx.cell? ⟨b, off + q + i, none⟩ = some (.int .u8 x) ∧ 0 ≤ x ∧ x < 256 ∧ bytV (here C.zs q (i + 1)) = bytV (here C.zs q i) * 256 + x.toNat) := fun {wx} hx i hi => by
    obtain ⟨b', off', ha', ⟨_, hc'⟩, hgd', h0', h1'⟩ := hx.byte (p := q) (show q < C.zs.length by omega)
    rw [ha] at ha'
    cases ha'
    have hm := hx.2.1.1.1 _ (List.getElem_mem hi)
    refine ⟨C.zs[q + i], ?_, hm.1, hm.2, by rw [seg_more hi, bytV_app]⟩
    have := hc' (q + i) hi
    rw [List.getD_eq_getElem?_getD, List.getElem?_eq_getElem hi] at this
    rw [Nat.add_assoc]
    exact this
  have hlim : Hid (∀ i, i ≤ 8 → bytV (here C.zs q i) < 256 ^ i) := fun i hi => by
    have hb := bytV_lt (here C.zs q i) fun x hx => h.2.1.1.1 x (List.mem_of_mem_drop (List.mem_of_mem_take hx))
    exact Nat.lt_of_lt_of_le hb (Nat.pow_le_pow_right (by decide) (by unfold here; rw [List.length_take]; omega))
  have w8 := hwd_le (C.zs[p] % 32)
  obtain ⟨Q, hQ⟩ : ∃ Q, Q = q + hwd (C.zs[p] % 32) := ⟨_, rfl⟩
  have hcc := h.2.2.1
  have hmx := hcc.2.1
  unfold maxLen at hmx
  have wn : IntKind.i64.wrap ((C.zs.length : Int) - (q : Int)) = (C.zs.length : Int) - (q : Int) := by rw [IntKind.wrap_i64]; omega
  have wq : IntKind.i64.wrap ((q : Int) + (hwd (C.zs[p] % 32) : Int)) = (Q : Int) := by rw [IntKind.wrap_i64]; omega
  have hgt : decide ((C.zs.length : Int) - (q : Int) < (hwd (C.zs[p] % 32) : Int)) = false := by simp; omega
  have s1 : (q : Int) ≤ (Q : Int) := by omega
  have s2 : (Q : Int) ≤ (C.c : Int) := by omega
  have s3 : q ≤ Q := by omega
  have s4 : Q ≤ C.c := by omega
  have s5 : ¬ C.c = q := by omega
  have hWe : Hid (q + hwd (C.zs[p] % 32) = Q) := hQ.symm
  have hQn : Hid (Q ≤ C.zs.length) := by show _ ≤ _; omega
  have hW8 : Hid (hwd (C.zs[p] % 32) ≤ 8) := w8
  have hRQ : Hid (∀ wx, RK C w wx q m → RK C w (wx.setCell ⟨C.g, 1, none⟩ (.int .i64 (Q : Int))) Q m) := fun wx hx => hx.at_ Q
  have f1' : Hid (∀ {wx q}, RSt C wx q m → wx.frozen? ⟨C.g, 1, none⟩ = false) := fun {wx q} hx => Blk.fz hx.1 1
  rw [← hq, ← hQ]
  have hq' : Hid (q = p + 1) := hq
  clear h hc hgd ha hbg hl h46 hcut w8 hq hQ hcc hmx hW0
  generalize hzc : C.zs[p] = c at *
  clear hzc
  generalize hwd (c % 32) = W at *
  have hZ : Hid (C.zs.length = C.zs.length) := rfl
  generalize hn : C.zs.length = n at *
  clear hn hZ
  go_enter Tryz.func82, Tryz.ntmps82
  go_wp2_with fail
  go_quiet ((first | (go_at_call 85; exact Calls.quiet_of_same (kN _))))
  go_wp2_with fail
  go_region
  go_wp2_with (go_at_call 122; refine (kW.out _).mono ?_; rintro e w2 ⟨rfl, hb2⟩; have R2 : Hid (RK C w w2 q m) := RK.below (RK.alloc (hR.out _ ((hR0.out.alloc _).dn _)) _) hb2; have B2 : Blk w2 (w.heap.size + 1) #[.int .i64 (p : Nat), .int .u8 (c / 32), .int .u8 (c % 32), .int .u64 0, .bool false] 94 := kB.out _ _ (by simp [World.setCell]) hb2; have Z2 := kZ.out _ _ _ _ hb2; have e0 : w2.cell? ⟨C.g, 0, none⟩ = some (.slice (some ⟨b, off, none⟩) n C.c) := hcell.out R2.out.1; have e1 : w2.cell? ⟨C.g, 1, none⟩ = some (.int .i64 (q : Int)) := hcell1.out R2.out.1; have b0 := B2.cell 0; have b1 := B2.cell 1; have b2 := B2.cell 2; have b3 := B2.cell 3; have b4 := B2.cell 4; have g4 := B2.fz 4; have g3 := B2.fz 3; have z0 := Z2.cell 0; have z1 := Z2.cell 1; have z2 := Z2.cell 2; have z3 := Z2.cell 3; have z4 := Z2.cell 4; have y0 := Z2.fz 0; have y1 := Z2.fz 1; have y2 := Z2.fz 2; have y3 := Z2.fz 3; have y4 := Z2.fz 4; simp at b0 b1 b2 b3 b4 z0 z1 z2 z3 z4; have B2' : Hid (Blk w2 (w.heap.size + 1) #[.int .i64 (p : Nat), .int .u8 (c / 32), .int .u8 (c % 32), .int .u64 0, .bool false] 94) := B2; have Z2' : Hid (Blk w2 w.heap.size #[.int .i64 0, .int .u8 0, .int .u8 0, .int .u64 0, .bool false] 94) := Z2; clear hb2 B2 Z2 kB kZ kW)
  go_region
  go_wp2_with fail
  go_region
  have HL0 : Hid (HL C w w2.drew.drew p q m c (bytV (here C.zs q 0))) := HL.drew ⟨R2.out, B2'.out, Z2'.out⟩ 2
  obtain ⟨L, hL⟩ : ∃ L, Q - q = L := ⟨_, rfl⟩
  have hLW : Hid (q + L = Q ∧ L ≤ 8) := by have := hWe.out; have := hW8.out; exact ⟨by omega, by omega⟩
  have s6 : L ≤ C.c - q := by omega
  rw [hL]
  clear hL b0 b1 b2 b3 b4 z0 z1 z2 z3 z4 y0 y1 y2 y3 y4 g3 g4 e0 e1 B2' Z2' hcell hcell1 c0 c1 f1 cb
  go_wp2_with fail
  go_loopw [86] (fun s86 wr => ∃ i : Nat, i ≤ L ∧ s86 = .int .i64 i ∧ Hid (HL C w wr p q m c (bytV (here C.zs q i)))) (fun i _ => L - (intOf i).toNat)
  case atStart => exact ⟨0, Nat.zero_le _, rfl, HL0⟩
  case round =>
    obtain ⟨i, hi, rfl, hH⟩ := hrel
    obtain ⟨hH1, hH2, hH3⟩ := hH.out
    by_cases hlt2 : i < L
    · have hz : (i : Int) < (L : Int) := by omega
      obtain ⟨x, hx, hx0, hx1, hxv⟩ := hby.out hH1.1 i (by have := hLW.out; have := hQn.out; omega)
      have hv7 : bytV (here C.zs q i) < 72057594037927936 := Nat.lt_of_lt_of_le (hlim.out i (by have := hLW.out; omega)) (Nat.le_trans (Nat.pow_le_pow_right (n := 256) (by decide) (show i ≤ 7 by have := hLW.out; omega)) (by decide))
      have hor := arg_more hv7 hx0 hx1
      have hput : Hid (HL C w (wr.setCell ⟨w.heap.size + 1, 3, none⟩ (.int .u64 (bytV (here C.zs q (i + 1)) : Nat))) p q m c (bytV (here C.zs q (i + 1)))) := HL.put hH.out _
      rw [← hxv] at hor
      generalize hv' : bytV (here C.zs q (i + 1)) = v' at *
      have hv2 : Hid (bytV (here C.zs q (i + 1)) = v') := hv'
      clear hv'
      generalize bytV (here C.zs q i) = v at *
      have ws : IntKind.u64.wrap ((v : Int) * 256) = (v : Int) * 256 := by rw [IntKind.wrap_u64]; omega
      have wx : IntKind.u64.wrap x = x := by rw [IntKind.wrap_u64]; omega
      have wi1 : IntKind.i64.wrap ((i : Int) + 1) = (i : Int) + 1 := by rw [IntKind.wrap_i64]; have := hLW.out; omega
      have b3 := hH2.cell 3
      have g3 := hH2.fz 3
      simp at b3
      clear hH hH1 hH2 hH3 hxv hv7
      go_wp2_with fail
      go_roundw
      case rel => exact ⟨i + 1, by omega, by go_num, by rw [hv2.out]; exact hput⟩
      case measure => simp [intOf]; omega
    · have hz : ¬ (i : Int) < (L : Int) := by omega
      obtain rfl : i = L := by omega
      have hLi : Hid (here C.zs q i = here C.zs q W) := by have := hLW.out; have := hWe.out; rw [show i = W by omega]; exact rfl
      rw [hLi.out] at hH hH2
      generalize hv' : bytV (here C.zs q W) = v at *
      have hv2 : Hid (bytV (here C.zs q W) = v) := hv'
      clear hv'
      have e1 := hH1.1.1.cell 1
      have f1 := hH1.1.1.fz 1
      simp at e1
      have b0 := hH2.cell 0
      have b1 := hH2.cell 1
      have b2 := hH2.cell 2
      have b3 := hH2.cell 3
      have b4 := hH2.cell 4
      have z0 := hH3.cell 0
      have z1 := hH3.cell 1
      have z2 := hH3.cell 2
      have z3 := hH3.cell 3
      have z4 := hH3.cell 4
      have y0 := hH3.fz 0
      have y1 := hH3.fz 1
      have y2 := hH3.fz 2
      have y3 := hH3.fz 3
      have y4 := hH3.fz 4
      simp at b0 b1 b2 b3 b4 z0 z1 z2 z3 z4
      have R3 : Hid (RK C w wr q m) := hH1
      clear hH hH1 hH2 hH3 hLi
      go_wp2_with fail
      refine bodyPost_ret (v := .agg #[.int .i64 (p : Nat), .int .u8 (c / 32), .int .u8 (c % 32), .int .u64 (v : Nat), .bool false]) (by simp [results, Tryz.results82, go_sem, *]) rfl ⟨by rw [hv2.out], ?_⟩
      repeat (first | with_reducible exact hRQ.out _ R3.out | with_reducible refine RK.drew ?_ | with_reducible refine RK.dn ?_ _ | with_reducible refine RK.set ?_ (by omega))
end Go.Proofs.YtnjbppfanmmifaaGreatDoor
namespace Go.Proofs.YtnjbppfanmmifaaGreatDoor
open Go.RowKit
set_option linter.unusedVariables false
set_option maxHeartbeats 4000000 in
set_option maxRecDepth 100000 in
theorem chead_zero {C : CX} {w : World} {p m : Nat} (h : RSt C w p m) (hp : p < C.zs.length) (hl : ¬ C.zs[p] % 32 < 24) (hW0 : hwd (C.zs[p] % 32) = 0) : Calls Tryz.prog 82 #[.pointer (some ⟨C.g, 0, none⟩)] w fun e w' => e = .returned (.agg #[.int .i64 (p : Nat), .int .u8 (C.zs[p] / 32), .int .u8 (C.zs[p] % 32), .int .u64 0, .bool false]) ∧ RK C w w' (p + 1) m := by
  obtain ⟨q, hq⟩ : ∃ q, q = p + 1 := ⟨_, rfl⟩
  obtain ⟨b, off, ha, ⟨hbg, hc⟩, hgd, hz0, hz1⟩ := h.byte hp
  have c0 : w.cell? ⟨C.g, 0, none⟩ = some (.slice (some ⟨b, off, none⟩) C.zs.length C.c) := by rw [← ha]; exact Blk.cell h.1 0
  have c1 : w.cell? ⟨C.g, 1, none⟩ = some (.int .i64 (p : Nat)) := Blk.cell h.1 1
  have f1 : w.frozen? ⟨C.g, 1, none⟩ = false := Blk.fz h.1 1
  have cb : w.cell? ⟨b, off + p, none⟩ = some (.int .u8 C.zs[p]) := by rw [hc p hp, hgd]
  have kN := cneeds_yes C
  have hlt : (p : Int) < (C.zs.length : Int) := by omega
  have hd : decide ((p : Int) < (C.zs.length : Int)) = true := by simp; omega
  have hd' : decide (p < C.zs.length) = true := by simp; omega
  have h46 := h.2.2.2.1
  have wi : IntKind.i64.wrap ((p : Int) + 1) = (q : Int) := by rw [IntKind.wrap_i64]; omega
  have hg := h.lt
  have n1 : ¬ w.heap.size = C.g := by omega
  have n2 : ¬ w.heap.size + 1 = C.g := by omega
  have n3 : ¬ w.heap.size = b := by omega
  have n4 : ¬ w.heap.size + 1 = b := by omega
  have n5 : ¬ C.g = b := by omega
  have hbw : b < w.heap.size := by omega
  have hA := and31i hz0 hz1
  have hdl : decide (C.zs[p] % 32 < 24) = false := by simpa using hl
  have hR : Hid (∀ wx, RK C w wx p m → RK C w (wx.setCell ⟨C.g, 1, none⟩ (.int .i64 (q : Int))) q m) := fun wx hx => hx.at_ q
  have hR0 : Hid (RK C w w p m) := h.rk
  have kW : Hid (∀ wx, Calls Tryz.prog 122 #[.agg #[.int .i64 (p : Nat), .int .u8 (C.zs[p] / 32), .int .u8 (C.zs[p] % 32), .int .u64 0, .bool false]] wx fun e w' => e = .returned (.int .i64 0) ∧ Below wx.heap.size wx w') := fun wx => by have := cwidth_any ⟨p, C.zs[p] / 32, C.zs[p] % 32, 0, false⟩ wx; rw [hW0] at this; exact this
  have kB : Hid (∀ V0 w2 : World, V0.heap.size = w.heap.size + 1 → Below (V0.alloc (.cells #[.int .i64 (p : Nat), .int .u8 (C.zs[p] / 32), .int .u8 (C.zs[p] % 32), .int .u64 0, .bool false] 94)).heap.size (V0.alloc (.cells #[.int .i64 (p : Nat), .int .u8 (C.zs[p] / 32), .int .u8 (C.zs[p] % 32), .int .u64 0, .bool false] 94)) w2 → Blk w2 (w.heap.size + 1) #[.int .i64 (p : Nat), .int .u8 (C.zs[p] / 32), .int .u8 (C.zs[p] % 32), .int .u64 0, .bool false] 94) := fun V0 w2 hV hb => by rw [← hV]; exact Blk.kept (blk_new _ _ _) hb (by simp)
  have kZ : Hid (∀ (q : Nat) (v : Value) (o : Obj) (w2 : World), Below ((((w.alloc (.cells #[.int .i64 0, .int .u8 0, .int .u8 0, .int .u64 0, .bool false] 94)).drewN q).setCell ⟨C.g, 1, none⟩ v).alloc o).heap.size ((((w.alloc (.cells #[.int .i64 0, .int .u8 0, .int .u8 0, .int .u64 0, .bool false] 94)).drewN q).setCell ⟨C.g, 1, none⟩ v).alloc o) w2 → Blk w2 w.heap.size #[.int .i64 0, .int .u8 0, .int .u8 0, .int .u64 0, .bool false] 94) := fun q v o w2 hb => by
    refine Blk.kept (Blk.kept (Blk.kq (Blk.kept (blk_new w _ _) (bdn _ q) (by simp)) (Kq.set C.g _ _ 1 v) (B := w.heap.size + 1) (by omega) (by omega)) (alloc_below _ o) (by simp [World.setCell])) hb (by simp [World.setCell]; omega)
  have hcell : Hid (∀ {wx q}, RSt C wx q m → wx.cell? ⟨C.g, 0, none⟩ = some (.slice (some ⟨b, off, none⟩) C.zs.length C.c)) := fun {wx q} hx => by rw [← ha]; exact Blk.cell hx.1 0
  have hcell1 : Hid (∀ {wx}, RSt C wx q m → wx.cell? ⟨C.g, 1, none⟩ = some (.int .i64 (q : Int))) := fun {wx} hx => Blk.cell hx.1 1
  have hcc := h.2.2.1
  have hmx := hcc.2.1
  unfold maxLen at hmx
  have wn : IntKind.i64.wrap ((C.zs.length : Int) - (q : Int)) = (C.zs.length : Int) - (q : Int) := by rw [IntKind.wrap_i64]; omega
  have wq : IntKind.i64.wrap (q : Int) = (q : Int) := by rw [IntKind.wrap_i64]; omega
  have hgt : decide ((C.zs.length : Int) - (q : Int) < 0) = false := by simp; omega
  have s2 : (q : Int) ≤ (C.c : Int) := by omega
  have s4 : q ≤ C.c := by omega
  have hRQ : Hid (∀ wx, RK C w wx q m → RK C w (wx.setCell ⟨C.g, 1, none⟩ (.int .i64 (q : Int))) q m) := fun wx hx => hx.at_ q
  rw [← hq]
  clear h hc hgd ha hbg hl h46 hq hcc hmx hW0
  generalize hzc : C.zs[p] = c at *
  clear hzc
  generalize hn : C.zs.length = n at *
  clear hn
  go_enter Tryz.func82, Tryz.ntmps82
  go_wp2_with fail
  go_quiet ((first | (go_at_call 85; exact Calls.quiet_of_same (kN _))))
  go_wp2_with fail
  go_region
  go_wp2_with (go_at_call 122; refine (kW.out _).mono ?_; rintro e w2 ⟨rfl, hb2⟩; have R2 : Hid (RK C w w2 q m) := RK.below (RK.alloc (hR.out _ ((hR0.out.alloc _).dn _)) _) hb2; have B2 : Blk w2 (w.heap.size + 1) #[.int .i64 (p : Nat), .int .u8 (c / 32), .int .u8 (c % 32), .int .u64 0, .bool false] 94 := kB.out _ _ (by simp [World.setCell]) hb2; have Z2 := kZ.out _ _ _ _ hb2; have e0 : w2.cell? ⟨C.g, 0, none⟩ = some (.slice (some ⟨b, off, none⟩) n C.c) := hcell.out R2.out.1; have e1 : w2.cell? ⟨C.g, 1, none⟩ = some (.int .i64 (q : Int)) := hcell1.out R2.out.1; have b0 := B2.cell 0; have b1 := B2.cell 1; have b2 := B2.cell 2; have b3 := B2.cell 3; have b4 := B2.cell 4; have g4 := B2.fz 4; have g3 := B2.fz 3; have z0 := Z2.cell 0; have z1 := Z2.cell 1; have z2 := Z2.cell 2; have z3 := Z2.cell 3; have z4 := Z2.cell 4; have y0 := Z2.fz 0; have y1 := Z2.fz 1; have y2 := Z2.fz 2; have y3 := Z2.fz 3; have y4 := Z2.fz 4; simp at b0 b1 b2 b3 b4 z0 z1 z2 z3 z4; have B2' : Hid (Blk w2 (w.heap.size + 1) #[.int .i64 (p : Nat), .int .u8 (c / 32), .int .u8 (c % 32), .int .u64 0, .bool false] 94) := B2; have Z2' : Hid (Blk w2 w.heap.size #[.int .i64 0, .int .u8 0, .int .u8 0, .int .u64 0, .bool false] 94) := Z2; clear hb2 B2 Z2 kB kZ kW)
  go_region
  go_wp2_with fail
  go_region
  have HL0 : Hid (Unit → HL C w w2.drew.drew p q m c 0) := fun _ => HL.drew ⟨R2.out, B2'.out, Z2'.out⟩ 2
  clear b0 b1 b2 b3 b4 z0 z1 z2 z3 z4 y0 y1 y2 y3 y4 g3 g4 e0 e1 B2' Z2' hcell hcell1 c0 c1 f1 cb
  go_wp2_with fail
  · go_loopw [86] (fun s86 wr => ∃ i : Nat, i = 0 ∧ s86 = .int .i64 i ∧ Hid (HL C w wr p q m c 0)) (fun i _ => 1 - (intOf i).toNat)
    case atStart => exact ⟨0, rfl, rfl, HL0.out ()⟩
    case round =>
      obtain ⟨i, hi0, rfl, hH⟩ := hrel
      have hz : ¬ (i : Int) < 0 := by omega
      have hz' : decide ((i : Int) < 0) = false := by simp
      have hz2 : decide (i < 0) = false := by simp
      clear hi0
      obtain ⟨hH1, hH2, hH3⟩ := hH.out
      have e1 := hH1.1.1.cell 1
      have f1 := hH1.1.1.fz 1
      simp at e1
      have b0 := hH2.cell 0
      have b1 := hH2.cell 1
      have b2 := hH2.cell 2
      have b3 := hH2.cell 3
      have b4 := hH2.cell 4
      have z0 := hH3.cell 0
      have z1 := hH3.cell 1
      have z2 := hH3.cell 2
      have z3 := hH3.cell 3
      have z4 := hH3.cell 4
      have y0 := hH3.fz 0
      have y1 := hH3.fz 1
      have y2 := hH3.fz 2
      have y3 := hH3.fz 3
      have y4 := hH3.fz 4
      simp at b0 b1 b2 b3 b4 z0 z1 z2 z3 z4
      have R3 : Hid (RK C w wr q m) := hH1
      clear hH hH1 hH2 hH3
      go_wp2_with fail
      refine bodyPost_ret (v := .agg #[.int .i64 (p : Nat), .int .u8 (c / 32), .int .u8 (c % 32), .int .u64 0, .bool false]) (by simp [results, Tryz.results82, go_sem, *]) rfl ⟨rfl, ?_⟩
      repeat (first | with_reducible exact hRQ.out _ R3.out | with_reducible refine RK.drew ?_ | with_reducible refine RK.dn ?_ _ | with_reducible refine RK.set ?_ (by omega))
  · go_loopw [86] (fun s86 wr => ∃ i : Nat, i = 0 ∧ s86 = .int .i64 i ∧ Hid (HL C w wr p q m c 0)) (fun i _ => 1 - (intOf i).toNat)
    case atStart => exact ⟨0, rfl, rfl, HL0.out ()⟩
    case round =>
      obtain ⟨i, hi0, rfl, hH⟩ := hrel
      have hz : ¬ (i : Int) < 0 := by omega
      have hz' : decide ((i : Int) < 0) = false := by simp
      have hz2 : decide (i < 0) = false := by simp
      clear hi0
      obtain ⟨hH1, hH2, hH3⟩ := hH.out
      have e1 := hH1.1.1.cell 1
      have f1 := hH1.1.1.fz 1
      simp at e1
      have b0 := hH2.cell 0
      have b1 := hH2.cell 1
      have b2 := hH2.cell 2
      have b3 := hH2.cell 3
      have b4 := hH2.cell 4
      have z0 := hH3.cell 0
      have z1 := hH3.cell 1
      have z2 := hH3.cell 2
      have z3 := hH3.cell 3
      have z4 := hH3.cell 4
      have y0 := hH3.fz 0
      have y1 := hH3.fz 1
      have y2 := hH3.fz 2
      have y3 := hH3.fz 3
      have y4 := hH3.fz 4
      simp at b0 b1 b2 b3 b4 z0 z1 z2 z3 z4
      have R3 : Hid (RK C w wr q m) := hH1
      clear hH hH1 hH2 hH3
      go_wp2_with fail
      refine bodyPost_ret (v := .agg #[.int .i64 (p : Nat), .int .u8 (c / 32), .int .u8 (c % 32), .int .u64 0, .bool false]) (by simp [results, Tryz.results82, go_sem, *]) rfl ⟨rfl, ?_⟩
      repeat (first | with_reducible exact hRQ.out _ R3.out | with_reducible refine RK.drew ?_ | with_reducible refine RK.dn ?_ _ | with_reducible refine RK.set ?_ (by omega))
/-- AN ITEM's BEGINNING. -/
theorem chead_any {C : CX} {w : World} {p m : Nat} (h : RSt C w p m) : Calls Tryz.prog 82 #[.pointer (some ⟨C.g, 0, none⟩)] w fun e w' => (hdA C.zs p = none ∧ e = Pn (3, C.zs.length) ∧ Kq C.g w.heap.size w w') ∨ (∃ hd q, hdA C.zs p = some (hd, q) ∧ e = .returned (.agg hd.arr) ∧ RK C w w' q m) := by
  by_cases hp : p < C.zs.length
  · have hz := h.2.1.1.1 _ (List.getElem_mem hp)
    have hzz : C.zs[p]? = some C.zs[p] := List.getElem?_eq_getElem hp
    by_cases hl : C.zs[p] % 32 < 24
    · refine (chead_low h hp hl).mono fun e w' ⟨h1, h2⟩ => .inr ⟨⟨p, C.zs[p] / 32, C.zs[p] % 32, (C.zs[p] % 32).toNat, false⟩, p + 1, by unfold hdA; rw [hzz]; simp only; rw [if_pos hl], ?_, h2⟩
      rw [h1]
      unfold Hd.arr
      simp only
      rw [show (((C.zs[p] % 32).toNat : Nat) : Int) = C.zs[p] % 32 by omega]
    by_cases hc : C.zs.length < p + 1 + hwd (C.zs[p] % 32)
    · exact (chead_cut h hp hl hc).mono fun e w' ⟨h1, h2⟩ => .inr ⟨⟨p, C.zs[p] / 32, C.zs[p] % 32, 0, true⟩, p + 1, by unfold hdA; rw [hzz]; simp only; rw [if_neg hl, if_pos hc], h1, h2⟩
    by_cases h0 : hwd (C.zs[p] % 32) = 0
    · refine (chead_zero h hp hl h0).mono fun e w' ⟨h1, h2⟩ => .inr ⟨⟨p, C.zs[p] / 32, C.zs[p] % 32, 0, false⟩, p + 1, ?_, h1, h2⟩
      unfold hdA
      rw [hzz]
      simp only
      rw [if_neg hl, if_neg hc, h0]
      rfl
    · exact (chead_wide h hp hl hc h0).mono fun e w' ⟨h1, h2⟩ => .inr ⟨⟨p, C.zs[p] / 32, C.zs[p] % 32, _, false⟩, _, by unfold hdA; rw [hzz]; simp only; rw [if_neg hl, if_neg hc]; rfl, h1, h2⟩
  · exact (chead_none h (by omega)).mono fun e w' ⟨h1, h2⟩ => .inl ⟨hd_none.2 (by omega), h1, h2⟩
end Go.Proofs.YtnjbppfanmmifaaGreatDoor
namespace Go.Proofs.YtnjbppfanmmifaaGreatDoor
open Go.RowKit
set_option linter.unusedVariables false
set_option maxHeartbeats 2000000 in
set_option maxRecDepth 100000 in
theorem ccheck_any {C : CX} {w : World} {p m : Nat} (h : RSt C w p m) (a : Option Addr) (n c : Nat) (hs : List Int) (e : Nat) (hl : hs.length = n) (hb : Bytes w a hs) (hc : n ≤ c) (hn : n ≤ 4096) (hp : p ≤ 4096) : Calls Tryz.prog 196 #[.pointer (some ⟨C.g, 0, none⟩), .slice a n c, .int .i64 (e : Nat)] w fun x w' => ((whyL hs ≠ 0 ∧ (p + atL hs < C.zs.length ∨ e = p + atL hs)) ∧ x = Pn (6, p + atL hs) ∨ ¬ (whyL hs ≠ 0 ∧ (p + atL hs < C.zs.length ∨ e = p + atL hs)) ∧ x = .returned (.tuple #[])) ∧ Below w.heap.size w w' := by
  have kU := check_any a n c hs w hl hb hc (by omega)
  have ht := why_le hs
  rw [hl] at ht
  have c0 : ∀ wx, RSt C wx p m → wx.cell? ⟨C.g, 0, none⟩ = some (.slice C.a C.zs.length C.c) := fun wx hx => Blk.cell hx.1 0
  have c1 : ∀ wx, RSt C wx p m → wx.cell? ⟨C.g, 1, none⟩ = some (.int .i64 (p : Nat)) := fun wx hx => Blk.cell hx.1 1
  have hR : Hid (∀ wx, Below w.heap.size w wx → RSt C wx p m) := fun wx hx => h.below hx
  have hg := h.lt
  obtain ⟨s, hse⟩ : ∃ s, s = p + atL hs := ⟨_, rfl⟩
  have wi : IntKind.i64.wrap ((p : Int) + (atL hs : Int)) = (s : Int) := by rw [IntKind.wrap_i64]; omega
  rw [← hse]
  generalize whyL hs = y at *
  generalize atL hs = t at *
  have c0' : Hid (∀ wx, RSt C wx p m → wx.cell? ⟨C.g, 0, none⟩ = some (.slice C.a C.zs.length C.c)) := c0
  have c1' : Hid (∀ wx, RSt C wx p m → wx.cell? ⟨C.g, 1, none⟩ = some (.int .i64 (p : Nat))) := c1
  unfold Pn
  simp only
  generalize C.zs.length = N at *
  clear h hb hl hc hn hp ht hse c0 c1
  by_cases h0 : y = 0
  · subst h0
    rw [show (¬ (0 ≠ 0 ∧ (s < N ∨ e = s))) = True from by simp]
    go_enter Tryz.func196, Tryz.ntmps196
    go_wp2_with (go_at_call 103; refine kU.mono ?_; rintro e1 w2 ⟨rfl, hb2⟩; have d0 := c0'.out _ (hR.out w2 hb2); have d1 := c1'.out _ (hR.out w2 hb2); have hg2 : C.g < w2.heap.size := Nat.lt_of_lt_of_le hg hb2.size; have hB : Hid (Below w.heap.size w w2) := hb2; clear hb2)
    go_region
    go_wp2_with fail
    go_end0
    exact ⟨.inr ⟨trivial, rfl⟩, (hB.out.trans ((alloc_below w2 _).mono hB.out.size)).drew⟩
  · have e0 : (((y : Nat) : Int) != 0) = true := by simp; omega
    by_cases h1 : s < N
    · have g1 : decide ((s : Int) < (N : Int)) = true := by simp; omega
      have g1' : decide (s < N) = true := by simp; omega
      rw [show (y ≠ 0 ∧ (s < N ∨ e = s)) = True from by simp [h0, h1]]
      clear h0 h1
      go_enter Tryz.func196, Tryz.ntmps196
      go_wp2_with (go_at_call 103; refine kU.mono ?_; rintro e1 w2 ⟨rfl, hb2⟩; have d0 := c0'.out _ (hR.out w2 hb2); have d1 := c1'.out _ (hR.out w2 hb2); have hg2 : C.g < w2.heap.size := Nat.lt_of_lt_of_le hg hb2.size; have hB : Hid (Below w.heap.size w w2) := hb2; clear hb2)
      go_region
      go_wp2_with fail
      exact ⟨rfl, .inl ⟨trivial, rfl⟩, (hB.out.trans ((alloc_below w2 _).mono hB.out.size)).drew⟩
    · have g1 : decide ((s : Int) < (N : Int)) = false := by simp; omega
      have g1' : decide (s < N) = false := by simp; omega
      by_cases h2 : e = s
      · subst h2
        have g2 : ((e : Int) == (e : Int)) = true := by simp
        rw [show (y ≠ 0 ∧ (e < N ∨ e = e)) = True from by simp [h0]]
        clear h0 h1
        go_enter Tryz.func196, Tryz.ntmps196
        go_wp2_with (go_at_call 103; refine kU.mono ?_; rintro e1 w2 ⟨rfl, hb2⟩; have d0 := c0'.out _ (hR.out w2 hb2); have d1 := c1'.out _ (hR.out w2 hb2); have hg2 : C.g < w2.heap.size := Nat.lt_of_lt_of_le hg hb2.size; have hB : Hid (Below w.heap.size w w2) := hb2; clear hb2)
        go_region
        go_wp2_with fail
        exact ⟨rfl, .inl ⟨trivial, rfl⟩, (hB.out.trans ((alloc_below w2 _).mono hB.out.size)).drew⟩
      · have g2 : ((e : Int) == (s : Int)) = false := by simp; omega
        have g3 : (e == s) = false := by simpa using h2
        rw [show (¬ (y ≠ 0 ∧ (s < N ∨ e = s))) = True from by simp [h1, h2]]
        clear h0 h1 h2
        go_enter Tryz.func196, Tryz.ntmps196
        go_wp2_with (go_at_call 103; refine kU.mono ?_; rintro e1 w2 ⟨rfl, hb2⟩; have d0 := c0'.out _ (hR.out w2 hb2); have d1 := c1'.out _ (hR.out w2 hb2); have hg2 : C.g < w2.heap.size := Nat.lt_of_lt_of_le hg hb2.size; have hB : Hid (Below w.heap.size w w2) := hb2; clear hb2)
        go_region
        go_wp2_with fail
        go_end0
        exact ⟨.inr ⟨trivial, rfl⟩, (hB.out.trans ((alloc_below w2 _).mono hB.out.size)).drew⟩
end Go.Proofs.YtnjbppfanmmifaaGreatDoor
namespace Go.Proofs.YtnjbppfanmmifaaGreatDoor
open Go.RowKit
set_option linter.unusedVariables false
/-- The bytes that are there of a run lie in the reader's. -/
theorem here_bytes {C : CX} {w : World} {q m n b off : Nat} (h : RSt C w q m) (ha : C.a = some ⟨b, off, none⟩) (hq : q ≤ C.zs.length) : Bytes w (some ⟨b, off + q, none⟩) (here C.zs q n) := by
  obtain ⟨h0, h1, h2⟩ := h.2.1.1
  have hl : (here C.zs q n).length ≤ C.zs.length - q := by unfold here; rw [List.length_take, List.length_drop]; omega
  refine ⟨fun c hc => h0 c (List.mem_of_mem_drop (List.mem_of_mem_take hc)), by omega, ?_⟩
  by_cases hz : here C.zs q n = []
  · exact .inl hz
  · refine .inr ⟨b, off + q, rfl, fun i hi => ?_⟩
    rcases h2 with h2 | ⟨b', off', ha', hc⟩
    · exfalso; apply hz; unfold here; rw [h2]; simp
    · rw [ha] at ha'
      cases ha'
      have := hc (q + i) (by omega)
      rw [Nat.add_assoc, this, List.getD_eq_getElem?_getD, List.getD_eq_getElem?_getD]
      unfold here
      rw [List.getElem?_take, if_pos (by unfold here at hi; rw [List.length_take] at hi; omega), List.getElem?_drop]
/-- What a run answers: bytes of the reader's. -/
def RunIs (C : CX) (w w' : World) (m : Nat) (x : Ending) (R : Sum (Int × Nat) (List Int × Nat)) : Prop := match R with
  | .inl f => x = Pn f ∧ Kq C.g w.heap.size w w'
  | .inr (l, r) => (∃ a c, x = .returned (.slice a l.length c) ∧ Bytes w' a l ∧ In (· < C.g) a l.length ∧ l.length ≤ c ∧ c ≤ maxLen ∧ (a = none → c = 0)) ∧ RK C w w' r m
set_option maxHeartbeats 4000000 in
set_option maxRecDepth 100000 in
theorem crun_ne {C : CX} {w : World} {q m : Nat} (h : RSt C w q m) (pl : Nat) (mj lo : Int) (n : Nat) (cut : Bool) (hn : n ≤ 4096) (hq : q ≤ C.zs.length) (h0 : 0 < C.zs.length) (hne : C.c ≠ q) : Calls Tryz.prog 165 #[.pointer (some ⟨C.g, 0, none⟩), .agg #[.int .i64 (pl : Nat), .int .u8 mj, .int .u8 lo, .int .u64 (n : Nat), .bool cut]] w fun x w' => RunIs C w w' m x (runA C.zs mj q n) := by
  obtain ⟨b, off, ha, ⟨hbg, hc⟩, _⟩ := (show RSt C w q m → ∃ b off, C.a = some ⟨b, off, none⟩ ∧ (b < C.g ∧ True) ∧ True from fun h => by
    rcases h.2.1.1.2.2 with hz | ⟨b, off, ha, _⟩
    · rw [hz] at h0; simp at h0
    · exact ⟨b, off, ha, ⟨h.2.1.2 h0 _ ha, trivial⟩, trivial⟩) h
  clear hc
  have hcc := h.2.2.1
  have hmx := hcc.2.1
  unfold maxLen at hmx
  have h46 := h.2.2.2.1
  obtain ⟨E, hE⟩ : ∃ E, E = q + n := ⟨_, rfl⟩
  obtain ⟨K, hK⟩ : ∃ K, K = min E C.zs.length := ⟨_, rfl⟩
  have hqK : q ≤ K := by omega
  have hKn : K ≤ C.zs.length := by omega
  have hHr : Hid (here C.zs q n = here C.zs q (K - q)) := by
    show _ = _
    unfold here
    by_cases hh : E ≤ C.zs.length
    · rw [show K - q = n by omega]
    · rw [List.take_of_length_le (by rw [List.length_drop]; omega), List.take_of_length_le (by rw [List.length_drop]; omega)]
  have hHl : Hid ((here C.zs q n).length = K - q) := by show _ = _; rw [hHr.out, here_len (by omega)]
  have wn : IntKind.i64.wrap ((n : Nat) : Int) = (n : Int) := by rw [IntKind.wrap_i64]; omega
  have wE : IntKind.i64.wrap ((q : Int) + (n : Int)) = (E : Int) := by rw [IntKind.wrap_i64]; omega
  have hmin : min (E : Int) (C.zs.length : Int) = (K : Int) := by omega
  have s1 : (q : Int) ≤ (K : Int) := by omega
  have s2 : (K : Int) ≤ (C.c : Int) := by omega
  have s3 : q ≤ K := hqK
  have s4 : K ≤ C.c := by omega
  have hg := h.lt
  have hEq : Hid (E = q + n) := hE
  have hNN : Hid (E ≤ 8192) := by show _ ≤ _; omega
  have hR : Hid (∀ wx, Below w.heap.size w wx → RK C w wx q m) := fun wx hx => h.rk.below hx
  have hR0 : Hid (RK C w w q m) := h.rk
  have kN := cneeds_yes C
  have kNo : Hid (∀ wx, RSt C wx q m → Calls Tryz.prog 85 #[.pointer (some ⟨C.g, 0, none⟩), .bool false] wx fun e w' => e = .panicked [{ v := .iface 61 (.agg #[.int .i64 3, .int .i64 (C.zs.length : Nat)]), recovered := false }] ∧ w' = wx) := fun wx hx => cneeds_no hx
  have c0 : Hid (∀ {wx}, RSt C wx q m → wx.cell? ⟨C.g, 0, none⟩ = some (.slice C.a C.zs.length C.c)) := fun {wx} hx => Blk.cell hx.1 0
  have c1 : Hid (∀ {wx}, RSt C wx q m → wx.cell? ⟨C.g, 1, none⟩ = some (.int .i64 (q : Nat))) := fun {wx} hx => Blk.cell hx.1 1
  have f1 : Hid (∀ {wx}, RSt C wx q m → wx.frozen? ⟨C.g, 1, none⟩ = false) := fun {wx} hx => Blk.fz hx.1 1
  have hBy : Hid (∀ wx, RSt C wx q m → Bytes wx (some ⟨b, off + q, none⟩) (here C.zs q n)) := fun wx hx => here_bytes hx ha hq
  have kC : Hid (∀ wx, RSt C wx q m → Calls Tryz.prog 196 #[.pointer (some ⟨C.g, 0, none⟩), .slice (some ⟨b, off + q, none⟩) (K - q) (C.c - q), .int .i64 (E : Nat)] wx fun x w' => ((whyL (here C.zs q n) ≠ 0 ∧ (q + atL (here C.zs q n) < C.zs.length ∨ E = q + atL (here C.zs q n))) ∧ x = .panicked [{ v := .iface 61 (.agg #[.int .i64 6, .int .i64 (q + atL (here C.zs q n) : Nat)]), recovered := false }] ∨ ¬ (whyL (here C.zs q n) ≠ 0 ∧ (q + atL (here C.zs q n) < C.zs.length ∨ E = q + atL (here C.zs q n))) ∧ x = .returned (.tuple #[])) ∧ Below wx.heap.size wx w') := fun wx hx => ccheck_any hx _ _ _ _ E hHl.out (here_bytes hx ha hq) (by omega) (by omega) (by omega)
  have s5 : ¬ C.c = q := hne
  have hRs : Hid (∀ w', RK C w w' E m → E ≤ C.zs.length → (∃ a c, Ending.returned (.slice (some ⟨b, off + q, none⟩) (K - q) (C.c - q)) = .returned (.slice a (here C.zs q n).length c) ∧ Bytes w' a (here C.zs q n) ∧ In (· < C.g) a (here C.zs q n).length ∧ (here C.zs q n).length ≤ c ∧ c ≤ maxLen ∧ (a = none → c = 0)) ∧ RK C w w' (q + n) m) := fun w' hk hE' => by
    refine ⟨⟨_, _, by rw [hHl.out], ?_, fun _ x hx => by cases hx; exact hbg, by rw [hHl.out]; omega, by unfold maxLen; omega, fun hx => by cases hx⟩, by rw [← hE]; exact hk⟩
    have := hk.1
    have hb := here_bytes (q := E) (n := n) (m := m) (b := b) (off := off) (w := w') (C := C) hk.1 ha hE'
    obtain ⟨h0, h1, h2⟩ := hk.1.2.1.1
    have hh : RSt C (w'.setCell ⟨C.g, 1, none⟩ (.int .i64 (q : Nat))) q m := hk.1.at_ q
    have hb2 := here_bytes (n := n) hh ha hq
    exact hb2.stays (S := (· < C.g)) (fun _ x hx => by cases hx; exact hbg) fun k hk' => ((Kq.set C.g w'.heap.size w' 1 _).block k (by have := hk.1.lt; omega) (by omega)).symm
  have hdr : Hid (runA C.zs mj q n = if mj = 3 ∧ whyL (here C.zs q n) ≠ 0 ∧ (q + atL (here C.zs q n) < C.zs.length ∨ q + n = q + atL (here C.zs q n)) then .inl (6, q + atL (here C.zs q n)) else if C.zs.length < q + n then .inl (3, C.zs.length) else .inr (here C.zs q n, q + n)) := rfl
  have hbx := blk_new w #[.int .i64 (pl : Nat), .int .u8 mj, .int .u8 lo, .int .u64 (n : Nat), .bool cut] 94
  obtain ⟨x0, x1, x2, x3, x4⟩ := hbox w pl n mj lo cut
  have hW : Hid (Below w.heap.size w (w.alloc (.cells #[.int .i64 (pl : Nat), .int .u8 mj, .int .u8 lo, .int .u64 (n : Nat), .bool cut] 94))) := alloc_below w _
  have d0 := c0.out (hR.out _ hW.out).1
  have d1 := c1.out (hR.out _ hW.out).1
  rw [ha] at d0
  have ha' : Hid (C.a = some ⟨b, off, none⟩) := ha
  have g0 := f1.out (hR.out _ hW.out).1
  have hgW : C.g < (w.alloc (.cells #[.int .i64 (pl : Nat), .int .u8 mj, .int .u8 lo, .int .u64 (n : Nat), .bool cut] 94)).heap.size := Nat.lt_of_lt_of_le hg hW.out.size
  have hRE : Hid (∀ wx, RK C w wx q m → RK C w (wx.setCell ⟨C.g, 1, none⟩ (.int .i64 (E : Int))) E m) := fun wx hx => hx.at_ E
  rw [hdr.out]
  clear hdr h hE hK hqK hKn hmx hcc h46 hne hbx hBy
  have ha := ha'
  by_cases h3 : mj = 3
  · subst h3
    by_cases hcd : whyL (here C.zs q n) ≠ 0 ∧ (q + atL (here C.zs q n) < C.zs.length ∨ q + n = q + atL (here C.zs q n))
    · rw [if_pos ⟨rfl, hcd⟩]
      have hcond : Hid (whyL (here C.zs q n) ≠ 0 ∧ (q + atL (here C.zs q n) < C.zs.length ∨ E = q + atL (here C.zs q n))) := by rw [hEq.out]; exact hcd
      clear hcd
      unfold RunIs
      simp only
      generalize hN : C.zs.length = N at *
      clear hN
      go_enter Tryz.func165, Tryz.ntmps165
      go_wp2_with fail
      go_region
      go_wp2_with fail
      go_region
      go_wp2_with (go_at_call 196; refine (kC.out _ (hR.out _ hW.out.drew.drew).1).mono ?_; rintro x w2 ⟨hx, hb2⟩; obtain rfl : x = .panicked [{ v := .iface 61 (.agg #[.int .i64 6, .int .i64 (q + atL (here C.zs q n) : Nat)]), recovered := false }] := by (rcases hx with ⟨_, hx⟩ | ⟨hx, _⟩; exact hx; exact absurd hcond.out hx))
      exact ⟨rfl, rfl, (hR.out _ (hW.out.drew.drew.trans (hb2.mono (by simp)))).2.1⟩
    · rw [if_neg (fun z => hcd z.2)]
      have hcond : Hid (¬ (whyL (here C.zs q n) ≠ 0 ∧ (q + atL (here C.zs q n) < C.zs.length ∨ E = q + atL (here C.zs q n)))) := by rw [hEq.out]; exact hcd
      clear hcd
      by_cases hE' : C.zs.length < q + n
      · rw [if_pos hE']
        have g5 : decide ((E : Int) ≤ (C.zs.length : Int)) = false := by have := hEq.out; simp; omega
        have g5' : decide (E ≤ C.zs.length) = false := by have := hEq.out; simp; omega
        clear hE' hRs
        unfold RunIs
        simp only
        generalize hN : C.zs.length = N at *
        clear hN
        go_enter Tryz.func165, Tryz.ntmps165
        go_wp2_with fail
        go_region
        go_wp2_with fail
        go_region
        go_wp2_with (first | (go_at_call 196; refine (kC.out _ (hR.out _ hW.out.drew.drew).1).mono ?_; rintro x w2 ⟨hx, hb2⟩; obtain rfl : x = .returned (.tuple #[]) := hx.elim (fun z => absurd z.1 hcond.out) (fun z => z.2); have hB2 : Hid (Below w.heap.size w w2) := hW.out.drew.drew.trans (hb2.mono (by simp)); have d0 := c0.out (hR.out _ hB2.out).1; have d1 := c1.out (hR.out _ hB2.out).1; have g1 := f1.out (hR.out _ hB2.out).1; rw [ha.out] at d0; clear hb2 hx) | (go_at_call 85; refine (kNo.out _ (hR.out _ hB2.out).1).mono ?_; rintro x w3 ⟨rfl, rfl⟩))
        exact ⟨rfl, rfl, (hR.out _ hB2.out).2.1⟩
      · rw [if_neg hE']
        have hEn : Hid (E ≤ C.zs.length) := by have := hEq.out; show _ ≤ _; omega
        have g5 : decide ((E : Int) ≤ (C.zs.length : Int)) = true := by have := hEq.out; simp; omega
        have g5' : decide (E ≤ C.zs.length) = true := by have := hEq.out; simp; omega
        clear hE'
        unfold RunIs
        simp only
        generalize hN : C.zs.length = N at *
        clear hN
        go_enter Tryz.func165, Tryz.ntmps165
        go_wp2_with fail
        go_region
        go_wp2_with fail
        go_region
        go_wp2_with (first | (go_at_call 196; refine (kC.out _ (hR.out _ hW.out.drew.drew).1).mono ?_; rintro x w2 ⟨hx, hb2⟩; obtain rfl : x = .returned (.tuple #[]) := hx.elim (fun z => absurd z.1 hcond.out) (fun z => z.2); have hB2 : Hid (Below w.heap.size w w2) := hW.out.drew.drew.trans (hb2.mono (by simp)); have d0 := c0.out (hR.out _ hB2.out).1; have d1 := c1.out (hR.out _ hB2.out).1; have g1 := f1.out (hR.out _ hB2.out).1; rw [ha.out] at d0; clear hb2 hx) | (go_at_call 85; refine (kN _).mono ?_; rintro x w3 ⟨rfl, hw3⟩; obtain rfl := hw3.symm))
        go_ret
        exact hRs.out _ (hRE.out _ (hR.out _ hB2.out)) hEn.out
  · have e3 : (mj == 3) = false := by simpa using h3
    rw [if_neg (fun z => h3 z.1)]
    clear h3
    by_cases hE' : C.zs.length < q + n
    · rw [if_pos hE']
      have g5 : decide ((E : Int) ≤ (C.zs.length : Int)) = false := by have := hEq.out; simp; omega
      have g5' : decide (E ≤ C.zs.length) = false := by have := hEq.out; simp; omega
      clear hE' hRs
      unfold RunIs
      simp only
      generalize hN : C.zs.length = N at *
      clear hN
      go_enter Tryz.func165, Tryz.ntmps165
      go_wp2_with fail
      go_region
      go_wp2_with fail
      go_region
      go_wp2_with (go_at_call 85; refine (kNo.out _ (hR.out _ hW.out.drew.drew).1).mono ?_; rintro x w3 ⟨rfl, rfl⟩)
      exact ⟨rfl, rfl, (hR.out _ hW.out.drew.drew).2.1⟩
    · rw [if_neg hE']
      have hEn : Hid (E ≤ C.zs.length) := by have := hEq.out; show _ ≤ _; omega
      have g5 : decide ((E : Int) ≤ (C.zs.length : Int)) = true := by have := hEq.out; simp; omega
      have g5' : decide (E ≤ C.zs.length) = true := by have := hEq.out; simp; omega
      clear hE'
      unfold RunIs
      simp only
      generalize hN : C.zs.length = N at *
      clear hN
      go_enter Tryz.func165, Tryz.ntmps165
      go_wp2_with fail
      go_region
      go_wp2_with fail
      go_region
      go_wp2_with (go_at_call 85; refine (kN _).mono ?_; rintro x w3 ⟨rfl, hw3⟩; obtain rfl := hw3.symm)
      go_ret
      exact hRs.out _ (((hRE.out _ hR0.out).alloc _).drew.drew) hEn.out
end Go.Proofs.YtnjbppfanmmifaaGreatDoor
namespace Go.Proofs.YtnjbppfanmmifaaGreatDoor
open Go.RowKit
set_option linter.unusedVariables false
theorem here_end {zs : List Int} {q n : Nat} (h : zs.length ≤ q) : here zs q n = [] := by unfold here; rw [List.drop_of_length_le h]; simp
set_option maxHeartbeats 4000000 in
set_option maxRecDepth 100000 in
theorem crun_eq {C : CX} {w : World} {q m : Nat} (h : RSt C w q m) (pl : Nat) (mj lo : Int) (n : Nat) (cut : Bool) (hn : n ≤ 4096) (hq : q ≤ C.zs.length) (h0 : 0 < C.zs.length) (hce : C.c = q) : Calls Tryz.prog 165 #[.pointer (some ⟨C.g, 0, none⟩), .agg #[.int .i64 (pl : Nat), .int .u8 mj, .int .u8 lo, .int .u64 (n : Nat), .bool cut]] w fun x w' => RunIs C w w' m x (runA C.zs mj q n) := by
  have hcc := h.2.2.1
  have h46 := h.2.2.2.1
  have hqn : C.zs.length = q := by omega
  have hh : here C.zs q n = [] := here_end (by omega)
  have hw0 : whyL ([] : List Int) = 0 := rfl
  obtain ⟨b, off, ha, hbg⟩ : ∃ b off, C.a = some ⟨b, off, none⟩ ∧ b < C.g := by
    rcases h.2.1.1.2.2 with hz | ⟨b, off, ha, _⟩
    · rw [hz] at h0; simp at h0
    · exact ⟨b, off, ha, h.2.1.2 h0 _ ha⟩
  have hdr : runA C.zs mj q n = if q < q + n then .inl (3, C.zs.length) else .inr ([], q + n) := by
    unfold runA
    rw [hh, if_neg (fun z => z.2.1 hw0), hqn]
  obtain ⟨E, hE⟩ : ∃ E, E = q + n := ⟨_, rfl⟩
  have wn : IntKind.i64.wrap ((n : Nat) : Int) = (n : Int) := by rw [IntKind.wrap_i64]; omega
  have wE : IntKind.i64.wrap ((q : Int) + (n : Int)) = (E : Int) := by rw [IntKind.wrap_i64]; omega
  have hmin : min (E : Int) (q : Int) = (q : Int) := by omega
  have hg := h.lt
  have hR : Hid (∀ wx, Below w.heap.size w wx → RK C w wx q m) := fun wx hx => h.rk.below hx
  have hR0 : Hid (RK C w w q m) := h.rk
  have kN := cneeds_yes C
  have kNo : Hid (∀ wx, RSt C wx q m → Calls Tryz.prog 85 #[.pointer (some ⟨C.g, 0, none⟩), .bool false] wx fun e w' => e = .panicked [{ v := .iface 61 (.agg #[.int .i64 3, .int .i64 (q : Nat)]), recovered := false }] ∧ w' = wx) := fun wx hx => by have := cneeds_no hx; rw [hqn] at this; exact this
  have c0 : Hid (∀ {wx}, RSt C wx q m → wx.cell? ⟨C.g, 0, none⟩ = some (.slice (some ⟨b, off, none⟩) q q)) := fun {wx} hx => by have := Blk.cell hx.1 0; rw [hqn, hce, ha] at this; exact this
  have c1 : Hid (∀ {wx}, RSt C wx q m → wx.cell? ⟨C.g, 1, none⟩ = some (.int .i64 (q : Nat))) := fun {wx} hx => Blk.cell hx.1 1
  have f1 : Hid (∀ {wx}, RSt C wx q m → wx.frozen? ⟨C.g, 1, none⟩ = false) := fun {wx} hx => Blk.fz hx.1 1
  have kC : Hid (∀ (a' : Option Addr) (c' : Nat) wx, RSt C wx q m → Calls Tryz.prog 196 #[.pointer (some ⟨C.g, 0, none⟩), .slice a' 0 c', .int .i64 (E : Nat)] wx fun x w' => x = .returned (.tuple #[]) ∧ Below wx.heap.size wx w') := fun a' c' wx hx => (ccheck_any hx a' 0 c' [] E rfl ⟨by simp, by simp, .inl rfl⟩ (Nat.zero_le _) (by omega) (by omega)).mono fun x w' ⟨h1, h2⟩ => ⟨h1.elim (fun z => absurd rfl z.1.1) (fun z => z.2), h2⟩
  have hRE : Hid (∀ wx, RK C w wx q m → RK C w (wx.setCell ⟨C.g, 1, none⟩ (.int .i64 (E : Int))) E m) := fun wx hx => hx.at_ E
  obtain ⟨x0, x1, x2, x3, x4⟩ := hbox w pl n mj lo cut
  have hW : Hid (Below w.heap.size w (w.alloc (.cells #[.int .i64 (pl : Nat), .int .u8 mj, .int .u8 lo, .int .u64 (n : Nat), .bool cut] 94))) := alloc_below w _
  have d0 := c0.out (hR.out _ hW.out).1
  have d1 := c1.out (hR.out _ hW.out).1
  have g0 := f1.out (hR.out _ hW.out).1
  have hgW : C.g < (w.alloc (.cells #[.int .i64 (pl : Nat), .int .u8 mj, .int .u8 lo, .int .u64 (n : Nat), .bool cut] 94)).heap.size := Nat.lt_of_lt_of_le hg hW.out.size
  have e0 := c0.out hR0.out.1
  have e1 := c1.out hR0.out.1
  have ef := f1.out hR0.out.1
  rw [hdr, ← hE, hqn]
  have hqq : (q : Int) ≤ (q : Int) := Int.le_refl _
  have hfin : Hid (∀ (w' : World) (a' : Option Addr) (c' : Nat), c' ≤ q → (a' = none → c' = 0) → RK C w w' E m → (∃ a c, Ending.returned (.slice a' 0 c') = .returned (.slice a ([] : List Int).length c) ∧ Bytes w' a [] ∧ In (· < C.g) a ([] : List Int).length ∧ ([] : List Int).length ≤ c ∧ c ≤ maxLen ∧ (a = none → c = 0)) ∧ RK C w w' E m) := fun w' a' c' h1 h2 h3 => ⟨⟨a', c', rfl, ⟨by simp, by simp, .inl rfl⟩, (fun z => by simp at z), Nat.zero_le _, by unfold maxLen; omega, h2⟩, h3⟩
  clear h hh hce hcc h46 hqn hdr hw0 ha h0 hq hn
  by_cases h3 : mj = 3
  · subst h3
    by_cases hE' : q < E
    · rw [if_pos hE']
      have g5 : decide ((E : Int) ≤ (q : Int)) = false := by simp; omega
      have g5' : decide (E ≤ q) = false := by simp; omega
      clear hE' hE
      unfold RunIs
      simp only
      go_enter Tryz.func165, Tryz.ntmps165
      go_wp2_with fail
      go_region
      go_wp2_with fail
      go_region
      go_wp2_with (first | (go_at_call 196; refine (kC.out _ _ _ (hR.out _ hW.out.drew.drew).1).mono ?_; rintro x w2 ⟨rfl, hb2⟩; have hB2 : Hid (Below w.heap.size w w2) := hW.out.drew.drew.trans (hb2.mono (by simp)); have d0 := c0.out (hR.out _ hB2.out).1; have d1 := c1.out (hR.out _ hB2.out).1; have g1 := f1.out (hR.out _ hB2.out).1; clear hb2) | (go_at_call 85; refine (kNo.out _ (hR.out _ hB2.out).1).mono ?_; rintro x w3 ⟨rfl, rfl⟩))
      exact ⟨rfl, rfl, (hR.out _ hB2.out).2.1⟩
    · rw [if_neg hE']
      have g5 : decide ((E : Int) ≤ (q : Int)) = true := by simp; omega
      have g5' : decide (E ≤ q) = true := by simp; omega
      clear hE' hE
      unfold RunIs
      simp only
      go_enter Tryz.func165, Tryz.ntmps165
      go_wp2_with fail
      go_region
      go_wp2_with fail
      go_region
      go_wp2_with (first | (go_at_call 196; refine (kC.out _ _ _ (hR.out _ hW.out.drew.drew).1).mono ?_; rintro x w2 ⟨rfl, hb2⟩; have hB2 : Hid (Below w.heap.size w w2) := hW.out.drew.drew.trans (hb2.mono (by simp)); have d0 := c0.out (hR.out _ hB2.out).1; have d1 := c1.out (hR.out _ hB2.out).1; have g1 := f1.out (hR.out _ hB2.out).1; clear hb2) | (go_at_call 85; refine (kN _).mono ?_; rintro x w3 ⟨rfl, hw3⟩; obtain rfl := hw3.symm))
      go_ret
      exact hfin.out _ _ _ (Nat.zero_le _) (fun _ => rfl) (hRE.out _ (hR.out _ hB2.out))
  · have e3 : (mj == 3) = false := by simpa using h3
    clear h3
    by_cases hE' : q < E
    · rw [if_pos hE']
      have g5 : decide ((E : Int) ≤ (q : Int)) = false := by simp; omega
      have g5' : decide (E ≤ q) = false := by simp; omega
      clear hE' hE
      unfold RunIs
      simp only
      go_enter Tryz.func165, Tryz.ntmps165
      go_wp2_with fail
      go_region
      go_wp2_with fail
      go_region
      go_wp2_with (go_at_call 85; refine (kNo.out _ (hR.out _ hW.out.drew.drew).1).mono ?_; rintro x w3 ⟨rfl, rfl⟩)
      exact ⟨rfl, rfl, (hR.out _ hW.out.drew.drew).2.1⟩
    · rw [if_neg hE']
      have g5 : decide ((E : Int) ≤ (q : Int)) = true := by simp; omega
      have g5' : decide (E ≤ q) = true := by simp; omega
      clear hE' hE
      unfold RunIs
      simp only
      go_enter Tryz.func165, Tryz.ntmps165
      go_wp2_with fail
      go_region
      go_wp2_with fail
      go_region
      go_wp2_with (go_at_call 85; refine (kN _).mono ?_; rintro x w3 ⟨rfl, hw3⟩; obtain rfl := hw3.symm)
      go_ret
      exact hfin.out _ _ _ (Nat.zero_le _) (fun _ => rfl) (((hRE.out _ hR0.out).alloc _).drew.drew)
/-- THE BYTES OF A RUN. -/
theorem crun_any {C : CX} {w : World} {q m : Nat} (h : RSt C w q m) (hd : Hd) (hn : hd.n ≤ 4096) (hq : q ≤ C.zs.length) (h0 : 0 < C.zs.length) : Calls Tryz.prog 165 #[.pointer (some ⟨C.g, 0, none⟩), .agg hd.arr] w fun x w' => RunIs C w w' m x (runA C.zs hd.mj q hd.n) := by
  by_cases hc : C.c = q
  · exact crun_eq h hd.pl hd.mj hd.lo hd.n hd.cut hn hq h0 hc
  · exact crun_ne h hd.pl hd.mj hd.lo hd.n hd.cut hn hq h0 hc
end Go.Proofs.YtnjbppfanmmifaaGreatDoor
namespace Go.Proofs.YtnjbppfanmmifaaGreatDoor
open Go.RowKit
set_option linter.unusedVariables false
theorem RK.grown {C : CX} {w X Y : World} {p m : Nat} {o : Option Nat} (h : RK C w X p m) (hg : X.grownBy Y o) (ho : ∀ k, o = some k → w.heap.size ≤ k) : RK C w Y p m := by
  obtain ⟨h1, h2, h3⟩ := h
  have hlt := h1.lt
  have bl : ∀ k, k < X.heap.size → k < w.heap.size → Y.heap[k]? = X.heap[k]? := fun k hk hw => hg.block k hk fun e => by have := ho k e.symm; omega
  refine ⟨h1.on ⟨hg.os, hg.tape, hg.output, hg.size, fun k hk => bl k (by omega) (by omega)⟩ ((bl C.g hlt h3).trans h1.1), ⟨hg.os.trans h2.os, hg.tape.trans h2.tape, hg.output.trans h2.output, Nat.le_trans h2.size hg.size, fun k hk hne => ?_⟩, h3⟩
  rw [bl k (by have := h2.size; omega) hk, h2.block k hk hne]
theorem OwnsB.base {w : World} {base base' : Nat} {v : Value} {zs : List Int} (h : OwnsB w base v zs) (hB : base' ≤ base) : OwnsB w base' v zs := by
  obtain ⟨⟨hl, hv⟩, hz⟩ := h
  refine ⟨⟨hl, ?_⟩, hz⟩
  rcases hv with ⟨rfl, hn⟩ | ⟨g, cap, cur, rfl, hb, hr⟩
  · exact .inl ⟨rfl, hn⟩
  · exact .inr ⟨g, cap, cur, rfl, by omega, hr⟩
theorem OwnsB.own {w : World} {base : Nat} {v : Value} {zs : List Int} (h : OwnsB w base v zs) (k : Nat) (hk : v.ownBlock = some k) : base ≤ k ∧ k < w.heap.size := World.ownsRow.lt h.1 k hk
theorem OwnsB.kq {w w' : World} {base g : Nat} {v : Value} {zs : List Int} (h : OwnsB w base v zs) (hq : Kq g w.heap.size w w') (hg : g < base) : OwnsB w' base v zs := by
  obtain ⟨⟨hl, hv⟩, hz⟩ := h
  refine ⟨⟨hl, ?_⟩, hz⟩
  rcases hv with ⟨rfl, hn⟩ | ⟨g', cap, cur, rfl, hb, hh, hr⟩
  · exact .inl ⟨rfl, hn⟩
  · exact .inr ⟨g', cap, cur, rfl, hb, by rw [hq.block g' (Array.getElem?_eq_some_iff.1 hh).1 (by omega)]; exact hh, hr⟩
/-- What comes of all bytes: new ones. -/
def AllIs (C : CX) (w w' : World) (m : Nat) (x : Ending) (R : Sum (Int × Nat) (List Int × Nat)) : Prop := match R with
  | .inl f => x = Pn f ∧ Kq C.g w.heap.size w w'
  | .inr (l, r) => (∃ v, x = .returned v ∧ OwnsB w' w.heap.size v l) ∧ RK C w w' r m
/-- A fault's panic. -/
theorem pn_eq (f : Int × Nat) : Pn f = .panicked [{ v := .iface 61 (.agg #[.int .i64 f.1, .int .i64 (f.2 : Nat)]), recovered := false }] := rfl
set_option maxHeartbeats 4000000 in
set_option maxRecDepth 100000 in
theorem call_arg {C : CX} {w : World} {q m : Nat} (h : RSt C w q m) (hd : Hd) (hl : hd.lo ≤ 27) (hn : hd.n ≤ 4096) (hq : q ≤ C.zs.length) (h0 : 0 < C.zs.length) : Calls Tryz.prog 126 #[.pointer (some ⟨C.g, 0, none⟩), .agg hd.arr] w fun x w' => AllIs C w w' m x (runA C.zs hd.mj q hd.n) := by
  have kH : Hid (∀ wx, Calls Tryz.prog 123 #[.agg hd.arr] wx fun e w' => e = .returned (.bool true) ∧ Below wx.heap.size wx w') := fun wx => by have := chasa_any hd wx; rw [show decide (hd.lo ≤ 27) = true from by simpa using hl] at this; exact this
  have kR : Hid (∀ wx, RSt C wx q m → Calls Tryz.prog 165 #[.pointer (some ⟨C.g, 0, none⟩), .agg hd.arr] wx fun x w' => RunIs C wx w' m x (runA C.zs hd.mj q hd.n)) := fun wx hx => crun_any hx hd hn hq h0
  have hlen : Hid (∀ l r, runA C.zs hd.mj q hd.n = .inr (l, r) → l.length ≤ 4096) := fun l r e => by have := (run_ok e).2.2.2.1; omega
  have hR : Hid (∀ wx, Below w.heap.size w wx → RK C w wx q m) := fun wx hx => h.rk.below hx
  have hB := blk_new w hd.arr 94
  have hW : Hid (Below w.heap.size w (w.alloc (.cells hd.arr 94))) := alloc_below w _
  have hBx : Hid (∀ wx, Below (w.alloc (.cells hd.arr 94)).heap.size (w.alloc (.cells hd.arr 94)) wx → Blk wx w.heap.size hd.arr 94) := fun wx hx => Blk.kept hB hx hB.lt
  obtain ⟨pl, mj, lo, n, cut⟩ := hd
  unfold Hd.arr at *
  simp only at *
  obtain ⟨x0, x1, x2, x3, x4⟩ := hbox w pl n mj lo cut
  generalize hRR : runA C.zs mj q n = R at *
  clear hRR h hB hl hn hq h0
  cases R with
  | inl f =>
    unfold AllIs
    unfold RunIs at kR
    simp only at kR ⊢
    rw [pn_eq] at kR
    go_enter Tryz.func126, Tryz.ntmps126
    go_wp2_with (first
      | (go_at_call 123; refine (kH.out _).mono ?_; rintro e w2 ⟨rfl, hb2⟩; have B2 := hBx.out _ hb2; have b0 := B2.cell 0; have b1 := B2.cell 1; have b2 := B2.cell 2; have b3 := B2.cell 3; have b4 := B2.cell 4; simp at b0 b1 b2 b3 b4; have hB2 : Hid (Below w.heap.size w w2) := hW.out.trans (hb2.mono hW.out.size); clear hb2 B2)
      | (go_at_call 165; refine (kR.out _ (hR.out _ hB2.out).1).mono ?_; rintro e w3 ⟨rfl, hk3⟩))
    exact ⟨rfl, rfl, (hR.out _ hB2.out).2.1.next hk3⟩
  | inr lr =>
    obtain ⟨l, r⟩ := lr
    have hll : Hid (l.length ≤ 4096) := hlen.out l r rfl
    unfold AllIs
    unfold RunIs at kR
    simp only at kR ⊢
    clear hlen
    go_enter Tryz.func126, Tryz.ntmps126
    go_wp2_with (first
      | (go_at_call 123; refine (kH.out _).mono ?_; rintro e w2 ⟨rfl, hb2⟩; have B2 := hBx.out _ hb2; have b0 := B2.cell 0; have b1 := B2.cell 1; have b2 := B2.cell 2; have b3 := B2.cell 3; have b4 := B2.cell 4; simp at b0 b1 b2 b3 b4; have hB2 : Hid (Below w.heap.size w w2) := hW.out.trans (hb2.mono hW.out.size); clear hb2 B2)
      | (go_at_call 165; refine (kR.out _ (hR.out _ hB2.out).1).mono ?_; rintro e w3 ⟨⟨ar, cr, rfl, hby, hin, hlc, hcm, hnn⟩, hk3⟩; have hK3 : Hid (RK C w w3 r m) := (hR.out _ hB2.out).next hk3; have hBy : Hid (Bytes w3 ar l) := hby; have hNn : Hid (ar = none → cr = 0) := hnn; clear hk3 hby hnn hin hlc hcm)
      | (at_builtin; refine wpList_append_bytes rfl _ (.tmp 11) rfl w3.heap.size (.slice none 0 0) [] l rfl (ownsB_nil _ _) ar l.length cr rfl rfl hNn.out hBy.out (by have := hll.out; simp; omega) (Nat.le_refl _) ?_; intro v4 w4 ho4 hg4; rw [List.nil_append] at ho4; have hO4 : Hid (OwnsB w4 w3.heap.size v4 l) := ho4; have hG4 : Hid (w3.grownBy w4 none) := hg4; clear ho4 hg4))
    go_ret
    exact ⟨⟨v4, rfl, hO4.out.base hK3.out.2.1.size⟩, hK3.out.grown hG4.out (fun k hk => by cases hk)⟩
end Go.Proofs.YtnjbppfanmmifaaGreatDoor
