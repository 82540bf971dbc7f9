/-
  The program's reader of CBOR: an item's beginning is read.
  The program's reader of CBOR: an item's beginning with an argument behind it.
-/
import Derived.Test.YtnjbppfanmmifaaGreatDoorQ14
namespace Go.Proofs.YtnjbppfanmmifaaGreatDoor
open Go.RowKit
set_option linter.unusedVariables false
set_option maxRecDepth 100000 in
theorem and31 : ∀ r : Nat, r < 256 → bits BinOp.and IntKind.u8 (r : Int) 31 = ((r % 32 : Nat) : Int) := by decide
theorem and31i {c : Int} (h0 : 0 ≤ c) (h1 : c < 256) : bits BinOp.and IntKind.u8 c 31 = c % 32 := by
  obtain ⟨r, rfl⟩ : ∃ r : Nat, c = (r : Int) := ⟨c.toNat, by omega⟩
  rw [and31 r (by omega)]
  omega
/-- THE READER, AND WHAT HAS TURNED SINCE w. -/
def RK (C : CX) (w X : World) (p m : Nat) : Prop := RSt C X p m ∧ Kq C.g w.heap.size w X ∧ C.g < w.heap.size
theorem RSt.rk {C : CX} {w : World} {p m : Nat} (h : RSt C w p m) : RK C w w p m := ⟨h, Kq.refl _ _ _, h.lt⟩
theorem RK.below {C : CX} {w X Y : World} {p m : Nat} (h : RK C w X p m) (hb : Below X.heap.size X Y) : RK C w Y p m := ⟨h.1.below hb, h.2.1.trans ((Kq.of hb).mono h.2.1.size), h.2.2⟩
theorem RK.alloc {C : CX} {w X : World} {p m : Nat} (h : RK C w X p m) (o : Obj) : RK C w (X.alloc o) p m := h.below (alloc_below X o)
theorem RK.dn {C : CX} {w X : World} {p m : Nat} (h : RK C w X p m) (q : Nat) : RK C w (X.drewN q) p m := h.below (bdn X q)
theorem RK.drew {C : CX} {w X : World} {p m : Nat} (h : RK C w X p m) : RK C w X.drew p m := h.below (Below.refl _ _).drew
theorem RK.set {C : CX} {w X : World} {p m k j : Nat} {v : Value} (h : RK C w X p m) (hk : w.heap.size ≤ k) : RK C w (X.setCell ⟨k, j, none⟩ v) p m := by
  obtain ⟨h1, h2, h3⟩ := h
  have hq := Kq.set k X.heap.size X j v
  have hlt := h1.lt
  refine ⟨h1.on ((Below.refl C.g X).setCell (p := ⟨k, j, none⟩) (by show C.g ≤ k; omega) v) (Blk.kq h1.1 hq hlt (by omega)), ⟨hq.os.trans h2.os, hq.tape.trans h2.tape, hq.output.trans h2.output, Nat.le_trans h2.size hq.size, fun i hi hg => ?_⟩, h3⟩
  rw [hq.block i (by have := h2.size; omega) (by omega), h2.block i hi hg]
theorem RK.at_ {C : CX} {w X : World} {p m : Nat} (h : RK C w X p m) (q : Nat) : RK C w (X.setCell ⟨C.g, 1, none⟩ (.int .i64 (q : Nat))) q m := ⟨h.1.at_ q, h.2.1.trans (Kq.set _ _ _ _ _), h.2.2⟩
theorem RK.no_ {C : CX} {w X : World} {p m : Nat} (h : RK C w X p m) (q : Nat) : RK C w (X.setCell ⟨C.g, 2, none⟩ (.int .i64 (q : Nat))) p q := ⟨h.1.no_ q, h.2.1.trans (Kq.set _ _ _ _ _), h.2.2⟩
theorem RK.next {C : CX} {w X Y : World} {p m q n : Nat} (h : RK C w X p m) (k : RK C X Y q n) : RK C w Y q n := ⟨k.1, h.2.1.next k.2.1, h.2.2⟩
set_option maxHeartbeats 2000000 in
set_option maxRecDepth 100000 in
theorem chead_none {C : CX} {w : World} {p m : Nat} (h : RSt C w p m) (hp : C.zs.length ≤ p) : Calls Tryz.prog 82 #[.pointer (some ⟨C.g, 0, none⟩)] w fun e w' => e = Pn (3, C.zs.length) ∧ Kq C.g w.heap.size w w' := by
  have c0 : w.cell? ⟨C.g, 0, none⟩ = some (.slice C.a C.zs.length C.c) := Blk.cell h.1 0
  have c1 : w.cell? ⟨C.g, 1, none⟩ = some (.int .i64 (p : Nat)) := Blk.cell h.1 1
  have kN : Hid (∀ wx, RSt C wx p m → Calls Tryz.prog 85 #[.pointer (some ⟨C.g, 0, none⟩), .bool false] wx fun e w' => e = Pn (3, C.zs.length) ∧ w' = wx) := fun wx hx => cneeds_no hx
  have hd : decide ((p : Int) < (C.zs.length : Int)) = false := by simp; omega
  have hd' : decide (p < C.zs.length) = false := by simp; omega
  have hg := h.lt
  have hne : ¬ w.heap.size = C.g := by omega
  have hR : Hid (∀ wx, Below w.heap.size w wx → RSt C wx p m ∧ Kq C.g w.heap.size w wx.drew) := fun wx hx => ⟨h.below hx, kqd (Kq.of hx)⟩
  generalize C.zs.length = n at *
  clear h hp
  go_enter Tryz.func82, Tryz.ntmps82
  go_wp2_with fail
  go_region_dies
  all_goals (refine (kN.out _ ((hR.out _ (alloc_below w _)).1.drew)).mono ?_; rintro e w2 ⟨rfl, rfl⟩; exact ⟨rfl, rfl, (hR.out _ (alloc_below w _)).2⟩)
set_option maxHeartbeats 2000000 in
set_option maxRecDepth 100000 in
theorem chead_low {C : CX} {w : World} {p m : Nat} (h : RSt C w p m) (hp : p < C.zs.length) (hl : C.zs[p] % 32 < 24) : Calls Tryz.prog 82 #[.pointer (some ⟨C.g, 0, none⟩)] w fun e w' => e = .returned (.agg #[.int .i64 (p : Nat), .int .u8 (C.zs[p] / 32), .int .u8 (C.zs[p] % 32), .int .u64 (C.zs[p] % 32), .bool false]) ∧ RK C w w' (p + 1) m := by
  obtain ⟨b, off, ha, ⟨hbg, hc⟩, hgd, hz0, hz1⟩ := h.byte hp
  have c0 : w.cell? ⟨C.g, 0, none⟩ = some (.slice (some ⟨b, off, none⟩) C.zs.length C.c) := by rw [← ha]; exact Blk.cell h.1 0
  have c1 : w.cell? ⟨C.g, 1, none⟩ = some (.int .i64 (p : Nat)) := Blk.cell h.1 1
  have f1 : w.frozen? ⟨C.g, 1, none⟩ = false := Blk.fz h.1 1
  have cb : w.cell? ⟨b, off + p, none⟩ = some (.int .u8 C.zs[p]) := by rw [hc p hp, hgd]
  have kN := cneeds_yes C
  have hlt : (p : Int) < (C.zs.length : Int) := by omega
  have hd : decide ((p : Int) < (C.zs.length : Int)) = true := by simp; omega
  have hd' : decide (p < C.zs.length) = true := by simp; omega
  have h46 := h.2.2.2.1
  have wi : IntKind.i64.wrap ((p : Int) + 1) = (p : Int) + 1 := by rw [IntKind.wrap_i64]; omega
  have hg := h.lt
  have n1 : ¬ w.heap.size = C.g := by omega
  have n2 : ¬ w.heap.size + 1 = C.g := by omega
  have n3 : ¬ w.heap.size = b := by omega
  have n4 : ¬ w.heap.size + 1 = b := by omega
  have n5 : ¬ C.g = b := by omega
  have hbw : b < w.heap.size := by omega
  have hA := and31i hz0 hz1
  have hdl : decide (C.zs[p] % 32 < 24) = true := by simpa using hl
  have wl : IntKind.u64.wrap (C.zs[p] % 32) = C.zs[p] % 32 := by rw [IntKind.wrap_u64]; omega
  have hR : Hid (∀ wx, RK C w wx p m → RK C w (wx.setCell ⟨C.g, 1, none⟩ (.int .i64 ((p : Int) + 1))) (p + 1) m) := fun wx hx => by have := hx.at_ (p + 1); rw [show (((p + 1 : Nat) : Nat) : Int) = (p : Int) + 1 by omega] at this; exact this
  have hR0 : Hid (RK C w w p m) := h.rk
  clear h hc hgd ha hbg hl h46 
  generalize C.zs[p] = c at *
  generalize C.zs.length = n at *
  go_enter Tryz.func82, Tryz.ntmps82
  go_wp2_with fail
  go_quiet ((first | (go_at_call 85; exact Calls.quiet_of_same (kN _))))
  go_wp2_with fail
  go_region
  go_wp2_with fail
  refine bodyPost_ret (v := .agg #[.int .i64 (p : Nat), .int .u8 (c / 32), .int .u8 (c % 32), .int .u64 (c % 32), .bool false]) (by simp [results, Tryz.results82, go_sem, *]) rfl ⟨rfl, ?_⟩
  refine RK.alloc (RK.set (RK.set (RK.set (RK.set (RK.set (hR.out _ ((hR0.out.alloc _).dn _)) (Nat.le_refl _)) (Nat.le_refl _)) (Nat.le_refl _)) (Nat.le_refl _)) (Nat.le_refl _)) _
end Go.Proofs.YtnjbppfanmmifaaGreatDoor
namespace Go.Proofs.YtnjbppfanmmifaaGreatDoor
open Go.RowKit
set_option linter.unusedVariables false
set_option maxHeartbeats 4000000 in
set_option maxRecDepth 100000 in
theorem chead_cut {C : CX} {w : World} {p m : Nat} (h : RSt C w p m) (hp : p < C.zs.length) (hl : ¬ C.zs[p] % 32 < 24) (hcut : C.zs.length < p + 1 + hwd (C.zs[p] % 32)) : Calls Tryz.prog 82 #[.pointer (some ⟨C.g, 0, none⟩)] w fun e w' => e = .returned (.agg #[.int .i64 (p : Nat), .int .u8 (C.zs[p] / 32), .int .u8 (C.zs[p] % 32), .int .u64 0, .bool true]) ∧ RK C w w' (p + 1) m := by
  obtain ⟨b, off, ha, ⟨hbg, hc⟩, hgd, hz0, hz1⟩ := h.byte hp
  have c0 : w.cell? ⟨C.g, 0, none⟩ = some (.slice (some ⟨b, off, none⟩) C.zs.length C.c) := by rw [← ha]; exact Blk.cell h.1 0
  have c1 : w.cell? ⟨C.g, 1, none⟩ = some (.int .i64 (p : Nat)) := Blk.cell h.1 1
  have f1 : w.frozen? ⟨C.g, 1, none⟩ = false := Blk.fz h.1 1
  have cb : w.cell? ⟨b, off + p, none⟩ = some (.int .u8 C.zs[p]) := by rw [hc p hp, hgd]
  have kN := cneeds_yes C
  have hlt : (p : Int) < (C.zs.length : Int) := by omega
  have hd : decide ((p : Int) < (C.zs.length : Int)) = true := by simp; omega
  have hd' : decide (p < C.zs.length) = true := by simp; omega
  have h46 := h.2.2.2.1
  have wi : IntKind.i64.wrap ((p : Int) + 1) = (p : Int) + 1 := by rw [IntKind.wrap_i64]; omega
  have hg := h.lt
  have n1 : ¬ w.heap.size = C.g := by omega
  have n2 : ¬ w.heap.size + 1 = C.g := by omega
  have n3 : ¬ w.heap.size = b := by omega
  have n4 : ¬ w.heap.size + 1 = b := by omega
  have n5 : ¬ C.g = b := by omega
  have hbw : b < w.heap.size := by omega
  have hA := and31i hz0 hz1
  have hdl : decide (C.zs[p] % 32 < 24) = false := by simpa using hl
  have hR : Hid (∀ wx, RK C w wx p m → RK C w (wx.setCell ⟨C.g, 1, none⟩ (.int .i64 ((p : Int) + 1))) (p + 1) m) := fun wx hx => by have := hx.at_ (p + 1); rw [show (((p + 1 : Nat) : Nat) : Int) = (p : Int) + 1 by omega] at this; exact this
  have hR0 : Hid (RK C w w p m) := h.rk
  have kW : Hid (∀ wx, Calls Tryz.prog 122 #[.agg #[.int .i64 (p : Nat), .int .u8 (C.zs[p] / 32), .int .u8 (C.zs[p] % 32), .int .u64 0, .bool false]] wx fun e w' => e = .returned (.int .i64 (hwd (C.zs[p] % 32) : Nat)) ∧ Below wx.heap.size wx w') := fun wx => cwidth_any ⟨p, C.zs[p] / 32, C.zs[p] % 32, 0, false⟩ wx
  have kB : Hid (∀ V0 w2 : World, V0.heap.size = w.heap.size + 1 → Below (V0.alloc (.cells #[.int .i64 (p : Nat), .int .u8 (C.zs[p] / 32), .int .u8 (C.zs[p] % 32), .int .u64 0, .bool false] 94)).heap.size (V0.alloc (.cells #[.int .i64 (p : Nat), .int .u8 (C.zs[p] / 32), .int .u8 (C.zs[p] % 32), .int .u64 0, .bool false] 94)) w2 → Blk w2 (w.heap.size + 1) #[.int .i64 (p : Nat), .int .u8 (C.zs[p] / 32), .int .u8 (C.zs[p] % 32), .int .u64 0, .bool false] 94) := fun V0 w2 hV hb => by rw [← hV]; exact Blk.kept (blk_new _ _ _) hb (by simp)
  have kZ : Hid (∀ (q : Nat) (v : Value) (o : Obj) (w2 : World), Below ((((w.alloc (.cells #[.int .i64 0, .int .u8 0, .int .u8 0, .int .u64 0, .bool false] 94)).drewN q).setCell ⟨C.g, 1, none⟩ v).alloc o).heap.size ((((w.alloc (.cells #[.int .i64 0, .int .u8 0, .int .u8 0, .int .u64 0, .bool false] 94)).drewN q).setCell ⟨C.g, 1, none⟩ v).alloc o) w2 → Blk w2 w.heap.size #[.int .i64 0, .int .u8 0, .int .u8 0, .int .u64 0, .bool false] 94) := fun q v o w2 hb => by
    refine Blk.kept (Blk.kept (Blk.kq (Blk.kept (blk_new w _ _) (bdn _ q) (by simp)) (Kq.set C.g _ _ 1 v) (B := w.heap.size + 1) (by omega) (by omega)) (alloc_below _ o) (by simp [World.setCell])) hb (by simp [World.setCell]; omega)
  have hcell : Hid (∀ {wx q}, RSt C wx q m → wx.cell? ⟨C.g, 0, none⟩ = some (.slice (some ⟨b, off, none⟩) C.zs.length C.c)) := fun {wx q} hx => by rw [← ha]; exact Blk.cell hx.1 0
  have hcell1 : Hid (∀ {wx}, RSt C wx (p + 1) m → wx.cell? ⟨C.g, 1, none⟩ = some (.int .i64 ((p : Int) + 1))) := fun {wx} hx => by have := Blk.cell hx.1 1; rw [show (((p + 1 : Nat) : Nat) : Int) = (p : Int) + 1 by omega] at this; exact this
  have w8 := hwd_le (C.zs[p] % 32)
  have wn : IntKind.i64.wrap ((C.zs.length : Int) - ((p : Int) + 1)) = (C.zs.length : Int) - ((p : Int) + 1) := by rw [IntKind.wrap_i64]; omega
  have hgt : decide ((C.zs.length : Int) - ((p : Int) + 1) < (hwd (C.zs[p] % 32) : Int)) = true := by simp; omega
  clear h hc hgd ha hbg hl h46 hcut w8
  generalize C.zs[p] = c at *
  generalize hwd (c % 32) = W at *
  generalize C.zs.length = n at *
  go_enter Tryz.func82, Tryz.ntmps82
  go_wp2_with fail
  go_quiet ((first | (go_at_call 85; exact Calls.quiet_of_same (kN _))))
  go_wp2_with fail
  go_region
  go_wp2_with (go_at_call 122; refine (kW.out _).mono ?_; rintro e w2 ⟨rfl, hb2⟩; have R2 : Hid (RK C w w2 (p + 1) m) := RK.below (RK.alloc (hR.out _ ((hR0.out.alloc _).dn _)) _) hb2; have B2 : Blk w2 (w.heap.size + 1) #[.int .i64 (p : Nat), .int .u8 (c / 32), .int .u8 (c % 32), .int .u64 0, .bool false] 94 := kB.out _ _ (by simp [World.setCell]) hb2; have Z2 := kZ.out _ _ _ _ hb2; have e0 : w2.cell? ⟨C.g, 0, none⟩ = some (.slice (some ⟨b, off, none⟩) n C.c) := hcell.out R2.out.1; have e1 : w2.cell? ⟨C.g, 1, none⟩ = some (.int .i64 ((p : Int) + 1)) := hcell1.out R2.out.1; have b0 := B2.cell 0; have b1 := B2.cell 1; have b2 := B2.cell 2; have b3 := B2.cell 3; have b4 := B2.cell 4; have g4 := B2.fz 4; have g3 := B2.fz 3; have z0 := Z2.cell 0; have z1 := Z2.cell 1; have z2 := Z2.cell 2; have z3 := Z2.cell 3; have z4 := Z2.cell 4; have y0 := Z2.fz 0; have y1 := Z2.fz 1; have y2 := Z2.fz 2; have y3 := Z2.fz 3; have y4 := Z2.fz 4; simp at b0 b1 b2 b3 b4 z0 z1 z2 z3 z4; have B2' : Hid (Blk w2 (w.heap.size + 1) #[.int .i64 (p : Nat), .int .u8 (c / 32), .int .u8 (c % 32), .int .u64 0, .bool false] 94) := B2; have Z2' : Hid (Blk w2 w.heap.size #[.int .i64 0, .int .u8 0, .int .u8 0, .int .u64 0, .bool false] 94) := Z2; clear hb2 B2 Z2 kB kZ kW)
  go_region
  go_wp2_with fail
  refine bodyPost_ret (v := .agg #[.int .i64 (p : Nat), .int .u8 (c / 32), .int .u8 (c % 32), .int .u64 0, .bool true]) (by simp [results, Tryz.results82, go_sem, *]) rfl ⟨rfl, ?_⟩
  repeat (first | with_reducible exact R2.out | with_reducible refine RK.drew ?_ | with_reducible refine RK.dn ?_ _ | with_reducible refine RK.set ?_ (by omega))
end Go.Proofs.YtnjbppfanmmifaaGreatDoor
