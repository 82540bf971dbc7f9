/-
  The program's reader of CBOR: an item's beginning with its argument behind it.
  The program's reader of CBOR: an item's beginning, whatever it is.
  The program's reader of CBOR: the bytes of a run.
-/
import Derived.Test.YtnjbppfanmmifaaGreatDoorQ15
import Derived.Test.YtnjbppfanmmifaaGreatDoorQ8
import Derived.Lib.MinMax
namespace Go.Proofs.YtnjbppfanmmifaaGreatDoor
open Go.RowKit
set_option linter.unusedVariables false
/-- One byte more of an argument. -/
theorem arg_more {n : Nat} {c : Int} (hn : n < 72057594037927936) (h0 : 0 ≤ c) (h1 : c < 256) : bits BinOp.or IntKind.u64 ((n : Int) * 256) c = ((n * 256 + c.toNat : Nat) : Int) := by
  rw [or_hi 8 ((n : Int) * 256) c (by omega) (by omega) (by omega) h0 (by omega) (by omega)]
  omega
theorem seg_more {zs : List Int} {q i : Nat} (h : q + i < zs.length) : here zs q (i + 1) = here zs q i ++ [zs[q + i]] := by
  unfold here
  rw [List.take_succ_eq_append_getElem (by rw [List.length_drop]; omega)]
  congr 2
  rw [List.getElem_drop]
theorem bytV_app (l : List Int) (c : Int) : bytV (l ++ [c]) = bytV l * 256 + c.toNat := by unfold bytV; rw [List.foldl_append]; rfl
/-- What the loop keeps. -/
def HL (C : CX) (w wr : World) (p q m : Nat) (c : Int) (v : Nat) : Prop := RK C w wr q m ∧ Blk wr (w.heap.size + 1) #[.int .i64 (p : Nat), .int .u8 (c / 32), .int .u8 (c % 32), .int .u64 (v : Nat), .bool false] 94 ∧ Blk wr w.heap.size #[.int .i64 0, .int .u8 0, .int .u8 0, .int .u64 0, .bool false] 94
theorem HL.drew {C : CX} {w wr : World} {p q m : Nat} {c : Int} {v : Nat} (h : HL C w wr p q m c v) (k : Nat) : HL C w (wr.drewN k) p q m c v := ⟨h.1.dn k, Blk.kept h.2.1 (bdn wr k) h.2.1.lt, Blk.kept h.2.2 (bdn wr k) h.2.2.lt⟩
theorem HL.put {C : CX} {w wr : World} {p q m : Nat} {c : Int} {v : Nat} (h : HL C w wr p q m c v) (u : Nat) : HL C w (wr.setCell ⟨w.heap.size + 1, 3, none⟩ (.int .u64 (u : Nat))) p q m c u := ⟨h.1.set (by omega), Blk.set h.2.1 3 _, Blk.kq h.2.2 (Kq.set _ _ _ _ _) (B := w.heap.size + 1) (by omega) (by omega)⟩
set_option maxHeartbeats 4000000 in
set_option maxRecDepth 100000 in
theorem chead_wide {C : CX} {w : World} {p m : Nat} (h : RSt C w p m) (hp : p < C.zs.length) (hl : ¬ C.zs[p] % 32 < 24) (hcut : ¬ C.zs.length < p + 1 + hwd (C.zs[p] % 32)) (hW0 : hwd (C.zs[p] % 32) ≠ 0) : Calls Tryz.prog 82 #[.pointer (some ⟨C.g, 0, none⟩)] w fun e w' => e = .returned (.agg #[.int .i64 (p : Nat), .int .u8 (C.zs[p] / 32), .int .u8 (C.zs[p] % 32), .int .u64 (bytV (here C.zs (p + 1) (hwd (C.zs[p] % 32))) : Nat), .bool false]) ∧ RK C w w' (p + 1 + hwd (C.zs[p] % 32)) m := by
  obtain ⟨q, hq⟩ : ∃ q, q = p + 1 := ⟨_, rfl⟩
  obtain ⟨b, off, ha, ⟨hbg, hc⟩, hgd, hz0, hz1⟩ := h.byte hp
  have c0 : w.cell? ⟨C.g, 0, none⟩ = some (.slice (some ⟨b, off, none⟩) C.zs.length C.c) := by rw [← ha]; exact Blk.cell h.1 0
  have c1 : w.cell? ⟨C.g, 1, none⟩ = some (.int .i64 (p : Nat)) := Blk.cell h.1 1
  have f1 : w.frozen? ⟨C.g, 1, none⟩ = false := Blk.fz h.1 1
  have cb : w.cell? ⟨b, off + p, none⟩ = some (.int .u8 C.zs[p]) := by rw [hc p hp, hgd]
  have kN := cneeds_yes C
  have hlt : (p : Int) < (C.zs.length : Int) := by omega
  have hd : decide ((p : Int) < (C.zs.length : Int)) = true := by simp; omega
  have hd' : decide (p < C.zs.length) = true := by simp; omega
  have h46 := h.2.2.2.1
  have wi : IntKind.i64.wrap ((p : Int) + 1) = (q : Int) := by rw [IntKind.wrap_i64]; omega
  have hg := h.lt
  have n1 : ¬ w.heap.size = C.g := by omega
  have n2 : ¬ w.heap.size + 1 = C.g := by omega
  have n3 : ¬ w.heap.size = b := by omega
  have n4 : ¬ w.heap.size + 1 = b := by omega
  have n5 : ¬ C.g = b := by omega
  have hbw : b < w.heap.size := by omega
  have hA := and31i hz0 hz1
  have hdl : decide (C.zs[p] % 32 < 24) = false := by simpa using hl
  have hR : Hid (∀ wx, RK C w wx p m → RK C w (wx.setCell ⟨C.g, 1, none⟩ (.int .i64 (q : Int))) q m) := fun wx hx => hx.at_ q
  have hR0 : Hid (RK C w w p m) := h.rk
  have kW : Hid (∀ wx, Calls Tryz.prog 122 #[.agg #[.int .i64 (p : Nat), .int .u8 (C.zs[p] / 32), .int .u8 (C.zs[p] % 32), .int .u64 0, .bool false]] wx fun e w' => e = .returned (.int .i64 (hwd (C.zs[p] % 32) : Nat)) ∧ Below wx.heap.size wx w') := fun wx => cwidth_any ⟨p, C.zs[p] / 32, C.zs[p] % 32, 0, false⟩ wx
  have kB : Hid (∀ V0 w2 : World, V0.heap.size = w.heap.size + 1 → Below (V0.alloc (.cells #[.int .i64 (p : Nat), .int .u8 (C.zs[p] / 32), .int .u8 (C.zs[p] % 32), .int .u64 0, .bool false] 94)).heap.size (V0.alloc (.cells #[.int .i64 (p : Nat), .int .u8 (C.zs[p] / 32), .int .u8 (C.zs[p] % 32), .int .u64 0, .bool false] 94)) w2 → Blk w2 (w.heap.size + 1) #[.int .i64 (p : Nat), .int .u8 (C.zs[p] / 32), .int .u8 (C.zs[p] % 32), .int .u64 0, .bool false] 94) := fun V0 w2 hV hb => by rw [← hV]; exact Blk.kept (blk_new _ _ _) hb (by simp)
  have kZ : Hid (∀ (q : Nat) (v : Value) (o : Obj) (w2 : World), Below ((((w.alloc (.cells #[.int .i64 0, .int .u8 0, .int .u8 0, .int .u64 0, .bool false] 94)).drewN q).setCell ⟨C.g, 1, none⟩ v).alloc o).heap.size ((((w.alloc (.cells #[.int .i64 0, .int .u8 0, .int .u8 0, .int .u64 0, .bool false] 94)).drewN q).setCell ⟨C.g, 1, none⟩ v).alloc o) w2 → Blk w2 w.heap.size #[.int .i64 0, .int .u8 0, .int .u8 0, .int .u64 0, .bool false] 94) := fun q v o w2 hb => by
    refine Blk.kept (Blk.kept (Blk.kq (Blk.kept (blk_new w _ _) (bdn _ q) (by simp)) (Kq.set C.g _ _ 1 v) (B := w.heap.size + 1) (by omega) (by omega)) (alloc_below _ o) (by simp [World.setCell])) hb (by simp [World.setCell]; omega)
  have hcell : Hid (∀ {wx q}, RSt C wx q m → wx.cell? ⟨C.g, 0, none⟩ = some (.slice (some ⟨b, off, none⟩) C.zs.length C.c)) := fun {wx q} hx => by rw [← ha]; exact Blk.cell hx.1 0
  have hcell1 : Hid (∀ {wx}, RSt C wx q m → wx.cell? ⟨C.g, 1, none⟩ = some (.int .i64 (q : Int))) := fun {wx} hx => Blk.cell hx.1 1
  have hby : Hid (∀ {wx}, RSt C wx q m → ∀ i, q + i < C.zs.length → ∃ x : Int, wx.cell? ⟨b, off + q + i, none⟩ = some (.int .u8 x) ∧ 0 ≤ x ∧ x < 256 ∧ bytV (here C.zs q (i + 1)) = bytV (here C.zs q i) * 256 + x.toNat) := fun {wx} hx i hi => by
    obtain ⟨b', off', ha', ⟨_, hc'⟩, hgd', h0', h1'⟩ := hx.byte (p := q) (show q < C.zs.length by omega)
    rw [ha] at ha'
    cases ha'
    have hm := hx.2.1.1.1 _ (List.getElem_mem hi)
    refine ⟨C.zs[q + i], ?_, hm.1, hm.2, by rw [seg_more hi, bytV_app]⟩
    have := hc' (q + i) hi
    rw [List.getD_eq_getElem?_getD, List.getElem?_eq_getElem hi] at this
    rw [Nat.add_assoc]
    exact this
  have hlim : Hid (∀ i, i ≤ 8 → bytV (here C.zs q i) < 256 ^ i) := fun i hi => by
    have hb := bytV_lt (here C.zs q i) fun x hx => h.2.1.1.1 x (List.mem_of_mem_drop (List.mem_of_mem_take hx))
    exact Nat.lt_of_lt_of_le hb (Nat.pow_le_pow_right (by decide) (by unfold here; rw [List.length_take]; omega))
  have w8 := hwd_le (C.zs[p] % 32)
  obtain ⟨Q, hQ⟩ : ∃ Q, Q = q + hwd (C.zs[p] % 32) := ⟨_, rfl⟩
  have hcc := h.2.2.1
  have hmx := hcc.2.1
  unfold maxLen at hmx
  have wn : IntKind.i64.wrap ((C.zs.length : Int) - (q : Int)) = (C.zs.length : Int) - (q : Int) := by rw [IntKind.wrap_i64]; omega
  have wq : IntKind.i64.wrap ((q : Int) + (hwd (C.zs[p] % 32) : Int)) = (Q : Int) := by rw [IntKind.wrap_i64]; omega
  have hgt : decide ((C.zs.length : Int) - (q : Int) < (hwd (C.zs[p] % 32) : Int)) = false := by simp; omega
  have s1 : (q : Int) ≤ (Q : Int) := by omega
  have s2 : (Q : Int) ≤ (C.c : Int) := by omega
  have s3 : q ≤ Q := by omega
  have s4 : Q ≤ C.c := by omega
  have s5 : ¬ C.c = q := by omega
  have hWe : Hid (q + hwd (C.zs[p] % 32) = Q) := hQ.symm
  have hQn : Hid (Q ≤ C.zs.length) := by show _ ≤ _; omega
  have hW8 : Hid (hwd (C.zs[p] % 32) ≤ 8) := w8
  have hRQ : Hid (∀ wx, RK C w wx q m → RK C w (wx.setCell ⟨C.g, 1, none⟩ (.int .i64 (Q : Int))) Q m) := fun wx hx => hx.at_ Q
  have f1' : Hid (∀ {wx q}, RSt C wx q m → wx.frozen? ⟨C.g, 1, none⟩ = false) := fun {wx q} hx => Blk.fz hx.1 1
  rw [← hq, ← hQ]
  have hq' : Hid (q = p + 1) := hq
  clear h hc hgd ha hbg hl h46 hcut w8 hq hQ hcc hmx hW0
  generalize hzc : C.zs[p] = c at *
  clear hzc
  generalize hwd (c % 32) = W at *
  have hZ : Hid (C.zs.length = C.zs.length) := rfl
  generalize hn : C.zs.length = n at *
  clear hn hZ
  go_enter Tryz.func82, Tryz.ntmps82
  go_wp2_with fail
  go_quiet ((first | (go_at_call 85; exact Calls.quiet_of_same (kN _))))
  go_wp2_with fail
  go_region
  go_wp2_with (go_at_call 122; refine (kW.out _).mono ?_; rintro e w2 ⟨rfl, hb2⟩; have R2 : Hid (RK C w w2 q m) := RK.below (RK.alloc (hR.out _ ((hR0.out.alloc _).dn _)) _) hb2; have B2 : Blk w2 (w.heap.size + 1) #[.int .i64 (p : Nat), .int .u8 (c / 32), .int .u8 (c % 32), .int .u64 0, .bool false] 94 := kB.out _ _ (by simp [World.setCell]) hb2; have Z2 := kZ.out _ _ _ _ hb2; have e0 : w2.cell? ⟨C.g, 0, none⟩ = some (.slice (some ⟨b, off, none⟩) n C.c) := hcell.out R2.out.1; have e1 : w2.cell? ⟨C.g, 1, none⟩ = some (.int .i64 (q : Int)) := hcell1.out R2.out.1; have b0 := B2.cell 0; have b1 := B2.cell 1; have b2 := B2.cell 2; have b3 := B2.cell 3; have b4 := B2.cell 4; have g4 := B2.fz 4; have g3 := B2.fz 3; have z0 := Z2.cell 0; have z1 := Z2.cell 1; have z2 := Z2.cell 2; have z3 := Z2.cell 3; have z4 := Z2.cell 4; have y0 := Z2.fz 0; have y1 := Z2.fz 1; have y2 := Z2.fz 2; have y3 := Z2.fz 3; have y4 := Z2.fz 4; simp at b0 b1 b2 b3 b4 z0 z1 z2 z3 z4; have B2' : Hid (Blk w2 (w.heap.size + 1) #[.int .i64 (p : Nat), .int .u8 (c / 32), .int .u8 (c % 32), .int .u64 0, .bool false] 94) := B2; have Z2' : Hid (Blk w2 w.heap.size #[.int .i64 0, .int .u8 0, .int .u8 0, .int .u64 0, .bool false] 94) := Z2; clear hb2 B2 Z2 kB kZ kW)
  go_region
  go_wp2_with fail
  go_region
  have HL0 : Hid (HL C w w2.drew.drew p q m c (bytV (here C.zs q 0))) := HL.drew ⟨R2.out, B2'.out, Z2'.out⟩ 2
  obtain ⟨L, hL⟩ : ∃ L, Q - q = L := ⟨_, rfl⟩
  have hLW : Hid (q + L = Q ∧ L ≤ 8) := by have := hWe.out; have := hW8.out; exact ⟨by omega, by omega⟩
  have s6 : L ≤ C.c - q := by omega
  rw [hL]
  clear hL b0 b1 b2 b3 b4 z0 z1 z2 z3 z4 y0 y1 y2 y3 y4 g3 g4 e0 e1 B2' Z2' hcell hcell1 c0 c1 f1 cb
  go_wp2_with fail
  go_loopw [86] (fun s86 wr => ∃ i : Nat, i ≤ L ∧ s86 = .int .i64 i ∧ Hid (HL C w wr p q m c (bytV (here C.zs q i)))) (fun i _ => L - (intOf i).toNat)
  case atStart => exact ⟨0, Nat.zero_le _, rfl, HL0⟩
  case round =>
    obtain ⟨i, hi, rfl, hH⟩ := hrel
    obtain ⟨hH1, hH2, hH3⟩ := hH.out
    by_cases hlt2 : i < L
    · have hz : (i : Int) < (L : Int) := by omega
      obtain ⟨x, hx, hx0, hx1, hxv⟩ := hby.out hH1.1 i (by have := hLW.out; have := hQn.out; omega)
      have hv7 : bytV (here C.zs q i) < 72057594037927936 := Nat.lt_of_lt_of_le (hlim.out i (by have := hLW.out; omega)) (Nat.le_trans (Nat.pow_le_pow_right (n := 256) (by decide) (show i ≤ 7 by have := hLW.out; omega)) (by decide))
      have hor := arg_more hv7 hx0 hx1
      have hput : Hid (HL C w (wr.setCell ⟨w.heap.size + 1, 3, none⟩ (.int .u64 (bytV (here C.zs q (i + 1)) : Nat))) p q m c (bytV (here C.zs q (i + 1)))) := HL.put hH.out _
      rw [← hxv] at hor
      generalize hv' : bytV (here C.zs q (i + 1)) = v' at *
      have hv2 : Hid (bytV (here C.zs q (i + 1)) = v') := hv'
      clear hv'
      generalize bytV (here C.zs q i) = v at *
      have ws : IntKind.u64.wrap ((v : Int) * 256) = (v : Int) * 256 := by rw [IntKind.wrap_u64]; omega
      have wx : IntKind.u64.wrap x = x := by rw [IntKind.wrap_u64]; omega
      have wi1 : IntKind.i64.wrap ((i : Int) + 1) = (i : Int) + 1 := by rw [IntKind.wrap_i64]; have := hLW.out; omega
      have b3 := hH2.cell 3
      have g3 := hH2.fz 3
      simp at b3
      clear hH hH1 hH2 hH3 hxv hv7
      go_wp2_with fail
      go_roundw
      case rel => exact ⟨i + 1, by omega, by go_num, by rw [hv2.out]; exact hput⟩
      case measure => simp [intOf]; omega
    · have hz : ¬ (i : Int) < (L : Int) := by omega
      obtain rfl : i = L := by omega
      have hLi : Hid (here C.zs q i = here C.zs q W) := by have := hLW.out; have := hWe.out; rw [show i = W by omega]; exact rfl
      rw [hLi.out] at hH hH2
      generalize hv' : bytV (here C.zs q W) = v at *
      have hv2 : Hid (bytV (here C.zs q W) = v) := hv'
      clear hv'
      have e1 := hH1.1.1.cell 1
      have f1 := hH1.1.1.fz 1
      simp at e1
      have b0 := hH2.cell 0
      have b1 := hH2.cell 1
      have b2 := hH2.cell 2
      have b3 := hH2.cell 3
      have b4 := hH2.cell 4
      have z0 := hH3.cell 0
      have z1 := hH3.cell 1
      have z2 := hH3.cell 2
      have z3 := hH3.cell 3
      have z4 := hH3.cell 4
      have y0 := hH3.fz 0
      have y1 := hH3.fz 1
      have y2 := hH3.fz 2
      have y3 := hH3.fz 3
      have y4 := hH3.fz 4
      simp at b0 b1 b2 b3 b4 z0 z1 z2 z3 z4
      have R3 : Hid (RK C w wr q m) := hH1
      clear hH hH1 hH2 hH3 hLi
      go_wp2_with fail
      refine bodyPost_ret (v := .agg #[.int .i64 (p : Nat), .int .u8 (c / 32), .int .u8 (c % 32), .int .u64 (v : Nat), .bool false]) (by simp [results, Tryz.results82, go_sem, *]) rfl ⟨by rw [hv2.out], ?_⟩
      repeat (first | with_reducible exact hRQ.out _ R3.out | with_reducible refine RK.drew ?_ | with_reducible refine RK.dn ?_ _ | with_reducible refine RK.set ?_ (by omega))
end Go.Proofs.YtnjbppfanmmifaaGreatDoor
namespace Go.Proofs.YtnjbppfanmmifaaGreatDoor
open Go.RowKit
set_option linter.unusedVariables false
set_option maxHeartbeats 4000000 in
set_option maxRecDepth 100000 in
theorem chead_zero {C : CX} {w : World} {p m : Nat} (h : RSt C w p m) (hp : p < C.zs.length) (hl : ¬ C.zs[p] % 32 < 24) (hW0 : hwd (C.zs[p] % 32) = 0) : Calls Tryz.prog 82 #[.pointer (some ⟨C.g, 0, none⟩)] w fun e w' => e = .returned (.agg #[.int .i64 (p : Nat), .int .u8 (C.zs[p] / 32), .int .u8 (C.zs[p] % 32), .int .u64 0, .bool false]) ∧ RK C w w' (p + 1) m := by
  obtain ⟨q, hq⟩ : ∃ q, q = p + 1 := ⟨_, rfl⟩
  obtain ⟨b, off, ha, ⟨hbg, hc⟩, hgd, hz0, hz1⟩ := h.byte hp
  have c0 : w.cell? ⟨C.g, 0, none⟩ = some (.slice (some ⟨b, off, none⟩) C.zs.length C.c) := by rw [← ha]; exact Blk.cell h.1 0
  have c1 : w.cell? ⟨C.g, 1, none⟩ = some (.int .i64 (p : Nat)) := Blk.cell h.1 1
  have f1 : w.frozen? ⟨C.g, 1, none⟩ = false := Blk.fz h.1 1
  have cb : w.cell? ⟨b, off + p, none⟩ = some (.int .u8 C.zs[p]) := by rw [hc p hp, hgd]
  have kN := cneeds_yes C
  have hlt : (p : Int) < (C.zs.length : Int) := by omega
  have hd : decide ((p : Int) < (C.zs.length : Int)) = true := by simp; omega
  have hd' : decide (p < C.zs.length) = true := by simp; omega
  have h46 := h.2.2.2.1
  have wi : IntKind.i64.wrap ((p : Int) + 1) = (q : Int) := by rw [IntKind.wrap_i64]; omega
  have hg := h.lt
  have n1 : ¬ w.heap.size = C.g := by omega
  have n2 : ¬ w.heap.size + 1 = C.g := by omega
  have n3 : ¬ w.heap.size = b := by omega
  have n4 : ¬ w.heap.size + 1 = b := by omega
  have n5 : ¬ C.g = b := by omega
  have hbw : b < w.heap.size := by omega
  have hA := and31i hz0 hz1
  have hdl : decide (C.zs[p] % 32 < 24) = false := by simpa using hl
  have hR : Hid (∀ wx, RK C w wx p m → RK C w (wx.setCell ⟨C.g, 1, none⟩ (.int .i64 (q : Int))) q m) := fun wx hx => hx.at_ q
  have hR0 : Hid (RK C w w p m) := h.rk
  have kW : Hid (∀ wx, Calls Tryz.prog 122 #[.agg #[.int .i64 (p : Nat), .int .u8 (C.zs[p] / 32), .int .u8 (C.zs[p] % 32), .int .u64 0, .bool false]] wx fun e w' => e = .returned (.int .i64 0) ∧ Below wx.heap.size wx w') := fun wx => by have := cwidth_any ⟨p, C.zs[p] / 32, C.zs[p] % 32, 0, false⟩ wx; rw [hW0] at this; exact this
  have kB : Hid (∀ V0 w2 : World, V0.heap.size = w.heap.size + 1 → Below (V0.alloc (.cells #[.int .i64 (p : Nat), .int .u8 (C.zs[p] / 32), .int .u8 (C.zs[p] % 32), .int .u64 0, .bool false] 94)).heap.size (V0.alloc (.cells #[.int .i64 (p : Nat), .int .u8 (C.zs[p] / 32), .int .u8 (C.zs[p] % 32), .int .u64 0, .bool false] 94)) w2 → Blk w2 (w.heap.size + 1) #[.int .i64 (p : Nat), .int .u8 (C.zs[p] / 32), .int .u8 (C.zs[p] % 32), .int .u64 0, .bool false] 94) := fun V0 w2 hV hb => by rw [← hV]; exact Blk.kept (blk_new _ _ _) hb (by simp)
  have kZ : Hid (∀ (q : Nat) (v : Value) (o : Obj) (w2 : World), Below ((((w.alloc (.cells #[.int .i64 0, .int .u8 0, .int .u8 0, .int .u64 0, .bool false] 94)).drewN q).setCell ⟨C.g, 1, none⟩ v).alloc o).heap.size ((((w.alloc (.cells #[.int .i64 0, .int .u8 0, .int .u8 0, .int .u64 0, .bool false] 94)).drewN q).setCell ⟨C.g, 1, none⟩ v).alloc o) w2 → Blk w2 w.heap.size #[.int .i64 0, .int .u8 0, .int .u8 0, .int .u64 0, .bool false] 94) := fun q v o w2 hb => by
    refine Blk.kept (Blk.kept (Blk.kq (Blk.kept (blk_new w _ _) (bdn _ q) (by simp)) (Kq.set C.g _ _ 1 v) (B := w.heap.size + 1) (by omega) (by omega)) (alloc_below _ o) (by simp [World.setCell])) hb (by simp [World.setCell]; omega)
  have hcell : Hid (∀ {wx q}, RSt C wx q m → wx.cell? ⟨C.g, 0, none⟩ = some (.slice (some ⟨b, off, none⟩) C.zs.length C.c)) := fun {wx q} hx => by rw [← ha]; exact Blk.cell hx.1 0
  have hcell1 : Hid (∀ {wx}, RSt C wx q m → wx.cell? ⟨C.g, 1, none⟩ = some (.int .i64 (q : Int))) := fun {wx} hx => Blk.cell hx.1 1
  have hcc := h.2.2.1
  have hmx := hcc.2.1
  unfold maxLen at hmx
  have wn : IntKind.i64.wrap ((C.zs.length : Int) - (q : Int)) = (C.zs.length : Int) - (q : Int) := by rw [IntKind.wrap_i64]; omega
  have wq : IntKind.i64.wrap (q : Int) = (q : Int) := by rw [IntKind.wrap_i64]; omega
  have hgt : decide ((C.zs.length : Int) - (q : Int) < 0) = false := by simp; omega
  have s2 : (q : Int) ≤ (C.c : Int) := by omega
  have s4 : q ≤ C.c := by omega
  have hRQ : Hid (∀ wx, RK C w wx q m → RK C w (wx.setCell ⟨C.g, 1, none⟩ (.int .i64 (q : Int))) q m) := fun wx hx => hx.at_ q
  rw [← hq]
  clear h hc hgd ha hbg hl h46 hq hcc hmx hW0
  generalize hzc : C.zs[p] = c at *
  clear hzc
  generalize hn : C.zs.length = n at *
  clear hn
  go_enter Tryz.func82, Tryz.ntmps82
  go_wp2_with fail
  go_quiet ((first | (go_at_call 85; exact Calls.quiet_of_same (kN _))))
  go_wp2_with fail
  go_region
  go_wp2_with (go_at_call 122; refine (kW.out _).mono ?_; rintro e w2 ⟨rfl, hb2⟩; have R2 : Hid (RK C w w2 q m) := RK.below (RK.alloc (hR.out _ ((hR0.out.alloc _).dn _)) _) hb2; have B2 : Blk w2 (w.heap.size + 1) #[.int .i64 (p : Nat), .int .u8 (c / 32), .int .u8 (c % 32), .int .u64 0, .bool false] 94 := kB.out _ _ (by simp [World.setCell]) hb2; have Z2 := kZ.out _ _ _ _ hb2; have e0 : w2.cell? ⟨C.g, 0, none⟩ = some (.slice (some ⟨b, off, none⟩) n C.c) := hcell.out R2.out.1; have e1 : w2.cell? ⟨C.g, 1, none⟩ = some (.int .i64 (q : Int)) := hcell1.out R2.out.1; have b0 := B2.cell 0; have b1 := B2.cell 1; have b2 := B2.cell 2; have b3 := B2.cell 3; have b4 := B2.cell 4; have g4 := B2.fz 4; have g3 := B2.fz 3; have z0 := Z2.cell 0; have z1 := Z2.cell 1; have z2 := Z2.cell 2; have z3 := Z2.cell 3; have z4 := Z2.cell 4; have y0 := Z2.fz 0; have y1 := Z2.fz 1; have y2 := Z2.fz 2; have y3 := Z2.fz 3; have y4 := Z2.fz 4; simp at b0 b1 b2 b3 b4 z0 z1 z2 z3 z4; have B2' : Hid (Blk w2 (w.heap.size + 1) #[.int .i64 (p : Nat), .int .u8 (c / 32), .int .u8 (c % 32), .int .u64 0, .bool false] 94) := B2; have Z2' : Hid (Blk w2 w.heap.size #[.int .i64 0, .int .u8 0, .int .u8 0, .int .u64 0, .bool false] 94) := Z2; clear hb2 B2 Z2 kB kZ kW)
  go_region
  go_wp2_with fail
  go_region
  have HL0 : Hid (Unit → HL C w w2.drew.drew p q m c 0) := fun _ => HL.drew ⟨R2.out, B2'.out, Z2'.out⟩ 2
  clear b0 b1 b2 b3 b4 z0 z1 z2 z3 z4 y0 y1 y2 y3 y4 g3 g4 e0 e1 B2' Z2' hcell hcell1 c0 c1 f1 cb
  go_wp2_with fail
  · go_loopw [86] (fun s86 wr => ∃ i : Nat, i = 0 ∧ s86 = .int .i64 i ∧ Hid (HL C w wr p q m c 0)) (fun i _ => 1 - (intOf i).toNat)
    case atStart => exact ⟨0, rfl, rfl, HL0.out ()⟩
    case round =>
      obtain ⟨i, hi0, rfl, hH⟩ := hrel
      have hz : ¬ (i : Int) < 0 := by omega
      have hz' : decide ((i : Int) < 0) = false := by simp
      have hz2 : decide (i < 0) = false := by simp
      clear hi0
      obtain ⟨hH1, hH2, hH3⟩ := hH.out
      have e1 := hH1.1.1.cell 1
      have f1 := hH1.1.1.fz 1
      simp at e1
      have b0 := hH2.cell 0
      have b1 := hH2.cell 1
      have b2 := hH2.cell 2
      have b3 := hH2.cell 3
      have b4 := hH2.cell 4
      have z0 := hH3.cell 0
      have z1 := hH3.cell 1
      have z2 := hH3.cell 2
      have z3 := hH3.cell 3
      have z4 := hH3.cell 4
      have y0 := hH3.fz 0
      have y1 := hH3.fz 1
      have y2 := hH3.fz 2
      have y3 := hH3.fz 3
      have y4 := hH3.fz 4
      simp at b0 b1 b2 b3 b4 z0 z1 z2 z3 z4
      have R3 : Hid (RK C w wr q m) := hH1
      clear hH hH1 hH2 hH3
      go_wp2_with fail
      refine bodyPost_ret (v := .agg #[.int .i64 (p : Nat), .int .u8 (c / 32), .int .u8 (c % 32), .int .u64 0, .bool false]) (by simp [results, Tryz.results82, go_sem, *]) rfl ⟨rfl, ?_⟩
      repeat (first | with_reducible exact hRQ.out _ R3.out | with_reducible refine RK.drew ?_ | with_reducible refine RK.dn ?_ _ | with_reducible refine RK.set ?_ (by omega))
  · go_loopw [86] (fun s86 wr => ∃ i : Nat, i = 0 ∧ s86 = .int .i64 i ∧ Hid (HL C w wr p q m c 0)) (fun i _ => 1 - (intOf i).toNat)
    case atStart => exact ⟨0, rfl, rfl, HL0.out ()⟩
    case round =>
      obtain ⟨i, hi0, rfl, hH⟩ := hrel
      have hz : ¬ (i : Int) < 0 := by omega
      have hz' : decide ((i : Int) < 0) = false := by simp
      have hz2 : decide (i < 0) = false := by simp
      clear hi0
      obtain ⟨hH1, hH2, hH3⟩ := hH.out
      have e1 := hH1.1.1.cell 1
      have f1 := hH1.1.1.fz 1
      simp at e1
      have b0 := hH2.cell 0
      have b1 := hH2.cell 1
      have b2 := hH2.cell 2
      have b3 := hH2.cell 3
      have b4 := hH2.cell 4
      have z0 := hH3.cell 0
      have z1 := hH3.cell 1
      have z2 := hH3.cell 2
      have z3 := hH3.cell 3
      have z4 := hH3.cell 4
      have y0 := hH3.fz 0
      have y1 := hH3.fz 1
      have y2 := hH3.fz 2
      have y3 := hH3.fz 3
      have y4 := hH3.fz 4
      simp at b0 b1 b2 b3 b4 z0 z1 z2 z3 z4
      have R3 : Hid (RK C w wr q m) := hH1
      clear hH hH1 hH2 hH3
      go_wp2_with fail
      refine bodyPost_ret (v := .agg #[.int .i64 (p : Nat), .int .u8 (c / 32), .int .u8 (c % 32), .int .u64 0, .bool false]) (by simp [results, Tryz.results82, go_sem, *]) rfl ⟨rfl, ?_⟩
      repeat (first | with_reducible exact hRQ.out _ R3.out | with_reducible refine RK.drew ?_ | with_reducible refine RK.dn ?_ _ | with_reducible refine RK.set ?_ (by omega))
/-- AN ITEM's BEGINNING. -/
theorem chead_any {C : CX} {w : World} {p m : Nat} (h : RSt C w p m) : Calls Tryz.prog 82 #[.pointer (some ⟨C.g, 0, none⟩)] w fun e w' => (hdA C.zs p = none ∧ e = Pn (3, C.zs.length) ∧ Kq C.g w.heap.size w w') ∨ (∃ hd q, hdA C.zs p = some (hd, q) ∧ e = .returned (.agg hd.arr) ∧ RK C w w' q m) := by
  by_cases hp : p < C.zs.length
  · have hz := h.2.1.1.1 _ (List.getElem_mem hp)
    have hzz : C.zs[p]? = some C.zs[p] := List.getElem?_eq_getElem hp
    by_cases hl : C.zs[p] % 32 < 24
    · refine (chead_low h hp hl).mono fun e w' ⟨h1, h2⟩ => .inr ⟨⟨p, C.zs[p] / 32, C.zs[p] % 32, (C.zs[p] % 32).toNat, false⟩, p + 1, by unfold hdA; rw [hzz]; simp only; rw [if_pos hl], ?_, h2⟩
      rw [h1]
      unfold Hd.arr
      simp only
      rw [show (((C.zs[p] % 32).toNat : Nat) : Int) = C.zs[p] % 32 by omega]
    by_cases hc : C.zs.length < p + 1 + hwd (C.zs[p] % 32)
    · exact (chead_cut h hp hl hc).mono fun e w' ⟨h1, h2⟩ => .inr ⟨⟨p, C.zs[p] / 32, C.zs[p] % 32, 0, true⟩, p + 1, by unfold hdA; rw [hzz]; simp only; rw [if_neg hl, if_pos hc], h1, h2⟩
    by_cases h0 : hwd (C.zs[p] % 32) = 0
    · refine (chead_zero h hp hl h0).mono fun e w' ⟨h1, h2⟩ => .inr ⟨⟨p, C.zs[p] / 32, C.zs[p] % 32, 0, false⟩, p + 1, ?_, h1, h2⟩
      unfold hdA
      rw [hzz]
      simp only
      rw [if_neg hl, if_neg hc, h0]
      rfl
    · exact (chead_wide h hp hl hc h0).mono fun e w' ⟨h1, h2⟩ => .inr ⟨⟨p, C.zs[p] / 32, C.zs[p] % 32, _, false⟩, _, by unfold hdA; rw [hzz]; simp only; rw [if_neg hl, if_neg hc]; rfl, h1, h2⟩
  · exact (chead_none h (by omega)).mono fun e w' ⟨h1, h2⟩ => .inl ⟨hd_none.2 (by omega), h1, h2⟩
end Go.Proofs.YtnjbppfanmmifaaGreatDoor
namespace Go.Proofs.YtnjbppfanmmifaaGreatDoor
open Go.RowKit
set_option linter.unusedVariables false
set_option maxHeartbeats 2000000 in
set_option maxRecDepth 100000 in
theorem ccheck_any {C : CX} {w : World} {p m : Nat} (h : RSt C w p m) (a : Option Addr) (n c : Nat) (hs : List Int) (e : Nat) (hl : hs.length = n) (hb : Bytes w a hs) (hc : n ≤ c) (hn : n ≤ 4096) (hp : p ≤ 4096) : Calls Tryz.prog 196 #[.pointer (some ⟨C.g, 0, none⟩), .slice a n c, .int .i64 (e : Nat)] w fun x w' => ((whyL hs ≠ 0 ∧ (p + atL hs < C.zs.length ∨ e = p + atL hs)) ∧ x = Pn (6, p + atL hs) ∨ ¬ (whyL hs ≠ 0 ∧ (p + atL hs < C.zs.length ∨ e = p + atL hs)) ∧ x = .returned (.tuple #[])) ∧ Below w.heap.size w w' := by
  have kU := check_any a n c hs w hl hb hc (by omega)
  have ht := why_le hs
  rw [hl] at ht
  have c0 : ∀ wx, RSt C wx p m → wx.cell? ⟨C.g, 0, none⟩ = some (.slice C.a C.zs.length C.c) := fun wx hx => Blk.cell hx.1 0
  have c1 : ∀ wx, RSt C wx p m → wx.cell? ⟨C.g, 1, none⟩ = some (.int .i64 (p : Nat)) := fun wx hx => Blk.cell hx.1 1
  have hR : Hid (∀ wx, Below w.heap.size w wx → RSt C wx p m) := fun wx hx => h.below hx
  have hg := h.lt
  obtain ⟨s, hse⟩ : ∃ s, s = p + atL hs := ⟨_, rfl⟩
  have wi : IntKind.i64.wrap ((p : Int) + (atL hs : Int)) = (s : Int) := by rw [IntKind.wrap_i64]; omega
  rw [← hse]
  generalize whyL hs = y at *
  generalize atL hs = t at *
  have c0' : Hid (∀ wx, RSt C wx p m → wx.cell? ⟨C.g, 0, none⟩ = some (.slice C.a C.zs.length C.c)) := c0
  have c1' : Hid (∀ wx, RSt C wx p m → wx.cell? ⟨C.g, 1, none⟩ = some (.int .i64 (p : Nat))) := c1
  unfold Pn
  simp only
  generalize C.zs.length = N at *
  clear h hb hl hc hn hp ht hse c0 c1
  by_cases h0 : y = 0
  · subst h0
    rw [show (¬ (0 ≠ 0 ∧ (s < N ∨ e = s))) = True from by simp]
    go_enter Tryz.func196, Tryz.ntmps196
    go_wp2_with (go_at_call 103; refine kU.mono ?_; rintro e1 w2 ⟨rfl, hb2⟩; have d0 := c0'.out _ (hR.out w2 hb2); have d1 := c1'.out _ (hR.out w2 hb2); have hg2 : C.g < w2.heap.size := Nat.lt_of_lt_of_le hg hb2.size; have hB : Hid (Below w.heap.size w w2) := hb2; clear hb2)
    go_region
    go_wp2_with fail
    go_end0
    exact ⟨.inr ⟨trivial, rfl⟩, (hB.out.trans ((alloc_below w2 _).mono hB.out.size)).drew⟩
  · have e0 : (((y : Nat) : Int) != 0) = true := by simp; omega
    by_cases h1 : s < N
    · have g1 : decide ((s : Int) < (N : Int)) = true := by simp; omega
      have g1' : decide (s < N) = true := by simp; omega
      rw [show (y ≠ 0 ∧ (s < N ∨ e = s)) = True from by simp [h0, h1]]
      clear h0 h1
      go_enter Tryz.func196, Tryz.ntmps196
      go_wp2_with (go_at_call 103; refine kU.mono ?_; rintro e1 w2 ⟨rfl, hb2⟩; have d0 := c0'.out _ (hR.out w2 hb2); have d1 := c1'.out _ (hR.out w2 hb2); have hg2 : C.g < w2.heap.size := Nat.lt_of_lt_of_le hg hb2.size; have hB : Hid (Below w.heap.size w w2) := hb2; clear hb2)
      go_region
      go_wp2_with fail
      exact ⟨rfl, .inl ⟨trivial, rfl⟩, (hB.out.trans ((alloc_below w2 _).mono hB.out.size)).drew⟩
    · have g1 : decide ((s : Int) < (N : Int)) = false := by simp; omega
      have g1' : decide (s < N) = false := by simp; omega
      by_cases h2 : e = s
      · subst h2
        have g2 : ((e : Int) == (e : Int)) = true := by simp
        rw [show (y ≠ 0 ∧ (e < N ∨ e = e)) = True from by simp [h0]]
        clear h0 h1
        go_enter Tryz.func196, Tryz.ntmps196
        go_wp2_with (go_at_call 103; refine kU.mono ?_; rintro e1 w2 ⟨rfl, hb2⟩; have d0 := c0'.out _ (hR.out w2 hb2); have d1 := c1'.out _ (hR.out w2 hb2); have hg2 : C.g < w2.heap.size := Nat.lt_of_lt_of_le hg hb2.size; have hB : Hid (Below w.heap.size w w2) := hb2; clear hb2)
        go_region
        go_wp2_with fail
        exact ⟨rfl, .inl ⟨trivial, rfl⟩, (hB.out.trans ((alloc_below w2 _).mono hB.out.size)).drew⟩
      · have g2 : ((e : Int) == (s : Int)) = false := by simp; omega
        have g3 : (e == s) = false := by simpa using h2
        rw [show (¬ (y ≠ 0 ∧ (s < N ∨ e = s))) = True from by simp [h1, h2]]
        clear h0 h1 h2
        go_enter Tryz.func196, Tryz.ntmps196
        go_wp2_with (go_at_call 103; refine kU.mono ?_; rintro e1 w2 ⟨rfl, hb2⟩; have d0 := c0'.out _ (hR.out w2 hb2); have d1 := c1'.out _ (hR.out w2 hb2); have hg2 : C.g < w2.heap.size := Nat.lt_of_lt_of_le hg hb2.size; have hB : Hid (Below w.heap.size w w2) := hb2; clear hb2)
        go_region
        go_wp2_with fail
        go_end0
        exact ⟨.inr ⟨trivial, rfl⟩, (hB.out.trans ((alloc_below w2 _).mono hB.out.size)).drew⟩
end Go.Proofs.YtnjbppfanmmifaaGreatDoor
