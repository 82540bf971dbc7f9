/-
  The program's reader of CBOR: simple values and Floats.
  The program's reader of CBOR: a tag and what it stands ahead of: the node, where it is no number.
-/
import Derived.Test.YtnjbppfanmmifaaGreatDoorQ23
namespace Go.Proofs.YtnjbppfanmmifaaGreatDoor
open Go.RowKit
set_option linter.unusedVariables false
theorem bal2 (w : World) (o o2 : Obj) : Below w.heap.size w ((w.alloc o).alloc o2) := (alloc_below w o).trans ((alloc_below (w.alloc o) o2).mono (alloc_below w o).size)
def OthIs (w w' : World) (x : Ending) (R : Sum (Int × Nat) Tr) : Prop := (match R with
  | .inl f => x = Pn f
  | .inr t => x = .returned (.agg (nbL t).arr)) ∧ Below w.heap.size w w'
set_option maxHeartbeats 4000000 in
set_option maxRecDepth 100000 in
theorem cother_any (C : CX) (hd : Hd) (hpl : hd.pl ≤ 4096) (h64 : hd.n < 18446744073709551616) (w : World) : Calls Tryz.prog 130 #[.pointer (some ⟨C.g, 0, none⟩), .agg hd.arr] w fun x w' => OthIs w w' x (othA hd) := by
  obtain ⟨pl, mj, lo, n, cut⟩ := hd
  simp only at hpl h64
  unfold Hd.arr
  simp only
  have hB := blk_new w #[.int .i64 (pl : Nat), .int .u8 mj, .int .u8 lo, .int .u64 (n : Nat), .bool cut] 94
  have hal := alloc_below w (.cells #[.int .i64 (pl : Nat), .int .u8 mj, .int .u8 lo, .int .u64 (n : Nat), .bool cut] 94)
  have hal2 := alloc_below (w.alloc (.cells #[.int .i64 (pl : Nat), .int .u8 mj, .int .u8 lo, .int .u64 (n : Nat), .bool cut] 94)) (.cells #[.int .i64 0, .int .u64 0, .bool false, .string ⟨#[]⟩, .int .i64 0, .string ⟨#[]⟩, .slice none 0 0, .slice none 0 0, .slice none 0 0] 26)
  have hW : Hid (Below w.heap.size w ((w.alloc (.cells #[.int .i64 (pl : Nat), .int .u8 mj, .int .u8 lo, .int .u64 (n : Nat), .bool cut] 94)).alloc (.cells #[.int .i64 0, .int .u64 0, .bool false, .string ⟨#[]⟩, .int .i64 0, .string ⟨#[]⟩, .slice none 0 0, .slice none 0 0, .slice none 0 0] 26))) := hal.trans (hal2.mono hal.size)
  have hB2 := Blk.kept hB hal2 hB.lt
  obtain ⟨x0, x1, x2, x3, x4⟩ := hbox w pl n mj lo cut
  have wpl : IntKind.i64.wrap ((pl : Int) + 1) = (pl : Int) + 1 := by rw [IntKind.wrap_i64]; omega
  by_cases h20 : lo = 20
  · subst h20
    rw [show othA ⟨pl, mj, 20, n, cut⟩ = .inr (kindT 1 0) from rfl]
    unfold OthIs nbL Nb.arr kindT
    simp only
    go_enter Tryz.func130, Tryz.ntmps130
    go_wp2_with fail
    refine bodyPost_ret (v := .agg #[.int .i64 1, .int .u64 0, .bool false, .string ⟨#[]⟩, .int .i64 0, .string ⟨#[]⟩, .slice none 0 0, .slice none 0 0, .slice none 0 0]) (by simp [results, Tryz.results130, go_sem, *]) rfl ⟨rfl, ?_⟩
    first
      | exact hW.out
      | exact bal2 _ _ _
  by_cases h21 : lo = 21
  · subst h21
    rw [show othA ⟨pl, mj, 21, n, cut⟩ = .inr (kindT 1 1) from rfl]
    unfold OthIs nbL Nb.arr kindT
    simp only
    go_enter Tryz.func130, Tryz.ntmps130
    go_wp2_with fail
    refine bodyPost_ret (v := .agg #[.int .i64 1, .int .u64 1, .bool false, .string ⟨#[]⟩, .int .i64 0, .string ⟨#[]⟩, .slice none 0 0, .slice none 0 0, .slice none 0 0]) (by simp [results, Tryz.results130, go_sem, *]) rfl ⟨rfl, ?_⟩
    first
      | exact hW.out
      | exact bal2 _ _ _
  by_cases h22 : lo = 22
  · subst h22
    rw [show othA ⟨pl, mj, 22, n, cut⟩ = .inr (kindT 0 0) from rfl]
    unfold OthIs nbL Nb.arr kindT
    simp only
    go_enter Tryz.func130, Tryz.ntmps130
    go_wp2_with fail
    refine bodyPost_ret (v := .agg #[.int .i64 0, .int .u64 0, .bool false, .string ⟨#[]⟩, .int .i64 0, .string ⟨#[]⟩, .slice none 0 0, .slice none 0 0, .slice none 0 0]) (by simp [results, Tryz.results130, go_sem, *]) rfl ⟨rfl, ?_⟩
    first
      | exact hW.out
      | exact bal2 _ _ _
  have e20 : (lo == 20) = false := by simpa using h20
  have e21 : (lo == 21) = false := by simpa using h21
  have e22 : (lo == 22) = false := by simpa using h22
  by_cases h24 : lo = 24
  · subst h24
    by_cases hn : n < 32
    · rw [show othA ⟨pl, mj, 24, n, cut⟩ = .inl (5, pl + 1) from by unfold othA; simp [hn]]
      have g32 : decide ((n : Int) < 32) = true := by simp; omega
      have g32' : decide (n < 32) = true := by simpa using hn
      unfold OthIs Pn
      simp only
      clear hn
      go_enter Tryz.func130, Tryz.ntmps130
      go_wp2_with fail
      exact ⟨rfl, by rw [show (((pl + 1 : Nat) : Nat) : Int) = (pl : Int) + 1 by omega], hW.out⟩
    · rw [show othA ⟨pl, mj, 24, n, cut⟩ = .inr (kindT 10 (n : Nat)) from by unfold othA; simp [hn]]
      have g32 : decide ((n : Int) < 32) = false := by simp; omega
      have g32' : decide (n < 32) = false := by simpa using hn
      unfold OthIs nbL Nb.arr kindT
      simp only
      clear hn
      go_enter Tryz.func130, Tryz.ntmps130
      go_wp2_with fail
      refine bodyPost_ret (v := .agg #[.int .i64 10, .int .u64 (n : Nat), .bool false, .string ⟨#[]⟩, .int .i64 0, .string ⟨#[]⟩, .slice none 0 0, .slice none 0 0, .slice none 0 0]) (by simp [results, Tryz.results130, go_sem, *]) rfl ⟨rfl, ?_⟩
      first
        | exact hW.out
        | exact bal2 _ _ _
  by_cases hF : lo = 25 ∨ lo = 26 ∨ lo = 27
  · rw [show othA ⟨pl, mj, lo, n, cut⟩ = .inr (kindT 4 (widenA (n : Nat) (hwd lo : Nat)).1) from by unfold othA; rw [if_neg h20, if_neg h21, if_neg h22, if_pos hF]]
    have kW : Hid (∀ wx, Calls Tryz.prog 122 #[.agg #[.int .i64 (pl : Nat), .int .u8 mj, .int .u8 lo, .int .u64 (n : Nat), .bool cut]] wx fun e w' => e = .returned (.int .i64 (hwd lo : Nat)) ∧ Below wx.heap.size wx w') := fun wx => cwidth_any ⟨pl, mj, lo, n, cut⟩ wx
    have kX : Hid (∀ wx, Calls Tryz.prog 170 #[.int .u64 (n : Nat), .int .i64 (hwd lo : Nat)] wx fun e w' => e = .returned (.tuple #[.int .u64 (widenA (n : Nat) (hwd lo : Nat)).1, .int .i64 (widenA (n : Nat) (hwd lo : Nat)).2]) ∧ Below wx.heap.size wx w') := fun wx => widen_any _ _ (by omega) wx
    unfold OthIs nbL Nb.arr kindT
    simp only
    have hZ : Hid (NBox ((w.alloc (.cells #[.int .i64 (pl : Nat), .int .u8 mj, .int .u8 lo, .int .u64 (n : Nat), .bool cut] 94)).alloc (.cells #[.int .i64 0, .int .u64 0, .bool false, .string ⟨#[]⟩, .int .i64 0, .string ⟨#[]⟩, .slice none 0 0, .slice none 0 0, .slice none 0 0] 26)) (w.heap.size + 1) zN) := by have := nbox_new (w.alloc (.cells #[.int .i64 (pl : Nat), .int .u8 mj, .int .u8 lo, .int .u64 (n : Nat), .bool cut] 94)) zN; rw [show (w.alloc (.cells #[.int .i64 (pl : Nat), .int .u8 mj, .int .u8 lo, .int .u64 (n : Nat), .bool cut] 94)).heap.size = w.heap.size + 1 by simp] at this; exact this
    clear hB hal hal2 h64 hpl
    rcases hF with rfl | rfl | rfl
    · generalize (widenA (n : Nat) (hwd 25 : Nat)).2 = y at *
      generalize (widenA (n : Nat) (hwd 25 : Nat)).1 = v at *
      generalize hwd 25 = wd at *
      go_enter Tryz.func130, Tryz.ntmps130
      go_upto_region 11 with fail
      generalize hWW : (w.alloc (.cells #[.int .i64 (pl : Nat), .int .u8 mj, .int .u8 25, .int .u64 (n : Nat), .bool cut] 94)).alloc (.cells #[.int .i64 0, .int .u64 0, .bool false, .string ⟨#[]⟩, .int .i64 0, .string ⟨#[]⟩, .slice none 0 0, .slice none 0 0, .slice none 0 0] 26) = W at *
      go_cut [5] (fun s5 wx => s5 = .int .u64 v ∧ Hid (Below W.heap.size W wx))
      case first =>
        have SK : Hid (∀ wx, Below W.heap.size W wx → wx.cell? ⟨w.heap.size, 0, none⟩ = some (.int .i64 (pl : Nat)) ∧ wx.cell? ⟨w.heap.size, 1, none⟩ = some (.int .u8 mj) ∧ wx.cell? ⟨w.heap.size, 2, none⟩ = some (.int .u8 25) ∧ wx.cell? ⟨w.heap.size, 3, none⟩ = some (.int .u64 (n : Nat)) ∧ wx.cell? ⟨w.heap.size, 4, none⟩ = some (.bool cut)) := fun wx hb => by
          have hx := Blk.kept hB2 hb hB2.lt
          exact ⟨hx.cell 0, hx.cell 1, hx.cell 2, hx.cell 3, hx.cell 4⟩
        clear hB2 x0 x1 x2 x3 x4 hWW hZ
        go_region_held3 (fun wx => wx.cell? ⟨w.heap.size, 0, none⟩ = some (.int .i64 (pl : Nat)) ∧ wx.cell? ⟨w.heap.size, 1, none⟩ = some (.int .u8 mj) ∧ wx.cell? ⟨w.heap.size, 2, none⟩ = some (.int .u8 25) ∧ wx.cell? ⟨w.heap.size, 3, none⟩ = some (.int .u64 (n : Nat)) ∧ wx.cell? ⟨w.heap.size, 4, none⟩ = some (.bool cut)) (((with_reducible refine SK.out _ ?_); (repeat' with_reducible first | exact Below.refl _ _ | exact b4.out | exact b3.out | refine Below.drew ?_); (all_goals exact Nat.le_refl _))) (first
          | (go_at_call 122; refine (kW.out _).mono ?_; rintro e w3 ⟨rfl, hb3⟩; have b3 : Hid (Below W.heap.size W w3) := ⟨hb3.os, hb3.tape, hb3.output, hb3.size, hb3.block⟩; clear hb3)
          | (go_at_call 170; refine (kX.out _).mono ?_; rintro e w4 ⟨rfl, hb4⟩; have b4 : Hid (Below W.heap.size W w4) := b3.out.trans (hb4.mono b3.out.size); clear hb4))
        all_goals
          go_wp2_with fail
          go_meet
          exact ⟨rfl, b4⟩
      case rest =>
        obtain ⟨rfl, hcb⟩ := hcut
        obtain ⟨⟨f0, f1, f2, f3, f4, f5, f6, f7, f8⟩, z0, z1, z2, z3, z4, z5, z6, z7, z8⟩ := zbox (hZ.out.kept hcb.out hZ.out.lt)
        have hWc : Hid (Below w.heap.size w wc) := hW.out.trans (hcb.out.mono hW.out.size)
        clear hB2 x0 x1 x2 x3 x4 hWW hZ kW kX
        go_wp2_with fail
        refine bodyPost_ret (v := .agg #[.int .i64 4, .int .u64 v, .bool false, .string ⟨#[]⟩, .int .i64 0, .string ⟨#[]⟩, .slice none 0 0, .slice none 0 0, .slice none 0 0]) (by simp [results, Tryz.results130, go_sem, *]) rfl ⟨rfl, ?_⟩
        repeat (first | with_reducible exact hWc.out | with_reducible refine bset ?_ (by omega))
    · generalize (widenA (n : Nat) (hwd 26 : Nat)).2 = y at *
      generalize (widenA (n : Nat) (hwd 26 : Nat)).1 = v at *
      generalize hwd 26 = wd at *
      go_enter Tryz.func130, Tryz.ntmps130
      go_upto_region 11 with fail
      generalize hWW : (w.alloc (.cells #[.int .i64 (pl : Nat), .int .u8 mj, .int .u8 26, .int .u64 (n : Nat), .bool cut] 94)).alloc (.cells #[.int .i64 0, .int .u64 0, .bool false, .string ⟨#[]⟩, .int .i64 0, .string ⟨#[]⟩, .slice none 0 0, .slice none 0 0, .slice none 0 0] 26) = W at *
      go_cut [5] (fun s5 wx => s5 = .int .u64 v ∧ Hid (Below W.heap.size W wx))
      case first =>
        have SK : Hid (∀ wx, Below W.heap.size W wx → wx.cell? ⟨w.heap.size, 0, none⟩ = some (.int .i64 (pl : Nat)) ∧ wx.cell? ⟨w.heap.size, 1, none⟩ = some (.int .u8 mj) ∧ wx.cell? ⟨w.heap.size, 2, none⟩ = some (.int .u8 26) ∧ wx.cell? ⟨w.heap.size, 3, none⟩ = some (.int .u64 (n : Nat)) ∧ wx.cell? ⟨w.heap.size, 4, none⟩ = some (.bool cut)) := fun wx hb => by
          have hx := Blk.kept hB2 hb hB2.lt
          exact ⟨hx.cell 0, hx.cell 1, hx.cell 2, hx.cell 3, hx.cell 4⟩
        clear hB2 x0 x1 x2 x3 x4 hWW hZ
        go_region_held3 (fun wx => wx.cell? ⟨w.heap.size, 0, none⟩ = some (.int .i64 (pl : Nat)) ∧ wx.cell? ⟨w.heap.size, 1, none⟩ = some (.int .u8 mj) ∧ wx.cell? ⟨w.heap.size, 2, none⟩ = some (.int .u8 26) ∧ wx.cell? ⟨w.heap.size, 3, none⟩ = some (.int .u64 (n : Nat)) ∧ wx.cell? ⟨w.heap.size, 4, none⟩ = some (.bool cut)) (((with_reducible refine SK.out _ ?_); (repeat' with_reducible first | exact Below.refl _ _ | exact b4.out | exact b3.out | refine Below.drew ?_); (all_goals exact Nat.le_refl _))) (first
          | (go_at_call 122; refine (kW.out _).mono ?_; rintro e w3 ⟨rfl, hb3⟩; have b3 : Hid (Below W.heap.size W w3) := ⟨hb3.os, hb3.tape, hb3.output, hb3.size, hb3.block⟩; clear hb3)
          | (go_at_call 170; refine (kX.out _).mono ?_; rintro e w4 ⟨rfl, hb4⟩; have b4 : Hid (Below W.heap.size W w4) := b3.out.trans (hb4.mono b3.out.size); clear hb4))
        all_goals
          go_wp2_with fail
          go_meet
          exact ⟨rfl, b4⟩
      case rest =>
        obtain ⟨rfl, hcb⟩ := hcut
        obtain ⟨⟨f0, f1, f2, f3, f4, f5, f6, f7, f8⟩, z0, z1, z2, z3, z4, z5, z6, z7, z8⟩ := zbox (hZ.out.kept hcb.out hZ.out.lt)
        have hWc : Hid (Below w.heap.size w wc) := hW.out.trans (hcb.out.mono hW.out.size)
        clear hB2 x0 x1 x2 x3 x4 hWW hZ kW kX
        go_wp2_with fail
        refine bodyPost_ret (v := .agg #[.int .i64 4, .int .u64 v, .bool false, .string ⟨#[]⟩, .int .i64 0, .string ⟨#[]⟩, .slice none 0 0, .slice none 0 0, .slice none 0 0]) (by simp [results, Tryz.results130, go_sem, *]) rfl ⟨rfl, ?_⟩
        repeat (first | with_reducible exact hWc.out | with_reducible refine bset ?_ (by omega))
    · generalize (widenA (n : Nat) (hwd 27 : Nat)).2 = y at *
      generalize (widenA (n : Nat) (hwd 27 : Nat)).1 = v at *
      generalize hwd 27 = wd at *
      go_enter Tryz.func130, Tryz.ntmps130
      go_upto_region 11 with fail
      generalize hWW : (w.alloc (.cells #[.int .i64 (pl : Nat), .int .u8 mj, .int .u8 27, .int .u64 (n : Nat), .bool cut] 94)).alloc (.cells #[.int .i64 0, .int .u64 0, .bool false, .string ⟨#[]⟩, .int .i64 0, .string ⟨#[]⟩, .slice none 0 0, .slice none 0 0, .slice none 0 0] 26) = W at *
      go_cut [5] (fun s5 wx => s5 = .int .u64 v ∧ Hid (Below W.heap.size W wx))
      case first =>
        have SK : Hid (∀ wx, Below W.heap.size W wx → wx.cell? ⟨w.heap.size, 0, none⟩ = some (.int .i64 (pl : Nat)) ∧ wx.cell? ⟨w.heap.size, 1, none⟩ = some (.int .u8 mj) ∧ wx.cell? ⟨w.heap.size, 2, none⟩ = some (.int .u8 27) ∧ wx.cell? ⟨w.heap.size, 3, none⟩ = some (.int .u64 (n : Nat)) ∧ wx.cell? ⟨w.heap.size, 4, none⟩ = some (.bool cut)) := fun wx hb => by
          have hx := Blk.kept hB2 hb hB2.lt
          exact ⟨hx.cell 0, hx.cell 1, hx.cell 2, hx.cell 3, hx.cell 4⟩
        clear hB2 x0 x1 x2 x3 x4 hWW hZ
        go_region_held3 (fun wx => wx.cell? ⟨w.heap.size, 0, none⟩ = some (.int .i64 (pl : Nat)) ∧ wx.cell? ⟨w.heap.size, 1, none⟩ = some (.int .u8 mj) ∧ wx.cell? ⟨w.heap.size, 2, none⟩ = some (.int .u8 27) ∧ wx.cell? ⟨w.heap.size, 3, none⟩ = some (.int .u64 (n : Nat)) ∧ wx.cell? ⟨w.heap.size, 4, none⟩ = some (.bool cut)) (((with_reducible refine SK.out _ ?_); (repeat' with_reducible first | exact Below.refl _ _ | exact b4.out | exact b3.out | refine Below.drew ?_); (all_goals exact Nat.le_refl _))) (first
          | (go_at_call 122; refine (kW.out _).mono ?_; rintro e w3 ⟨rfl, hb3⟩; have b3 : Hid (Below W.heap.size W w3) := ⟨hb3.os, hb3.tape, hb3.output, hb3.size, hb3.block⟩; clear hb3)
          | (go_at_call 170; refine (kX.out _).mono ?_; rintro e w4 ⟨rfl, hb4⟩; have b4 : Hid (Below W.heap.size W w4) := b3.out.trans (hb4.mono b3.out.size); clear hb4))
        all_goals
          go_wp2_with fail
          go_meet
          exact ⟨rfl, b4⟩
      case rest =>
        obtain ⟨rfl, hcb⟩ := hcut
        obtain ⟨⟨f0, f1, f2, f3, f4, f5, f6, f7, f8⟩, z0, z1, z2, z3, z4, z5, z6, z7, z8⟩ := zbox (hZ.out.kept hcb.out hZ.out.lt)
        have hWc : Hid (Below w.heap.size w wc) := hW.out.trans (hcb.out.mono hW.out.size)
        clear hB2 x0 x1 x2 x3 x4 hWW hZ kW kX
        go_wp2_with fail
        refine bodyPost_ret (v := .agg #[.int .i64 4, .int .u64 v, .bool false, .string ⟨#[]⟩, .int .i64 0, .string ⟨#[]⟩, .slice none 0 0, .slice none 0 0, .slice none 0 0]) (by simp [results, Tryz.results130, go_sem, *]) rfl ⟨rfl, ?_⟩
        repeat (first | with_reducible exact hWc.out | with_reducible refine bset ?_ (by omega))
  · rw [show othA ⟨pl, mj, lo, n, cut⟩ = .inr (kindT 10 (n : Nat)) from by unfold othA; rw [if_neg h20, if_neg h21, if_neg h22, if_neg hF, if_neg (fun z => h24 z.1)]]
    have e24 : (lo == 24) = false := by simpa using h24
    have e25 : (lo == 25) = false := by simp; omega
    have e26 : (lo == 26) = false := by simp; omega
    have e27 : (lo == 27) = false := by simp; omega
    unfold OthIs nbL Nb.arr kindT
    simp only
    clear h20 h21 h22 h24 hF
    go_enter Tryz.func130, Tryz.ntmps130
    go_wp2_with fail
    refine bodyPost_ret (v := .agg #[.int .i64 10, .int .u64 (n : Nat), .bool false, .string ⟨#[]⟩, .int .i64 0, .string ⟨#[]⟩, .slice none 0 0, .slice none 0 0, .slice none 0 0]) (by simp [results, Tryz.results130, go_sem, *]) rfl ⟨rfl, ?_⟩
    first
      | exact hW.out
      | exact bal2 _ _ _
end Go.Proofs.YtnjbppfanmmifaaGreatDoor
namespace Go.Proofs.YtnjbppfanmmifaaGreatDoor
open Go.RowKit
set_option linter.unusedVariables false
/-- The blocks of S, and new ones. -/
def SU (S : Nat → Prop) (w X : World) : Nat → Prop := fun k => S k ∨ Rg w.heap.size X.heap.size k
/-- A Tag's node in memory. -/
theorem tag_nd {S : Nat → Prop} {D g : Nat} {w X : World} {b : Nb} {t : Tr} (n : Nat) (hn : n < 18446744073709551616) (h : NdW S D w b t) (hE : ∀ k, S k → k < w.heap.size) (hb : Below w.heap.size w X) (hg : w.heap.size ≤ g) (hX : X.heap[g]? = some (.cells b.arr 26 (0, 0))) :
    NdW (SU S w X) (D + 1) X ⟨9, (n : Nat), false, ⟨#[]⟩, 0, ⟨#[]⟩, none, 0, 0, none, 0, 0, some ⟨g, 0, none⟩, 1, 1⟩ (tgT (n : Nat) t) := by
  have r0 : ∀ k, Room k none 0 0 := fun k => ⟨Nat.le_refl _, Nat.zero_le _, fun _ => rfl, by omega⟩
  have hgl : g < X.heap.size := (Array.getElem?_eq_some_iff.1 hX).1
  have hk : NdW (SU S w X) D X b t := (h.stays fun k hk => hb.block k (hE k hk)).mono fun k hk => .inl hk
  refine ⟨⟨rfl, rfl, rfl, rfl, rfl, rfl⟩, ⟨rfl, ?_, rfl, by show (0 : Nat) ≤ _; omega, by show (0 : Nat) ≤ _; omega⟩, ⟨rfl, r0 1, ⟨by simp [tgT], by simp [tgT], .inl rfl⟩⟩, ⟨wn_zero _ _ _ _, wn_zero _ _ _ _, fun _ => ⟨g, _, rfl, .inr ⟨hg, hgl⟩, hX⟩⟩, ⟨rfl, r0 136, .inl rfl⟩, rfl, ⟨Nat.le_refl _, by show (1 : Nat) ≤ maxLen; unfold maxLen; omega, (fun z => by cases z), by show (1 : Nat) * 136 ≤ _; omega⟩, .inr ⟨g, 0, rfl, fun i hi => ?_⟩⟩
  · show (Lit.int .u64 ((n : Nat) : Int)).wf = true
    simp [Lit.wf, show IntKind.u64.min = 0 from by decide, show IntKind.u64.max = 18446744073709551615 from by decide]
    omega
  · have e : i = 0 := by simp [tgT] at hi; omega
    subst e
    refine ⟨b, fun j hj => ?_, hk⟩
    rw [Nat.zero_add, Nat.zero_mul, Nat.zero_add]
    exact NBox.cell hX j
/-- What is answered of a tag. -/
def TgIs (S : Nat → Prop) (w w' : World) (D : Nat) (x : Ending) (R : Tr × Int) : Prop := (∃ nb : Nb, x = .returned (.tuple #[.agg nb.arr, .int .i64 R.2]) ∧ (R.2 = 0 → NdW (SU S w w') (D + 1) w' nb R.1)) ∧ Below w.heap.size w w'
theorem bal3 (w : World) (o o2 : Obj) (cs : Array Value) (T : TypeId) : Below w.heap.size w (((w.alloc o).alloc o2).alloc (.cells cs T)) ∧ (((w.alloc o).alloc o2).alloc (.cells cs T)).heap[w.heap.size + 2]? = some (.cells cs T (0, 0)) := by
  refine ⟨(bal2 w o o2).trans ((alloc_below _ _).mono (bal2 w o o2).size), ?_⟩
  have := heap_alloc_new ((w.alloc o).alloc o2) (.cells cs T)
  rw [show ((w.alloc o).alloc o2).heap.size = w.heap.size + 2 by simp] at this
  exact this
/-- A block made behind nine stores. -/
theorem put9 {w Y : World} {g k : Nat} (hb : Below w.heap.size w Y) (hg : w.heap.size ≤ g) (hk : Y.heap.size = k) (v0 v1 v2 v3 v4 v5 v6 v7 v8 : Value) (cs : Array Value) (T : TypeId) :
    Below w.heap.size w ((((((((((Y.setCell ⟨g, 0, none⟩ v0).setCell ⟨g, 1, none⟩ v1).setCell ⟨g, 2, none⟩ v2).setCell ⟨g, 3, none⟩ v3).setCell ⟨g, 4, none⟩ v4).setCell ⟨g, 5, none⟩ v5).setCell ⟨g, 6, none⟩ v6).setCell ⟨g, 7, none⟩ v7).setCell ⟨g, 8, none⟩ v8).alloc (.cells cs T)) ∧
    ((((((((((Y.setCell ⟨g, 0, none⟩ v0).setCell ⟨g, 1, none⟩ v1).setCell ⟨g, 2, none⟩ v2).setCell ⟨g, 3, none⟩ v3).setCell ⟨g, 4, none⟩ v4).setCell ⟨g, 5, none⟩ v5).setCell ⟨g, 6, none⟩ v6).setCell ⟨g, 7, none⟩ v7).setCell ⟨g, 8, none⟩ v8).alloc (.cells cs T)).heap[k]? = some (.cells cs T (0, 0)) := by
  refine ⟨ballo (bset (bset (bset (bset (bset (bset (bset (bset (bset hb hg) hg) hg) hg) hg) hg) hg) hg) hg) (Nat.le_refl _) _, ?_⟩
  have := heap_alloc_new (((((((((Y.setCell ⟨g, 0, none⟩ v0).setCell ⟨g, 1, none⟩ v1).setCell ⟨g, 2, none⟩ v2).setCell ⟨g, 3, none⟩ v3).setCell ⟨g, 4, none⟩ v4).setCell ⟨g, 5, none⟩ v5).setCell ⟨g, 6, none⟩ v6).setCell ⟨g, 7, none⟩ v7).setCell ⟨g, 8, none⟩ v8) (.cells cs T)
  simp only [set_size] at this
  rw [hk] at this
  exact this
set_option maxHeartbeats 4000000 in
set_option maxRecDepth 100000 in
theorem ctagged_plain {S : Nat → Prop} {D : Nat} {w : World} {b : Nb} {t : Tr} (n : Nat) (hn : n < 18446744073709551616) (h : NdW S (D + 1) w b t) (hE : ∀ k, S k → k < w.heap.size) (h2 : n ≠ 2) (h3 : n ≠ 3) (h4 : n ≠ 4) : Calls Tryz.prog 169 #[.int .u64 (n : Nat), .agg b.arr] w fun x w' => TgIs S w w' (D + 1) x (tagA n t) := by
  have e : tagA n t = (tgT (n : Nat) t, 0) := by unfold tagA; rw [if_neg (fun z => h2 z.1), if_neg (fun z => h3 z.1), if_neg h4]
  rw [e]
  have e2 : ((n : Int) == 2) = false := by simp; omega
  have e3 : ((n : Int) == 3) = false := by simp; omega
  have e4 : ((n : Int) == 4) = false := by simp; omega
  have e2' : (n == 2) = false := by simpa using h2
  have e3' : (n == 3) = false := by simpa using h3
  have e4' : (n == 4) = false := by simpa using h4
  have hF : Hid (∀ X g, Below w.heap.size w X → w.heap.size ≤ g → X.heap[g]? = some (.cells b.arr 26 (0, 0)) → NdW (SU S w X) (D + 1 + 1) X ⟨9, (n : Nat), false, ⟨#[]⟩, 0, ⟨#[]⟩, none, 0, 0, none, 0, 0, some ⟨g, 0, none⟩, 1, 1⟩ (tgT (n : Nat) t)) := fun X g h1 h2 h3 => tag_nd n hn h hE h1 h2 h3
  obtain ⟨a0, a1, a2, a3, a4, a5, a6, a7, a8⟩ := (nbox_new w b).fields
  unfold TgIs
  simp only
  unfold Nb.arr at *
  clear e h hE h2 h3 h4 hn
  go_enter Tryz.func169, Tryz.ntmps169
  go_wp2_with fail
  refine bodyPost_ret (v := .tuple #[.agg #[.int .i64 9, .int .u64 (n : Nat), .bool false, .string ⟨#[]⟩, .int .i64 0, .string ⟨#[]⟩, .slice none 0 0, .slice none 0 0, .slice (some ⟨w.heap.size + 1 + 1, 0, none⟩) 1 1], .int .i64 0]) (by simp [results, Tryz.results169, go_sem, *]) rfl ⟨⟨⟨9, (n : Nat), false, ⟨#[]⟩, 0, ⟨#[]⟩, none, 0, 0, none, 0, 0, some ⟨w.heap.size + 1 + 1, 0, none⟩, 1, 1⟩, rfl, fun _ => hF.out _ _ (bal3 w _ _ _ _).1 (by omega) (bal3 w _ _ _ _).2⟩, (bal3 w _ _ _ _).1⟩
set_option maxHeartbeats 4000000 in
set_option maxRecDepth 100000 in
theorem ctagged_two {S : Nat → Prop} {D : Nat} {w : World} {b : Nb} {t : Tr} (h : NdW S (D + 1) w b t) (hE : ∀ k, S k → k < w.heap.size) (h6 : t.kind ≠ 6) : Calls Tryz.prog 169 #[.int .u64 2, .agg b.arr] w fun x w' => TgIs S w w' (D + 1) x (tagA 2 t) := by
  have e : tagA 2 t = (tgT 2 t, 0) := by unfold tagA; simp [h6]
  rw [e]
  have e6 : (b.kind == 6) = false := by rw [show b.kind = t.kind from h.1.1]; simpa using h6
  have hF : Hid (∀ X g, Below w.heap.size w X → w.heap.size ≤ g → X.heap[g]? = some (.cells b.arr 26 (0, 0)) → NdW (SU S w X) (D + 1 + 1) X ⟨9, 2, false, ⟨#[]⟩, 0, ⟨#[]⟩, none, 0, 0, none, 0, 0, some ⟨g, 0, none⟩, 1, 1⟩ (tgT 2 t)) := fun X g h1 h2 h3 => tag_nd 2 (by decide) h hE h1 h2 h3
  obtain ⟨a0, a1, a2, a3, a4, a5, a6, a7, a8⟩ := (nbox_new w b).fields
  unfold TgIs
  simp only
  unfold Nb.arr at *
  clear e h hE h6
  go_enter Tryz.func169, Tryz.ntmps169
  go_wp2_with fail
  refine bodyPost_ret (v := .tuple #[.agg #[.int .i64 9, .int .u64 2, .bool false, .string ⟨#[]⟩, .int .i64 0, .string ⟨#[]⟩, .slice none 0 0, .slice none 0 0, .slice (some ⟨w.heap.size + 1 + 1, 0, none⟩) 1 1], .int .i64 0]) (by simp [results, Tryz.results169, go_sem, *]) rfl ⟨⟨⟨9, 2, false, ⟨#[]⟩, 0, ⟨#[]⟩, none, 0, 0, none, 0, 0, some ⟨w.heap.size + 1 + 1, 0, none⟩, 1, 1⟩, rfl, fun _ => hF.out _ _ (bal3 w _ _ _ _).1 (by omega) (bal3 w _ _ _ _).2⟩, (bal3 w _ _ _ _).1⟩
set_option maxHeartbeats 4000000 in
set_option maxRecDepth 100000 in
theorem ctagged_three {S : Nat → Prop} {D : Nat} {w : World} {b : Nb} {t : Tr} (h : NdW S (D + 1) w b t) (hE : ∀ k, S k → k < w.heap.size) (h6 : t.kind ≠ 6) : Calls Tryz.prog 169 #[.int .u64 3, .agg b.arr] w fun x w' => TgIs S w w' (D + 1) x (tagA 3 t) := by
  have e : tagA 3 t = (tgT 3 t, 0) := by unfold tagA; simp [h6]
  rw [e]
  have e6 : (b.kind == 6) = false := by rw [show b.kind = t.kind from h.1.1]; simpa using h6
  have hF : Hid (∀ X g, Below w.heap.size w X → w.heap.size ≤ g → X.heap[g]? = some (.cells b.arr 26 (0, 0)) → NdW (SU S w X) (D + 1 + 1) X ⟨9, 3, false, ⟨#[]⟩, 0, ⟨#[]⟩, none, 0, 0, none, 0, 0, some ⟨g, 0, none⟩, 1, 1⟩ (tgT 3 t)) := fun X g h1 h2 h3 => tag_nd 3 (by decide) h hE h1 h2 h3
  obtain ⟨a0, a1, a2, a3, a4, a5, a6, a7, a8⟩ := (nbox_new w b).fields
  unfold TgIs
  simp only
  unfold Nb.arr at *
  clear e h hE h6
  go_enter Tryz.func169, Tryz.ntmps169
  go_wp2_with fail
  refine bodyPost_ret (v := .tuple #[.agg #[.int .i64 9, .int .u64 3, .bool false, .string ⟨#[]⟩, .int .i64 0, .string ⟨#[]⟩, .slice none 0 0, .slice none 0 0, .slice (some ⟨w.heap.size + 1 + 1, 0, none⟩) 1 1], .int .i64 0]) (by simp [results, Tryz.results169, go_sem, *]) rfl ⟨⟨⟨9, 3, false, ⟨#[]⟩, 0, ⟨#[]⟩, none, 0, 0, none, 0, 0, some ⟨w.heap.size + 1 + 1, 0, none⟩, 1, 1⟩, rfl, fun _ => hF.out _ _ (bal3 w _ _ _ _).1 (by omega) (bal3 w _ _ _ _).2⟩, (bal3 w _ _ _ _).1⟩
set_option maxHeartbeats 4000000 in
set_option maxRecDepth 100000 in
theorem ctagged_four {S : Nat → Prop} {D : Nat} {w : World} {b : Nb} {t : Tr} (h : NdW S (D + 1) w b t) (hE : ∀ k, S k → k < w.heap.size) (hp : prT t = none) : Calls Tryz.prog 169 #[.int .u64 4, .agg b.arr] w fun x w' => TgIs S w w' (D + 1) x (tagA 4 t) := by
  have e : tagA 4 t = (tgT 4 t, 0) := by unfold tagA; rw [if_neg (by simp), if_neg (by simp), if_pos rfl, hp]; rfl
  rw [e]
  have hX : Hid (∀ w3, Below ((w.alloc (.cells b.arr 26)).alloc (.cells zN.arr 26)).heap.size ((w.alloc (.cells b.arr 26)).alloc (.cells zN.arr 26)) w3 → NBox w3 w.heap.size b ∧ NBox w3 (w.heap.size + 1) zN ∧ Below w.heap.size w w3) := fun w3 hb => by
    have s1 : (w.alloc (.cells b.arr 26)).heap.size = w.heap.size + 1 := by simp
    have n1 := (nbox_new w b).kept (alloc_below (w.alloc (.cells b.arr 26)) (.cells zN.arr 26)) (by omega)
    have n2 := nbox_new (w.alloc (.cells b.arr 26)) zN
    rw [s1] at n2
    exact ⟨n1.kept hb n1.lt, n2.kept hb n2.lt, (bal2 w _ _).trans (hb.mono (bal2 w _ _).size)⟩
  have kP : Hid (∀ wx, Below w.heap.size w wx → Calls Tryz.prog 198 #[.agg b.arr] wx fun e w' => e = .returned (.bool false) ∧ Below wx.heap.size wx w') := fun wx hx => by have := cispair_any (h.nd.kept hx); rw [hp] at this; exact this
  have hF : Hid (∀ X g, Below w.heap.size w X → w.heap.size ≤ g → X.heap[g]? = some (.cells b.arr 26 (0, 0)) → NdW (SU S w X) (D + 1 + 1) X ⟨9, 4, false, ⟨#[]⟩, 0, ⟨#[]⟩, none, 0, 0, none, 0, 0, some ⟨g, 0, none⟩, 1, 1⟩ (tgT 4 t)) := fun X g h1 h2 h3 => tag_nd 4 (by decide) h hE h1 h2 h3
  obtain ⟨a0, a1, a2, a3, a4, a5, a6, a7, a8⟩ := (nbox_new w b).fields
  unfold TgIs
  simp only
  unfold zN Nb.arr at *
  clear e h hE hp
  go_enter Tryz.func169, Tryz.ntmps169
  go_wp2_with (go_at_call 198; refine (kP.out _ (bal2 w _ _)).mono ?_; rintro e w3 ⟨rfl, hb3⟩; obtain ⟨hN3, hZ3, hW3⟩ := hX.out _ hb3; obtain ⟨d0, d1, d2, d3, d4, d5, d6, d7, d8⟩ := hN3.fields; obtain ⟨⟨f0, f1, f2, f3, f4, f5, f6, f7, f8⟩, z0, z1, z2, z3, z4, z5, z6, z7, z8⟩ := zbox hZ3; have hW4 : Hid (Below w.heap.size w w3) := hW3; have hl4 : w.heap.size + 1 < w3.heap.size := hZ3.lt; clear hb3 hN3 hZ3 hW3)
  refine bodyPost_ret (v := .tuple #[.agg #[.int .i64 9, .int .u64 4, .bool false, .string ⟨#[]⟩, .int .i64 0, .string ⟨#[]⟩, .slice none 0 0, .slice none 0 0, .slice (some ⟨w3.heap.size, 0, none⟩) 1 1], .int .i64 0]) (by simp [results, Tryz.results169, go_sem, *]) rfl ?_
  have P := put9 hW4.out (Nat.le_succ w.heap.size) rfl (.int .i64 9) (.int .u64 4) (.bool false) (.string ⟨#[]⟩) (.int .i64 0) (.string ⟨#[]⟩) (.slice none 0 0) (.slice none 0 0) (.slice (some ⟨w3.heap.size, 0, none⟩) 1 1) #[.int .i64 b.kind, .int .u64 b.num, .bool b.neg, .string b.dig, .int .i64 b.exp, .string b.txt, .slice b.ab b.lb b.cb, .slice b.ak b.lk b.ck, .slice b.ai b.li b.ci] 26
  exact ⟨⟨⟨9, 4, false, ⟨#[]⟩, 0, ⟨#[]⟩, none, 0, 0, none, 0, 0, some ⟨w3.heap.size, 0, none⟩, 1, 1⟩, rfl, fun _ => hF.out _ _ P.1 (by omega) P.2⟩, P.1⟩
end Go.Proofs.YtnjbppfanmmifaaGreatDoor
