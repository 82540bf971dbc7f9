/-
  A reader of losses: a loss, and a list of them in new memory.
-/
import Derived.Test.YtgfnohgpmmaocaaDoorLmb
namespace Go.Proofs.YtgfnohgpmmaocaaDoor
open Go.RowKit
set_option linter.unusedVariables false

theorem lossS_state' (zs : List Int) (s : St) : (lossS zs s).2 = (pathS zs (wordS zs (kindS zs s).2).2).2 := rfl
set_option maxHeartbeats 4000000 in
theorem loss_any {base q g n : Nat} {a : Option Addr} {zs : List Int} {s : St} {w : World} (h : Rd w base q g a n zs s) :
    Calls Tryd.prog 36 #[.pointer (some ⟨q, 0, none⟩)] w fun e w' => ∃ (pv : Value) (x : Ls), e = .returned (.agg #[pv, .int .i64 x.kind, .int .u64 (x.n : Nat)]) ∧ Hid (OwnsI w' w.heap.size pv x.path ∧ x.n < 18446744073709551616) ∧ Hid ((lossS zs s).2.1 = 0 → x = (lossS zs s).1) ∧ Hid (Rd w' base q g a n zs (lossS zs s).2) ∧ Hid (K2 q g w w') := by
  have hal : Below w.heap.size w (w.alloc (.cells #[.slice none 0 0, .int .i64 0, .int .u64 0] 41)) := (Below.refl _ _).alloc (Nat.le_refl _) _
  have k1 := number_any 1 6 5 (by decide) (by decide) (by decide) (h.kept hal)
  have hpl : Hid (Low w.heap.size q g a) := h.lows
  have hK0 : Hid (K2 q g w (w.alloc (.cells #[.slice none 0 0, .int .i64 0, .int .u64 0] 41))) := K2.of_below hal
  have hX0 : Hid (Blk (w.alloc (.cells #[.slice none 0 0, .int .i64 0, .int .u64 0] 41)) w.heap.size #[.slice none 0 0, .int .i64 0, .int .u64 0] 41) := blk_new _ _ _
  clear h hal
  go_enter Tryd.func36, Tryd.ntmps36
  go_wp2_with fail
  refine k1.mono ?_
  rintro e w1 ⟨rfl, hR1, hK1⟩
  clear k1
  obtain ⟨y1, f1, hb1⟩ := hR1.out.blk
  have d0 := hb1.c0
  clear hb1
  have hX1 : Hid (Blk w1 w.heap.size #[.slice none 0 0, .int .i64 0, .int .u64 0] 41) := (hK1.out.block _ hX0.out.lt (Nat.ne_of_gt hpl.out.1) (Nat.ne_of_gt hpl.out.2.1)).trans hX0.out
  have hKa : Hid (K2 q g w w1) := hK0.out.trans hK1.out
  clear hX0 hK0 hK1
  go_wp2_with fail
  refine (short_rd hR1.out).mono ?_
  rintro e w2 ⟨v, rfl, hv, hv0, hR2, hK2⟩
  have hX2 : Hid (Blk w2 w.heap.size #[.slice none 0 0, .int .i64 0, .int .u64 0] 41) := (hK2.out.block _ hX1.out.lt (Nat.ne_of_gt hpl.out.1) (Nat.ne_of_gt hpl.out.2.1)).trans hX1.out
  have hKb : Hid (K2 q g w w2) := hKa.out.trans hK2.out
  clear hX1 hKa hK2 d0
  have k3 := path_any hR2.out
  go_wp2_with fail
  refine k3.mono ?_
  rintro e w3 ⟨pv, rfl, hO3, hR3, hK3⟩
  clear k3
  have hX3 : Hid (Blk w3 w.heap.size #[.slice none 0 0, .int .i64 0, .int .u64 0] 41) := (hK3.out.block _ hX2.out.lt (Nat.ne_of_gt hpl.out.1) (Nat.ne_of_gt hpl.out.2.1)).trans hX2.out
  have hKc : Hid (K2 q g w w3) := hKb.out.trans hK3.out
  have hO : Hid (OwnsI w3 (w.heap.size + 1) pv (pathS zs (wordS zs (kindS zs s).2).2).1) := hO3.out.base hX2.out.lt
  have hZ : Hid ((lossS zs s).2.1 = 0 → v = (wordS zs (kindS zs s).2).1) := fun h0 => hv0.out (by
    by_cases h1 : (kindS zs s).2.1 = 0
    · exact h1
    · rw [lossS_state', show wordS zs (kindS zs s).2 = (0, (kindS zs s).2) from numS_bad _ _ _ _ _ h1, pathS_bad _ _ h1] at h0
      exact h0)
  clear hX2 hKb hK3 hO3 hv0
  have d0 := hX3.out.cell 0
  have d1 := hX3.out.cell 1
  have d2 := hX3.out.cell 2
  have z0 := hX3.out.fz 0
  have z1 := hX3.out.fz 1
  have z2 := hX3.out.fz 2
  obtain ⟨pa, pn, pc, rfl, hn4, hc4, hm4⟩ := hO.out.form3
  subst hn4
  have hXK : Hid (Rd w3 base q g a n zs (lossS zs s).2) := hR3
  have hS : Hid ((lossS zs s).1.path = (pathS zs (wordS zs (kindS zs s).2).2).1 ∧ (lossS zs s).1.kind = ((numS zs s 1 6 5).1 : Nat) ∧ (lossS zs s).1.n = (wordS zs (kindS zs s).2).1) := ⟨rfl, rfl, rfl⟩
  clear hR3 hR2 hR1
  generalize (pathS zs (wordS zs (kindS zs s).2).2).1 = pl at *
  generalize (numS zs s 1 6 5).1 = kd at *
  go_wp2
  have K1 := hX3.out.set 0 (.slice pa pl.length pc)
  have K2' := K1.set 1 (.int .i64 (kd : Nat))
  have K3 := K2'.set 2 (.int .u64 (v : Nat))
  have e0 := K1.cell 0
  have e1 := K2'.cell 1
  have e2 := K3.cell 2
  simp at e0 e1 e2
  have hB : Below w.heap.size w3 (((w3.setCell ⟨w.heap.size, 0, none⟩ (.slice pa pl.length pc)).setCell ⟨w.heap.size, 1, none⟩ (.int .i64 (kd : Nat))).setCell ⟨w.heap.size, 2, none⟩ (.int .u64 (v : Nat))) := (((Below.refl w.heap.size w3).setCell (p := ⟨w.heap.size, 0, none⟩) (Nat.le_refl _) _).setCell (p := ⟨w.heap.size, 1, none⟩) (Nat.le_refl _) _).setCell (p := ⟨w.heap.size, 2, none⟩) (Nat.le_refl _) _
  have hO5 := ((hO.out.low (a := ⟨w.heap.size, 0, none⟩) (Nat.lt_succ_self _) (.slice pa pl.length pc)).low (a := ⟨w.heap.size, 1, none⟩) (Nat.lt_succ_self _) (.int .i64 (kd : Nat))).low (a := ⟨w.heap.size, 2, none⟩) (Nat.lt_succ_self _) (.int .u64 (v : Nat))
  refine bodyPost_ret (v := .agg #[.slice pa pl.length pc, .int .i64 (kd : Nat), .int .u64 (v : Nat)]) (by simp [results, Tryd.results36, go_sem, e0, e1, e2]) rfl ⟨.slice pa pl.length pc, ⟨pl, (kd : Nat), v⟩, rfl, ⟨hO5.base (Nat.le_succ _), hv⟩, fun h0 => ?_, hXK.out.low hB hpl.out, hKc.out.low hB⟩
  obtain ⟨g1, g2, g3⟩ := hS.out
  have g4 := hZ.out h0
  cases hl : (lossS zs s).1 with
  | mk p1 k1 n1 =>
    rw [hl] at g1 g2 g3
    simp only at g1 g2 g3
    rw [g1, g2, g3, g4]

end Go.Proofs.YtgfnohgpmmaocaaDoor
