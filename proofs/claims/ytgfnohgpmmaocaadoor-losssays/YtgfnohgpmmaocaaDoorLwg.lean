/-
  Stage 15: the walk of the statement: what is said of any loss is the document's.
-/
import Derived.Test.YtgfnohgpmmaocaaDoorLal
import Derived.Test.YtgfnohgpmmaocaaDoorLop
import Derived.Test.YtgfnohgpmmaocaaDoorLsb
import Derived.Deep.RegionHeld3
namespace Go.Proofs.YtgfnohgpmmaocaaDoor
open Go.RowKit
set_option linter.unusedVariables false
set_option linter.unusedSimpArgs false

theorem wf_bounds {n : Int} (h : (Lit.int .i64 n).wf = true) : -9223372036854775808 ≤ n ∧ n ≤ 9223372036854775807 := by
  simp [Lit.wf, show IntKind.i64.min = -9223372036854775808 from by decide, show IntKind.i64.max = 9223372036854775807 from by decide] at h
  omega

set_option maxHeartbeats 4000000 in
theorem wsays (pa : Option Addr) (pc : Nat) (x : Ls) (w : World) (h : LsV w pa pc x) (htab : Lib.TabIs Tryd.prog w "internal/strconv.uint64pow10" .u64 Lib.pow10Tab) :
    Calls Tryd.prog 5 #[.agg #[.slice pa x.path.length pc, .int .i64 x.kind, .int .u64 (x.n : Nat)]] w fun e w' => e = .returned (.bool true) ∧ Below w.heap.size w w' := by
  obtain ⟨hI, hc, hm, hn, hwf, _⟩ := h
  have hbd : ∀ s ∈ x.path, -9223372036854775808 ≤ s ∧ s ≤ 9223372036854775807 := fun s hs => wf_bounds (hwf s hs)
  obtain ⟨W0, hW0⟩ : ∃ W0, Hid (W0 = w.alloc (.cells #[.slice pa x.path.length pc, .int .i64 x.kind, .int .u64 (x.n : Nat)] 41)) := ⟨_, rfl⟩
  have hB0 : Hid (Below w.heap.size w W0) := by show Below _ _ _; rw [hW0.out]; exact (Below.refl _ _).alloc (Nat.le_refl _) _
  have hX0 : Hid (Blc W0 w.heap.size #[.slice pa x.path.length pc, .int .i64 x.kind, .int .u64 (x.n : Nat)] 41) := by show Blc _ _ _ _; rw [hW0.out]; exact heap_alloc_new _ _
  by_cases hbig : 2000 < x.path.length
  · have hd : decide ((2000 : Int) < (x.path.length : Int)) = true := by simp; omega
    have SK : Hid (∀ y, Below W0.heap.size W0 y → y.cell? ⟨w.heap.size, 0, none⟩ = some (.slice pa x.path.length pc)) := fun y hy => by
      have hb : Blc y w.heap.size #[.slice pa x.path.length pc, .int .i64 x.kind, .int .u64 (x.n : Nat)] 41 := (hy.block _ (Array.getElem?_eq_some_iff.1 hX0.out).1).trans hX0.out
      exact hb.cell 0
    clear hI hwf hbd
    go_enter Tryd.func5, Tryd.ntmps5
    go_upto_region 1 with fail
    rw [← hW0.out]
    have c0 := SK.out W0 (Below.refl _ _)
    go_region
    all_goals
      go_wp2_with fail
      go_ret
      exact ⟨rfl, hB0.out.drew⟩
  · have hT : Hid (Lib.TabBelow Tryd.prog w.heap.size w "internal/strconv.uint64pow10" .u64 Lib.pow10Tab) := Lib.tabBelow_of_tabIs htab
    have k1 : Hid (∀ wx, Below W0.heap.size W0 wx → Calls Tryd.prog 16 #[.agg #[.slice pa x.path.length pc, .int .i64 x.kind, .int .u64 (x.n : Nat)]] wx fun e w' => e = .returned (.string (sayB itoB x)) ∧ Hid (Below wx.heap.size wx w')) := fun wx hx => say_any itoB pa pc x wx (hI.kept (hB0.out.trans (hx.mono hB0.out.size))) hc hm (by omega) (fun s hs => itoB_size s (hbd s hs).1 (hbd s hs).2) (fun s hs wr hr => itoa_any s (hbd s hs).1 (hbd s hs).2 wr (hT.out wr ((hB0.out.trans (hx.mono hB0.out.size)).trans (hr.mono (Nat.le_trans hB0.out.size hx.size)))))
    have k2 : Hid (∀ wx, Below W0.heap.size W0 wx → Calls Tryd.prog 17 #[.agg #[.slice pa x.path.length pc, .int .i64 x.kind, .int .u64 (x.n : Nat)]] wx fun e w' => e = .returned (.string (sayB itoB x)) ∧ Hid (Below wx.heap.size wx w')) := fun wx hx => rsay_any pa pc x wx (hI.kept (hB0.out.trans (hx.mono hB0.out.size))) hc hm (by omega) hbd
    have hd : decide ((2000 : Int) < (x.path.length : Int)) = false := by simp; omega
    have hbl : ¬ ((2000 : Int) < (x.path.length : Int)) := by omega
    have SK : Hid (∀ y, Below W0.heap.size W0 y → y.cell? ⟨w.heap.size, 0, none⟩ = some (.slice pa x.path.length pc) ∧ y.cell? ⟨w.heap.size, 1, none⟩ = some (.int .i64 x.kind) ∧ y.cell? ⟨w.heap.size, 2, none⟩ = some (.int .u64 (x.n : Nat))) := fun y hy => by
      have hb : Blc y w.heap.size #[.slice pa x.path.length pc, .int .i64 x.kind, .int .u64 (x.n : Nat)] 41 := (hy.block _ (Array.getElem?_eq_some_iff.1 hX0.out).1).trans hX0.out
      exact ⟨hb.cell 0, hb.cell 1, hb.cell 2⟩
    have bd : Hid (Below W0.heap.size W0 W0.drew) := (Below.refl _ _).drew
    clear hI hwf hT htab hbd
    generalize sayB itoB x = T at *
    go_enter Tryd.func5, Tryd.ntmps5
    go_upto_region 1 with fail
    rw [← hW0.out]
    go_region_held3 (fun y => y.cell? ⟨w.heap.size, 0, none⟩ = some (.slice pa x.path.length pc) ∧ y.cell? ⟨w.heap.size, 1, none⟩ = some (.int .i64 x.kind) ∧ y.cell? ⟨w.heap.size, 2, none⟩ = some (.int .u64 (x.n : Nat))) (((with_reducible refine SK.out _ ?_); (all_goals first | with_reducible exact bd.out | with_reducible exact Below.refl _ _ | with_reducible exact b1.out | with_reducible exact b2.out | with_reducible exact b3.out | fail))) (first
      | (go_at_call 16; refine (k1.out _ (by first | with_reducible exact bd.out | with_reducible exact Below.refl _ _)).mono ?_; rintro e x1 ⟨rfl, hb1⟩; have b1 : Hid (Below W0.heap.size W0 x1) := (by first | with_reducible exact hb1.out | exact bd.out.trans hb1.out); clear k1 hb1)
      | (go_at_call 17; refine (k2.out _ b1.out).mono ?_; rintro e x2 ⟨rfl, hb2⟩; have b2 : Hid (Below W0.heap.size W0 x2) := b1.out.trans (hb2.out.mono b1.out.size); clear k2 hb2)
      | (go_at_call 12; refine (alive_any _).mono ?_; rintro e x3 ⟨rfl, hb3⟩; have b3 : Hid (Below W0.heap.size W0 x3) := b2.out.trans (hb3.out.mono b2.out.size); clear hb3))
    all_goals
      go_wp2_with fail
      go_ret
      exact ⟨rfl, hB0.out.trans (b3.out.mono hB0.out.size)⟩
end Go.Proofs.YtgfnohgpmmaocaaDoor
