/-
  A number is read and written.
-/
import Derived.Test.YtcnfgmhcbelgoaaDoorParse
import Derived.Test.YtcnfgmhcbelgoaaDoorText
namespace Go.Proofs.YtcnfgmhcbelgoaaDoor
open Go.RowKit

theorem live_parse : parseA ⟨#[45, 49, 46, 53, 48, 101, 51]⟩ = ((true, ⟨#[49, 53]⟩, 2), 0, 0) := by decide
theorem live_text : textA true ⟨#[49, 53]⟩ 2 = ⟨#[45, 49, 53, 101, 50]⟩ := by decide
theorem live_right : rtN true ⟨#[49, 53]⟩ 2 = true := by decide
set_option maxRecDepth 100000 in
set_option maxHeartbeats 1000000 in
theorem alive_any (B : Nat) (w : World) (hT : Tab B w) (hB : B ≤ w.heap.size) : Calls Tryd.prog 11 #[] w fun e w' => e = .returned (.bool true) ∧ Below w.heap.size w w' := by
  have kP := parse_any ⟨#[45, 49, 46, 53, 48, 101, 51]⟩ w
  rw [live_parse] at kP
  dsimp only at kP
  go_enter Tryd.func11, Tryd.ntmps11
  go_wp2_with fail
  refine kP.mono ?_
  rintro e w1 ⟨rfl, b1⟩
  have kT : Hid (∀ wx, Below w1.heap.size w1 wx → Calls Tryd.prog 18 #[.agg #[.bool true, .string ⟨#[49, 53]⟩, .int .i64 2]] wx fun e w' => e = .returned (.string ⟨#[45, 49, 53, 101, 50]⟩) ∧ Below wx.heap.size wx w') := fun wx hb => by
    have h := text_any true ⟨#[49, 53]⟩ 2 wx (((hT.up hB).on (b1.trans (hb.mono b1.size))).up (Nat.le_trans b1.size hb.size))
    rw [live_text] at h
    exact h
  have kR : Hid (∀ wx, Calls Tryd.prog 16 #[.agg #[.bool true, .string ⟨#[49, 53]⟩, .int .i64 2]] wx fun e w' => e = .returned (.bool true) ∧ Below wx.heap.size wx w') := fun wx => by
    have h := dright_any true ⟨#[49, 53]⟩ 2 wx
    rw [live_right] at h
    exact h
  go_wp2_with fail
  have hb2 : Below w1.heap.size w1 ((w1.alloc (.cells #[.bool true, .string ⟨#[49, 53]⟩, .int .i64 2] 23)).alloc (.cells #[.int .i64 0, .int .i64 0] 32)) := ((Below.refl _ _).alloc (Nat.le_refl _) _).alloc (by simp) _
  refine (kT.out _ hb2).mono ?_
  rintro e w2 ⟨rfl, b2⟩
  have hN1 : NmAt w2 w1.heap.size true ⟨#[49, 53]⟩ 2 := ((box_at w1 true ⟨#[49, 53]⟩ 2 23).kept (alloc_below _ _) (alloc_lt _ _)).kept b2 (by simp; omega)
  obtain ⟨c0, c1, c2⟩ := hN1
  have b3 : Hid (Below w.heap.size w w2) := b1.trans ((hb2.mono b1.size).trans (b2.mono (Nat.le_trans b1.size hb2.size)))
  go_wp2_with fail
  refine (kR.out _).mono ?_
  rintro e w3 ⟨rfl, b4⟩
  go_wp2
  go_ret
  exact ⟨rfl, b3.out.trans (b4.mono b3.out.size)⟩
end Go.Proofs.YtcnfgmhcbelgoaaDoor
