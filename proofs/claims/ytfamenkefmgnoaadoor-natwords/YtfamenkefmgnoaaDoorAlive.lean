/-
  A product is made, and bytes are a number.
-/
import Derived.Test.YtfamenkefmgnoaaDoorFrb
namespace Go.Proofs.YtfamenkefmgnoaaDoor
open Go.RowKit

theorem two_bytes (w : World) (x y : Int) (hx : 0 ≤ x ∧ x < 256) (hy : 0 ≤ y ∧ y < 256) : Bytes (w.alloc (.cells #[.int .u8 x, .int .u8 y] 5)) (some ⟨w.heap.size, 0, none⟩) [x, y] := by
  refine ⟨by intro c hc; simp at hc; omega, by simp [maxLen], .inr ⟨_, _, rfl, ?_⟩⟩
  intro i hi
  rw [World.cell?_alloc_mark]
  match i, hi with
  | 0, _ => rfl
  | 1, _ => rfl
theorem short_val {s : ByteArray} (h : rt s = true) : shortA (val s) = (s, 0) := by
  unfold shortA
  rw [if_pos (right_lt h), txt_rt h]
theorem rt999 : rt ⟨#[57, 57, 57]⟩ = true := by decide
theorem rt256 : rt ⟨#[50, 53, 54]⟩ = true := by decide
theorem rt998 : rt ⟨#[57, 57, 56, 48, 48, 49]⟩ = true := by decide
theorem mul999 : mulA ⟨#[57, 57, 57]⟩ ⟨#[57, 57, 57]⟩ = (⟨#[57, 57, 56, 48, 48, 49]⟩, 0) := by
  unfold mulA
  rw [if_pos ⟨rt999, rt999⟩, ← short_val rt998]
  congr 1
theorem frb256 : frbA [1, 0] = (⟨#[50, 53, 54]⟩, 0) := by
  unfold frbA
  rw [if_pos (by decide), ← short_val rt256]
  congr 1
theorem rt0 : rt ⟨#[48]⟩ = true := by decide
theorem rt01 : rt ⟨#[48, 49]⟩ = false := by decide
theorem alive_mul (w : World) : Calls Tryd.prog 15 #[.string ⟨#[57, 57, 57]⟩, .string ⟨#[57, 57, 57]⟩] w fun e w' => e = .returned (.tuple #[.string ⟨#[57, 57, 56, 48, 48, 49]⟩, .int .i64 0]) ∧ Below w.heap.size w w' := by
  have h := mul_any ⟨#[57, 57, 57]⟩ ⟨#[57, 57, 57]⟩ w
  rw [mul999] at h
  exact h
theorem alive_frb (w : World) : Calls Tryd.prog 24 #[.slice (some ⟨w.heap.size, 0, none⟩) 2 2] (w.alloc (.cells #[.int .u8 1, .int .u8 0] 5)) fun e w' => e = .returned (.tuple #[.string ⟨#[50, 53, 54]⟩, .int .i64 0]) ∧ Below (w.alloc (.cells #[.int .u8 1, .int .u8 0] 5)).heap.size (w.alloc (.cells #[.int .u8 1, .int .u8 0] 5)) w' := by
  have h := frb_any (some ⟨w.heap.size, 0, none⟩) 2 2 [1, 0] (w.alloc (.cells #[.int .u8 1, .int .u8 0] 5)) rfl (two_bytes w 1 0 (by decide) (by decide))
  rw [frb256] at h
  exact h
theorem alive_r0 (w : World) : Calls Tryd.prog 17 #[.string ⟨#[48]⟩] w fun e w' => e = .returned (.bool true) ∧ w' = w := by
  have h := right_any ⟨#[48]⟩ w
  rw [rt0] at h
  exact h
theorem alive_r1 (w : World) : Calls Tryd.prog 17 #[.string ⟨#[48, 49]⟩] w fun e w' => e = .returned (.bool false) ∧ w' = w := by
  have h := right_any ⟨#[48, 49]⟩ w
  rw [rt01] at h
  exact h
set_option maxRecDepth 100000 in
set_option maxHeartbeats 1000000 in
theorem alive_any (w : World) : Calls Tryd.prog 19 #[] w fun e w' => e = .returned (.bool true) ∧ Below w.heap.size w w' := by
  go_enter Tryd.func19, Tryd.ntmps19
  go_wp2_with fail
  refine (alive_mul w).mono ?_
  rintro e w1 ⟨rfl, hb1⟩
  go_wp2_with fail
  refine (alive_frb w1).mono ?_
  rintro e w2 ⟨rfl, hb2⟩
  go_wp2_with fail
  refine (alive_r0 w2).mono ?_
  rintro e w3 ⟨rfl, hw⟩
  obtain rfl : w2 = w3 := hw.symm
  go_wp2_with fail
  refine (alive_r1 w2).mono ?_
  rintro e w3 ⟨rfl, hw⟩
  obtain rfl : w2 = w3 := hw.symm
  go_wp2
  go_ret
  refine ⟨rfl, hb1.trans ?_⟩
  exact ((Below.refl _ _).alloc hb1.size _).trans (hb2.mono (by have := hb1.size; simp; omega))
end Go.Proofs.YtfamenkefmgnoaaDoor
