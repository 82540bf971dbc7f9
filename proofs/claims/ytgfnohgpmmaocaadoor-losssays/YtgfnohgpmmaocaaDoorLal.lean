/-
  The probe of stage 15: a loss is built and said.
-/
import Derived.Test.YtgfnohgpmmaocaaDoorLsa
import Derived.Test.YtgfnohgpmmaocaaDoorLbb
namespace Go.Proofs.YtgfnohgpmmaocaaDoor
open Go.RowKit
set_option linter.unusedVariables false
set_option linter.unusedSimpArgs false


set_option maxHeartbeats 400000 in
theorem same_any (a b : Option Addr) (ca cb : Nat) (za zb : List Int) (w : World) (ha : Bytes w a za) (hb : Bytes w b zb) :
    Calls Tryd.prog 11 #[.slice a za.length ca, .slice b zb.length cb] w fun e w' => e = .returned (.bool (decide (za = zb))) ∧ w' = w := by
  have k1 := conv_str ha za.length ca rfl
  have k2 := conv_str hb zb.length cb rfl
  have he : Hid _ := str_eq ha.1 hb.1
  go_enter Tryd.func11, Tryd.ntmps11
  go_wp2
  go_ret
  exact ⟨by rw [← he.out]; rfl, rfl⟩

theorem same_yes (a b : Option Addr) (m n ca cb : Nat) (zs : List Int) (w : World) (hm : zs.length = m) (hn : zs.length = n) (ha : Bytes w a zs) (hb : Bytes w b zs) :
    Calls Tryd.prog 11 #[.slice a m ca, .slice b n cb] w fun e w' => e = .returned (.bool true) ∧ w' = w := by
  subst hm
  subst hn
  have h := same_any a b ca cb zs zs w ha hb
  simpa using h


theorem bld_tag : bldA [⟨[1, 0], 4, 5⟩] = ([1, 4, 5, 2, 1, 0], 0) := by decide +kernel
theorem six_bytes (w : World) : Bytes (w.alloc (.cells #[.int .u8 1, .int .u8 4, .int .u8 5, .int .u8 2, .int .u8 1, .int .u8 0] 5)) (some ⟨w.heap.size, 0, none⟩) [1, 4, 5, 2, 1, 0] := by
  refine ⟨by decide, by simp [maxLen], .inr ⟨_, 0, rfl, fun i hi => ?_⟩⟩
  have hb : Blc (w.alloc (.cells #[.int .u8 1, .int .u8 4, .int .u8 5, .int .u8 2, .int .u8 1, .int .u8 0] 5)) w.heap.size #[.int .u8 1, .int .u8 4, .int .u8 5, .int .u8 2, .int .u8 1, .int .u8 0] 5 := heap_alloc_new _ _
  rw [Nat.zero_add, hb.cell i]
  match i, hi with
  | 0, _ => rfl
  | 1, _ => rfl
  | 2, _ => rfl
  | 3, _ => rfl
  | 4, _ => rfl
  | 5, _ => rfl
theorem two_ints (w : World) : Ints (w.alloc (.cells #[.int .i64 1, .int .i64 0] 3)) (some ⟨w.heap.size, 0, none⟩) [1, 0] := by
  refine ⟨by simp [maxLen], .inr ⟨_, 0, rfl, fun i hi => ?_⟩⟩
  have hb : Blc (w.alloc (.cells #[.int .i64 1, .int .i64 0] 3)) w.heap.size #[.int .i64 1, .int .i64 0] 3 := heap_alloc_new _ _
  rw [Nat.zero_add, hb.cell i]
  match i, hi with
  | 0, _ => rfl
  | 1, _ => rfl

set_option maxHeartbeats 4000000 in
theorem alive_any (w : World) : Calls Tryd.prog 12 #[] w fun e w' => e = .returned (.bool true) ∧ Hid (Below w.heap.size w w') := by
  obtain ⟨W1, hW1⟩ : ∃ W1, Hid (W1 = w.alloc (.cells #[.int .i64 1, .int .i64 0] 3)) := ⟨_, rfl⟩
  have hB1 : Hid (Below w.heap.size w W1) := by show Below _ _ _; rw [hW1.out]; exact (Below.refl _ _).alloc (Nat.le_refl _) _
  have hI1 : Hid (Ints W1 (some ⟨w.heap.size, 0, none⟩) [1, 0]) := by show Ints _ _ _; rw [hW1.out]; exact two_ints w
  have hs1 : Hid (W1.heap.size = w.heap.size + 1) := by show _ = _; rw [hW1.out]; simp
  obtain ⟨W2, hW2⟩ : ∃ W2, Hid (W2 = W1.alloc (.cells #[.slice (some ⟨w.heap.size, 0, none⟩) 2 2, .int .i64 4, .int .u64 5] 41)) := ⟨_, rfl⟩
  have hB12 : Hid (Below W1.heap.size W1 W2) := by show Below _ _ _; rw [hW2.out]; exact (Below.refl _ _).alloc (Nat.le_refl _) _
  have hX2 : Hid (Blc W2 (w.heap.size + 1) #[.slice (some ⟨w.heap.size, 0, none⟩) 2 2, .int .i64 4, .int .u64 5] 41) := by show Blc _ _ _ _; rw [hW2.out, ← hs1.out]; exact heap_alloc_new _ _
  have hs2 : Hid (W2.heap.size = w.heap.size + 1 + 1) := by show _ = _; rw [hW2.out, ← hs1.out]; simp
  obtain ⟨W3, hW3⟩ : ∃ W3, Hid (W3 = W2.alloc (.cells #[.slice (some ⟨w.heap.size, 0, none⟩) 2 2, .int .i64 4, .int .u64 5] 41)) := ⟨_, rfl⟩
  have hB23 : Hid (Below W2.heap.size W2 W3) := by show Below _ _ _; rw [hW3.out]; exact (Below.refl _ _).alloc (Nat.le_refl _) _
  have hX3 : Hid (Blc W3 (w.heap.size + 1 + 1) #[.slice (some ⟨w.heap.size, 0, none⟩) 2 2, .int .i64 4, .int .u64 5] 41) := by show Blc _ _ _ _; rw [hW3.out, ← hs2.out]; exact heap_alloc_new _ _
  have hX2' : Hid (Blc W3 (w.heap.size + 1) #[.slice (some ⟨w.heap.size, 0, none⟩) 2 2, .int .i64 4, .int .u64 5] 41) := (hB23.out.block _ (Array.getElem?_eq_some_iff.1 hX2.out).1).trans hX2.out
  have hI3 : Hid (Ints W3 (some ⟨w.heap.size, 0, none⟩) [1, 0]) := (hI1.out.kept hB12.out).kept hB23.out
  have hs3 : Hid (w.heap.size + 1 + 1 < W3.heap.size) := (Array.getElem?_eq_some_iff.1 hX3.out).1
  have hB3 : Hid (Below w.heap.size w W3) := (hB1.out.trans (hB12.out.mono hB1.out.size)).trans (hB23.out.mono (Nat.le_trans hB1.out.size hB12.out.size))
  have kB := build_any (some ⟨w.heap.size + 1 + 1, 0, none⟩) 1 1 [⟨[1, 0], 4, 5⟩] W3 rfl ⟨by simp [maxLen], .inr ⟨_, 0, rfl, fun i x hx => by
    have h0 : i = 0 := by have := (List.getElem?_eq_some_iff.1 hx).1; simp at this; omega
    subst h0
    simp at hx
    subst hx
    exact ⟨some ⟨w.heap.size, 0, none⟩, 2, ⟨hX3.out.cell 0, hX3.out.cell 1, hX3.out.cell 2⟩, hI3.out, (fun y hy _ => by cases hy; have := hs3.out; show w.heap.size < _; omega), Nat.le_refl _, by decide, by decide⟩⟩⟩ (by simp) (Nat.le_refl _) (by decide)
  rw [bld_tag] at kB
  rw [hW3.out, hW2.out, hW1.out] at kB
  go_enter Tryd.func12, Tryd.ntmps12
  go_wp2_with fail
  refine kB.mono ?_
  clear kB
  rintro e w4 ⟨v4, rfl, hO4, hB4⟩
  rw [← hW1.out, ← hW2.out, ← hW3.out] at hB4
  obtain ⟨a4, n4, c4, rfl, hl4, hn4, hc4, hm4, hb4⟩ := hO4.out.form
  have hX4 : Hid (Blc w4 (w.heap.size + 1) #[.slice (some ⟨w.heap.size, 0, none⟩) 2 2, .int .i64 4, .int .u64 5] 41) := (hB4.out.block _ (Array.getElem?_eq_some_iff.1 hX2'.out).1).trans hX2'.out
  have hI4 : Hid (Ints w4 (some ⟨w.heap.size, 0, none⟩) [1, 0]) := hI3.out.kept hB4.out
  have hBw : Hid (Below w.heap.size w w4) := hB3.out.trans (hB4.out.mono hB3.out.size)
  clear hX3 hX2 hX2' hI3 hI1 hB3 hB4 hB1 hB12 hB23 hs1 hs2 hs3 hW1 hW2 hW3 hO4
  have hal := (Below.refl w4.heap.size w4).alloc (Nat.le_refl _) (.cells #[.int .u8 1, .int .u8 4, .int .u8 5, .int .u8 2, .int .u8 1, .int .u8 0] 5)
  have kS := same_yes a4 (some ⟨w4.heap.size, 0, none⟩) n4 6 c4 6 [1, 4, 5, 2, 1, 0] _ hl4.out rfl (hb4.out.kept hal) (six_bytes w4)
  have hX5 : Hid (Blc (w4.alloc (.cells #[.int .u8 1, .int .u8 4, .int .u8 5, .int .u8 2, .int .u8 1, .int .u8 0] 5)) (w.heap.size + 1) #[.slice (some ⟨w.heap.size, 0, none⟩) 2 2, .int .i64 4, .int .u64 5] 41) := (hal.block _ (Array.getElem?_eq_some_iff.1 hX4.out).1).trans hX4.out
  have hI5 : Hid (Ints (w4.alloc (.cells #[.int .u8 1, .int .u8 4, .int .u8 5, .int .u8 2, .int .u8 1, .int .u8 0] 5)) (some ⟨w.heap.size, 0, none⟩) [1, 0]) := hI4.out.kept hal
  have hBw5 : Hid (Below w.heap.size w (w4.alloc (.cells #[.int .u8 1, .int .u8 4, .int .u8 5, .int .u8 2, .int .u8 1, .int .u8 0] 5))) := hBw.out.trans (hal.mono hBw.out.size)
  have kY := say_any digB (some ⟨w.heap.size, 0, none⟩) 2 ⟨[1, 0], 4, 5⟩ _ hI5.out (Nat.le_refl _) (by decide) (by decide) (by decide +kernel) (fun s hs wr _ => itoa_small s (by simp at hs; omega) (by simp at hs; omega) wr)
  rw [say_tag] at kY
  have d0 := hX5.out.cell 0
  have d1 := hX5.out.cell 1
  have d2 := hX5.out.cell 2
  clear hX4 hI4 hBw hX5 hI5 hal hb4
  go_wp2_with (first
    | (go_at_call 11; go_loud (refine kS.mono ?_; rintro e w6 ⟨rfl, hw6⟩; obtain rfl := hw6.symm; clear kS))
    | (go_at_call 16; go_loud (refine kY.mono ?_; rintro e w7 ⟨rfl, hb7⟩; clear kY)))
  go_ret
  exact ⟨rfl, hBw5.out.trans (hb7.out.mono hBw5.out.size)⟩
end Go.Proofs.YtgfnohgpmmaocaaDoor
