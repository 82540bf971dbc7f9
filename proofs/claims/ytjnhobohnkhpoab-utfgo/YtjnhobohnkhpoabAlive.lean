/-
  A character is read and written, and a wrong byte told.
-/
import Derived.Test.YtjnhobohnkhpoabRunes
import Derived.Test.YtjnhobohnkhpoabPut
namespace Go.Proofs.Ytjnhobohnkhpoab
open Go.RowKit

theorem alive_text : runesL [195, 169, 97] = ([233, 97], none) := by
  have h := runes_all [233, 97] (by intro r hr; simp only [List.mem_cons, List.not_mem_nil, or_false] at hr; unfold Right; omega)
  exact h
theorem alive_bad : ¬ Good [224, 128] := by
  intro h
  have h1 := h.2.1 (by decide)
  have h2 : lo2 224 ≤ 128 := h1.2.1
  exact absurd h2 (by decide)
theorem alive_fault : (runesL [224, 128]).2 = some 1 := by
  rw [runes_bad (by simp) alive_bad]
  have h2 : ¬ ok1 ([224, 128] : List Int).length (nth [224, 128] 0) (nth [224, 128] 1) := by
    intro h
    have h2 : lo2 224 ≤ 128 := h.2.1
    exact absurd h2 (by decide)
  show some (badB [224, 128]) = some 1
  unfold badB
  rw [if_neg (by decide), if_pos h2]
theorem below_drewN {B : Nat} {a w : World} (h : Below B a w) (n : Nat) : Below B a (w.drewN n) := ⟨h.os, h.tape, h.output, h.size, h.block⟩
theorem two_runes (w : World) (x y : Int) : Ints (w.alloc (.cells #[.int .i32 x, .int .i32 y] 21)) (some ⟨w.heap.size, 0, none⟩) [x, y] := by
  refine ⟨by simp [maxLen], .inr ⟨_, _, rfl, ?_⟩⟩
  intro i hi
  rw [World.cell?_alloc_mark]
  match i, hi with
  | 0, _ => rfl
  | 1, _ => rfl
theorem Ints.drewN {w : World} {a : Option Addr} {l : List Int} (h : Ints w a l) (n : Nat) : Ints (w.drewN n) a l := h
theorem bytes_nil (w : World) (a : Option Addr) : Bytes w a [] := ⟨by simp, by simp, .inl rfl⟩

set_option maxHeartbeats 1000000 in
theorem alive_any (w : World) :
    Calls Try.prog 5 #[] w fun e w' => e = .returned (.bool true) ∧ Below w.heap.size w w' := by
  obtain ⟨y1, y2, y3⟩ := why_none (zs := [195, 169, 97]) (by rw [alive_text])
  rw [alive_text] at y3
  obtain ⟨z1, z2, -⟩ := why_some alive_fault
  have k1 := runes_any (some ⟨w.heap.size, 0, none⟩) 3 3 [195, 169, 97] _ rfl (three_bytes w 195 169 97 (by omega) (by omega) (by omega)) (by omega) (by omega)
  rw [y1, y2, y3] at k1
  clear y1 y2 y3
  go_enter Try.func5, Try.ntmps5
  go_wp2_with fail
  refine k1.mono ?_
  rintro e w1 ⟨v1, rfl, ho1, hb1⟩
  have hbw1 : Below w.heap.size w w1 := ((Below.refl w.heap.size w).alloc (Nat.le_refl _) _).trans (hb1.mono (by simp))
  clear k1 hb1
  obtain ⟨a1, n1, c1, rfl, hl1, hn1, hc1, hm1, hI1⟩ := ho1.form
  obtain rfl : n1 = 2 := hl1.out.symm
  clear ho1
  go_wp2_with fail
  refine (put_ok none 0 0 [] 233 (w1.alloc (.cells #[.int .i64 0, .int .i64 0] 26)) rfl (bytes_nil _ _) (by simp) (by omega) (by unfold Right; omega)).mono ?_
  rintro e w2 ⟨v2, rfl, ho2, hb2⟩
  rw [show ([] ++ encL 233 : List Int) = [195, 169] from rfl] at ho2
  have hF : FAt w2 w1.heap.size 0 0 := FAt.kept (w := w1.alloc _) (heap_alloc_new w1 _) hb2
  have hbw2 : Below w.heap.size w w2 := (hbw1.alloc hbw1.size _).trans (hb2.mono (by have := hbw1.size; simp; omega))
  have hI2 : Hid (Ints w2 a1 (ints [233, 97])) := hI1.out.kept (((Below.refl _ _).alloc (Nat.le_refl _) _).trans (hb2.mono (by simp)))
  clear hb2 hbw1 hI1
  obtain ⟨a2, n2, c2, rfl, hl2, hn2, hc2, hm2, hB2⟩ := ho2.form
  obtain rfl : n2 = 2 := hl2.out.symm
  clear ho2
  have c0 := hF.c0
  have c1' := hF.c1
  have k2 := sameI_any a1 (some ⟨w2.heap.size, 0, none⟩) 2 2 c1 2 (ints [233, 97]) [233, 97] (w2.alloc (.cells #[.int .i32 233, .int .i32 97] 21)) rfl rfl (hI2.out.kept ((Below.refl _ _).alloc (Nat.le_refl _) _)) (two_runes _ _ _) (by omega)
  rw [decide_eq_true (show ints [233, 97] = [233, 97] from rfl)] at k2
  go_wp2_with fail
  refine k2.mono ?_
  rintro e w3 ⟨rfl, q3, hw3⟩
  have hbw3' : Below w2.heap.size w2 w3 := by rw [hw3]; exact below_drewN ((Below.refl _ _).alloc (Nat.le_refl _) _) q3
  have hbw3 : Below w.heap.size w w3 := hbw2.trans (hbw3'.mono hbw2.size)
  have hB3 : Hid (Bytes w3 a2 [195, 169]) := hB2.out.kept hbw3'
  clear hw3 k2 hB2 hI2
  have k3 := same_yes a2 (some ⟨w3.heap.size, 0, none⟩) 2 2 c2 2 [195, 169] (w3.alloc (.cells #[.int .u8 195, .int .u8 169] 5)) rfl rfl (hB3.out.kept ((Below.refl _ _).alloc (Nat.le_refl _) _)) (two_bytes _ _ _ (by omega) (by omega))
  go_wp2_with fail
  refine k3.mono ?_
  rintro e w4 ⟨rfl, hw4⟩
  have hbw4 : Below w.heap.size w w4 := by rw [hw4]; exact hbw3.alloc hbw3.size _
  clear hw4 k3 hB3
  have k4 := check_any (some ⟨w4.heap.size, 0, none⟩) 2 2 [224, 128] (w4.alloc (.cells #[.int .u8 224, .int .u8 128] 5)) rfl (two_bytes _ _ _ (by omega) (by omega)) (by omega) (by omega)
  rw [z1, z2] at k4
  go_wp2_with fail
  refine k4.mono ?_
  rintro e w5 ⟨rfl, hb5⟩
  have hbw5 : Below w.heap.size w w5 := (hbw4.alloc hbw4.size _).trans (hb5.mono (by have := hbw4.size; simp; omega))
  clear k4 hb5
  go_wp2
  go_ret
  exact ⟨rfl, hbw5⟩
end Go.Proofs.Ytjnhobohnkhpoab
