/-
  A number is written and read: the law's own small trial holds.
-/
import Derived.Test.YtkmbphgcnppohabShort
namespace Go.Proofs.Ytkmbphgcnppohab
open Go.RowKit

theorem five_bytes (w : World) : Bytes (w.alloc (.cells #[.int .u8 130, .int .u8 44, .int .u8 1, .int .u8 2, .int .u8 9] 5)) (some ⟨w.heap.size, 0, none⟩) [130, 44, 1, 2, 9] := by
  refine ⟨by decide, by decide, .inr ⟨_, _, rfl, ?_⟩⟩
  intro i hi
  rw [World.cell?_alloc_mark]
  match i, hi with
  | 0, _ => rfl
  | 1, _ => rfl
  | 2, _ => rfl
  | 3, _ => rfl
  | 4, _ => rfl

theorem two_bytes (w : World) : Bytes (w.alloc (.cells #[.int .u8 130, .int .u8 44] 5)) (some ⟨w.heap.size, 0, none⟩) [130, 44] := by
  refine ⟨by decide, by decide, .inr ⟨_, _, rfl, ?_⟩⟩
  intro i hi
  rw [World.cell?_alloc_mark]
  match i, hi with
  | 0, _ => rfl
  | 1, _ => rfl

theorem u64_of {n : Int} (h : (Lit.int .u64 n).wf = true) : ∃ m : Nat, n = (m : Int) ∧ m < 18446744073709551616 := by
  simp [Lit.wf, show IntKind.u64.min = 0 from by decide, show IntKind.u64.max = 18446744073709551615 from by decide] at h
  exact ⟨n.toNat, by omega, by omega⟩

theorem i64_of {n : Int} (h : (Lit.int .i64 n).wf = true) : -9223372036854775808 ≤ n ∧ n ≤ 9223372036854775807 := by
  simp [Lit.wf, show IntKind.i64.min = -9223372036854775808 from by decide, show IntKind.i64.max = 9223372036854775807 from by decide] at h
  exact h

theorem no_bytes (w : World) (a : Option Addr) : Bytes w a [] := ⟨by simp, by simp, .inl rfl⟩

theorem below_but {B g : Nat} {a w w' : World} (h : Below B a w) (hg : w.grownBy w' (some g)) (hB : B ≤ w.heap.size) (hr : B ≤ g) : Below B a w' :=
  h.grown hg hB fun k hk => by cases hk; exact hr

theorem short_trial (base g : Nat) (a : Option Addr) (w : World) (h : Cur w base g a 5 [130, 44, 1, 2, 9] 0 0 0) :
    Calls Try.prog 5 #[.pointer (some ⟨g, 0, none⟩)] w fun e w' => e = .returned (.int .u64 300) ∧ Cur w' base g a 5 [130, 44, 1, 2, 9] 2 0 0 ∧ w.grownBy w' (some g) := by
  have h1 := short_go base g 0 0 5 a _ w h
  have e : sS [130, 44, 1, 2, 9] 0 0 0 = (300, 2, 0, 0) := by decide
  rw [e] at h1
  exact h1

theorem wide_trial (base g : Nat) (a : Option Addr) (w : World) (h : Cur w base g a 5 [130, 44, 1, 2, 9] 2 0 0) :
    Calls Try.prog 4 #[.pointer (some ⟨g, 0, none⟩), .int .i64 2] w fun e w' => e = .returned (.int .u64 258) ∧ Cur w' base g a 5 [130, 44, 1, 2, 9] 4 0 0 ∧ w.grownBy w' (some g) := by
  have h1 := wide_ok base g 2 0 5 2 a _ w h (by decide) (by decide)
  exact h1

theorem put_trial (w : World) :
    Calls Try.prog 18 #[.slice none 0 0, .int .u64 300] w fun e w' => ∃ v, e = .returned v ∧ OwnsB w' w.heap.size v [130, 44] ∧ Below w.heap.size w w' := by
  have h1 := putShort_any none 0 0 300 [] w (by decide) rfl (no_bytes w none) (fun _ => rfl) (by decide)
  have e : ([] : List Int) ++ shortL 300 = [130, 44] := by decide
  rw [e] at h1
  exact h1

set_option maxHeartbeats 1000000 in
theorem alive_any (w : World) : Calls Try.prog 12 #[] w fun e w' => e = .returned (.bool true) ∧ Below w.heap.size w w' := by
  go_enter Try.func12, Try.ntmps12
  go_wp2_with fail
  refine (new_any _ 5 5 _ _ rfl (five_bytes w) (by simp) (by decide)).mono ?_
  rintro e w1 ⟨g, a1, rfl, hc1', hb1'⟩
  have hs0 : w.heap.size ≤ (w.alloc (.cells #[.int .u8 130, .int .u8 44, .int .u8 1, .int .u8 2, .int .u8 9] 5)).heap.size := by simp
  have hg0 : Hid (w.heap.size ≤ g) := Nat.le_trans hs0 hc1'.2.2.2.2.2.1
  have hb1 : Hid (Below w.heap.size w w1) := ((Below.refl w.heap.size w).alloc (Nat.le_refl _) _).trans (hb1'.mono hs0)
  have hc1 : Hid (Cur w1 (w.alloc (.cells #[.int .u8 130, .int .u8 44, .int .u8 1, .int .u8 2, .int .u8 9] 5)).heap.size g a1 5 [130, 44, 1, 2, 9] 0 0 0) := hc1'
  clear hc1' hb1' hs0
  generalize (w.alloc (.cells #[.int .u8 130, .int .u8 44, .int .u8 1, .int .u8 2, .int .u8 9] 5)).heap.size = base at *
  go_wp2_with fail
  refine (short_trial base g a1 w1 hc1.out).mono ?_
  rintro e w2 ⟨rfl, hc2, hg2⟩
  have hb2 := below_but hb1.out hg2 hb1.out.size hg0.out
  clear hc1 hb1 hg2
  go_wp2_with fail
  refine (wide_trial base g a1 w2 hc2).mono ?_
  rintro e w3 ⟨rfl, hc3, hg3⟩
  have hb3 := below_but hb2 hg3 hb2.size hg0.out
  clear hc2 hb2 hg3
  go_wp2_with fail
  refine (at_any _ _ _ _ _ _ hc3.1).mono ?_
  rintro e w4 ⟨rfl, rfl⟩
  go_wp2_with fail
  refine (left_b _ _ _ _ _ _ _ _ hc3.1 (by decide) (by decide)).mono ?_
  rintro e w5 ⟨rfl, hb5⟩
  have hc5 := hc3.kept hb5
  have hb5' := hb3.trans (hb5.mono hb3.size)
  clear hc3 hb3 hb5
  go_wp2_with fail
  refine (fault_any _ _ _ _ _ _ hc5.1).mono ?_
  rintro e w6 ⟨rfl, hb6⟩
  have hb6' := hb5'.trans (hb6.mono hb5'.size)
  clear hc5 hb5' hb6
  go_wp2_with fail
  refine (put_trial _).mono ?_
  rintro e w7 ⟨v7, rfl, ho7, hb7⟩
  obtain ⟨a7, n7, cap7, rfl, hl7, -, hc7, hm7, hB7⟩ := ho7.form
  have hb7' := hb6'.trans (hb7.mono hb6'.size)
  clear ho7 hb7 hb6'
  go_wp2_with fail
  have hb8 := (Below.refl w7.heap.size w7).alloc (Nat.le_refl _) (.cells #[.int .u8 130, .int .u8 44] 5)
  refine (same_yes _ _ _ _ _ _ [130, 44] _ hl7.out rfl (hB7.out.kept hb8) (two_bytes w7)).mono ?_
  rintro e w9 ⟨rfl, rfl⟩
  go_wp2
  go_ret
  exact ⟨rfl, hb7'.trans (hb8.mono hb7'.size)⟩
end Go.Proofs.Ytkmbphgcnppohab
