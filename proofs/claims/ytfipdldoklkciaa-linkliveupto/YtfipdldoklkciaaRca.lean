/-
  Blocks; what has turned; a receiver as plain data and in memory; the small calls.
-/
import Derived.Test.YtfipdldoklkciaaSdl
import Derived.Deep.QuietTactic
import Derived.BigQuiet
namespace Go.Proofs.Ytfipdldoklkciaa
open Go.RowKit
set_option linter.unusedVariables false

theorem K2.dn {q g : Nat} (w : World) (m : Nat) : K2 q g w (w.drewN m) := ⟨rfl, rfl, rfl, Nat.le_refl _, fun _ _ _ _ => rfl⟩
theorem K2.one {q g : Nat} {w w' : World} (h : K2 q q w w') : K2 q g w w' := ⟨h.os, h.tape, h.output, h.size, fun k hk h1 _ => h.block k hk h1 h1⟩
theorem K2.two {q g : Nat} {w w' : World} (h : K2 g g w w') : K2 q g w w' := ⟨h.os, h.tape, h.output, h.size, fun k hk _ h1 => h.block k hk h1 h1⟩
/-- A RECEIVER AS PLAIN DATA: its window, how many were taken, the loads that are held by their numbers. -/
structure Rc where
  win : Int
  tk : Int
  L : Int → Option (List Int)
structure Rok (s : Rc) : Prop where
  w1 : 1 ≤ s.win
  w2 : s.win ≤ 32
  t1 : 0 ≤ s.tk
  t2 : s.tk ≤ 4611686018427387904
  inn : ∀ z, (s.L z).isSome = true → s.tk < z ∧ z ≤ s.tk + s.win
  few : ∀ z l, s.L z = some l → l.length ≤ 1200 ∧ ∀ c ∈ l, 0 ≤ c ∧ c < 256
/-- What stands in a place of the ring. -/
def Rc.at (s : Rc) (p : Nat) : Option (List Int) := s.L (s.tk + 1 + ((p : Int) - (s.tk + 1)) % 32)
theorem Rc.at_of {s : Rc} {z : Int} (h1 : s.tk < z) (h2 : z ≤ s.tk + 32) : s.at (z % 32).toNat = s.L z := by
  unfold Rc.at
  congr 1
  omega
theorem Rok.none {s : Rc} (h : Rok s) {z : Int} (hz : ¬ (s.tk < z ∧ z ≤ s.tk + s.win)) : s.L z = none := by
  cases hL : s.L z with
  | none => rfl
  | some l => exact absurd (h.inn z (by rw [hL]; rfl)) hz
/-- A RECEIVER IN MEMORY. -/
structure Rv (w : World) (rb : Nat) (s : Rc) : Prop where
  ok : Rok s
  blk : ∃ cs : Array Value, Blk w rb cs 138 ∧ cs.size = 67 ∧ cs[0]? = some (.bool true) ∧ cs[1]? = some (.int .i64 s.win) ∧ cs[2]? = some (.int .i64 s.tk) ∧ ∀ p, p < 32 → cs[3 + p * 2]? = some (.bool (s.at p).isSome) ∧ cs[3 + p * 2 + 1]? = some (.string (strOfNums ((s.at p).getD [])))
theorem Rv.kept {w w' : World} {rb : Nat} {s : Rc} (h : Rv w rb s) (hb : Below w.heap.size w w') : Rv w' rb s := by
  obtain ⟨h1, cs, h2, h3⟩ := h
  exact ⟨h1, cs, h2.kept hb, h3⟩
theorem Rv.drew {w : World} {rb : Nat} {s : Rc} (h : Rv w rb s) : Rv w.drew rb s := h.kept (Below.refl _ _).drew
theorem Rv.alloc {w : World} {rb : Nat} {s : Rc} (h : Rv w rb s) (o : Obj) : Rv (w.alloc o) rb s := h.kept ((Below.refl _ _).alloc (Nat.le_refl _) o)
theorem Rv.but {w w' : World} {rb g : Nat} {s : Rc} (h : Rv w rb s) (k : K2 g g w w') (hg : rb ≠ g) : Rv w' rb s := by
  obtain ⟨h1, cs, h2, h3⟩ := h
  exact ⟨h1, cs, (k.block rb h2.lt hg hg).trans h2, h3⟩
theorem Rv.lt {w : World} {rb : Nat} {s : Rc} (h : Rv w rb s) : rb < w.heap.size := by
  obtain ⟨h1, cs, h2, h3⟩ := h
  exact h2.lt
theorem Rv.c0 {w : World} {rb : Nat} {s : Rc} (h : Rv w rb s) : w.cell? ⟨rb, 0, none⟩ = some (.bool true) := by
  obtain ⟨h1, cs, h2, h3, h4, h5, h6, h7⟩ := h
  rw [h2.cell 0]; exact h4
theorem Rv.c1 {w : World} {rb : Nat} {s : Rc} (h : Rv w rb s) : w.cell? ⟨rb, 1, none⟩ = some (.int .i64 s.win) := by
  obtain ⟨h1, cs, h2, h3, h4, h5, h6, h7⟩ := h
  rw [h2.cell 1]; exact h5
theorem Rv.c2 {w : World} {rb : Nat} {s : Rc} (h : Rv w rb s) : w.cell? ⟨rb, 2, none⟩ = some (.int .i64 s.tk) := by
  obtain ⟨h1, cs, h2, h3, h4, h5, h6, h7⟩ := h
  rw [h2.cell 2]; exact h6
theorem Rv.cA {w : World} {rb : Nat} {s : Rc} (h : Rv w rb s) {p : Nat} (hp : p < 32) : w.cell? ⟨rb, 3 + p * 2, none⟩ = some (.bool (s.at p).isSome) := by
  obtain ⟨h1, cs, h2, h3, h4, h5, h6, h7⟩ := h
  rw [h2.cell]; exact (h7 p hp).1
theorem Rv.cB {w : World} {rb : Nat} {s : Rc} (h : Rv w rb s) {p : Nat} (hp : p < 32) : w.cell? ⟨rb, 3 + p * 2 + 1, none⟩ = some (.string (strOfNums ((s.at p).getD []))) := by
  obtain ⟨h1, cs, h2, h3, h4, h5, h6, h7⟩ := h
  rw [h2.cell]; exact (h7 p hp).2
theorem Rv.fz {w : World} {rb : Nat} {s : Rc} (h : Rv w rb s) (j : Nat) : w.frozen? ⟨rb, j, none⟩ = false := by
  obtain ⟨h1, cs, h2, h3⟩ := h
  exact h2.fz j

/-! ### the small calls -/
theorem rmade_yes (sb : Nat) (w : World) (h : w.cell? ⟨sb, 0, none⟩ = some (.bool true)) : Calls Try.prog 94 #[.pointer (some ⟨sb, 0, none⟩)] w fun e w' => e = .returned (.bool true) ∧ w' = w := by
  go_enter Try.func94, Try.ntmps94
  go_wp2
  go_ret
  all_goals simp_all
theorem rmade_nil (w : World) : Calls Try.prog 94 #[.pointer none] w fun e w' => e = .returned (.bool false) ∧ w' = w := by
  go_enter Try.func94, Try.ntmps94
  go_wp2
  go_ret
  all_goals simp_all
theorem rmade_no (sb : Nat) (w : World) (h : w.cell? ⟨sb, 0, none⟩ = some (.bool false)) : Calls Try.prog 94 #[.pointer (some ⟨sb, 0, none⟩)] w fun e w' => e = .returned (.bool false) ∧ w' = w := by
  go_enter Try.func94, Try.ntmps94
  go_wp2
  go_ret
  all_goals simp_all
theorem place_any (z : Int) (w : World) (hz : 0 ≤ z) : Calls Try.prog 101 #[.int .i64 z] w fun e w' => e = .returned (.int .i64 (z % 32)) ∧ w' = w := by
  have e : Int.tmod z 32 = z % 32 := Int.tmod_eq_emod_of_nonneg hz
  have hw : IntKind.i64.wrap (z % 32) = z % 32 := by rw [IntKind.wrap_i64]; omega
  go_enter Try.func101, Try.ntmps101
  go_wp2
  go_ret
  all_goals simp_all
theorem Rv.dn {w : World} {rb : Nat} {s : Rc} (h : Rv w rb s) (n : Nat) : Rv (w.drewN n) rb s := by
  obtain ⟨h1, cs, h2, h3⟩ := h
  exact ⟨h1, cs, h2, h3⟩
theorem credit_any {rb : Nat} {s : Rc} {w : World} (h : Rv w rb s) : Calls Try.prog 100 #[.pointer (some ⟨rb, 0, none⟩)] w fun e w' => e = .returned (.int .i64 (s.tk + s.win)) ∧ ∃ m, w' = w.drewN m := by
  have c1 := h.c1
  have c2 := h.c2
  have hw : IntKind.i64.wrap (s.tk + s.win) = s.tk + s.win := by
    have := h.ok.w1; have := h.ok.w2; have := h.ok.t1; have := h.ok.t2
    rw [IntKind.wrap_i64]; omega
  clear h
  go_enter Try.func100, Try.ntmps100
  go_wp2
  go_quiet (fail)
  go_wp2
  go_ret
  exact ⟨rfl, _, rfl⟩
theorem taken_any {rb : Nat} {s : Rc} {w : World} (h : Rv w rb s) : Calls Try.prog 60 #[.pointer (some ⟨rb, 0, none⟩)] w fun e w' => e = .returned (.int .i64 s.tk) ∧ w' = w := by
  have k1 := rmade_yes rb w h.c0
  have c := h.c2
  clear h
  go_enter Try.func60, Try.ntmps60
  go_wp2_with (go_at_call 94; refine k1.mono ?_; rintro e w1 ⟨rfl, hw1⟩; obtain rfl := hw1.symm)
  go_ret
  all_goals simp_all
theorem holds_yes {rb : Nat} {s : Rc} {w : World} (z : Int) (h : Rv w rb s) (h1 : s.tk < z) (h2 : z ≤ s.tk + s.win) : Calls Try.prog 99 #[.pointer (some ⟨rb, 0, none⟩), .int .i64 z] w fun e w' => e = .returned (.bool (s.L z).isSome) ∧ ∃ m, w' = w.drewN m := by
  have c2 := h.c2
  have d1 : decide (z > s.tk) = true := by simp; omega
  have d2 : decide (z ≤ s.tk + s.win) = true := by simp; omega
  have hw2 := h.ok.w2
  have ht1 := h.ok.t1
  have k1 := fun n => credit_any (h.dn n)
  have k2 := fun n => place_any z (w.drewN n) (by omega)
  obtain ⟨p, hp⟩ : ∃ p : Nat, z % 32 = (p : Int) := ⟨(z % 32).toNat, by omega⟩
  have hp3 : p < 32 := by omega
  have hc := h.cA hp3
  rw [show s.at p = s.L z by rw [← Rc.at_of h1 (by omega), hp]; rfl] at hc
  have hi : decide ((p : Int) < 32) = true := by simp; omega
  have hi0 : decide ((0 : Int) ≤ (p : Int)) = true := by simp
  rw [hp] at k2
  clear h h1 h2 hw2 ht1 hp
  generalize (s.L z).isSome = v at *
  go_enter Try.func99, Try.ntmps99
  go_wp2
  go_quiet (first | (go_at_call 100; exact Calls.quiet_of (k1 _)) | (go_at_call 101; exact Calls.quiet_of_same (k2 _)))
  go_wp2
  go_ret
  exact ⟨rfl, _, rfl⟩
theorem holds_low {rb : Nat} {s : Rc} {w : World} (z : Int) (h : Rv w rb s) (h1 : ¬ s.tk < z) : Calls Try.prog 99 #[.pointer (some ⟨rb, 0, none⟩), .int .i64 z] w fun e w' => e = .returned (.bool false) ∧ ∃ m, w' = w.drewN m := by
  have c2 := h.c2
  have d1 : decide (z > s.tk) = false := by simp; omega
  clear h h1
  go_enter Try.func99, Try.ntmps99
  go_wp2
  go_big_quiet (fail)
  go_wp2
  go_ret
  exact ⟨rfl, _, rfl⟩
theorem holds_high {rb : Nat} {s : Rc} {w : World} (z : Int) (h : Rv w rb s) (h1 : s.tk < z) (h2 : ¬ z ≤ s.tk + s.win) : Calls Try.prog 99 #[.pointer (some ⟨rb, 0, none⟩), .int .i64 z] w fun e w' => e = .returned (.bool false) ∧ ∃ m, w' = w.drewN m := by
  have c2 := h.c2
  have d1 : decide (z > s.tk) = true := by simp; omega
  have d2 : decide (z ≤ s.tk + s.win) = false := by simp; omega
  have k1 := fun n => credit_any (h.dn n)
  clear h h1 h2
  go_enter Try.func99, Try.ntmps99
  go_wp2
  go_big_quiet ((go_at_call 100; exact Calls.quiet_of (k1 _)))
  go_wp2
  go_ret
  exact ⟨rfl, _, rfl⟩
theorem holds_any {rb : Nat} {s : Rc} {w : World} (z : Int) (h : Rv w rb s) : Calls Try.prog 99 #[.pointer (some ⟨rb, 0, none⟩), .int .i64 z] w fun e w' => e = .returned (.bool (s.L z).isSome) ∧ ∃ m, w' = w.drewN m := by
  by_cases h1 : s.tk < z
  · by_cases h2 : z ≤ s.tk + s.win
    · exact holds_yes z h h1 h2
    · have e : s.L z = none := h.ok.none (fun k => h2 k.2)
      rw [e]
      exact holds_high z h h1 h2
  · have e : s.L z = none := h.ok.none (fun k => h1 k.1)
    rw [e]
    exact holds_low z h h1
end Go.Proofs.Ytfipdldoklkciaa
