/-
  The states of a text, one call each.
-/
import Derived.Test.YtfkoghmbkgbgbaaDoorRight
import Derived.Test.YtfkoghmbkgbgbaaDoorMach
namespace Go.Proofs.YtfkoghmbkgbgbaaDoor
open Go.RowKit

theorem isdigit_any (c : Int) (w : World) : Calls Tryd.prog 92 #[.int .u8 c] w fun e w' => e = .returned (.bool (isD c)) ∧ w' = w := by
  have hr : isD c = (decide (48 ≤ c) && decide (c ≤ 57)) := rfl
  rw [hr]
  clear hr
  by_cases h1 : 48 ≤ c
  · go_enter Tryd.func92, Tryd.ntmps92
    go_wp2
    go_ret
    exact ⟨by simp [h1], rfl⟩
  · go_enter Tryd.func92, Tryd.ntmps92
    go_wp2
    go_ret
    exact ⟨by simp; omega, rfl⟩
theorem digitor_any (c x y : Int) (w : World) : Calls Tryd.prog 86 #[.int .u8 c, .int .i64 x, .int .i64 y] w fun e w' => e = .returned (.int .i64 (if isD c = true then x else y)) ∧ w' = w := by
  cases h : isD c with
  | true =>
    rw [if_pos rfl]
    go_enter Tryd.func86, Tryd.ntmps86
    go_wp2_with (go_at_call 92; refine (isdigit_any _ _).mono ?_; rintro e w1 ⟨rfl, hw⟩; obtain rfl : w = w1 := hw.symm; rw [h])
    go_ret
    exact ⟨rfl, rfl⟩
  | false =>
    rw [if_neg (by simp)]
    go_enter Tryd.func86, Tryd.ntmps86
    go_wp2_with (go_at_call 92; refine (isdigit_any _ _).mono ?_; rintro e w1 ⟨rfl, hw⟩; obtain rfl : w = w1 := hw.symm; rw [h])
    go_ret
    exact ⟨rfl, rfl⟩
theorem afpart_any (c : Int) (w : World) : Calls Tryd.prog 87 #[.int .u8 c] w fun e w' => e = .returned (.int .i64 ((afPart c : Nat) : Int)) ∧ w' = w := by
  unfold afPart
  by_cases h1 : c = 101
  · rw [if_pos (.inl h1)]
    subst h1
    go_enter Tryd.func87, Tryd.ntmps87
    go_wp2
    go_ret
    exact ⟨rfl, rfl⟩
  by_cases h2 : c = 69
  · rw [if_pos (.inr h2)]
    subst h2
    go_enter Tryd.func87, Tryd.ntmps87
    go_wp2
    go_ret
    exact ⟨rfl, rfl⟩
  rw [if_neg (by omega)]
  have d1 : (c == 101) = false := by simpa using h1
  have d2 : (c == 69) = false := by simpa using h2
  clear h1 h2
  go_enter Tryd.func87, Tryd.ntmps87
  go_wp2
  go_ret
  exact ⟨rfl, rfl⟩
theorem afwhole_any (c : Int) (w : World) : Calls Tryd.prog 85 #[.int .u8 c] w fun e w' => e = .returned (.int .i64 ((afWhole c : Nat) : Int)) ∧ w' = w := by
  unfold afWhole
  by_cases h1 : c = 46
  · rw [if_pos h1]
    subst h1
    go_enter Tryd.func85, Tryd.ntmps85
    go_wp2
    go_ret
    exact ⟨rfl, rfl⟩
  rw [if_neg h1]
  have d1 : (c == 46) = false := by simpa using h1
  have k := afpart_any c w
  clear h1
  generalize afPart c = A at *
  go_enter Tryd.func85, Tryd.ntmps85
  go_wp2_with (go_at_call 87; refine k.mono ?_; rintro e w1 ⟨rfl, hw⟩; obtain rfl : w = w1 := hw.symm)
  go_ret
  exact ⟨rfl, rfl⟩
theorem afminus_any (c : Int) (w : World) : Calls Tryd.prog 84 #[.int .u8 c] w fun e w' => e = .returned (.int .i64 ((afMinus c : Nat) : Int)) ∧ w' = w := by
  unfold afMinus
  by_cases h1 : c = 48
  · rw [if_pos h1]
    subst h1
    go_enter Tryd.func84, Tryd.ntmps84
    go_wp2
    go_ret
    exact ⟨rfl, rfl⟩
  rw [if_neg h1]
  have d1 : (c == 48) = false := by simpa using h1
  have k := digitor_any c 3 9 w
  have e : ((if isD c = true then 3 else 9 : Nat) : Int) = (if isD c = true then 3 else 9 : Int) := by split <;> rfl
  rw [e]
  clear h1 e
  generalize (if isD c = true then 3 else 9 : Int) = A at *
  go_enter Tryd.func84, Tryd.ntmps84
  go_wp2_with (go_at_call 86; refine k.mono ?_; rintro e w1 ⟨rfl, hw⟩; obtain rfl : w = w1 := hw.symm)
  go_ret
  exact ⟨rfl, rfl⟩
theorem mayend_any (q : Nat) (hq : q ≤ 8) (w : World) : Calls Tryd.prog 74 #[.int .i64 ((q : Nat) : Int)] w fun e w' => e = .returned (.bool (endS q)) ∧ w' = w := by
  match q, hq with
  | 0, _ | 1, _ | 2, _ | 3, _ | 4, _ | 5, _ | 6, _ | 7, _ | 8, _ =>
    go_enter Tryd.func74, Tryd.ntmps74
    go_wp2
    go_ret
    exact ⟨rfl, rfl⟩
set_option maxHeartbeats 1000000 in
theorem after_any (q : Nat) (hq : q ≤ 8) (c : Int) (w : World) : Calls Tryd.prog 72 #[.int .i64 ((q : Nat) : Int), .int .u8 c] w fun e w' => e = .returned (.int .i64 ((afterS q c : Nat) : Int)) ∧ w' = w := by
  have kM := afminus_any c
  have kW := afwhole_any c
  have kP := afpart_any c
  have kD := digitor_any c
  have eD : ∀ x y : Nat, (((if isD c = true then x else y) : Nat) : Int) = (if isD c = true then ((x : Nat) : Int) else ((y : Nat) : Int)) := fun x y => by split <;> rfl
  match q, hq with
  | 0, _ =>
    by_cases h : c = 45
    · have e : afterS 0 c = 1 := by unfold afterS; rw [if_pos rfl, if_pos h]
      rw [e]
      subst h
      clear e kM kW kP kD eD
      go_enter Tryd.func72, Tryd.ntmps72
      go_wp2
      go_ret
      exact ⟨rfl, rfl⟩
    · have e : afterS 0 c = afMinus c := by unfold afterS; rw [if_pos rfl, if_neg h]
      rw [e]
      have d1 : (c == 45) = false := by simpa using h
      clear e h kW kP kD eD
      generalize afMinus c = A at *
      go_enter Tryd.func72, Tryd.ntmps72
      go_wp2_with (go_at_call 84; refine (kM w).mono ?_; rintro e w1 ⟨rfl, hw⟩; obtain rfl : w = w1 := hw.symm)
      go_ret
      exact ⟨rfl, rfl⟩
  | 1, _ =>
    have e : afterS 1 c = afMinus c := rfl
    rw [e]
    clear e kW kP kD eD
    generalize afMinus c = A at *
    go_enter Tryd.func72, Tryd.ntmps72
    go_wp2_with (go_at_call 84; refine (kM w).mono ?_; rintro e w1 ⟨rfl, hw⟩; obtain rfl : w = w1 := hw.symm)
    go_ret
    exact ⟨rfl, rfl⟩
  | 2, _ =>
    have e : afterS 2 c = afWhole c := rfl
    rw [e]
    clear e kM kP kD eD
    generalize afWhole c = A at *
    go_enter Tryd.func72, Tryd.ntmps72
    go_wp2_with (go_at_call 85; refine (kW w).mono ?_; rintro e w1 ⟨rfl, hw⟩; obtain rfl : w = w1 := hw.symm)
    go_ret
    exact ⟨rfl, rfl⟩
  | 3, _ =>
    have e : ((afterS 3 c : Nat) : Int) = (if isD c = true then 3 else ((afWhole c : Nat) : Int)) := eD 3 (afWhole c)
    rw [e]
    clear e kM kP eD
    have k := kD 3 ((afWhole c : Nat) : Int) w
    clear kD
    generalize (if isD c = true then 3 else ((afWhole c : Nat) : Int)) = B at *
    generalize afWhole c = A at *
    go_enter Tryd.func72, Tryd.ntmps72
    go_wp2_with (first
      | (go_at_call 85; refine (kW w).mono ?_; rintro e w1 ⟨rfl, hw⟩; obtain rfl : w = w1 := hw.symm)
      | (go_at_call 86; refine k.mono ?_; rintro e w1 ⟨rfl, hw⟩; obtain rfl : w = w1 := hw.symm))
    go_ret
    exact ⟨rfl, rfl⟩
  | 4, _ =>
    have e : ((afterS 4 c : Nat) : Int) = (if isD c = true then 5 else 9) := eD 5 9
    rw [e]
    clear e kM kP kW eD
    have k := kD 5 9 w
    clear kD
    generalize (if isD c = true then 5 else 9 : Int) = B at *
    go_enter Tryd.func72, Tryd.ntmps72
    go_wp2_with (go_at_call 86; refine k.mono ?_; rintro e w1 ⟨rfl, hw⟩; obtain rfl : w = w1 := hw.symm)
    go_ret
    exact ⟨rfl, rfl⟩
  | 5, _ =>
    have e : ((afterS 5 c : Nat) : Int) = (if isD c = true then 5 else ((afPart c : Nat) : Int)) := eD 5 (afPart c)
    rw [e]
    clear e kM kW eD
    have k := kD 5 ((afPart c : Nat) : Int) w
    clear kD
    generalize (if isD c = true then 5 else ((afPart c : Nat) : Int)) = B at *
    generalize afPart c = A at *
    go_enter Tryd.func72, Tryd.ntmps72
    go_wp2_with (first
      | (go_at_call 87; refine (kP w).mono ?_; rintro e w1 ⟨rfl, hw⟩; obtain rfl : w = w1 := hw.symm)
      | (go_at_call 86; refine k.mono ?_; rintro e w1 ⟨rfl, hw⟩; obtain rfl : w = w1 := hw.symm))
    go_ret
    exact ⟨rfl, rfl⟩
  | 6, _ =>
    have k := kD 8 9 w
    clear kM kP kW kD
    by_cases h1 : c = 43
    · have e : afterS 6 c = 7 := by unfold afterS; simp [h1]
      rw [e]
      subst h1
      clear e k eD
      go_enter Tryd.func72, Tryd.ntmps72
      go_wp2
      go_ret
      exact ⟨rfl, rfl⟩
    by_cases h2 : c = 45
    · have e : afterS 6 c = 7 := by unfold afterS; simp [h2]
      rw [e]
      subst h2
      clear e k eD h1
      go_enter Tryd.func72, Tryd.ntmps72
      go_wp2
      go_ret
      exact ⟨rfl, rfl⟩
    have e : ((afterS 6 c : Nat) : Int) = (if isD c = true then 8 else 9) := by
      unfold afterS
      simp only [h1, h2, or_self, and_false, if_false]
      exact eD 8 9
    rw [e]
    have d1 : (c == 43) = false := by simpa using h1
    have d2 : (c == 45) = false := by simpa using h2
    clear e eD h1 h2
    generalize (if isD c = true then 8 else 9 : Int) = B at *
    go_enter Tryd.func72, Tryd.ntmps72
    go_wp2_with (go_at_call 86; refine k.mono ?_; rintro e w1 ⟨rfl, hw⟩; obtain rfl : w = w1 := hw.symm)
    go_ret
    exact ⟨rfl, rfl⟩
  | 7, _ =>
    have e : ((afterS 7 c : Nat) : Int) = (if isD c = true then 8 else 9) := eD 8 9
    rw [e]
    have k := kD 8 9 w
    clear e kM kP kW eD kD
    generalize (if isD c = true then 8 else 9 : Int) = B at *
    go_enter Tryd.func72, Tryd.ntmps72
    go_wp2_with (go_at_call 86; refine k.mono ?_; rintro e w1 ⟨rfl, hw⟩; obtain rfl : w = w1 := hw.symm)
    go_ret
    exact ⟨rfl, rfl⟩
  | 8, _ =>
    have e : ((afterS 8 c : Nat) : Int) = (if isD c = true then 8 else 9) := eD 8 9
    rw [e]
    have k := kD 8 9 w
    clear e kM kP kW eD kD
    generalize (if isD c = true then 8 else 9 : Int) = B at *
    go_enter Tryd.func72, Tryd.ntmps72
    go_wp2_with (go_at_call 86; refine k.mono ?_; rintro e w1 ⟨rfl, hw⟩; obtain rfl : w = w1 := hw.symm)
    go_ret
    exact ⟨rfl, rfl⟩
end Go.Proofs.YtfkoghmbkgbgbaaDoor
