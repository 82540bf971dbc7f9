/-
  A link's small calls.
-/
import Derived.Test.YtfipdldoklkciaaLki
import Derived.Deep.QuietTactic
import Derived.BigQuiet
namespace Go.Proofs.Ytfipdldoklkciaa
open Go.RowKit
set_option linter.unusedVariables false
theorem kmade_c (lb : Nat) (w : World) (h : w.cell? ⟨lb, 0, none⟩ = some (.bool true)) : Calls Try.prog 58 #[.pointer (some ⟨lb, 0, none⟩)] w fun e w' => e = .returned (.bool true) ∧ w' = w := by
  go_enter Try.func58, Try.ntmps58
  go_wp2
  go_ret
  all_goals simp_all
theorem kmade_nil (w : World) : Calls Try.prog 58 #[.pointer none] w fun e w' => e = .returned (.bool false) ∧ w' = w := by
  go_enter Try.func58, Try.ntmps58
  go_wp2
  go_ret
  all_goals simp_all
theorem kmade_no (lb : Nat) (w : World) (h : w.cell? ⟨lb, 0, none⟩ = some (.bool false)) : Calls Try.prog 58 #[.pointer (some ⟨lb, 0, none⟩)] w fun e w' => e = .returned (.bool false) ∧ w' = w := by
  go_enter Try.func58, Try.ntmps58
  go_wp2
  go_ret
  all_goals simp_all
theorem kmade {w : World} {B : Nat} {q : Qb} {L : Lk} (h : Lm w B q L) : Calls Try.prog 58 #[.pointer (some ⟨q.lb, 0, none⟩)] w fun e w' => e = .returned (.bool true) ∧ w' = w := kmade_c q.lb w h.cell.1
def netB (n : Int) : Bool := decide (n = 0) || decide (n = 1)
theorem isnet_any (n : Int) (w : World) : Calls Try.prog 61 #[.int .i64 n] w fun e w' => e = .returned (.bool (netB n)) ∧ w' = w := by
  by_cases h0 : n = 0
  · subst h0
    go_enter Try.func61, Try.ntmps61
    go_wp2
    go_ret
    exact ⟨rfl, rfl⟩
  · have d0 : (n == 0) = false := by simpa using h0
    by_cases h1 : n = 1
    · subst h1
      go_enter Try.func61, Try.ntmps61
      go_wp2
      go_ret
      exact ⟨rfl, rfl⟩
    · have d1 : (n == 1) = false := by simpa using h1
      have e : netB n = false := by simp [netB, h0, h1]
      rw [e]
      clear h0 h1 e
      go_enter Try.func61, Try.ntmps61
      go_wp2
      go_ret
      all_goals simp_all
def netL (L : Lk) (n : Int) : List Gr := if n = 0 then L.n0 else L.n1
def canE (L : Lk) (n i : Int) : Int := if netB n = false then 1 else if i < 0 ∨ ((netL L n).length : Int) ≤ i then 15 else 0
theorem Lm.c518 {w : World} {B : Nat} {q : Qb} {L : Lk} (h : Lm w B q L) : w.cell? ⟨q.lb, 518, none⟩ = some (.int .i64 (L.n0.length : Nat)) := by
  obtain ⟨cs, hb, hc⟩ := h.lk
  exact (hb.cell 518).trans hc.n0.cnt
theorem Lm.c1033 {w : World} {B : Nat} {q : Qb} {L : Lk} (h : Lm w B q L) : w.cell? ⟨q.lb, 1033, none⟩ = some (.int .i64 (L.n1.length : Nat)) := by
  obtain ⟨cs, hb, hc⟩ := h.lk
  exact (hb.cell 1033).trans hc.n1.cnt
set_option maxRecDepth 100000 in
theorem can0 {w : World} {B : Nat} {q : Qb} {L : Lk} (i : Int) (h : Lm w B q L) : Calls Try.prog 68 #[.pointer (some ⟨q.lb, 0, none⟩), .int .i64 0, .int .i64 i] w fun e w' => e = .returned (.int .i64 (canE L 0 i)) ∧ Hid (Below w.heap.size w w') := by
  have k0 := kmade h
  have k1 := isnet_any 0 w
  have c := h.c518
  have e0 : netB 0 = true := by decide
  rw [e0] at k1
  have e1 : canE L 0 i = if i < 0 ∨ (L.n0.length : Int) ≤ i then 15 else 0 := by unfold canE; rw [if_neg (by decide)]; rfl
  rw [e1]
  clear h e0 e1
  generalize L.n0.length = m at *
  by_cases h0 : i < 0
  · have d0 : decide (i < 0) = true := by simpa using h0
    rw [if_pos (.inl h0)]
    clear h0 c
    go_enter Try.func68, Try.ntmps68
    go_wp2_with (first | (go_at_call 58; refine k0.mono ?_; rintro e w1 ⟨rfl, hw1⟩; obtain rfl := hw1.symm; clear hw1) | (go_at_call 61; refine k1.mono ?_; rintro e w1 ⟨rfl, hw1⟩; obtain rfl := hw1.symm; clear hw1))
    go_ret
    exact ⟨rfl, Below.refl _ _⟩
  · have d0 : decide (i < 0) = false := by simpa using h0
    by_cases h1 : (m : Int) ≤ i
    · have d1 : decide (i ≥ (m : Int)) = true := by simpa using h1
      rw [if_pos (.inr h1)]
      clear h0 h1
      go_enter Try.func68, Try.ntmps68
      go_wp2_with (first | (go_at_call 58; refine k0.mono ?_; rintro e w1 ⟨rfl, hw1⟩; obtain rfl := hw1.symm; clear hw1) | (go_at_call 61; refine k1.mono ?_; rintro e w1 ⟨rfl, hw1⟩; obtain rfl := hw1.symm; clear hw1))
      go_ret
      exact ⟨rfl, Below.refl _ _⟩
    · have d1 : decide (i ≥ (m : Int)) = false := by simpa using h1
      rw [if_neg (by omega)]
      clear h0 h1
      go_enter Try.func68, Try.ntmps68
      go_wp2_with (first | (go_at_call 58; refine k0.mono ?_; rintro e w1 ⟨rfl, hw1⟩; obtain rfl := hw1.symm; clear hw1) | (go_at_call 61; refine k1.mono ?_; rintro e w1 ⟨rfl, hw1⟩; obtain rfl := hw1.symm; clear hw1))
      go_ret
      exact ⟨rfl, Below.refl _ _⟩
set_option maxRecDepth 100000 in
theorem can1 {w : World} {B : Nat} {q : Qb} {L : Lk} (i : Int) (h : Lm w B q L) : Calls Try.prog 68 #[.pointer (some ⟨q.lb, 0, none⟩), .int .i64 1, .int .i64 i] w fun e w' => e = .returned (.int .i64 (canE L 1 i)) ∧ Hid (Below w.heap.size w w') := by
  have k0 := kmade h
  have k1 := isnet_any 1 w
  have c := h.c1033
  have e0 : netB 1 = true := by decide
  rw [e0] at k1
  have e1 : canE L 1 i = if i < 0 ∨ (L.n1.length : Int) ≤ i then 15 else 0 := by unfold canE; rw [if_neg (by decide)]; rfl
  rw [e1]
  clear h e0 e1
  generalize L.n1.length = m at *
  by_cases h0 : i < 0
  · have d0 : decide (i < 0) = true := by simpa using h0
    rw [if_pos (.inl h0)]
    clear h0 c
    go_enter Try.func68, Try.ntmps68
    go_wp2_with (first | (go_at_call 58; refine k0.mono ?_; rintro e w1 ⟨rfl, hw1⟩; obtain rfl := hw1.symm; clear hw1) | (go_at_call 61; refine k1.mono ?_; rintro e w1 ⟨rfl, hw1⟩; obtain rfl := hw1.symm; clear hw1))
    go_ret
    exact ⟨rfl, Below.refl _ _⟩
  · have d0 : decide (i < 0) = false := by simpa using h0
    by_cases h1 : (m : Int) ≤ i
    · have d1 : decide (i ≥ (m : Int)) = true := by simpa using h1
      rw [if_pos (.inr h1)]
      clear h0 h1
      go_enter Try.func68, Try.ntmps68
      go_wp2_with (first | (go_at_call 58; refine k0.mono ?_; rintro e w1 ⟨rfl, hw1⟩; obtain rfl := hw1.symm; clear hw1) | (go_at_call 61; refine k1.mono ?_; rintro e w1 ⟨rfl, hw1⟩; obtain rfl := hw1.symm; clear hw1))
      go_ret
      exact ⟨rfl, Below.refl _ _⟩
    · have d1 : decide (i ≥ (m : Int)) = false := by simpa using h1
      rw [if_neg (by omega)]
      clear h0 h1
      go_enter Try.func68, Try.ntmps68
      go_wp2_with (first | (go_at_call 58; refine k0.mono ?_; rintro e w1 ⟨rfl, hw1⟩; obtain rfl := hw1.symm; clear hw1) | (go_at_call 61; refine k1.mono ?_; rintro e w1 ⟨rfl, hw1⟩; obtain rfl := hw1.symm; clear hw1))
      go_ret
      exact ⟨rfl, Below.refl _ _⟩
theorem can_bad {w : World} {B : Nat} {q : Qb} {L : Lk} (n i : Int) (hn : netB n = false) (h : Lm w B q L) : Calls Try.prog 68 #[.pointer (some ⟨q.lb, 0, none⟩), .int .i64 n, .int .i64 i] w fun e w' => e = .returned (.int .i64 (canE L n i)) ∧ Hid (Below w.heap.size w w') := by
  have k0 := kmade h
  have k1 := isnet_any n w
  rw [hn] at k1
  have e1 : canE L n i = 1 := by unfold canE; rw [if_pos hn]
  rw [e1]
  clear h hn e1
  go_enter Try.func68, Try.ntmps68
  go_wp2_with (first | (go_at_call 58; refine k0.mono ?_; rintro e w1 ⟨rfl, hw1⟩; obtain rfl := hw1.symm; clear hw1) | (go_at_call 61; refine k1.mono ?_; rintro e w1 ⟨rfl, hw1⟩; obtain rfl := hw1.symm; clear hw1))
  go_ret
  exact ⟨rfl, Below.refl _ _⟩
theorem can_any {w : World} {B : Nat} {q : Qb} {L : Lk} (n i : Int) (h : Lm w B q L) : Calls Try.prog 68 #[.pointer (some ⟨q.lb, 0, none⟩), .int .i64 n, .int .i64 i] w fun e w' => e = .returned (.int .i64 (canE L n i)) ∧ Hid (Below w.heap.size w w') := by
  by_cases h0 : n = 0
  · subst h0; exact can0 i h
  · by_cases h1 : n = 1
    · subst h1; exact can1 i h
    · exact can_bad n i (by simp [netB, h0, h1]) h
set_option maxRecDepth 100000 in
theorem way0 {w : World} {B : Nat} {q : Qb} {L : Lk} (h : Lm w B q L) : Calls Try.prog 22 #[.pointer (some ⟨q.lb, 0, none⟩), .int .i64 0] w fun e w' => e = .returned (.int .i64 (L.n0.length : Nat)) ∧ Hid (Below w.heap.size w w') := by
  have k0 := kmade h
  have k1 := isnet_any 0 w
  have c := h.c518
  have e0 : netB 0 = true := by decide
  rw [e0] at k1
  clear h e0
  go_enter Try.func22, Try.ntmps22
  go_wp2_with (first | (go_at_call 58; refine k0.mono ?_; rintro e w1 ⟨rfl, hw1⟩; obtain rfl := hw1.symm; clear hw1) | (go_at_call 61; refine k1.mono ?_; rintro e w1 ⟨rfl, hw1⟩; obtain rfl := hw1.symm; clear hw1))
  go_ret
  exact ⟨rfl, Below.refl _ _⟩
set_option maxRecDepth 100000 in
theorem way1 {w : World} {B : Nat} {q : Qb} {L : Lk} (h : Lm w B q L) : Calls Try.prog 22 #[.pointer (some ⟨q.lb, 0, none⟩), .int .i64 1] w fun e w' => e = .returned (.int .i64 (L.n1.length : Nat)) ∧ Hid (Below w.heap.size w w') := by
  have k0 := kmade h
  have k1 := isnet_any 1 w
  have c := h.c1033
  have e0 : netB 1 = true := by decide
  rw [e0] at k1
  clear h e0
  go_enter Try.func22, Try.ntmps22
  go_wp2_with (first | (go_at_call 58; refine k0.mono ?_; rintro e w1 ⟨rfl, hw1⟩; obtain rfl := hw1.symm; clear hw1) | (go_at_call 61; refine k1.mono ?_; rintro e w1 ⟨rfl, hw1⟩; obtain rfl := hw1.symm; clear hw1))
  go_ret
  exact ⟨rfl, Below.refl _ _⟩
theorem sent_any {w : World} {B : Nat} {q : Qb} {L : Lk} (h : Lm w B q L) : Calls Try.prog 20 #[.pointer (some ⟨q.lb, 0, none⟩)] w fun e w' => e = .returned (.int .i64 (L.s.nxt - 1)) ∧ w' = w := by
  have k0 := kmade h
  have k1 := next_any h.sd
  have c := h.cell.2.2.2.2.1
  have hw : IntKind.i64.wrap (L.s.nxt - 1) = L.s.nxt - 1 := by
    have := h.sd.ok.b1; have := h.sd.ok.b2; have := h.sd.ok.l1; have := h.sd.ok.l2
    rw [IntKind.wrap_i64]; omega
  clear h
  go_enter Try.func20, Try.ntmps20
  go_wp2_with (first | (go_at_call 58; refine k0.mono ?_; rintro e w1 ⟨rfl, hw1⟩; obtain rfl := hw1.symm; clear hw1) | (go_at_call 59; refine k1.mono ?_; rintro e w1 ⟨rfl, hw1⟩; obtain rfl := hw1.symm; clear hw1))
  go_ret
  exact ⟨rfl, rfl⟩
theorem got_any {w : World} {B : Nat} {q : Qb} {L : Lk} (h : Lm w B q L) : Calls Try.prog 21 #[.pointer (some ⟨q.lb, 0, none⟩)] w fun e w' => e = .returned (.int .i64 L.r.tk) ∧ w' = w := by
  have k0 := kmade h
  have k1 := taken_any h.rv
  have c := h.cell.2.2.2.2.2
  clear h
  go_enter Try.func21, Try.ntmps21
  go_wp2_with (first | (go_at_call 58; refine k0.mono ?_; rintro e w1 ⟨rfl, hw1⟩; obtain rfl := hw1.symm; clear hw1) | (go_at_call 60; refine k1.mono ?_; rintro e w1 ⟨rfl, hw1⟩; obtain rfl := hw1.symm; clear hw1))
  go_ret
  exact ⟨rfl, rfl⟩
theorem kheld_any {w : World} {B : Nat} {q : Qb} {L : Lk} (h : Lm w B q L) : Calls Try.prog 25 #[.pointer (some ⟨q.lb, 0, none⟩)] w fun e w' => e = .returned (.int .i64 (hld L.r)) ∧ Hid (Below w.heap.size w w') := by
  have k0 := kmade h
  have k1 := held_any h.rv
  have c := h.cell.2.2.2.2.2
  clear h
  go_enter Try.func25, Try.ntmps25
  go_wp2_with (first | (go_at_call 58; refine k0.mono ?_; rintro e w1 ⟨rfl, hw1⟩; obtain rfl := hw1.symm; clear hw1) | (go_at_call 63; refine k1.mono ?_; rintro e w1 ⟨rfl, hb1⟩))
  go_ret
  exact ⟨rfl, hb1⟩
/-- What an end does with a datagram. -/
theorem hear_data {w : World} {B : Nat} {q : Qb} {L : Lk} (m : Mg) (a : Option Addr) (n c : Nat) (h : Lm w B q L) (hn : m.zs.length = n) (h0 : a = none → c = 0) (hb : Bytes w a m.zs) :
    Calls Try.prog 56 #[.pointer (some ⟨q.lb, 0, none⟩), mval m a n c] w fun e w' => e = .returned (.int .i64 (dataE L.r m.seq n)) ∧ Hid (Lm w' B q { L with r := dataS L.r m.seq m.zs }) ∧ Hid (K4 q w w') := by
  have c5 := h.cell.2.2.2.2.2
  have hlt := h.lt
  have hL : Hid (Lm w B q L) := h
  have k : ∀ x, Below w.heap.size w x → Calls Try.prog 93 #[.pointer (some ⟨q.rb, 0, none⟩), .int .i64 m.seq, .slice a n c] x fun e w' => e = .returned (.int .i64 (dataE L.r m.seq n)) ∧ Hid (Lm w' B q { L with r := dataS L.r m.seq m.zs }) ∧ Hid (K4 q w w') := fun x hx =>
    (data_step m.seq a n c m.zs (h.rv.kept hx) hn h0 (hb.kept hx)).mono (by
      rintro e w' ⟨rfl, hR, hK⟩
      exact ⟨rfl, (h.kept hx).turnR hR.out hK.out, (K4.of_below hx).trans (K4.of_r hK.out)⟩)
  have k' : Hid (∀ x, Below w.heap.size w x → _) := k
  unfold mval
  clear h hb hn h0 k
  go_enter Try.func56, Try.ntmps56
  go_wp2
  go_region_with (go_at_call 93; refine (k'.out _ (((Below.refl _ _).alloc (Nat.le_refl _) _).drew)).mono ?_; rintro e w1 ⟨rfl, hL1, hK1⟩)
  all_goals go_wp2
  all_goals go_ret
  all_goals exact ⟨rfl, hL1, hK1⟩
end Go.Proofs.Ytfipdldoklkciaa
