/-
  Bytes cloned, held against one another, and turned.
-/
import Derived.Test.YtfipdldoklkciaaLkb
namespace Go.Proofs.Ytfipdldoklkciaa
open Go.RowKit
set_option linter.unusedVariables false
theorem bown_empty (w : World) (base : Nat) (hb : base ≤ w.heap.size) : OwnsB (w.alloc (.cells #[] 5)) base (.slice (some ⟨w.heap.size, 0, none⟩) 0 0) [] := by
  refine ⟨⟨rfl, .inr ⟨w.heap.size, 0, _, rfl, hb, heap_alloc_new w _, Nat.le_refl _, by decide, rfl, rfl⟩⟩, by simp⟩
theorem clone_any (a : Option Addr) (n c : Nat) (zs : List Int) (w : World) (hn : zs.length = n) (h0 : a = none → c = 0) (hle : n ≤ c) (hb : Bytes w a zs) (hl : n ≤ 100000) :
    Calls Try.prog 73 #[.slice a n c] w fun e w' => ∃ v, e = .returned v ∧ Hid (OwnsB w' w.heap.size v zs) ∧ Hid (Below w.heap.size w w') := by
  have q22 : ∀ (w : World) (a : Option Addr) (n c n' c' : Nat), (binOp .eql 23 (.slice a n c) (.slice none n' c')).run Try.prog w = .ok (.bool a.isNone) w := fun w a n c n' c' => Lib.run_eql_slice_nil w _ _ a n c n' c' Try.underlying23
  cases a with
  | none =>
    have hc := h0 rfl
    have hn0 : n = 0 := by omega
    have hp : zs = [] := List.eq_nil_of_length_eq_zero (by omega)
    subst hp hn0 hc
    clear hb h0
    go_enter Try.func73, Try.ntmps73
    go_wp2
    go_ret
    exact ⟨_, rfl, ownsB_nil _ _, Below.refl _ _⟩
  | some x =>
    have hO := bown_empty w w.heap.size (Nat.le_refl _)
    have hA : Below w.heap.size w (w.alloc (.cells #[] 5)) := (Below.refl _ _).alloc (Nat.le_refl _) _
    have hP := hb.kept hA
    have hl1 : Hid (zs.length = n) := hn
    have hf : Hid (n ≤ 100000) := hl
    clear hb hn hl h0
    go_enter Try.func73, Try.ntmps73
    go_wp2_with (at_builtin; refine wpList_append_bytes rfl (.tmp 5) (.tmp 6) rfl w.heap.size (.slice (some ⟨w.heap.size, 0, none⟩) 0 0) [] zs rfl hO (some x) n c rfl hl1.out (by intro h; cases h) hP (by have := hl1.out; have := hf.out; simp; omega) hA.size ?_; intro v w2 ho hg; have hB : Hid (Below w.heap.size w w2) := grown_below hA hO hg hA.size; have hv : Hid (OwnsB w2 w.heap.size v zs) := ho; clear ho hg hO hA hP; obtain ⟨va, vn, vc, rfl, _⟩ := hv.out.form)
    go_ret
    exact ⟨_, rfl, hv, hB⟩
theorem equal_any (a1 a2 : Option Addr) (n1 n2 c1 c2 : Nat) (z1 z2 : List Int) (w : World) (h1 : Bytes w a1 z1) (h2 : Bytes w a2 z2) (hl1 : z1.length = n1) (hl2 : z2.length = n2) :
    Calls Try.prog 82 #[.slice a1 n1 c1, .slice a2 n2 c2] w fun e w' => e = .returned (.bool (decide (z1 = z2))) ∧ w' = w := by
  have k1 := conv_str h1 n1 c1 hl1
  have k2 := conv_str h2 n2 c2 hl2
  have k3 := str_eq h1.1 h2.1
  clear h1 h2 hl1 hl2
  go_enter Try.func82, Try.ntmps82
  go_wp2
  go_ret
  all_goals simp_all
theorem mod_any (n : Int) (m : Nat) (w : World) (hm : 0 < m) (hm2 : m ≤ 100000) (hn : (Lit.int .i64 n).wf = true) :
    Calls Try.prog 102 #[.int .i64 n, .int .i64 (m : Nat)] w fun e w' => e = .returned (.int .i64 ((n % (m : Int)).toNat : Nat)) ∧ w' = w := by
  simp [Lit.wf, show IntKind.i64.min = -9223372036854775808 from by decide, show IntKind.i64.max = 9223372036854775807 from by decide] at hn
  have e0 : (m : Int) ≠ 0 := by omega
  have b1 := Int.tmod_lt_of_pos n (show (0 : Int) < (m : Int) by omega)
  have b2 : -(m : Int) < Int.tmod n m := by
    have := Int.lt_tmod_of_pos n (show (0 : Int) < (m : Int) by omega)
    omega
  have w1 : IntKind.i64.wrap (Int.tmod n m) = Int.tmod n m := by rw [IntKind.wrap_i64]; omega
  have w2 : IntKind.i64.wrap (Int.tmod n m + m) = Int.tmod n m + m := by rw [IntKind.wrap_i64]; omega
  have e1 : Int.tmod (Int.tmod n m + m) m = n % (m : Int) := by
    rw [Int.tmod_eq_emod_of_nonneg (by omega), Int.add_emod_right]
    have h := Int.mul_tdiv_add_tmod n m
    have h2 : n = Int.tmod n m + m * Int.tdiv n m := by omega
    conv => rhs; rw [h2]
    rw [Int.add_mul_emod_self_left]
  have p0 := Int.emod_nonneg n e0
  have e2 : n % (m : Int) = (((n % (m : Int)).toNat : Nat) : Int) := by omega
  have p1 := Int.emod_lt_of_pos n (show (0 : Int) < (m : Int) by omega)
  have w3 : IntKind.i64.wrap (n % (m : Int)) = n % (m : Int) := by rw [IntKind.wrap_i64]; omega
  rw [e2] at e1 w3
  have e0' : ((m : Int) == 0) = false := by simp; omega
  have w4 : wrap64 (Int.tmod n m) = Int.tmod n m := (w64 _).trans w1
  have w5 : wrap64 (Int.tmod n m + m) = Int.tmod n m + m := (w64 _).trans w2
  generalize (n % (m : Int)).toNat = r at *
  clear e2 p0 p1 b1 b2 hn hm hm2
  go_enter Try.func102, Try.ntmps102
  go_wp2
  go_ret
  all_goals simp_all
end Go.Proofs.Ytfipdldoklkciaa
