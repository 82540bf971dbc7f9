/-
  The probe: two loads that came in the other order are taken in theirs.
-/
import Derived.Test.YtajidkgmifcoaaaRce
import Derived.Lib.SlBytesConst
import Derived.Lib.SmallJoins
namespace Go.Proofs.Ytajidkgmifcoaaa
open Go.RowKit
set_option linter.unusedVariables false
theorem same_any (a1 a2 : Option Addr) (n1 n2 c1 c2 : Nat) (z1 z2 : List Int) (w : World) (h1 : Bytes w a1 z1) (h2 : Bytes w a2 z2) (hl1 : z1.length = n1) (hl2 : z2.length = n2) :
    Calls Try.prog 14 #[.slice a1 n1 c1, .slice a2 n2 c2] w fun e w' => e = .returned (.bool (decide (z1 = z2))) ∧ w' = w := by
  have k1 := conv_str h1 n1 c1 hl1
  have k2 := conv_str h2 n2 c2 hl2
  have k3 := str_eq h1.1 h2.1
  clear h1 h2 hl1 hl2
  go_enter Try.func14, Try.ntmps14
  go_wp2
  go_ret
  all_goals simp_all
theorem one_mark (w : World) (n : Int) (h0 : 0 ≤ n) (h1 : n < 256) : Bytes (w.alloc (.cells #[.int .u8 n] 5 (1, 2))) (some ⟨w.heap.size, 0, none⟩) [n] := by
  refine ⟨by simp; omega, by simp [maxLen], .inr ⟨w.heap.size, 0, rfl, fun i hi => ?_⟩⟩
  have : i = 0 := by simp at hi; omega
  subst this
  exact World.cell?_alloc_mark w _ 5 (1, 2) 0
def al2 : Rc := putA (putA (r0 4) 2 [98]) 1 [97]
theorem al2_ack : ackN al2 = 2 ∧ ackB al2 = 0 := ⟨by kernel_rfl, by kernel_rfl⟩
theorem al2_take : al2.L (al2.tk + 1) = some [97] ∧ (takeA al2).L ((takeA al2).tk + 1) = some [98] ∧ (takeA (takeA al2)).tk = 2 ∧ al2.tk + al2.win = 4 := ⟨rfl, rfl, rfl, rfl⟩
theorem Rv.k2 {w w' : World} {rb q g : Nat} {s : Rc} (h : Rv w rb s) (k : K2 q g w w') (hq : rb ≠ q) (hg : rb ≠ g) : Rv w' rb s := by
  obtain ⟨h1, cs, h2, h3⟩ := h
  exact ⟨h1, cs, (k.block rb h2.lt hq hg).trans h2, h3⟩
theorem below_dn {B : Nat} {w w' : World} (h : Below B w w') (n : Nat) : Below B w (w'.drewN n) := ⟨h.os, h.tape, h.output, h.size, h.block⟩
theorem dn_b (w : World) (m : Nat) : Hid (Below w.heap.size w (w.drewN m)) := below_dn (Below.refl _ _) m
/-! ### the calls that turn nothing, the world a letter -/
theorem ack_k {rb : Nat} {s : Rc} {w : World} (h : Rv w rb s) :
    Calls Try.prog 17 #[.pointer (some ⟨rb, 0, none⟩)] w fun e w' => e = .returned (.tuple #[.int .i64 (ackN s), .int .u64 (ackB s), .int .i64 (s.tk + s.win)]) ∧ Hid (Below w.heap.size w w') :=
  (ack_any h).mono (by rintro e w' ⟨rfl, m, rfl⟩; exact ⟨rfl, dn_b w m⟩)
theorem ready_k {rb : Nat} {s : Rc} {w : World} (h : Rv w rb s) :
    Calls Try.prog 20 #[.pointer (some ⟨rb, 0, none⟩)] w fun e w' => e = .returned (.int .i64 (rdy s)) ∧ Hid (Below w.heap.size w w') :=
  (ready_any h).mono (by rintro e w' ⟨rfl, m, rfl⟩; exact ⟨rfl, dn_b w m⟩)
theorem data_k {rb : Nat} {s : Rc} {w : World} (z : Int) (a : Option Addr) (n c : Nat) (h : Rv w rb s) (he : dataE s z n ≠ 0) (hn : (n : Int) ≤ 9223372036854775807) :
    Calls Try.prog 15 #[.pointer (some ⟨rb, 0, none⟩), .int .i64 z, .slice a n c] w fun e w' => e = .returned (.int .i64 (dataE s z n)) ∧ Hid (Below w.heap.size w w') :=
  (data_bad z a n c h he hn).mono (by rintro e w' ⟨rfl, m, rfl⟩; exact ⟨rfl, dn_b w m⟩)
theorem take_k {rb : Nat} {s : Rc} {w : World} (h : Rv w rb s) (hL : s.L (s.tk + 1) = none) :
    Calls Try.prog 12 #[.pointer (some ⟨rb, 0, none⟩)] w fun e w' => e = .returned (.tuple #[.slice none 0 0, .bool false]) ∧ Hid (Below w.heap.size w w') :=
  (take_no h hL).mono (by rintro e w' ⟨rfl, m, rfl⟩; exact ⟨rfl, dn_b w m⟩)
set_option maxHeartbeats 1000000 in
theorem alive_any (w : World) : Calls Try.prog 11 #[] w fun e w' => e = .returned (.bool true) ∧ Hid (Below w.heap.size w w') := by
  have kc := fun (w : World) (C : Array Value) (n c : Nat) => Lib.run_convert_bytes_const (P := Try.prog) w 33 5 C n c Try.underlying33 Try.underlying5
  go_enter Try.func11, Try.ntmps11
  go_wp2_with fail
  refine (new_yes 4 w (by decide) (by decide)).mono ?_
  rintro e w1 ⟨rfl, hS1, hB1⟩
  generalize hrb : w.heap.size = rb at *
  have hN : Hid (w.heap.size = rb) := hrb
  clear hrb
  go_wp2_with fail
  refine (data_ok 2 (some ⟨w1.heap.size, 0, none⟩) 1 1 [98] (hS1.out.alloc (.cells #[.int .u8 98] 5 (1, 2))) rfl rfl (by simp) (one_mark _ _ (by decide) (by decide))).mono ?_
  rintro e w2 ⟨rfl, hS2, hK2⟩
  have hB2 : Hid (Below rb w w2) := by
    have h1 : Below rb w w1 := hB1.out
    have hs := h1.size; rw [hN.out] at hs
    exact hK2.out.below (h1.alloc hs _) (by simp; omega) (Nat.le_refl _) (Nat.le_refl _)
  have hz2 : Hid (rb ≤ w2.heap.size) := by have := hB2.out.size; rw [hN.out] at this; exact this
  clear hS1 hB1 hK2
  go_wp2_with fail
  refine (data_ok 1 (some ⟨w2.heap.size, 0, none⟩) 1 1 [97] (hS2.out.alloc (.cells #[.int .u8 97] 5 (1, 2))) rfl rfl (by simp) (one_mark _ _ (by decide) (by decide))).mono ?_
  rintro e w3 ⟨rfl, hS3, hK3⟩
  have hB3 : Hid (Below rb w w3) := hK3.out.below (hB2.out.alloc hz2.out _) (by have := hz2.out; simp; omega) (Nat.le_refl _) (Nat.le_refl _)
  have hz3 : Hid (rb ≤ w3.heap.size) := by have := hB3.out.size; rw [hN.out] at this; exact this
  have hS3' : Hid (Rv w3 rb al2) := hS3
  clear hS2 hB2 hK3 hz2 hS3
  go_wp2_with fail
  refine (data_k 1 none 0 0 hS3'.out (by decide) (by decide)).mono ?_
  rintro e w4 ⟨rfl, hb4⟩
  have hS4 : Hid (Rv w4 rb al2) := hS3'.out.kept hb4.out
  have hB4 : Hid (Below rb w w4) := hB3.out.trans (hb4.out.mono hz3.out)
  have hz4 : Hid (rb ≤ w4.heap.size) := Nat.le_trans hz3.out hb4.out.size
  have hE : dataE al2 1 0 = 17 := rfl
  rw [hE]
  obtain ⟨a1, a2⟩ := al2_ack
  obtain ⟨t1, t2, t3, t4⟩ := al2_take
  have kA := ack_k hS4.out
  rw [a1, a2, t4] at kA
  have ht1 : Hid (al2.L (al2.tk + 1) = some [97]) := t1
  have ht2 : Hid ((takeA al2).L ((takeA al2).tk + 1) = some [98]) := t2
  have ht3 : Hid ((takeA (takeA al2)).tk = 2) := t3
  have hx1 : Hid (al2.tk < 4611686018427387904) := by show (0 : Int) < _; decide
  have hx2 : Hid ((takeA al2).tk < 4611686018427387904) := by show (1 : Int) < _; decide
  clear hE a1 a2 t1 t2 t3 t4
  generalize al2 = s at *
  go_wp2_with (go_at_call 17; refine kA.mono ?_; rintro e w5 ⟨rfl, hb5⟩; clear kA)
  have hS5 : Hid (Rv w5 rb s) := hS4.out.kept hb5.out
  have hB5 : Hid (Below rb w w5) := hB4.out.trans (hb5.out.mono hz4.out)
  have hz5 : Hid (rb ≤ w5.heap.size) := Nat.le_trans hz4.out hb5.out.size
  refine (take_yes [97] hS5.out hx1.out ht1.out).mono ?_
  rintro e w6 ⟨g6, n6, c6, rfl, hL6, hS6, hK6⟩
  have hB6 : Hid (Below rb w w6) := hK6.out.below hB5.out hz5.out (Nat.le_refl _) (Nat.le_refl _)
  have hz6 : Hid (rb ≤ w6.heap.size) := by have := hB6.out.size; rw [hN.out] at this; exact this
  have hg6 : Hid (rb < g6 ∧ g6 < w6.heap.size) := by
    have h1 := hL6.out.at_ _ rfl
    have h2 := hS5.out.lt
    exact ⟨Nat.lt_of_lt_of_le h2 h1.1, h1.2⟩
  clear hS3' hB3 hz3 hK6 hS4 hB4 hz4 hS5 hB5 hz5 hb4 hb5
  go_wp2_with fail
  refine (take_yes [98] hS6.out hx2.out ht2.out).mono ?_
  rintro e w7 ⟨g7, n7, c7, rfl, hL7, hS7, hK7⟩
  have hB7 : Hid (Below rb w w7) := hK7.out.below hB6.out hz6.out (Nat.le_refl _) (Nat.le_refl _)
  have hb6 : Bytes w7 (some ⟨g6, 0, none⟩) [97] := hL6.out.by_.k2 hK7.out (fun x hx => by cases hx; have := hg6.out; exact ⟨by show g6 ≠ rb; omega, by show g6 ≠ rb; omega⟩)
  have c1 := conv_str hb6 n6 c6 hL6.out.len
  have c2 := conv_str hL7.out.by_ n7 c7 hL7.out.len
  have e1 : ((strOfNums [97]).toList == [97]) = true := by rw [ByteArray.toList_eq, strOfNums_data]; decide
  have e2 : ((strOfNums [98]).toList == [98]) = true := by rw [ByteArray.toList_eq, strOfNums_data]; decide
  have kT := taken_any hS7.out
  rw [ht3.out] at kT
  clear hS6 hB6 hz6 hK7 hb6 hL6 hL7
  go_wp2_with (go_at_call 19; refine kT.mono ?_; rintro e w8 ⟨rfl, hw8⟩; obtain rfl := hw8.symm; clear hw8)
  go_ret
  exact ⟨rfl, by rw [hN.out]; exact hB7⟩
end Go.Proofs.Ytajidkgmifcoaaa
