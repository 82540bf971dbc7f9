/-
  Trees are not turned by a Put, and what was answered may be written over: the walk of the statement.
-/
import Derived.Test.YtkealjaealeojabQTwb
import Derived.Test.YtkealjaealeojabQTsw
import Derived.Test.YtkealjaealeojabQEpu
import Derived.Test.YtkealjaealeojabQGh
namespace Go.Proofs.Ytkealjaealeojab
open Go.RowKit
set_option linter.unusedVariables false
theorem own_all : ∀ D, OwnAt D := by
  intro D
  induction D with
  | zero => intro t b w h; exact absurd h id
  | succ D ih => exact own_step ih
set_option maxHeartbeats 2000000 in
set_option maxRecDepth 100000 in
/-- A tree that is not few is answered as it is. -/
theorem own_big {D : Nat} {t : Tr} {b : Nb} {w : World} (hN : Nd D w b t) (hs : ¬ t.size ≤ 1024) : Calls Try.prog 12 #[.agg b.arr] w fun e w' => (∃ b' : Nb, e = .returned (.agg b'.arr)) ∧ Below w.heap.size w w' := by
  have T0 : Hid (Bo2 w ((w.alloc (.cells b.arr 26)).alloc (.cells #[.int .i64 0, .int .u64 0, .bool false, .string ⟨#[]⟩, .int .i64 0, .string ⟨#[]⟩, .slice none 0 0, .slice none 0 0, .slice none 0 0] 26)) b zN) := bo2_new w b zN
  have k1 := efew_any (hN.kept T0.out.bel)
  rw [decide_eq_false hs] at k1
  have hne : Hid (w.heap.size ≠ w.heap.size + 1) := by show _ ≠ _; omega
  clear hN hs
  obtain ⟨a0, a1, a2, a3, a4, a5, a6, a7, a8⟩ := T0.out.one.fields
  go_enter Try.func12, Try.ntmps12
  go_wp2_with (go_at_call 10; refine k1.mono ?_; rintro e w3 ⟨rfl, hb3⟩; clear k1; have T3 : Hid (Bo2 w w3 b zN) := T0.out.on hb3; clear a0 a1 a2 a3 a4 a5 a6 a7 a8; obtain ⟨a0, a1, a2, a3, a4, a5, a6, a7, a8⟩ := T3.out.one.fields; obtain ⟨m0, m1, m2, m3, m4, m5, m6, m7, m8⟩ := T3.out.two.fields; have z0 := T3.out.two.fz 0; have z1 := T3.out.two.fz 1; have z2 := T3.out.two.fz 2; have z3 := T3.out.two.fz 3; have z4 := T3.out.two.fz 4; have z5 := T3.out.two.fz 5; have z6 := T3.out.two.fz 6; have z7 := T3.out.two.fz 7; have z8 := T3.out.two.fz 8)
  have x6 : Bx w3 _ w.heap.size (w.heap.size + 1) b b := Bx.put ⟨T3.out.one, T3.out.two, Kp.refl _ _⟩ hne.out b
  obtain ⟨u0, u1, u2, u3, u4, u5, u6, u7, u8⟩ := x6.two.fields
  refine bodyPost_ret (v := .agg #[.int .i64 b.kind, .int .u64 b.num, .bool b.neg, .string b.dig, .int .i64 b.exp, .string b.txt, .slice b.ab b.lb b.cb, .slice b.ak b.lk b.ck, .slice b.ai b.li b.ci]) (by simp [results, Try.results12, go_sem, u0, u1, u2, u3, u4, u5, u6, u7, u8]) rfl ⟨⟨b, rfl⟩, T3.out.bel.trans (x6.kp.below T3.out.bel.size fun k hk => by omega)⟩
theorem kp_below {f : List Nat} {B : Nat} {w w' : World} (h : Kp (· ∈ f) w w') (hB : B ≤ w.heap.size) (hf : ∀ k ∈ f, B ≤ k) : Below B w w' := h.below hB hf
set_option maxHeartbeats 4000000 in
set_option maxRecDepth 100000 in
theorem own_w1 {D Dx : Nat} {t tx : Tr} {b x : Nb} {w : World} {pa : Option Addr} {np cp : Nat} (hN : Nd D w b t) (hX : Nd Dx w x tx) (hs : ¬ t.size ≤ 1024) :
    Calls Try.prog 4 #[.agg b.arr, .slice pa np cp, .agg x.arr] w fun e w' => e = .returned (.bool true) ∧ Below w.heap.size w w' := by
  have T0 : Hid (Bo2 w ((w.alloc (.cells b.arr 26)).alloc (.cells x.arr 26)) b x) := bo2_new w b x
  obtain ⟨a0, a1, a2, a3, a4, a5, a6, a7, a8⟩ := T0.out.one.fields
  obtain ⟨f0, f1, f2, f3, f4, f5, f6, f7, f8⟩ := T0.out.two.fields
  have kA : Hid (∀ w', Calls Try.prog 9 #[] w' _) := fun w' => alive_any w'
  have k1 := efew_any (hN.kept T0.out.bel)
  rw [decide_eq_false hs] at k1
  clear hN hX hs
  go_enter Try.func4, Try.ntmps4
  go_wp2_with (first
    | (go_at_call 10; refine k1.mono ?_; rintro e w1 ⟨rfl, hb1⟩; clear k1; clear a0 a1 a2 a3 a4 a5 a6 a7 a8 f0 f1 f2 f3 f4 f5 f6 f7 f8; have T1 : Hid (Bo2 w w1 b x) := T0.out.on hb1; clear hb1; obtain ⟨a0, a1, a2, a3, a4, a5, a6, a7, a8⟩ := T1.out.one.fields; obtain ⟨f0, f1, f2, f3, f4, f5, f6, f7, f8⟩ := T1.out.two.fields; have k9 := kA.out w1)
    | (go_at_call 9; refine k9.mono ?_; rintro e w9 ⟨rfl, hb9⟩))
  go_ret
  exact ⟨rfl, T1.out.bel.trans (hb9.mono T1.out.bel.size)⟩
set_option maxHeartbeats 4000000 in
set_option maxRecDepth 100000 in
theorem own_w2 {D Dx : Nat} {t tx : Tr} {b x : Nb} {w : World} {pa : Option Addr} {np cp : Nat} (hN : Nd D w b t) (hX : Nd Dx w x tx) (hs : t.size ≤ 1024) (hs2 : ¬ tx.size ≤ 1024) :
    Calls Try.prog 4 #[.agg b.arr, .slice pa np cp, .agg x.arr] w fun e w' => e = .returned (.bool true) ∧ Below w.heap.size w w' := by
  have T0 : Hid (Bo2 w ((w.alloc (.cells b.arr 26)).alloc (.cells x.arr 26)) b x) := bo2_new w b x
  obtain ⟨a0, a1, a2, a3, a4, a5, a6, a7, a8⟩ := T0.out.one.fields
  obtain ⟨f0, f1, f2, f3, f4, f5, f6, f7, f8⟩ := T0.out.two.fields
  have kA : Hid (∀ w', Calls Try.prog 9 #[] w' _) := fun w' => alive_any w'
  have k1 := efew_any (hN.kept T0.out.bel)
  rw [decide_eq_true hs] at k1
  have kX : Hid (∀ w', Below w.heap.size w w' → Calls Try.prog 10 #[.agg x.arr] w' fun e w'' => e = .returned (.bool false) ∧ Below w'.heap.size w' w'') := fun w' h => by have := efew_any (hX.kept h); rw [decide_eq_false hs2] at this; exact this
  clear hN hX hs hs2
  go_enter Try.func4, Try.ntmps4
  go_wp2_with (first
    | (go_at_call 10; refine k1.mono ?_; rintro e w1 ⟨rfl, hb1⟩; clear k1; clear a0 a1 a2 a3 a4 a5 a6 a7 a8 f0 f1 f2 f3 f4 f5 f6 f7 f8; have T1 : Hid (Bo2 w w1 b x) := T0.out.on hb1; clear hb1; obtain ⟨a0, a1, a2, a3, a4, a5, a6, a7, a8⟩ := T1.out.one.fields; obtain ⟨f0, f1, f2, f3, f4, f5, f6, f7, f8⟩ := T1.out.two.fields; have k2 := kX.out w1 T1.out.bel)
    | (go_at_call 10; refine k2.mono ?_; rintro e w2 ⟨rfl, hb2⟩; clear k2; clear a0 a1 a2 a3 a4 a5 a6 a7 a8 f0 f1 f2 f3 f4 f5 f6 f7 f8; have T2 : Hid (Bo2 w w2 b x) := T1.out.on hb2; clear hb2; obtain ⟨a0, a1, a2, a3, a4, a5, a6, a7, a8⟩ := T2.out.one.fields; obtain ⟨f0, f1, f2, f3, f4, f5, f6, f7, f8⟩ := T2.out.two.fields; have k9 := kA.out w2)
    | (go_at_call 9; refine k9.mono ?_; rintro e w9 ⟨rfl, hb9⟩))
  go_ret
  exact ⟨rfl, T2.out.bel.trans (hb9.mono T2.out.bel.size)⟩
set_option maxHeartbeats 4000000 in
set_option maxRecDepth 100000 in
theorem own_w3 {D Dx : Nat} {t tx : Tr} {b x : Nb} {w : World} {pa : Option Addr} {np cp : Nat} (hN : Nd D w b t) (hX : Nd Dx w x tx) {m : Tr} (hs : t.size ≤ 1024) (hs2 : tx.size ≤ 1024) (hm : ¬ m.size ≤ 1024)
    (kE : ∀ w', Below w.heap.size w w' → Calls Try.prog 11 #[.agg b.arr, .slice pa np cp, .agg x.arr] w' fun e w'' => (∃ b1 e1 E, e = .returned (.tuple #[.agg b1.arr, .int .i64 e1]) ∧ Nd E w'' b1 m) ∧ Below w'.heap.size w' w'') :
    Calls Try.prog 4 #[.agg b.arr, .slice pa np cp, .agg x.arr] w fun e w' => e = .returned (.bool true) ∧ Below w.heap.size w w' := by
  have T0 : Hid (Bo2 w ((w.alloc (.cells b.arr 26)).alloc (.cells x.arr 26)) b x) := bo2_new w b x
  obtain ⟨a0, a1, a2, a3, a4, a5, a6, a7, a8⟩ := T0.out.one.fields
  obtain ⟨f0, f1, f2, f3, f4, f5, f6, f7, f8⟩ := T0.out.two.fields
  have kA : Hid (∀ w', Calls Try.prog 9 #[] w' _) := fun w' => alive_any w'
  have k1 := efew_any (hN.kept T0.out.bel)
  rw [decide_eq_true hs] at k1
  have kX : Hid (∀ w', Below w.heap.size w w' → Calls Try.prog 10 #[.agg x.arr] w' fun e w'' => e = .returned (.bool true) ∧ Below w'.heap.size w' w'') := fun w' h => by have := efew_any (hX.kept h); rw [decide_eq_true hs2] at this; exact this
  have kE' : Hid (∀ w', Below w.heap.size w w' → Calls Try.prog 11 #[.agg b.arr, .slice pa np cp, .agg x.arr] w' _) := kE
  have kO : Hid (∀ w' b' E, Nd E w' b' m → Calls Try.prog 12 #[.agg b'.arr] w' fun e w'' => (∃ b9 : Nb, e = .returned (.agg b9.arr)) ∧ Below w'.heap.size w' w'') := fun w' b' E h => own_big h hm
  have kF : Hid (∀ w' b' E, Nd E w' b' m → Calls Try.prog 10 #[.agg b'.arr] w' fun e w'' => e = .returned (.bool false) ∧ Below w'.heap.size w' w'') := fun w' b' E h => by have := efew_any h; rw [decide_eq_false hm] at this; exact this
  clear hN hX hs hs2 hm kE
  go_enter Try.func4, Try.ntmps4
  go_wp2_with (first
    | (go_at_call 10; refine k1.mono ?_; rintro e w1 ⟨rfl, hb1⟩; clear k1; clear a0 a1 a2 a3 a4 a5 a6 a7 a8 f0 f1 f2 f3 f4 f5 f6 f7 f8; have T1 : Hid (Bo2 w w1 b x) := T0.out.on hb1; clear hb1; obtain ⟨a0, a1, a2, a3, a4, a5, a6, a7, a8⟩ := T1.out.one.fields; obtain ⟨f0, f1, f2, f3, f4, f5, f6, f7, f8⟩ := T1.out.two.fields; have k2 := kX.out w1 T1.out.bel)
    | (go_at_call 10; refine k2.mono ?_; rintro e w2 ⟨rfl, hb2⟩; clear k2; clear a0 a1 a2 a3 a4 a5 a6 a7 a8 f0 f1 f2 f3 f4 f5 f6 f7 f8; have T2 : Hid (Bo2 w w2 b x) := T1.out.on hb2; clear hb2; obtain ⟨a0, a1, a2, a3, a4, a5, a6, a7, a8⟩ := T2.out.one.fields; obtain ⟨f0, f1, f2, f3, f4, f5, f6, f7, f8⟩ := T2.out.two.fields; have k3 := kE'.out w2 T2.out.bel)
    | (go_at_call 11; refine k3.mono ?_; rintro e w3 ⟨⟨b1, e1, E1, he, hE1⟩, hb3⟩; rw [Nb.arr] at he; subst he; clear k3; clear a0 a1 a2 a3 a4 a5 a6 a7 a8 f0 f1 f2 f3 f4 f5 f6 f7 f8; have A3 := alloc_below w3 (.cells #[.int .i64 b1.kind, .int .u64 b1.num, .bool b1.neg, .string b1.dig, .int .i64 b1.exp, .string b1.txt, .slice b1.ab b1.lb b1.cb, .slice b1.ak b1.lk b1.ck, .slice b1.ai b1.li b1.ci] 26); have T3 : Hid (Bo2 w (w3.alloc (.cells #[.int .i64 b1.kind, .int .u64 b1.num, .bool b1.neg, .string b1.dig, .int .i64 b1.exp, .string b1.txt, .slice b1.ab b1.lb b1.cb, .slice b1.ak b1.lk b1.ck, .slice b1.ai b1.li b1.ci] 26)) b x) := (T2.out.on hb3).on A3; have P3 : Hid (NBox (w3.alloc (.cells #[.int .i64 b1.kind, .int .u64 b1.num, .bool b1.neg, .string b1.dig, .int .i64 b1.exp, .string b1.txt, .slice b1.ab b1.lb b1.cb, .slice b1.ak b1.lk b1.ck, .slice b1.ai b1.li b1.ci] 26)) w3.heap.size b1) := nbox_new w3 b1; have N3 : Hid (Nd E1 (w3.alloc (.cells #[.int .i64 b1.kind, .int .u64 b1.num, .bool b1.neg, .string b1.dig, .int .i64 b1.exp, .string b1.txt, .slice b1.ab b1.lb b1.cb, .slice b1.ak b1.lk b1.ck, .slice b1.ai b1.li b1.ci] 26)) b1 m) := hE1.kept A3; clear hE1 hb3 A3; obtain ⟨p0, p1, p2, p3, p4, p5, p6, p7, p8⟩ := P3.out.fields; have k4 := kO.out _ _ _ N3.out)
    | (go_at_call 12; refine k4.mono ?_; rintro e w4 ⟨⟨b4, he⟩, hb4⟩; rw [Nb.arr] at he; subst he; clear k4; clear p0 p1 p2 p3 p4 p5 p6 p7 p8; have A4 := alloc_below w4 (.cells #[.int .i64 b4.kind, .int .u64 b4.num, .bool b4.neg, .string b4.dig, .int .i64 b4.exp, .string b4.txt, .slice b4.ab b4.lb b4.cb, .slice b4.ak b4.lk b4.ck, .slice b4.ai b4.li b4.ci] 26); have B4 : Hid (Below w.heap.size w (w4.alloc (.cells #[.int .i64 b4.kind, .int .u64 b4.num, .bool b4.neg, .string b4.dig, .int .i64 b4.exp, .string b4.txt, .slice b4.ab b4.lb b4.cb, .slice b4.ak b4.lk b4.ck, .slice b4.ai b4.li b4.ci] 26))) := ((T3.out.on hb4).on A4).bel; have N4 : Hid (Nd E1 (w4.alloc (.cells #[.int .i64 b4.kind, .int .u64 b4.num, .bool b4.neg, .string b4.dig, .int .i64 b4.exp, .string b4.txt, .slice b4.ab b4.lb b4.cb, .slice b4.ak b4.lk b4.ck, .slice b4.ai b4.li b4.ci] 26)) b1 m) := (N3.out.kept hb4).kept A4; have P4 : Hid (NBox (w4.alloc (.cells #[.int .i64 b4.kind, .int .u64 b4.num, .bool b4.neg, .string b4.dig, .int .i64 b4.exp, .string b4.txt, .slice b4.ab b4.lb b4.cb, .slice b4.ak b4.lk b4.ck, .slice b4.ai b4.li b4.ci] 26)) w3.heap.size b1) := (P3.out.kept hb4 P3.out.lt).kept A4 (Nat.lt_of_lt_of_le P3.out.lt hb4.size); clear hb4 A4; obtain ⟨p0, p1, p2, p3, p4, p5, p6, p7, p8⟩ := P4.out.fields; have k5 := kF.out _ _ _ N4.out)
    | (go_at_call 10; refine k5.mono ?_; rintro e w5 ⟨rfl, hb5⟩; clear k5; have B5 : Hid (Below w.heap.size w w5) := B4.out.trans (hb5.mono B4.out.size); have k9 := kA.out w5)
    | (go_at_call 9; refine k9.mono ?_; rintro e w9 ⟨rfl, hb9⟩))
  go_ret
  exact ⟨rfl, B5.out.trans (hb9.mono B5.out.size)⟩
set_option maxHeartbeats 4000000 in
set_option maxRecDepth 100000 in
theorem own_w4 {D Dx : Nat} {t tx : Tr} {b x : Nb} {w : World} {pa : Option Addr} {np cp : Nat} (hN : Nd D w b t) (hX : Nd Dx w x tx) {m : Tr} (hs : t.size ≤ 1024) (hs2 : tx.size ≤ 1024) (hm : m.size ≤ 1024)
    (kE : ∀ w', Below w.heap.size w w' → Calls Try.prog 11 #[.agg b.arr, .slice pa np cp, .agg x.arr] w' fun e w'' => (∃ b1 e1 E, e = .returned (.tuple #[.agg b1.arr, .int .i64 e1]) ∧ Nd E w'' b1 m) ∧ Below w'.heap.size w' w'')
    (kG : ∀ w', Below w.heap.size w w' → Calls Try.prog 13 #[.agg b.arr, .slice pa np cp, .agg x.arr] w' fun e w'' => (∃ (b2 : Nb) (D2 : Nat) (f : List Nat), e = .returned (.tuple #[.agg b2.arr, .int .i64 19]) ∧ Nd D2 w'' b2 m ∧ True) ∧ Below w'.heap.size w' w'') :
    Calls Try.prog 4 #[.agg b.arr, .slice pa np cp, .agg x.arr] w fun e w' => e = .returned (.bool true) ∧ Below w.heap.size w w' := by
  have T0 : Hid (Bo2 w ((w.alloc (.cells b.arr 26)).alloc (.cells x.arr 26)) b x) := bo2_new w b x
  obtain ⟨a0, a1, a2, a3, a4, a5, a6, a7, a8⟩ := T0.out.one.fields
  obtain ⟨f0, f1, f2, f3, f4, f5, f6, f7, f8⟩ := T0.out.two.fields
  have kA : Hid (∀ w', Calls Try.prog 9 #[] w' _) := fun w' => alive_any w'
  have k1 := efew_any (hN.kept T0.out.bel)
  rw [decide_eq_true hs] at k1
  have kX : Hid (∀ w', Below w.heap.size w w' → Calls Try.prog 10 #[.agg x.arr] w' fun e w'' => e = .returned (.bool true) ∧ Below w'.heap.size w' w'') := fun w' h => by have := efew_any (hX.kept h); rw [decide_eq_true hs2] at this; exact this
  have kE' : Hid (∀ w', Below w.heap.size w w' → Calls Try.prog 11 #[.agg b.arr, .slice pa np cp, .agg x.arr] w' _) := kE
  have kG' : Hid (∀ w', Below w.heap.size w w' → Calls Try.prog 13 #[.agg b.arr, .slice pa np cp, .agg x.arr] w' _) := kG
  have kO : Hid (∀ w' b' E, Nd E w' b' m → Calls Try.prog 12 #[.agg b'.arr] w' fun e w'' => (∃ b9 : Nb, e = .returned (.agg b9.arr) ∧ NdS (fun k => w'.heap.size ≤ k ∧ k < w''.heap.size) E w'' b9 m) ∧ Below w'.heap.size w' w'') := fun w' b' E h => own_all E m b' w' h hm
  have kF : Hid (∀ w' b' E, Nd E w' b' m → Calls Try.prog 10 #[.agg b'.arr] w' fun e w'' => e = .returned (.bool true) ∧ Below w'.heap.size w' w'') := fun w' b' E h => by have := efew_any h; rw [decide_eq_true hm] at this; exact this
  clear hN hX hs hs2 hm kE kG
  go_enter Try.func4, Try.ntmps4
  go_wp2_with (first
    | (go_at_call 10; refine k1.mono ?_; rintro e w1 ⟨rfl, hb1⟩; clear k1; clear a0 a1 a2 a3 a4 a5 a6 a7 a8 f0 f1 f2 f3 f4 f5 f6 f7 f8; have T1 : Hid (Bo2 w w1 b x) := T0.out.on hb1; clear hb1; obtain ⟨a0, a1, a2, a3, a4, a5, a6, a7, a8⟩ := T1.out.one.fields; obtain ⟨f0, f1, f2, f3, f4, f5, f6, f7, f8⟩ := T1.out.two.fields; have k2 := kX.out w1 T1.out.bel)
    | (go_at_call 10; refine k2.mono ?_; rintro e w2 ⟨rfl, hb2⟩; clear k2; clear a0 a1 a2 a3 a4 a5 a6 a7 a8 f0 f1 f2 f3 f4 f5 f6 f7 f8; have T2 : Hid (Bo2 w w2 b x) := T1.out.on hb2; clear hb2; obtain ⟨a0, a1, a2, a3, a4, a5, a6, a7, a8⟩ := T2.out.one.fields; obtain ⟨f0, f1, f2, f3, f4, f5, f6, f7, f8⟩ := T2.out.two.fields; have k3 := kE'.out w2 T2.out.bel)
    | (go_at_call 11; refine k3.mono ?_; rintro e w3 ⟨⟨b1, e1, E1, he, hE1⟩, hb3⟩; rw [Nb.arr] at he; subst he; clear k3; clear a0 a1 a2 a3 a4 a5 a6 a7 a8 f0 f1 f2 f3 f4 f5 f6 f7 f8; have A3 := alloc_below w3 (.cells #[.int .i64 b1.kind, .int .u64 b1.num, .bool b1.neg, .string b1.dig, .int .i64 b1.exp, .string b1.txt, .slice b1.ab b1.lb b1.cb, .slice b1.ak b1.lk b1.ck, .slice b1.ai b1.li b1.ci] 26); have T3 : Hid (Bo2 w (w3.alloc (.cells #[.int .i64 b1.kind, .int .u64 b1.num, .bool b1.neg, .string b1.dig, .int .i64 b1.exp, .string b1.txt, .slice b1.ab b1.lb b1.cb, .slice b1.ak b1.lk b1.ck, .slice b1.ai b1.li b1.ci] 26)) b x) := (T2.out.on hb3).on A3; have P3 : Hid (NBox (w3.alloc (.cells #[.int .i64 b1.kind, .int .u64 b1.num, .bool b1.neg, .string b1.dig, .int .i64 b1.exp, .string b1.txt, .slice b1.ab b1.lb b1.cb, .slice b1.ak b1.lk b1.ck, .slice b1.ai b1.li b1.ci] 26)) w3.heap.size b1) := nbox_new w3 b1; have N3 : Hid (Nd E1 (w3.alloc (.cells #[.int .i64 b1.kind, .int .u64 b1.num, .bool b1.neg, .string b1.dig, .int .i64 b1.exp, .string b1.txt, .slice b1.ab b1.lb b1.cb, .slice b1.ak b1.lk b1.ck, .slice b1.ai b1.li b1.ci] 26)) b1 m) := hE1.kept A3; clear hE1 hb3 A3; obtain ⟨p0, p1, p2, p3, p4, p5, p6, p7, p8⟩ := P3.out.fields; have k4 := kO.out _ _ _ N3.out)
    | (go_at_call 12; refine k4.mono ?_; rintro e w4 ⟨⟨b4, he, hF4⟩, hb4⟩; rw [Nb.arr] at he; subst he; clear k4; clear p0 p1 p2 p3 p4 p5 p6 p7 p8; have A4 := alloc_below w4 (.cells #[.int .i64 b4.kind, .int .u64 b4.num, .bool b4.neg, .string b4.dig, .int .i64 b4.exp, .string b4.txt, .slice b4.ab b4.lb b4.cb, .slice b4.ak b4.lk b4.ck, .slice b4.ai b4.li b4.ci] 26); have T4 : Hid (Bo2 w (w4.alloc (.cells #[.int .i64 b4.kind, .int .u64 b4.num, .bool b4.neg, .string b4.dig, .int .i64 b4.exp, .string b4.txt, .slice b4.ab b4.lb b4.cb, .slice b4.ak b4.lk b4.ck, .slice b4.ai b4.li b4.ci] 26)) b x) := (T3.out.on hb4).on A4; have N4 : Hid (Nd E1 (w4.alloc (.cells #[.int .i64 b4.kind, .int .u64 b4.num, .bool b4.neg, .string b4.dig, .int .i64 b4.exp, .string b4.txt, .slice b4.ab b4.lb b4.cb, .slice b4.ak b4.lk b4.ck, .slice b4.ai b4.li b4.ci] 26)) b1 m) := (N3.out.kept hb4).kept A4; have P4 : Hid (NBox (w4.alloc (.cells #[.int .i64 b4.kind, .int .u64 b4.num, .bool b4.neg, .string b4.dig, .int .i64 b4.exp, .string b4.txt, .slice b4.ab b4.lb b4.cb, .slice b4.ak b4.lk b4.ck, .slice b4.ai b4.li b4.ci] 26)) w3.heap.size b1) := (P3.out.kept hb4 P3.out.lt).kept A4 (Nat.lt_of_lt_of_le P3.out.lt hb4.size); have Q4 : Hid (NBox (w4.alloc (.cells #[.int .i64 b4.kind, .int .u64 b4.num, .bool b4.neg, .string b4.dig, .int .i64 b4.exp, .string b4.txt, .slice b4.ab b4.lb b4.cb, .slice b4.ak b4.lk b4.ck, .slice b4.ai b4.li b4.ci] 26)) w4.heap.size b4) := nbox_new w4 b4; have M4 : Hid (Nd E1 (w4.alloc (.cells #[.int .i64 b4.kind, .int .u64 b4.num, .bool b4.neg, .string b4.dig, .int .i64 b4.exp, .string b4.txt, .slice b4.ab b4.lb b4.cb, .slice b4.ak b4.lk b4.ck, .slice b4.ai b4.li b4.ci] 26)) b4 m) := hF4.nd.kept A4; clear hb4 A4 hF4; obtain ⟨p0, p1, p2, p3, p4, p5, p6, p7, p8⟩ := P4.out.fields; have k5 := kF.out _ _ _ N4.out)
    | (go_at_call 10; refine k5.mono ?_; rintro e w5 ⟨rfl, hb5⟩; clear k5; clear p0 p1 p2 p3 p4 p5 p6 p7 p8; have T5 : Hid (Bo2 w w5 b x) := T4.out.on hb5; have Q5 : Hid (NBox w5 w4.heap.size b4) := Q4.out.kept hb5 Q4.out.lt; have M5 : Hid (Nd E1 w5 b4 m) := M4.out.kept hb5; clear hb5; obtain ⟨a0, a1, a2, a3, a4, a5, a6, a7, a8⟩ := T5.out.one.fields; obtain ⟨f0, f1, f2, f3, f4, f5, f6, f7, f8⟩ := T5.out.two.fields; have k6 := kG'.out w5 T5.out.bel)
    | (go_at_call 13; refine k6.mono ?_; rintro e w6 ⟨⟨b6, D6, L6, he, hN6, hF6⟩, hb6⟩; rw [Nb.arr] at he; subst he; clear k6; clear a0 a1 a2 a3 a4 a5 a6 a7 a8 f0 f1 f2 f3 f4 f5 f6 f7 f8; have A6 := alloc_below w6 (.cells #[.int .i64 b6.kind, .int .u64 b6.num, .bool b6.neg, .string b6.dig, .int .i64 b6.exp, .string b6.txt, .slice b6.ab b6.lb b6.cb, .slice b6.ak b6.lk b6.ck, .slice b6.ai b6.li b6.ci] 26); have T6 : Hid (Bo2 w (w6.alloc (.cells #[.int .i64 b6.kind, .int .u64 b6.num, .bool b6.neg, .string b6.dig, .int .i64 b6.exp, .string b6.txt, .slice b6.ab b6.lb b6.cb, .slice b6.ak b6.lk b6.ck, .slice b6.ai b6.li b6.ci] 26)) b x) := (T5.out.on hb6).on A6; have X6 : Hid (Below w5.heap.size w5 (w6.alloc (.cells #[.int .i64 b6.kind, .int .u64 b6.num, .bool b6.neg, .string b6.dig, .int .i64 b6.exp, .string b6.txt, .slice b6.ab b6.lb b6.cb, .slice b6.ak b6.lk b6.ck, .slice b6.ai b6.li b6.ci] 26))) := hb6.trans (A6.mono hb6.size); clear hb6 A6 hN6 hF6; obtain ⟨a0, a1, a2, a3, a4, a5, a6, a7, a8⟩ := T6.out.one.fields; obtain ⟨f0, f1, f2, f3, f4, f5, f6, f7, f8⟩ := T6.out.two.fields; have k7 := kG'.out _ T6.out.bel)
    | (go_at_call 13; refine k7.mono ?_; rintro e w9 ⟨⟨b9, D9, L9, he, hN9, hF9⟩, hb9⟩; rw [Nb.arr] at he; subst he; clear k7; clear a0 a1 a2 a3 a4 a5 a6 a7 a8 f0 f1 f2 f3 f4 f5 f6 f7 f8; have A9 := alloc_below w9 (.cells #[.int .i64 b9.kind, .int .u64 b9.num, .bool b9.neg, .string b9.dig, .int .i64 b9.exp, .string b9.txt, .slice b9.ab b9.lb b9.cb, .slice b9.ak b9.lk b9.ck, .slice b9.ai b9.li b9.ci] 26); have X9 : Below w5.heap.size w5 (w9.alloc (.cells #[.int .i64 b9.kind, .int .u64 b9.num, .bool b9.neg, .string b9.dig, .int .i64 b9.exp, .string b9.txt, .slice b9.ab b9.lb b9.cb, .slice b9.ak b9.lk b9.ck, .slice b9.ai b9.li b9.ci] 26)) := X6.out.trans ((hb9.trans (A9.mono hb9.size)).mono X6.out.size); have B9 : Hid (Below w.heap.size w (w9.alloc (.cells #[.int .i64 b9.kind, .int .u64 b9.num, .bool b9.neg, .string b9.dig, .int .i64 b9.exp, .string b9.txt, .slice b9.ab b9.lb b9.cb, .slice b9.ak b9.lk b9.ck, .slice b9.ai b9.li b9.ci] 26))) := T5.out.bel.trans (X9.mono T5.out.bel.size); have R9 : NBox (w9.alloc (.cells #[.int .i64 b9.kind, .int .u64 b9.num, .bool b9.neg, .string b9.dig, .int .i64 b9.exp, .string b9.txt, .slice b9.ab b9.lb b9.cb, .slice b9.ak b9.lk b9.ck, .slice b9.ai b9.li b9.ci] 26)) w9.heap.size b9 := nbox_new w9 b9; have Q9 : NBox (w9.alloc (.cells #[.int .i64 b9.kind, .int .u64 b9.num, .bool b9.neg, .string b9.dig, .int .i64 b9.exp, .string b9.txt, .slice b9.ab b9.lb b9.cb, .slice b9.ak b9.lk b9.ck, .slice b9.ai b9.li b9.ci] 26)) w4.heap.size b4 := Q5.out.kept X9 Q5.out.lt; obtain ⟨r0, r1, r2, r3, r4, r5, r6, r7, r8⟩ := R9.fields; obtain ⟨q0, q1, q2, q3, q4, q5, q6, q7, q8⟩ := Q9.fields; have k8 := both_any (hN9.kept A9) (M5.out.kept X9) rfl; clear R9 Q9 hN9 hb9 A9 X9 hF9)
    | (go_at_call 15; refine k8.mono ?_; rintro e w10 ⟨rfl, hb10⟩; clear k8; clear r0 r1 r2 r3 r4 r5 r6 r7 r8 q0 q1 q2 q3 q4 q5 q6 q7 q8; have B10 : Hid (Below w.heap.size w w10) := B9.out.trans (hb10.mono B9.out.size); have k9 := kA.out w10)
    | (go_at_call 9; refine k9.mono ?_; rintro e w11 ⟨rfl, hb11⟩))
  go_ret
  exact ⟨rfl, B10.out.trans (hb11.mono B10.out.size)⟩
set_option maxHeartbeats 4000000 in
set_option maxRecDepth 100000 in
theorem own_w5 {D Dx : Nat} {t tx : Tr} {b x : Nb} {w : World} {pa : Option Addr} {np cp : Nat} (hN : Nd D w b t) (hX : Nd Dx w x tx) {m : Tr} (hs : t.size ≤ 1024) (hs2 : tx.size ≤ 1024) (hm : m.size ≤ 1024)
    (kE : ∀ w', Below w.heap.size w w' → Calls Try.prog 11 #[.agg b.arr, .slice pa np cp, .agg x.arr] w' fun e w'' => (∃ b1 e1 E, e = .returned (.tuple #[.agg b1.arr, .int .i64 e1]) ∧ Nd E w'' b1 m) ∧ Below w'.heap.size w' w'')
    (kG : ∀ w', Below w.heap.size w w' → Calls Try.prog 13 #[.agg b.arr, .slice pa np cp, .agg x.arr] w' fun e w'' => (∃ (b2 : Nb) (D2 : Nat) (f : List Nat), e = .returned (.tuple #[.agg b2.arr, .int .i64 0]) ∧ Nd D2 w'' b2 m ∧ (FrD 26 D2 w'' b2 f ∧ f.Nodup ∧ ∀ k ∈ f, w'.heap.size ≤ k ∧ k < w''.heap.size)) ∧ Below w'.heap.size w' w'') :
    Calls Try.prog 4 #[.agg b.arr, .slice pa np cp, .agg x.arr] w fun e w' => e = .returned (.bool true) ∧ Below w.heap.size w w' := by
  have T0 : Hid (Bo2 w ((w.alloc (.cells b.arr 26)).alloc (.cells x.arr 26)) b x) := bo2_new w b x
  obtain ⟨a0, a1, a2, a3, a4, a5, a6, a7, a8⟩ := T0.out.one.fields
  obtain ⟨f0, f1, f2, f3, f4, f5, f6, f7, f8⟩ := T0.out.two.fields
  have kA : Hid (∀ w', Calls Try.prog 9 #[] w' _) := fun w' => alive_any w'
  have k1 := efew_any (hN.kept T0.out.bel)
  rw [decide_eq_true hs] at k1
  have kX : Hid (∀ w', Below w.heap.size w w' → Calls Try.prog 10 #[.agg x.arr] w' fun e w'' => e = .returned (.bool true) ∧ Below w'.heap.size w' w'') := fun w' h => by have := efew_any (hX.kept h); rw [decide_eq_true hs2] at this; exact this
  have kE' : Hid (∀ w', Below w.heap.size w w' → Calls Try.prog 11 #[.agg b.arr, .slice pa np cp, .agg x.arr] w' _) := kE
  have kG' : Hid (∀ w', Below w.heap.size w w' → Calls Try.prog 13 #[.agg b.arr, .slice pa np cp, .agg x.arr] w' _) := kG
  have kO : Hid (∀ w' b' E, Nd E w' b' m → Calls Try.prog 12 #[.agg b'.arr] w' fun e w'' => (∃ b9 : Nb, e = .returned (.agg b9.arr) ∧ NdS (fun k => w'.heap.size ≤ k ∧ k < w''.heap.size) E w'' b9 m) ∧ Below w'.heap.size w' w'') := fun w' b' E h => own_all E m b' w' h hm
  have kF : Hid (∀ w' b' E, Nd E w' b' m → Calls Try.prog 10 #[.agg b'.arr] w' fun e w'' => e = .returned (.bool true) ∧ Below w'.heap.size w' w'') := fun w' b' E h => by have := efew_any h; rw [decide_eq_true hm] at this; exact this
  clear hN hX hs hs2 hm kE kG
  go_enter Try.func4, Try.ntmps4
  go_wp2_with (first
    | (go_at_call 10; refine k1.mono ?_; rintro e w1 ⟨rfl, hb1⟩; clear k1; clear a0 a1 a2 a3 a4 a5 a6 a7 a8 f0 f1 f2 f3 f4 f5 f6 f7 f8; have T1 : Hid (Bo2 w w1 b x) := T0.out.on hb1; clear hb1; obtain ⟨a0, a1, a2, a3, a4, a5, a6, a7, a8⟩ := T1.out.one.fields; obtain ⟨f0, f1, f2, f3, f4, f5, f6, f7, f8⟩ := T1.out.two.fields; have k2 := kX.out w1 T1.out.bel)
    | (go_at_call 10; refine k2.mono ?_; rintro e w2 ⟨rfl, hb2⟩; clear k2; clear a0 a1 a2 a3 a4 a5 a6 a7 a8 f0 f1 f2 f3 f4 f5 f6 f7 f8; have T2 : Hid (Bo2 w w2 b x) := T1.out.on hb2; clear hb2; obtain ⟨a0, a1, a2, a3, a4, a5, a6, a7, a8⟩ := T2.out.one.fields; obtain ⟨f0, f1, f2, f3, f4, f5, f6, f7, f8⟩ := T2.out.two.fields; have k3 := kE'.out w2 T2.out.bel)
    | (go_at_call 11; refine k3.mono ?_; rintro e w3 ⟨⟨b1, e1, E1, he, hE1⟩, hb3⟩; rw [Nb.arr] at he; subst he; clear k3; clear a0 a1 a2 a3 a4 a5 a6 a7 a8 f0 f1 f2 f3 f4 f5 f6 f7 f8; have A3 := alloc_below w3 (.cells #[.int .i64 b1.kind, .int .u64 b1.num, .bool b1.neg, .string b1.dig, .int .i64 b1.exp, .string b1.txt, .slice b1.ab b1.lb b1.cb, .slice b1.ak b1.lk b1.ck, .slice b1.ai b1.li b1.ci] 26); have T3 : Hid (Bo2 w (w3.alloc (.cells #[.int .i64 b1.kind, .int .u64 b1.num, .bool b1.neg, .string b1.dig, .int .i64 b1.exp, .string b1.txt, .slice b1.ab b1.lb b1.cb, .slice b1.ak b1.lk b1.ck, .slice b1.ai b1.li b1.ci] 26)) b x) := (T2.out.on hb3).on A3; have P3 : Hid (NBox (w3.alloc (.cells #[.int .i64 b1.kind, .int .u64 b1.num, .bool b1.neg, .string b1.dig, .int .i64 b1.exp, .string b1.txt, .slice b1.ab b1.lb b1.cb, .slice b1.ak b1.lk b1.ck, .slice b1.ai b1.li b1.ci] 26)) w3.heap.size b1) := nbox_new w3 b1; have N3 : Hid (Nd E1 (w3.alloc (.cells #[.int .i64 b1.kind, .int .u64 b1.num, .bool b1.neg, .string b1.dig, .int .i64 b1.exp, .string b1.txt, .slice b1.ab b1.lb b1.cb, .slice b1.ak b1.lk b1.ck, .slice b1.ai b1.li b1.ci] 26)) b1 m) := hE1.kept A3; clear hE1 hb3 A3; obtain ⟨p0, p1, p2, p3, p4, p5, p6, p7, p8⟩ := P3.out.fields; have k4 := kO.out _ _ _ N3.out)
    | (go_at_call 12; refine k4.mono ?_; rintro e w4 ⟨⟨b4, he, hF4⟩, hb4⟩; rw [Nb.arr] at he; subst he; clear k4; clear p0 p1 p2 p3 p4 p5 p6 p7 p8; have A4 := alloc_below w4 (.cells #[.int .i64 b4.kind, .int .u64 b4.num, .bool b4.neg, .string b4.dig, .int .i64 b4.exp, .string b4.txt, .slice b4.ab b4.lb b4.cb, .slice b4.ak b4.lk b4.ck, .slice b4.ai b4.li b4.ci] 26); have T4 : Hid (Bo2 w (w4.alloc (.cells #[.int .i64 b4.kind, .int .u64 b4.num, .bool b4.neg, .string b4.dig, .int .i64 b4.exp, .string b4.txt, .slice b4.ab b4.lb b4.cb, .slice b4.ak b4.lk b4.ck, .slice b4.ai b4.li b4.ci] 26)) b x) := (T3.out.on hb4).on A4; have N4 : Hid (Nd E1 (w4.alloc (.cells #[.int .i64 b4.kind, .int .u64 b4.num, .bool b4.neg, .string b4.dig, .int .i64 b4.exp, .string b4.txt, .slice b4.ab b4.lb b4.cb, .slice b4.ak b4.lk b4.ck, .slice b4.ai b4.li b4.ci] 26)) b1 m) := (N3.out.kept hb4).kept A4; have P4 : Hid (NBox (w4.alloc (.cells #[.int .i64 b4.kind, .int .u64 b4.num, .bool b4.neg, .string b4.dig, .int .i64 b4.exp, .string b4.txt, .slice b4.ab b4.lb b4.cb, .slice b4.ak b4.lk b4.ck, .slice b4.ai b4.li b4.ci] 26)) w3.heap.size b1) := (P3.out.kept hb4 P3.out.lt).kept A4 (Nat.lt_of_lt_of_le P3.out.lt hb4.size); have Q4 : Hid (NBox (w4.alloc (.cells #[.int .i64 b4.kind, .int .u64 b4.num, .bool b4.neg, .string b4.dig, .int .i64 b4.exp, .string b4.txt, .slice b4.ab b4.lb b4.cb, .slice b4.ak b4.lk b4.ck, .slice b4.ai b4.li b4.ci] 26)) w4.heap.size b4) := nbox_new w4 b4; have M4 : Hid (Nd E1 (w4.alloc (.cells #[.int .i64 b4.kind, .int .u64 b4.num, .bool b4.neg, .string b4.dig, .int .i64 b4.exp, .string b4.txt, .slice b4.ab b4.lb b4.cb, .slice b4.ak b4.lk b4.ck, .slice b4.ai b4.li b4.ci] 26)) b4 m) := hF4.nd.kept A4; clear hb4 A4 hF4; obtain ⟨p0, p1, p2, p3, p4, p5, p6, p7, p8⟩ := P4.out.fields; have k5 := kF.out _ _ _ N4.out)
    | (go_at_call 10; refine k5.mono ?_; rintro e w5 ⟨rfl, hb5⟩; clear k5; clear p0 p1 p2 p3 p4 p5 p6 p7 p8; have T5 : Hid (Bo2 w w5 b x) := T4.out.on hb5; have Q5 : Hid (NBox w5 w4.heap.size b4) := Q4.out.kept hb5 Q4.out.lt; have M5 : Hid (Nd E1 w5 b4 m) := M4.out.kept hb5; clear hb5; obtain ⟨a0, a1, a2, a3, a4, a5, a6, a7, a8⟩ := T5.out.one.fields; obtain ⟨f0, f1, f2, f3, f4, f5, f6, f7, f8⟩ := T5.out.two.fields; have k6 := kG'.out w5 T5.out.bel)
    | (go_at_call 13; refine k6.mono ?_; rintro e w6 ⟨⟨b6, D6, L6, he, hN6, hF6⟩, hb6⟩; rw [Nb.arr] at he; subst he; clear k6; clear a0 a1 a2 a3 a4 a5 a6 a7 a8 f0 f1 f2 f3 f4 f5 f6 f7 f8; have A6 := alloc_below w6 (.cells #[.int .i64 b6.kind, .int .u64 b6.num, .bool b6.neg, .string b6.dig, .int .i64 b6.exp, .string b6.txt, .slice b6.ab b6.lb b6.cb, .slice b6.ak b6.lk b6.ck, .slice b6.ai b6.li b6.ci] 26); have T6 : Hid (Bo2 w (w6.alloc (.cells #[.int .i64 b6.kind, .int .u64 b6.num, .bool b6.neg, .string b6.dig, .int .i64 b6.exp, .string b6.txt, .slice b6.ab b6.lb b6.cb, .slice b6.ak b6.lk b6.ck, .slice b6.ai b6.li b6.ci] 26)) b x) := (T5.out.on hb6).on A6; have X6 : Hid (Below w5.heap.size w5 (w6.alloc (.cells #[.int .i64 b6.kind, .int .u64 b6.num, .bool b6.neg, .string b6.dig, .int .i64 b6.exp, .string b6.txt, .slice b6.ab b6.lb b6.cb, .slice b6.ak b6.lk b6.ck, .slice b6.ai b6.li b6.ci] 26))) := hb6.trans (A6.mono hb6.size); have F6 : Hid (FrD 26 D6 w6 b6 L6 ∧ L6.Nodup ∧ ∀ k ∈ L6, w5.heap.size ≤ k ∧ k < w6.heap.size) := hF6; have A6' : Hid (Below w6.heap.size w6 (w6.alloc (.cells #[.int .i64 b6.kind, .int .u64 b6.num, .bool b6.neg, .string b6.dig, .int .i64 b6.exp, .string b6.txt, .slice b6.ab b6.lb b6.cb, .slice b6.ak b6.lk b6.ck, .slice b6.ai b6.li b6.ci] 26))) := A6; have R6 : Hid (NBox (w6.alloc (.cells #[.int .i64 b6.kind, .int .u64 b6.num, .bool b6.neg, .string b6.dig, .int .i64 b6.exp, .string b6.txt, .slice b6.ab b6.lb b6.cb, .slice b6.ak b6.lk b6.ck, .slice b6.ai b6.li b6.ci] 26)) w6.heap.size b6) := nbox_new w6 b6; have k7 := kF.out _ _ _ (hN6.kept A6); clear hb6 A6 hN6 hF6; obtain ⟨r0, r1, r2, r3, r4, r5, r6, r7, r8⟩ := R6.out.fields)
    | (go_at_call 10; refine k7.mono ?_; rintro e w7 ⟨rfl, hb7⟩; clear k7; clear r0 r1 r2 r3 r4 r5 r6 r7 r8; have T7 : Hid (Bo2 w w7 b x) := T6.out.on hb7; have X7 : Hid (Below w5.heap.size w5 w7) := X6.out.trans (hb7.mono X6.out.size); have R7 : Hid (NBox w7 w6.heap.size b6) := R6.out.kept hb7 R6.out.lt; have L7 : Below w6.heap.size w6 w7 := A6'.out.trans (hb7.mono A6'.out.size); have k8 := spoil_all D6 b6 w7 L6 (F6.out.1.stays fun k hk => L7.block k (F6.out.2.2 k hk).2) F6.out.2.1 (fun k hk => Nat.lt_of_lt_of_le (F6.out.2.2 k hk).2 L7.size); clear hb7 L7; obtain ⟨r0, r1, r2, r3, r4, r5, r6, r7, r8⟩ := R7.out.fields)
    | (go_at_call 14; refine k8.mono ?_; rintro e w8 ⟨rfl, hk8⟩; clear k8; clear r0 r1 r2 r3 r4 r5 r6 r7 r8; have Y8 : Below w5.heap.size w7 w8 := kp_below hk8 X7.out.size (fun k hk => (F6.out.2.2 k hk).1); have X8 : Hid (Below w5.heap.size w5 w8) := X7.out.trans Y8; have T8 : Hid (Bo2 w w8 b x) := T5.out.on X8.out; clear hk8 Y8; obtain ⟨a0, a1, a2, a3, a4, a5, a6, a7, a8⟩ := T8.out.one.fields; obtain ⟨f0, f1, f2, f3, f4, f5, f6, f7, f8⟩ := T8.out.two.fields; have k10 := kG'.out _ T8.out.bel)
    | (go_at_call 13; refine k10.mono ?_; rintro e w9 ⟨⟨b9, D9, L9, he, hN9, hF9⟩, hb9⟩; rw [Nb.arr] at he; subst he; clear k10; clear a0 a1 a2 a3 a4 a5 a6 a7 a8 f0 f1 f2 f3 f4 f5 f6 f7 f8; have A9 := alloc_below w9 (.cells #[.int .i64 b9.kind, .int .u64 b9.num, .bool b9.neg, .string b9.dig, .int .i64 b9.exp, .string b9.txt, .slice b9.ab b9.lb b9.cb, .slice b9.ak b9.lk b9.ck, .slice b9.ai b9.li b9.ci] 26); have X9 : Below w5.heap.size w5 (w9.alloc (.cells #[.int .i64 b9.kind, .int .u64 b9.num, .bool b9.neg, .string b9.dig, .int .i64 b9.exp, .string b9.txt, .slice b9.ab b9.lb b9.cb, .slice b9.ak b9.lk b9.ck, .slice b9.ai b9.li b9.ci] 26)) := X8.out.trans ((hb9.trans (A9.mono hb9.size)).mono X8.out.size); have B9 : Hid (Below w.heap.size w (w9.alloc (.cells #[.int .i64 b9.kind, .int .u64 b9.num, .bool b9.neg, .string b9.dig, .int .i64 b9.exp, .string b9.txt, .slice b9.ab b9.lb b9.cb, .slice b9.ak b9.lk b9.ck, .slice b9.ai b9.li b9.ci] 26))) := T5.out.bel.trans (X9.mono T5.out.bel.size); have R9 : NBox (w9.alloc (.cells #[.int .i64 b9.kind, .int .u64 b9.num, .bool b9.neg, .string b9.dig, .int .i64 b9.exp, .string b9.txt, .slice b9.ab b9.lb b9.cb, .slice b9.ak b9.lk b9.ck, .slice b9.ai b9.li b9.ci] 26)) w9.heap.size b9 := nbox_new w9 b9; have Q9 : NBox (w9.alloc (.cells #[.int .i64 b9.kind, .int .u64 b9.num, .bool b9.neg, .string b9.dig, .int .i64 b9.exp, .string b9.txt, .slice b9.ab b9.lb b9.cb, .slice b9.ak b9.lk b9.ck, .slice b9.ai b9.li b9.ci] 26)) w4.heap.size b4 := Q5.out.kept X9 Q5.out.lt; obtain ⟨r0, r1, r2, r3, r4, r5, r6, r7, r8⟩ := R9.fields; obtain ⟨q0, q1, q2, q3, q4, q5, q6, q7, q8⟩ := Q9.fields; have k11 := both_any (hN9.kept A9) (M5.out.kept X9) rfl; clear R9 Q9 hN9 hb9 A9 X9 hF9)
    | (go_at_call 15; refine k11.mono ?_; rintro e w10 ⟨rfl, hb10⟩; clear k11; clear r0 r1 r2 r3 r4 r5 r6 r7 r8 q0 q1 q2 q3 q4 q5 q6 q7 q8; have B10 : Hid (Below w.heap.size w w10) := B9.out.trans (hb10.mono B9.out.size); have k9 := kA.out w10)
    | (go_at_call 9; refine k9.mono ?_; rintro e w11 ⟨rfl, hb11⟩))
  go_ret
  exact ⟨rfl, B10.out.trans (hb11.mono B10.out.size)⟩
/-- THE WALK. -/
theorem wown {D Dx : Nat} {t tx : Tr} {b x : Nb} {w : World} {pa : Option Addr} {np cp : Nat} {ps : List Int} (hN : Nd D w b t) (hX : Nd Dx w x tx) (hp : PathOk w pa np cp ps) :
    Calls Try.prog 4 #[.agg b.arr, .slice pa np cp, .agg x.arr] w fun e w' => e = .returned (.bool true) ∧ Below w.heap.size w w' := by
  by_cases hs : t.size ≤ 1024
  · by_cases hs2 : tx.size ≤ 1024
    · have hlf := Tr.lay_find tx ps t
      cases hl : t.lay tx ps with
      | none =>
        have hf : t.find ps = none := by rw [hl] at hlf; cases q : t.find ps with | none => rfl | some u => rw [q] at hlf; cases hlf
        refine own_w4 hN hX (m := zT) hs hs2 (by simp [zT, Tr.size]) (fun w' hb => ?_) (fun w' hb => ?_)
        · refine (eput_any (hN.kept hb) (hX.kept hb) (hp.kept hb)).mono ?_
          rintro e w2 ⟨⟨b', er, he, hE⟩, hb2⟩
          refine ⟨⟨b', er, 1, he, ?_⟩, hb2⟩
          rcases hE with ⟨h, _⟩ | ⟨_, _, _, rfl, _⟩ | ⟨_, _, _, E, v, g2, _⟩
          · rcases h with h | h <;> omega
          · exact nd_zero 0 w2
          · rw [hl] at g2; cases g2
        · refine (gput_any (hN.kept hb) (hX.kept hb) (hp.kept hb)).mono ?_
          rintro e w2 ⟨⟨b', er, he, hA⟩, hb2⟩
          rcases hA with ⟨h, _⟩ | ⟨_, _, _, rfl, rfl⟩ | ⟨_, _, _, E, v, f, g2, _⟩
          · rcases h with h | h <;> omega
          · exact ⟨⟨_, 1, [], he, nd_zero 0 w2, trivial⟩, hb2⟩
          · rw [hl] at g2; cases g2
      | some m =>
        have kE : ∀ w', Below w.heap.size w w' → Calls Try.prog 11 #[.agg b.arr, .slice pa np cp, .agg x.arr] w' fun e w'' => (∃ b1 e1 E, e = .returned (.tuple #[.agg b1.arr, .int .i64 e1]) ∧ Nd E w'' b1 m) ∧ Below w'.heap.size w' w'' := fun w' hb => by
          refine (eput_any (hN.kept hb) (hX.kept hb) (hp.kept hb)).mono ?_
          rintro e w2 ⟨⟨b', er, he, hE⟩, hb2⟩
          rcases hE with ⟨h, _⟩ | ⟨_, _, g, _⟩ | ⟨_, _, _, E, v, g2, g3⟩
          · rcases h with h | h <;> omega
          · rw [hl] at g; cases g
          · rw [hl] at g2; cases g2
            exact ⟨⟨b', er, E, he, g3⟩, hb2⟩
        by_cases hm : m.size ≤ 1024
        · refine own_w5 hN hX hs hs2 hm kE (fun w' hb => ?_)
          refine (gput_any (hN.kept hb) (hX.kept hb) (hp.kept hb)).mono ?_
          rintro e w2 ⟨⟨b', er, he, hA⟩, hb2⟩
          rcases hA with ⟨h, _⟩ | ⟨_, _, h, _⟩ | ⟨_, _, rfl, E, v, f, g2, g3⟩
          · rcases h with h | h <;> omega
          · rw [hl, h] at hlf; cases hlf
          · rw [hl] at g2; cases g2
            exact ⟨⟨b', E, f, he, g3.1.nd, g3.2.1, g3.2.2.1, g3.2.2.2⟩, hb2⟩
        · exact own_w3 hN hX hs hs2 hm kE
    · exact own_w2 hN hX hs hs2
  · exact own_w1 hN hX hs
end Go.Proofs.Ytkealjaealeojab
