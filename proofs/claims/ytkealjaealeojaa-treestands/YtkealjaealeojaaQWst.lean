/-
  What was put stands there, and put back, all is as it was: the walk of the statement.
-/
import Derived.Test.YtkealjaealeojaaQGpu
import Derived.Test.YtkealjaealeojaaQEpb
import Derived.Test.YtkealjaealeojaaQGh
import Derived.Test.YtkealjaealeojaaQPth
namespace Go.Proofs.Ytkealjaealeojaa
open Go.RowKit
set_option linter.unusedVariables false
theorem at_err {B D : Nat} {w : World} {t : Tr} {ps : List Int} {b' : Nb} {er : Int} (h : AtIs B D w t ps b' er) (hb : 1024 < t.size ∨ t.find ps = none) : (er != 0) = true ∧ (er == 0) = false := by
  rcases h with ⟨_, _, rfl⟩ | ⟨_, _, _, rfl⟩ | ⟨h1, _, u, f, h2, _⟩
  · exact ⟨rfl, rfl⟩
  · exact ⟨rfl, rfl⟩
  · rcases hb with hb | hb
    · omega
    · rw [hb] at h2; cases h2
theorem at_ok {B D : Nat} {w : World} {t u : Tr} {ps : List Int} {b' : Nb} {er : Int} (h : AtIs B D w t ps b' er) (hs : t.size ≤ 1024) (hu : t.find ps = some u) : er = 0 ∧ ∃ f, Fresh B D w b' u f := by
  rcases h with ⟨h1, _⟩ | ⟨_, h1, _⟩ | ⟨_, rfl, v, f, h2, h3⟩
  · omega
  · rw [hu] at h1; cases h1
  · rw [hu] at h2; cases h2; exact ⟨rfl, f, h3⟩
theorem put_err {B : Nat} {w : World} {t x : Tr} {ps : List Int} {b' : Nb} {er : Int} (h : PutIs B w t x ps b' er) (hb : 1024 < t.size ∨ 1024 < x.size ∨ t.find ps = none) : (er != 0) = true := by
  rcases h with ⟨_, _, rfl⟩ | ⟨_, _, _, _, rfl⟩ | ⟨h1, h2, _, D, m, f, h3, _⟩
  · rfl
  · rfl
  · rcases hb with hb | hb | hb
    · omega
    · omega
    · have := Tr.lay_find x ps t
      rw [h3, hb] at this
      cases this
theorem put_ok {B : Nat} {w : World} {t x m : Tr} {ps : List Int} {b' : Nb} {er : Int} (h : PutIs B w t x ps b' er) (hs : t.size ≤ 1024) (hx : x.size ≤ 1024) (hm : t.lay x ps = some m) : er = 0 ∧ ∃ D f, Fresh B D w b' m f := by
  rcases h with ⟨h1, _⟩ | ⟨_, _, h1, _⟩ | ⟨_, _, rfl, D, m', f, h2, h3⟩
  · omega
  · have := Tr.lay_find x ps t
    rw [hm, h1] at this
    cases this
  · rw [hm] at h2; cases h2; exact ⟨rfl, D, f, h3⟩
set_option maxHeartbeats 8000000 in
set_option maxRecDepth 100000 in
theorem wstands {D Dx : Nat} {t tx : Tr} {b x : Nb} {w : World} {pa : Option Addr} {np cp : Nat} {ps : List Int} (hN : Nd D w b t) (hX : Nd Dx w x tx) (hp : PathOk w pa np cp ps) :
    Calls Try.prog 7 #[.agg b.arr, .slice pa np cp, .agg x.arr] w fun e w' => e = .returned (.bool true) ∧ Below w.heap.size w w' := by
  have T0 : Hid (Bo2 w ((w.alloc (.cells b.arr 26)).alloc (.cells x.arr 26)) b x) := bo2_new w b x
  obtain ⟨a0, a1, a2, a3, a4, a5, a6, a7, a8⟩ := T0.out.one.fields
  obtain ⟨c0, c1, c2, c3, c4, c5, c6, c7, c8⟩ := T0.out.two.fields
  have k1 := gat_any (hN.kept T0.out.bel) (hp.kept T0.out.bel)
  have kP : Hid (∀ w', Below w.heap.size w w' → Calls Try.prog 23 #[.agg b.arr, .slice pa np cp, .agg x.arr] w' _) := fun w' hb => gput_any (hN.kept hb) (hX.kept hb) (hp.kept hb)
  have kA : Hid (∀ w', Below w.heap.size w w' → Calls Try.prog 11 #[] w' fun e w'' => e = .returned (.bool true) ∧ Below w'.heap.size w' w'') := fun w' _ => alive_any w'
  have hN' : Hid (Nd D w b t) := hN
  have hX' : Hid (Nd Dx w x tx) := hX
  have hP : Hid (PathOk w pa np cp ps) := hp
  clear hN hX hp
  by_cases hE : 1024 < t.size ∨ t.find ps = none
  · have hE' : Hid (1024 < t.size ∨ t.find ps = none) := hE
    have hF' : Hid (1024 < t.size ∨ 1024 < tx.size ∨ t.find ps = none) := hE.imp id .inr
    clear hE
    go_enter Try.func7, Try.ntmps7
    go_wp2_with (first
      | (go_at_call 20; refine k1.mono ?_; rintro e w1 ⟨⟨b1, e1, he, hA1⟩, hb1⟩; rw [Nb.arr] at he; subst he; obtain ⟨g1, g2⟩ := at_err hA1 hE'.out; clear hA1; clear k1; have A1 := alloc_below w1 (.cells #[.int .i64 b1.kind, .int .u64 b1.num, .bool b1.neg, .string b1.dig, .int .i64 b1.exp, .string b1.txt, .slice b1.ab b1.lb b1.cb, .slice b1.ak b1.lk b1.ck, .slice b1.ai b1.li b1.ci] 26); have T1 : Hid (Bo2 w (w1.alloc (.cells #[.int .i64 b1.kind, .int .u64 b1.num, .bool b1.neg, .string b1.dig, .int .i64 b1.exp, .string b1.txt, .slice b1.ab b1.lb b1.cb, .slice b1.ak b1.lk b1.ck, .slice b1.ai b1.li b1.ci] 26)) b x) := (T0.out.on hb1).on A1; have N7 : Hid (NBox (w1.alloc (.cells #[.int .i64 b1.kind, .int .u64 b1.num, .bool b1.neg, .string b1.dig, .int .i64 b1.exp, .string b1.txt, .slice b1.ab b1.lb b1.cb, .slice b1.ak b1.lk b1.ck, .slice b1.ai b1.li b1.ci] 26)) w1.heap.size b1) := nbox_new w1 b1; clear a0 a1 a2 a3 a4 a5 a6 a7 a8; clear c0 c1 c2 c3 c4 c5 c6 c7 c8; obtain ⟨a0, a1, a2, a3, a4, a5, a6, a7, a8⟩ := T1.out.one.fields; obtain ⟨c0, c1, c2, c3, c4, c5, c6, c7, c8⟩ := T1.out.two.fields; have k2 := kP.out _ T1.out.bel)
      | (go_at_call 23; refine k2.mono ?_; rintro e w2 ⟨⟨b2, e2, he, hA2⟩, hb2⟩; rw [Nb.arr] at he; subst he; have g3 := put_err hA2 hF'.out; clear hA2; clear k2; have A2 := alloc_below w2 (.cells #[.int .i64 b2.kind, .int .u64 b2.num, .bool b2.neg, .string b2.dig, .int .i64 b2.exp, .string b2.txt, .slice b2.ab b2.lb b2.cb, .slice b2.ak b2.lk b2.ck, .slice b2.ai b2.li b2.ci] 26); have T2 : Hid (Bo2 w (w2.alloc (.cells #[.int .i64 b2.kind, .int .u64 b2.num, .bool b2.neg, .string b2.dig, .int .i64 b2.exp, .string b2.txt, .slice b2.ab b2.lb b2.cb, .slice b2.ak b2.lk b2.ck, .slice b2.ai b2.li b2.ci] 26)) b x) := (T1.out.on hb2).on A2; have M7 : Hid (NBox (w2.alloc (.cells #[.int .i64 b2.kind, .int .u64 b2.num, .bool b2.neg, .string b2.dig, .int .i64 b2.exp, .string b2.txt, .slice b2.ab b2.lb b2.cb, .slice b2.ak b2.lk b2.ck, .slice b2.ai b2.li b2.ci] 26)) w1.heap.size b1) := (N7.out.kept hb2 N7.out.lt).kept A2 (Nat.lt_of_lt_of_le N7.out.lt hb2.size); have N9 : Hid (NBox (w2.alloc (.cells #[.int .i64 b2.kind, .int .u64 b2.num, .bool b2.neg, .string b2.dig, .int .i64 b2.exp, .string b2.txt, .slice b2.ab b2.lb b2.cb, .slice b2.ak b2.lk b2.ck, .slice b2.ai b2.li b2.ci] 26)) w2.heap.size b2) := nbox_new w2 b2; clear a0 a1 a2 a3 a4 a5 a6 a7 a8; clear c0 c1 c2 c3 c4 c5 c6 c7 c8; obtain ⟨a0, a1, a2, a3, a4, a5, a6, a7, a8⟩ := N9.out.fields; have kL := kA.out _ T2.out.bel)
      | (go_at_call 11; refine kL.mono ?_; rintro e w9 ⟨rfl, hb9⟩))
    go_ret
    exact ⟨rfl, T2.out.bel.trans (hb9.mono T2.out.bel.size)⟩
  have hs : t.size ≤ 1024 := by omega
  obtain ⟨u, hu⟩ : ∃ u, t.find ps = some u := by
    cases h : t.find ps with
    | none => exact absurd (.inr h) hE
    | some u => exact ⟨u, rfl⟩
  have hs' : Hid (t.size ≤ 1024) := hs
  have hu' : Hid (t.find ps = some u) := hu
  by_cases hxs : tx.size ≤ 1024
  · have hxs' : Hid (tx.size ≤ 1024) := hxs
    obtain ⟨m, hm⟩ : ∃ m, t.lay tx ps = some m := by
      have := Tr.lay_find tx ps t
      rw [hu] at this
      cases h : t.lay tx ps with
      | none => rw [h] at this; cases this
      | some m => exact ⟨m, rfl⟩
    have hm' : Hid (t.lay tx ps = some m) := hm
    have kF : Hid (∀ (w' : World) (b2 : Nb) (E : Nat), Nd E w' b2 m → Calls Try.prog 13 #[.agg b2.arr] w' fun e w'' => e = .returned (.bool (decide (m.size ≤ 1024))) ∧ Below w'.heap.size w' w'') := fun w' b2 E h => efew_any h
    clear hE hs hu hxs
    by_cases hms : m.size ≤ 1024
    · rw [decide_eq_true hms] at kF
      have kG : Hid (∀ (w' : World) (b2 : Nb) (E : Nat), Below w.heap.size w w' → Nd E w' b2 m → Calls Try.prog 20 #[.agg b2.arr, .slice pa np cp] w' fun e w'' => (∃ b4, e = .returned (.tuple #[.agg b4.arr, .int .i64 0]) ∧ Nd E w'' b4 tx) ∧ Below w'.heap.size w' w'') := fun w' b2 E hb h => (gat_any h (hP.out.kept hb)).mono fun e w'' ⟨⟨b4, e4, he, hA⟩, hb4⟩ => by
        obtain ⟨rfl, f, hF⟩ := at_ok hA hms (Tr.find_lay tx ps t m hm'.out)
        exact ⟨⟨b4, he, hF.1.nd⟩, hb4⟩
      have kH : Hid (∀ (w' : World) (b2 b1 : Nb) (E E1 : Nat), Below w.heap.size w w' → Nd E w' b2 m → Nd E1 w' b1 u → Calls Try.prog 23 #[.agg b2.arr, .slice pa np cp, .agg b1.arr] w' fun e w'' => (∃ b5 E5, e = .returned (.tuple #[.agg b5.arr, .int .i64 0]) ∧ Nd E5 w'' b5 t) ∧ Below w'.heap.size w' w'') := fun w' b2 b1 E E1 hb h h1 => (gput_any h h1 (hP.out.kept hb)).mono fun e w'' ⟨⟨b5, e5, he, hA⟩, hb5⟩ => by
        obtain ⟨rfl, E5, f, hF⟩ := put_ok hA hms (Nat.le_trans (Tr.find_size hu'.out) hs'.out) (Tr.lay_back tx ps t m u hm'.out hu'.out)
        exact ⟨⟨b5, E5, he, hF.1.nd⟩, hb5⟩
      have kS : Hid (∀ (w' : World) (b4 : Nb) (E : Nat), Below w.heap.size w w' → Nd E w' b4 tx → Calls Try.prog 15 #[.agg b4.arr, .agg x.arr] w' fun e w'' => e = .returned (.bool true) ∧ Below w'.heap.size w' w'') := fun w' b4 E hb h => esame_any h (hX'.out.kept hb) (by simp [hxs'.out])
      have kT : Hid (∀ (w' : World) (b5 : Nb) (E : Nat), Below w.heap.size w w' → Nd E w' b5 t → Calls Try.prog 15 #[.agg b5.arr, .agg b.arr] w' fun e w'' => e = .returned (.bool true) ∧ Below w'.heap.size w' w'') := fun w' b5 E hb h => esame_any h (hN'.out.kept hb) (by simp [hs'.out])
      clear hms hm
      go_enter Try.func7, Try.ntmps7
      go_wp2_with (first
        | (go_at_call 20; refine k1.mono ?_; rintro e w1 ⟨⟨b1, e1, he, hA1⟩, hb1⟩; rw [Nb.arr] at he; subst he; obtain ⟨rfl, f1, hF1⟩ := at_ok hA1 hs'.out hu'.out; clear hA1; have U1 := hF1.1.nd; clear k1; have A1 := alloc_below w1 (.cells #[.int .i64 b1.kind, .int .u64 b1.num, .bool b1.neg, .string b1.dig, .int .i64 b1.exp, .string b1.txt, .slice b1.ab b1.lb b1.cb, .slice b1.ak b1.lk b1.ck, .slice b1.ai b1.li b1.ci] 26); have T1 : Hid (Bo2 w (w1.alloc (.cells #[.int .i64 b1.kind, .int .u64 b1.num, .bool b1.neg, .string b1.dig, .int .i64 b1.exp, .string b1.txt, .slice b1.ab b1.lb b1.cb, .slice b1.ak b1.lk b1.ck, .slice b1.ai b1.li b1.ci] 26)) b x) := (T0.out.on hb1).on A1; have N7 : Hid (NBox (w1.alloc (.cells #[.int .i64 b1.kind, .int .u64 b1.num, .bool b1.neg, .string b1.dig, .int .i64 b1.exp, .string b1.txt, .slice b1.ab b1.lb b1.cb, .slice b1.ak b1.lk b1.ck, .slice b1.ai b1.li b1.ci] 26)) w1.heap.size b1) := nbox_new w1 b1; clear a0 a1 a2 a3 a4 a5 a6 a7 a8; clear c0 c1 c2 c3 c4 c5 c6 c7 c8; obtain ⟨a0, a1, a2, a3, a4, a5, a6, a7, a8⟩ := T1.out.one.fields; obtain ⟨c0, c1, c2, c3, c4, c5, c6, c7, c8⟩ := T1.out.two.fields; have k2 := kP.out _ T1.out.bel)
        | (go_at_call 23; refine k2.mono ?_; rintro e w2 ⟨⟨b2, e2, he, hA2⟩, hb2⟩; rw [Nb.arr] at he; subst he; obtain ⟨rfl, E2, f2, hF2⟩ := put_ok hA2 hs'.out hxs'.out hm'.out; clear hA2; clear k2; have A2 := alloc_below w2 (.cells #[.int .i64 b2.kind, .int .u64 b2.num, .bool b2.neg, .string b2.dig, .int .i64 b2.exp, .string b2.txt, .slice b2.ab b2.lb b2.cb, .slice b2.ak b2.lk b2.ck, .slice b2.ai b2.li b2.ci] 26); have T2 : Hid (Bo2 w (w2.alloc (.cells #[.int .i64 b2.kind, .int .u64 b2.num, .bool b2.neg, .string b2.dig, .int .i64 b2.exp, .string b2.txt, .slice b2.ab b2.lb b2.cb, .slice b2.ak b2.lk b2.ck, .slice b2.ai b2.li b2.ci] 26)) b x) := (T1.out.on hb2).on A2; have M7 : Hid (NBox (w2.alloc (.cells #[.int .i64 b2.kind, .int .u64 b2.num, .bool b2.neg, .string b2.dig, .int .i64 b2.exp, .string b2.txt, .slice b2.ab b2.lb b2.cb, .slice b2.ak b2.lk b2.ck, .slice b2.ai b2.li b2.ci] 26)) w1.heap.size b1) := (N7.out.kept hb2 N7.out.lt).kept A2 (Nat.lt_of_lt_of_le N7.out.lt hb2.size); have N9 : Hid (NBox (w2.alloc (.cells #[.int .i64 b2.kind, .int .u64 b2.num, .bool b2.neg, .string b2.dig, .int .i64 b2.exp, .string b2.txt, .slice b2.ab b2.lb b2.cb, .slice b2.ak b2.lk b2.ck, .slice b2.ai b2.li b2.ci] 26)) w2.heap.size b2) := nbox_new w2 b2; clear a0 a1 a2 a3 a4 a5 a6 a7 a8; clear c0 c1 c2 c3 c4 c5 c6 c7 c8; obtain ⟨a0, a1, a2, a3, a4, a5, a6, a7, a8⟩ := N9.out.fields; have D2 := hF2.1.nd.kept A2; have U2 := ((U1.kept A1).kept hb2).kept A2; have k3 := kF.out _ b2 _ D2)
        | (go_at_call 13; refine k3.mono ?_; rintro e w3 ⟨rfl, hb3⟩; clear k3; have T3 : Hid (Bo2 w w3 b x) := T2.out.on hb3; have O9 : Hid (NBox w3 w2.heap.size b2) := N9.out.kept hb3 N9.out.lt; have O7 : Hid (NBox w3 w1.heap.size b1) := M7.out.kept hb3 M7.out.lt; clear a0 a1 a2 a3 a4 a5 a6 a7 a8; obtain ⟨a0, a1, a2, a3, a4, a5, a6, a7, a8⟩ := O9.out.fields; have D3 := D2.kept hb3; have U3 := U2.kept hb3; have k4 := kG.out w3 b2 _ T3.out.bel D3)
        | (go_at_call 20; refine k4.mono ?_; rintro e w4 ⟨⟨b4, he, hY⟩, hb4⟩; rw [Nb.arr] at he; subst he; clear k4; have A4 := alloc_below w4 (.cells #[.int .i64 b4.kind, .int .u64 b4.num, .bool b4.neg, .string b4.dig, .int .i64 b4.exp, .string b4.txt, .slice b4.ab b4.lb b4.cb, .slice b4.ak b4.lk b4.ck, .slice b4.ai b4.li b4.ci] 26); have hb44 := hb4.trans (A4.mono hb4.size); have T4 : Hid (Bo2 w (w4.alloc (.cells #[.int .i64 b4.kind, .int .u64 b4.num, .bool b4.neg, .string b4.dig, .int .i64 b4.exp, .string b4.txt, .slice b4.ab b4.lb b4.cb, .slice b4.ak b4.lk b4.ck, .slice b4.ai b4.li b4.ci] 26)) b x) := T3.out.on hb44; have N11 : Hid (NBox (w4.alloc (.cells #[.int .i64 b4.kind, .int .u64 b4.num, .bool b4.neg, .string b4.dig, .int .i64 b4.exp, .string b4.txt, .slice b4.ab b4.lb b4.cb, .slice b4.ak b4.lk b4.ck, .slice b4.ai b4.li b4.ci] 26)) w4.heap.size b4) := nbox_new w4 b4; have V9 : Hid (NBox (w4.alloc (.cells #[.int .i64 b4.kind, .int .u64 b4.num, .bool b4.neg, .string b4.dig, .int .i64 b4.exp, .string b4.txt, .slice b4.ab b4.lb b4.cb, .slice b4.ak b4.lk b4.ck, .slice b4.ai b4.li b4.ci] 26)) w2.heap.size b2) := O9.out.kept hb44 O9.out.lt; have V7 : Hid (NBox (w4.alloc (.cells #[.int .i64 b4.kind, .int .u64 b4.num, .bool b4.neg, .string b4.dig, .int .i64 b4.exp, .string b4.txt, .slice b4.ab b4.lb b4.cb, .slice b4.ak b4.lk b4.ck, .slice b4.ai b4.li b4.ci] 26)) w1.heap.size b1) := O7.out.kept hb44 O7.out.lt; clear a0 a1 a2 a3 a4 a5 a6 a7 a8; obtain ⟨a0, a1, a2, a3, a4, a5, a6, a7, a8⟩ := V9.out.fields; obtain ⟨c0, c1, c2, c3, c4, c5, c6, c7, c8⟩ := V7.out.fields; have D4 := D3.kept hb44; have U4 := U3.kept hb44; have Y4 := hY.kept A4; have k5 := kH.out _ b2 b1 _ _ T4.out.bel D4 U4)
        | (go_at_call 23; refine k5.mono ?_; rintro e w5 ⟨⟨b5, E5, he, hK5⟩, hb5⟩; rw [Nb.arr] at he; subst he; clear k5; have A5 := alloc_below w5 (.cells #[.int .i64 b5.kind, .int .u64 b5.num, .bool b5.neg, .string b5.dig, .int .i64 b5.exp, .string b5.txt, .slice b5.ab b5.lb b5.cb, .slice b5.ak b5.lk b5.ck, .slice b5.ai b5.li b5.ci] 26); have hb55 := hb5.trans (A5.mono hb5.size); have T5 : Hid (Bo2 w (w5.alloc (.cells #[.int .i64 b5.kind, .int .u64 b5.num, .bool b5.neg, .string b5.dig, .int .i64 b5.exp, .string b5.txt, .slice b5.ab b5.lb b5.cb, .slice b5.ak b5.lk b5.ck, .slice b5.ai b5.li b5.ci] 26)) b x) := T4.out.on hb55; have N13 : Hid (NBox (w5.alloc (.cells #[.int .i64 b5.kind, .int .u64 b5.num, .bool b5.neg, .string b5.dig, .int .i64 b5.exp, .string b5.txt, .slice b5.ab b5.lb b5.cb, .slice b5.ak b5.lk b5.ck, .slice b5.ai b5.li b5.ci] 26)) w5.heap.size b5) := nbox_new w5 b5; have V11 : Hid (NBox (w5.alloc (.cells #[.int .i64 b5.kind, .int .u64 b5.num, .bool b5.neg, .string b5.dig, .int .i64 b5.exp, .string b5.txt, .slice b5.ab b5.lb b5.cb, .slice b5.ak b5.lk b5.ck, .slice b5.ai b5.li b5.ci] 26)) w4.heap.size b4) := N11.out.kept hb55 N11.out.lt; clear a0 a1 a2 a3 a4 a5 a6 a7 a8; clear c0 c1 c2 c3 c4 c5 c6 c7 c8; obtain ⟨a0, a1, a2, a3, a4, a5, a6, a7, a8⟩ := V11.out.fields; obtain ⟨c0, c1, c2, c3, c4, c5, c6, c7, c8⟩ := T5.out.two.fields; have Y5 := Y4.kept hb55; have K5 := hK5.kept A5; have k6 := kS.out _ b4 _ T5.out.bel Y5)
        | (go_at_call 15; refine k6.mono ?_; rintro e w6 ⟨rfl, hb6⟩; clear k6; have T6 : Hid (Bo2 w w6 b x) := T5.out.on hb6; clear a0 a1 a2 a3 a4 a5 a6 a7 a8; clear c0 c1 c2 c3 c4 c5 c6 c7 c8; obtain ⟨a0, a1, a2, a3, a4, a5, a6, a7, a8⟩ := (N13.out.kept hb6 N13.out.lt).fields; obtain ⟨c0, c1, c2, c3, c4, c5, c6, c7, c8⟩ := T6.out.one.fields; have k7 := kT.out _ b5 _ T6.out.bel (K5.kept hb6))
        | (go_at_call 15; refine k7.mono ?_; rintro e w7 ⟨rfl, hb7⟩; clear k7; have T7 : Hid (Bo2 w w7 b x) := T6.out.on hb7; have kL := kA.out _ T7.out.bel)
        | (go_at_call 11; refine kL.mono ?_; rintro e w9 ⟨rfl, hb9⟩))
      go_ret
      exact ⟨rfl, T7.out.bel.trans (hb9.mono T7.out.bel.size)⟩
    · rw [decide_eq_false hms] at kF
      clear hms hm
      go_enter Try.func7, Try.ntmps7
      go_wp2_with (first
        | (go_at_call 20; refine k1.mono ?_; rintro e w1 ⟨⟨b1, e1, he, hA1⟩, hb1⟩; rw [Nb.arr] at he; subst he; obtain ⟨rfl, f1, hF1⟩ := at_ok hA1 hs'.out hu'.out; clear hA1; have U1 := hF1.1.nd; clear k1; have A1 := alloc_below w1 (.cells #[.int .i64 b1.kind, .int .u64 b1.num, .bool b1.neg, .string b1.dig, .int .i64 b1.exp, .string b1.txt, .slice b1.ab b1.lb b1.cb, .slice b1.ak b1.lk b1.ck, .slice b1.ai b1.li b1.ci] 26); have T1 : Hid (Bo2 w (w1.alloc (.cells #[.int .i64 b1.kind, .int .u64 b1.num, .bool b1.neg, .string b1.dig, .int .i64 b1.exp, .string b1.txt, .slice b1.ab b1.lb b1.cb, .slice b1.ak b1.lk b1.ck, .slice b1.ai b1.li b1.ci] 26)) b x) := (T0.out.on hb1).on A1; have N7 : Hid (NBox (w1.alloc (.cells #[.int .i64 b1.kind, .int .u64 b1.num, .bool b1.neg, .string b1.dig, .int .i64 b1.exp, .string b1.txt, .slice b1.ab b1.lb b1.cb, .slice b1.ak b1.lk b1.ck, .slice b1.ai b1.li b1.ci] 26)) w1.heap.size b1) := nbox_new w1 b1; clear a0 a1 a2 a3 a4 a5 a6 a7 a8; clear c0 c1 c2 c3 c4 c5 c6 c7 c8; obtain ⟨a0, a1, a2, a3, a4, a5, a6, a7, a8⟩ := T1.out.one.fields; obtain ⟨c0, c1, c2, c3, c4, c5, c6, c7, c8⟩ := T1.out.two.fields; have k2 := kP.out _ T1.out.bel)
        | (go_at_call 23; refine k2.mono ?_; rintro e w2 ⟨⟨b2, e2, he, hA2⟩, hb2⟩; rw [Nb.arr] at he; subst he; obtain ⟨rfl, E2, f2, hF2⟩ := put_ok hA2 hs'.out hxs'.out hm'.out; clear hA2; clear k2; have A2 := alloc_below w2 (.cells #[.int .i64 b2.kind, .int .u64 b2.num, .bool b2.neg, .string b2.dig, .int .i64 b2.exp, .string b2.txt, .slice b2.ab b2.lb b2.cb, .slice b2.ak b2.lk b2.ck, .slice b2.ai b2.li b2.ci] 26); have T2 : Hid (Bo2 w (w2.alloc (.cells #[.int .i64 b2.kind, .int .u64 b2.num, .bool b2.neg, .string b2.dig, .int .i64 b2.exp, .string b2.txt, .slice b2.ab b2.lb b2.cb, .slice b2.ak b2.lk b2.ck, .slice b2.ai b2.li b2.ci] 26)) b x) := (T1.out.on hb2).on A2; have M7 : Hid (NBox (w2.alloc (.cells #[.int .i64 b2.kind, .int .u64 b2.num, .bool b2.neg, .string b2.dig, .int .i64 b2.exp, .string b2.txt, .slice b2.ab b2.lb b2.cb, .slice b2.ak b2.lk b2.ck, .slice b2.ai b2.li b2.ci] 26)) w1.heap.size b1) := (N7.out.kept hb2 N7.out.lt).kept A2 (Nat.lt_of_lt_of_le N7.out.lt hb2.size); have N9 : Hid (NBox (w2.alloc (.cells #[.int .i64 b2.kind, .int .u64 b2.num, .bool b2.neg, .string b2.dig, .int .i64 b2.exp, .string b2.txt, .slice b2.ab b2.lb b2.cb, .slice b2.ak b2.lk b2.ck, .slice b2.ai b2.li b2.ci] 26)) w2.heap.size b2) := nbox_new w2 b2; clear a0 a1 a2 a3 a4 a5 a6 a7 a8; clear c0 c1 c2 c3 c4 c5 c6 c7 c8; obtain ⟨a0, a1, a2, a3, a4, a5, a6, a7, a8⟩ := N9.out.fields; have D2 := hF2.1.nd.kept A2; have U2 := ((U1.kept A1).kept hb2).kept A2; have k3 := kF.out _ b2 _ D2)
        | (go_at_call 13; refine k3.mono ?_; rintro e w3 ⟨rfl, hb3⟩; clear k3; have T3 : Hid (Bo2 w w3 b x) := T2.out.on hb3; have kL := kA.out _ T3.out.bel)
        | (go_at_call 11; refine kL.mono ?_; rintro e w9 ⟨rfl, hb9⟩))
      go_ret
      exact ⟨rfl, T3.out.bel.trans (hb9.mono T3.out.bel.size)⟩
  · have hF' : Hid (1024 < t.size ∨ 1024 < tx.size ∨ t.find ps = none) := .inr (.inl (by omega))
    clear hE hs hu hxs
    go_enter Try.func7, Try.ntmps7
    go_wp2_with (first
      | (go_at_call 20; refine k1.mono ?_; rintro e w1 ⟨⟨b1, e1, he, hA1⟩, hb1⟩; rw [Nb.arr] at he; subst he; obtain ⟨rfl, f1, hF1⟩ := at_ok hA1 hs'.out hu'.out; clear hA1 hF1; clear k1; have A1 := alloc_below w1 (.cells #[.int .i64 b1.kind, .int .u64 b1.num, .bool b1.neg, .string b1.dig, .int .i64 b1.exp, .string b1.txt, .slice b1.ab b1.lb b1.cb, .slice b1.ak b1.lk b1.ck, .slice b1.ai b1.li b1.ci] 26); have T1 : Hid (Bo2 w (w1.alloc (.cells #[.int .i64 b1.kind, .int .u64 b1.num, .bool b1.neg, .string b1.dig, .int .i64 b1.exp, .string b1.txt, .slice b1.ab b1.lb b1.cb, .slice b1.ak b1.lk b1.ck, .slice b1.ai b1.li b1.ci] 26)) b x) := (T0.out.on hb1).on A1; have N7 : Hid (NBox (w1.alloc (.cells #[.int .i64 b1.kind, .int .u64 b1.num, .bool b1.neg, .string b1.dig, .int .i64 b1.exp, .string b1.txt, .slice b1.ab b1.lb b1.cb, .slice b1.ak b1.lk b1.ck, .slice b1.ai b1.li b1.ci] 26)) w1.heap.size b1) := nbox_new w1 b1; clear a0 a1 a2 a3 a4 a5 a6 a7 a8; clear c0 c1 c2 c3 c4 c5 c6 c7 c8; obtain ⟨a0, a1, a2, a3, a4, a5, a6, a7, a8⟩ := T1.out.one.fields; obtain ⟨c0, c1, c2, c3, c4, c5, c6, c7, c8⟩ := T1.out.two.fields; have k2 := kP.out _ T1.out.bel)
      | (go_at_call 23; refine k2.mono ?_; rintro e w2 ⟨⟨b2, e2, he, hA2⟩, hb2⟩; rw [Nb.arr] at he; subst he; have g3 := put_err hA2 hF'.out; clear hA2; clear k2; have A2 := alloc_below w2 (.cells #[.int .i64 b2.kind, .int .u64 b2.num, .bool b2.neg, .string b2.dig, .int .i64 b2.exp, .string b2.txt, .slice b2.ab b2.lb b2.cb, .slice b2.ak b2.lk b2.ck, .slice b2.ai b2.li b2.ci] 26); have T2 : Hid (Bo2 w (w2.alloc (.cells #[.int .i64 b2.kind, .int .u64 b2.num, .bool b2.neg, .string b2.dig, .int .i64 b2.exp, .string b2.txt, .slice b2.ab b2.lb b2.cb, .slice b2.ak b2.lk b2.ck, .slice b2.ai b2.li b2.ci] 26)) b x) := (T1.out.on hb2).on A2; have M7 : Hid (NBox (w2.alloc (.cells #[.int .i64 b2.kind, .int .u64 b2.num, .bool b2.neg, .string b2.dig, .int .i64 b2.exp, .string b2.txt, .slice b2.ab b2.lb b2.cb, .slice b2.ak b2.lk b2.ck, .slice b2.ai b2.li b2.ci] 26)) w1.heap.size b1) := (N7.out.kept hb2 N7.out.lt).kept A2 (Nat.lt_of_lt_of_le N7.out.lt hb2.size); have N9 : Hid (NBox (w2.alloc (.cells #[.int .i64 b2.kind, .int .u64 b2.num, .bool b2.neg, .string b2.dig, .int .i64 b2.exp, .string b2.txt, .slice b2.ab b2.lb b2.cb, .slice b2.ak b2.lk b2.ck, .slice b2.ai b2.li b2.ci] 26)) w2.heap.size b2) := nbox_new w2 b2; clear a0 a1 a2 a3 a4 a5 a6 a7 a8; clear c0 c1 c2 c3 c4 c5 c6 c7 c8; obtain ⟨a0, a1, a2, a3, a4, a5, a6, a7, a8⟩ := N9.out.fields; have kL := kA.out _ T2.out.bel)
      | (go_at_call 11; refine kL.mono ?_; rintro e w9 ⟨rfl, hb9⟩))
    go_ret
    exact ⟨rfl, T2.out.bel.trans (hb9.mono T2.out.bel.size)⟩
end Go.Proofs.Ytkealjaealeojaa
