/-
  A tree with any node at the end of any path: the walk of the statement.
-/
import Derived.Test.YtkealjaealeojaaQEpu
import Derived.Test.YtkealjaealeojaaQGh
namespace Go.Proofs.Ytkealjaealeojaa
open Go.RowKit
set_option linter.unusedVariables false
/-- Both answers meet. -/
theorem puts_meet {B : Nat} {w1 wa w2 wb : World} {t tx : Tr} {ps : List Int} {b1 b2 : Nb} {e1 e2 : Int} (hA : PutIs B w1 t tx ps b1 e1) (hE : EPutIs w2 t tx ps b2 e2)
    (hA1 : Below w1.heap.size w1 wa) (hb2 : Below wa.heap.size wa w2) (hA2 : Below w2.heap.size w2 wb) :
    Calls Try.prog 22 #[.agg b1.arr, .agg b2.arr] wb (fun e w' => e = .returned (.bool true) ∧ Below wb.heap.size wb w') ∧ (e1 == e2) = true := by
  have hno : t.find ps = none → t.lay tx ps = none := fun h => by
    have := Tr.lay_find tx ps t
    rw [h] at this
    cases q : t.lay tx ps with
    | none => rfl
    | some m => rw [q] at this; cases this
  rcases hA with ⟨h1, rfl, rfl⟩ | ⟨h1, h1', h2, rfl, rfl⟩ | ⟨h1, h1', rfl, D, m, f, h2, h3⟩
  · rcases hE with ⟨_, rfl, rfl⟩ | ⟨g1, g2, _⟩ | ⟨g1, g2, _⟩
    · exact ⟨both_any (nd_zero 0 wb) (nd_zero 0 wb) rfl, rfl⟩
    · rcases h1 with h | h <;> omega
    · rcases h1 with h | h <;> omega
  · rcases hE with ⟨g1, _⟩ | ⟨_, _, _, rfl, rfl⟩ | ⟨_, _, _, E, v, g2, _⟩
    · rcases g1 with h | h <;> omega
    · exact ⟨both_any (nd_zero 0 wb) (nd_zero 0 wb) rfl, rfl⟩
    · rw [hno h2] at g2; cases g2
  · rcases hE with ⟨g1, _⟩ | ⟨_, _, g2, _⟩ | ⟨_, _, rfl, E, v, g2, g3⟩
    · rcases g1 with h | h <;> omega
    · rw [h2] at g2; cases g2
    · rw [h2] at g2
      cases g2
      exact ⟨both_any (((h3.1.nd.kept hA1).kept hb2).kept hA2) (g3.kept hA2) rfl, rfl⟩
set_option maxHeartbeats 2000000 in
set_option maxRecDepth 100000 in
theorem wputs {D Dx : Nat} {t tx : Tr} {b x : Nb} {w : World} {pa : Option Addr} {np cp : Nat} {ps : List Int} (hN : Nd D w b t) (hX : Nd Dx w x tx) (hp : PathOk w pa np cp ps) :
    Calls Try.prog 6 #[.agg b.arr, .slice pa np cp, .agg x.arr] w fun e w' => e = .returned (.bool true) ∧ Below w.heap.size w w' := by
  have T0 : Hid (Bo2 w ((w.alloc (.cells b.arr 26)).alloc (.cells x.arr 26)) b x) := bo2_new w b x
  obtain ⟨a0, a1, a2, a3, a4, a5, a6, a7, a8⟩ := T0.out.one.fields
  obtain ⟨f0, f1, f2, f3, f4, f5, f6, f7, f8⟩ := T0.out.two.fields
  have k1 := gput_any (hN.kept T0.out.bel) (hX.kept T0.out.bel) (hp.kept T0.out.bel)
  have kE : Hid (∀ w', Below w.heap.size w w' → Calls Try.prog 24 #[.agg b.arr, .slice pa np cp, .agg x.arr] w' _) := fun w' hb => eput_any (hN.kept hb) (hX.kept hb) (hp.kept hb)
  have kA : Hid (∀ w', Calls Try.prog 11 #[] w' _) := fun w' => alive_any w'
  clear hN hX hp
  go_enter Try.func6, Try.ntmps6
  go_wp2_with (first
    | (go_at_call 23; refine k1.mono ?_; rintro e w1 ⟨⟨b1, e1, he, hA⟩, hb1⟩; rw [Nb.arr] at he; subst he; clear k1; clear a0 a1 a2 a3 a4 a5 a6 a7 a8; clear f0 f1 f2 f3 f4 f5 f6 f7 f8; have A1 := alloc_below w1 (.cells #[.int .i64 b1.kind, .int .u64 b1.num, .bool b1.neg, .string b1.dig, .int .i64 b1.exp, .string b1.txt, .slice b1.ab b1.lb b1.cb, .slice b1.ak b1.lk b1.ck, .slice b1.ai b1.li b1.ci] 26); have T1 : Hid (Bo2 w (w1.alloc (.cells #[.int .i64 b1.kind, .int .u64 b1.num, .bool b1.neg, .string b1.dig, .int .i64 b1.exp, .string b1.txt, .slice b1.ab b1.lb b1.cb, .slice b1.ak b1.lk b1.ck, .slice b1.ai b1.li b1.ci] 26)) b x) := (T0.out.on hb1).on A1; have P1 : Hid (NBox (w1.alloc (.cells #[.int .i64 b1.kind, .int .u64 b1.num, .bool b1.neg, .string b1.dig, .int .i64 b1.exp, .string b1.txt, .slice b1.ab b1.lb b1.cb, .slice b1.ak b1.lk b1.ck, .slice b1.ai b1.li b1.ci] 26)) w1.heap.size b1) := nbox_new w1 b1; have hA' : Hid (PutIs _ _ _ _ _ _ _) := hA; have A1' : Hid (Below _ _ _) := A1; clear hA A1; obtain ⟨a0, a1, a2, a3, a4, a5, a6, a7, a8⟩ := T1.out.one.fields; obtain ⟨f0, f1, f2, f3, f4, f5, f6, f7, f8⟩ := T1.out.two.fields; have k2 := kE.out _ T1.out.bel)
    | (go_at_call 24; refine k2.mono ?_; rintro e w2 ⟨⟨b2, e2, he, hE⟩, hb2⟩; rw [Nb.arr] at he; subst he; clear k2; clear a0 a1 a2 a3 a4 a5 a6 a7 a8; clear f0 f1 f2 f3 f4 f5 f6 f7 f8; have A2 := alloc_below w2 (.cells #[.int .i64 b2.kind, .int .u64 b2.num, .bool b2.neg, .string b2.dig, .int .i64 b2.exp, .string b2.txt, .slice b2.ab b2.lb b2.cb, .slice b2.ak b2.lk b2.ck, .slice b2.ai b2.li b2.ci] 26); have B3 : Hid (Below w.heap.size w (w2.alloc (.cells #[.int .i64 b2.kind, .int .u64 b2.num, .bool b2.neg, .string b2.dig, .int .i64 b2.exp, .string b2.txt, .slice b2.ab b2.lb b2.cb, .slice b2.ak b2.lk b2.ck, .slice b2.ai b2.li b2.ci] 26))) := ((T1.out.on hb2).on A2).bel; have P1' := (P1.out.kept hb2 P1.out.lt).kept A2 (Nat.lt_of_lt_of_le P1.out.lt hb2.size); have P2 : NBox (w2.alloc (.cells #[.int .i64 b2.kind, .int .u64 b2.num, .bool b2.neg, .string b2.dig, .int .i64 b2.exp, .string b2.txt, .slice b2.ab b2.lb b2.cb, .slice b2.ak b2.lk b2.ck, .slice b2.ai b2.li b2.ci] 26)) w2.heap.size b2 := nbox_new w2 b2; obtain ⟨c0, c1, c2, c3, c4, c5, c6, c7, c8⟩ := P1'.fields; obtain ⟨d0, d1, d2, d3, d4, d5, d6, d7, d8⟩ := P2.fields; obtain ⟨k3, hee⟩ := puts_meet hA'.out hE A1'.out hb2 A2; have hee' : (e1 == e2) = true := hee; clear hee hE A2)
    | (go_at_call 22; refine k3.mono ?_; rintro e w4 ⟨rfl, hb4⟩; have B4 := B3.out.trans (hb4.mono B3.out.size); have k5 := kA.out w4)
    | (go_at_call 11; refine k5.mono ?_; rintro e w5 ⟨rfl, hb5⟩))
  go_ret
  exact ⟨rfl, B4.trans (hb5.mono B4.size)⟩
end Go.Proofs.Ytkealjaealeojaa
