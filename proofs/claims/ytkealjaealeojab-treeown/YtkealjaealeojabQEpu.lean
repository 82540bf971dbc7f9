/-
  The document's Put.
-/
import Derived.Test.YtkealjaealeojabQEly
namespace Go.Proofs.Ytkealjaealeojab
open Go.RowKit
set_option linter.unusedVariables false
/-- What the document's Put answers. -/
def EPutIs (w' : World) (t x : Tr) (ps : List Int) (b' : Nb) (er : Int) : Prop :=
  ((1024 < t.size ∨ 1024 < x.size) ∧ b' = zN ∧ er = 8) ∨ (t.size ≤ 1024 ∧ x.size ≤ 1024 ∧ t.lay x ps = none ∧ b' = zN ∧ er = 19) ∨ (t.size ≤ 1024 ∧ x.size ≤ 1024 ∧ er = 0 ∧ ∃ E m, t.lay x ps = some m ∧ Nd E w' b' m)
set_option maxHeartbeats 2000000 in
set_option maxRecDepth 100000 in
theorem eput_any {D Dx : Nat} {t tx : Tr} {b x : Nb} {w : World} {pa : Option Addr} {np cp : Nat} {ps : List Int} (hN : Nd D w b t) (hX : Nd Dx w x tx) (hp : PathOk w pa np cp ps) :
    Calls Try.prog 11 #[.agg b.arr, .slice pa np cp, .agg x.arr] w fun e w' => (∃ b' er, e = .returned (.tuple #[.agg b'.arr, .int .i64 er]) ∧ EPutIs w' t tx ps b' er) ∧ Below w.heap.size w w' := by
  have T0 : Hid (Bt w (((w.alloc (.cells b.arr 26)).alloc (.cells x.arr 26)).alloc (.cells #[.int .i64 0, .int .u64 0, .bool false, .string ⟨#[]⟩, .int .i64 0, .string ⟨#[]⟩, .slice none 0 0, .slice none 0 0, .slice none 0 0] 26)) b x zN) := bt_new w b x zN
  obtain ⟨f0, f1, f2, f3, f4, f5, f6, f7, f8⟩ := T0.out.one.fields
  have k1 := efew_any (hN.kept T0.out.bel)
  have kX : Hid (∀ w', Below w.heap.size w w' → Calls Try.prog 10 #[.agg x.arr] w' fun e w'' => e = .returned (.bool (decide (tx.size ≤ 1024))) ∧ Below w'.heap.size w' w'') := fun w' h => efew_any (hX.kept h)
  by_cases hf : t.size ≤ 1024
  · rw [decide_eq_true hf] at k1
    by_cases hg : tx.size ≤ 1024
    · rw [decide_eq_true hg] at kX
      have kL : Hid (∀ w', Below w.heap.size w w' → Calls Try.prog 28 #[.agg b.arr, .slice pa np cp, .agg x.arr] w' fun e w'' => (∃ b' er, e = .returned (.tuple #[.agg b'.arr, .int .i64 er]) ∧ LayIs w.heap.size (D + Dx) w' w'' t tx ps b' er) ∧ Below w'.heap.size w' w'') := fun w' h => elay_any ps D t b w' pa np cp h.size (hN.all.below h fun _ hk => hk) (hX.all.below h fun _ hk => hk) (hp.kept h) (by omega)
      have hf' : Hid (t.size ≤ 1024) := hf
      have hg' : Hid (tx.size ≤ 1024) := hg
      clear hN hX hp hf hg
      go_enter Try.func11, Try.ntmps11
      go_wp2_with (first
        | (go_at_call 10; refine k1.mono ?_; rintro e w1 ⟨rfl, q1⟩; have T1 : Hid (Bt w w1 b x zN) := T0.out.on q1; clear k1 f0 f1 f2 f3 f4 f5 f6 f7 f8; obtain ⟨c0, c1, c2, c3, c4, c5, c6, c7, c8⟩ := T1.out.two.fields; have k2 := kX.out w1 T1.out.bel)
        | (go_at_call 10; refine k2.mono ?_; rintro e w2 ⟨rfl, q2⟩; have T2 : Hid (Bt w w2 b x zN) := T1.out.on q2; clear k2 c0 c1 c2 c3 c4 c5 c6 c7 c8; obtain ⟨f0, f1, f2, f3, f4, f5, f6, f7, f8⟩ := T2.out.one.fields; obtain ⟨c0, c1, c2, c3, c4, c5, c6, c7, c8⟩ := T2.out.two.fields; have k3 := kL.out w2 T2.out.bel)
        | (go_at_call 28; refine k3.mono ?_; rintro e w4 ⟨⟨y, er, he, hL⟩, q4⟩; rw [Nb.arr] at he; subst he; have T4 : Hid (Bt w w4 b x zN) := T2.out.on q4; clear k3 c0 c1 c2 c3 c4 c5 c6 c7 c8 f0 f1 f2 f3 f4 f5 f6 f7 f8; obtain ⟨m0, m1, m2, m3, m4, m5, m6, m7, m8⟩ := T4.out.thr.fields; have z0 := T4.out.thr.fz 0; have z1 := T4.out.thr.fz 1; have z2 := T4.out.thr.fz 2; have z3 := T4.out.thr.fz 3; have z4 := T4.out.thr.fz 4; have z5 := T4.out.thr.fz 5; have z6 := T4.out.thr.fz 6; have z7 := T4.out.thr.fz 7; have z8 := T4.out.thr.fz 8; have hL' : Hid (LayIs _ _ _ _ _ _ _ _ _) := hL; clear hL q4))
      have T9 := T4.out.put y
      have K9 := T4.out.put_kp y
      obtain ⟨u0, u1, u2, u3, u4, u5, u6, u7, u8⟩ := T9.thr.fields
      have hfin : EPutIs _ t tx ps y er := (by
        rcases hL'.out with ⟨h1, h2, h3⟩ | ⟨h1, m, hm, hy⟩
        · exact .inr (.inl ⟨hf'.out, hg'.out, h1, h2, h3⟩)
        · refine .inr (.inr ⟨hf'.out, hg'.out, h1, _, m, hm, (hy.stays fun k hk => K9.block k ?_ ?_).nd⟩)
          · have h1 := T4.out.bel.size
            rcases hk with h | h <;> omega
          · have h1 := T2.out.thr.lt
            rcases hk with h | h <;> omega)
      refine bodyPost_ret (v := .tuple #[.agg y.arr, .int .i64 er]) (by simp [results, Try.results11, go_sem, u0, u1, u2, u3, u4, u5, u6, u7, u8, Nb.arr]) rfl ⟨⟨y, er, rfl, hfin⟩, T9.bel⟩
    · rw [decide_eq_false hg] at kX
      have hg' : Hid (1024 < tx.size) := Nat.lt_of_not_le hg
      clear hN hX hp hf hg
      go_enter Try.func11, Try.ntmps11
      go_wp2_with (first
        | (go_at_call 10; refine k1.mono ?_; rintro e w1 ⟨rfl, q1⟩; have T1 : Hid (Bt w w1 b x zN) := T0.out.on q1; clear k1 f0 f1 f2 f3 f4 f5 f6 f7 f8; obtain ⟨c0, c1, c2, c3, c4, c5, c6, c7, c8⟩ := T1.out.two.fields; have k2 := kX.out w1 T1.out.bel)
        | (go_at_call 10; refine k2.mono ?_; rintro e w2 ⟨rfl, q2⟩; have T2 : Hid (Bt w w2 b x zN) := T1.out.on q2; clear k2 c0 c1 c2 c3 c4 c5 c6 c7 c8; obtain ⟨m0, m1, m2, m3, m4, m5, m6, m7, m8⟩ := T2.out.thr.fields; have z0 := T2.out.thr.fz 0; have z1 := T2.out.thr.fz 1; have z2 := T2.out.thr.fz 2; have z3 := T2.out.thr.fz 3; have z4 := T2.out.thr.fz 4; have z5 := T2.out.thr.fz 5; have z6 := T2.out.thr.fz 6; have z7 := T2.out.thr.fz 7; have z8 := T2.out.thr.fz 8))
      have T9 := T2.out.put zN
      obtain ⟨u0, u1, u2, u3, u4, u5, u6, u7, u8⟩ := T9.thr.fields
      simp only [zN] at u0 u1 u2 u3 u4 u5 u6 u7 u8
      refine bodyPost_ret (v := .tuple #[.agg #[.int .i64 0, .int .u64 0, .bool false, .string ⟨#[]⟩, .int .i64 0, .string ⟨#[]⟩, .slice none 0 0, .slice none 0 0, .slice none 0 0], .int .i64 8]) (by simp [results, Try.results11, go_sem, u0, u1, u2, u3, u4, u5, u6, u7, u8]) rfl ⟨⟨zN, 8, rfl, .inl ⟨.inr hg'.out, rfl, rfl⟩⟩, T9.bel⟩

  · rw [decide_eq_false hf] at k1
    have hf' : Hid (1024 < t.size) := Nat.lt_of_not_le hf
    clear hN hX hp hf
    go_enter Try.func11, Try.ntmps11
    go_wp2_with (first
      | (go_at_call 10; refine k1.mono ?_; rintro e w1 ⟨rfl, q1⟩; have T1 : Hid (Bt w w1 b x zN) := T0.out.on q1; clear k1 f0 f1 f2 f3 f4 f5 f6 f7 f8; obtain ⟨m0, m1, m2, m3, m4, m5, m6, m7, m8⟩ := T1.out.thr.fields; have z0 := T1.out.thr.fz 0; have z1 := T1.out.thr.fz 1; have z2 := T1.out.thr.fz 2; have z3 := T1.out.thr.fz 3; have z4 := T1.out.thr.fz 4; have z5 := T1.out.thr.fz 5; have z6 := T1.out.thr.fz 6; have z7 := T1.out.thr.fz 7; have z8 := T1.out.thr.fz 8))
    have T9 := T1.out.put zN
    obtain ⟨u0, u1, u2, u3, u4, u5, u6, u7, u8⟩ := T9.thr.fields
    simp only [zN] at u0 u1 u2 u3 u4 u5 u6 u7 u8
    refine bodyPost_ret (v := .tuple #[.agg #[.int .i64 0, .int .u64 0, .bool false, .string ⟨#[]⟩, .int .i64 0, .string ⟨#[]⟩, .slice none 0 0, .slice none 0 0, .slice none 0 0], .int .i64 8]) (by simp [results, Try.results11, go_sem, u0, u1, u2, u3, u4, u5, u6, u7, u8]) rfl ⟨⟨zN, 8, rfl, .inl ⟨.inl hf'.out, rfl, rfl⟩⟩, T9.bel⟩

end Go.Proofs.Ytkealjaealeojab
