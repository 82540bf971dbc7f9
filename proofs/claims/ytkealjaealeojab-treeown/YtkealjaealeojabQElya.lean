/-
  A tree with a node at a path, as the document says: Lay.
-/
import Derived.Test.YtkealjaealeojabQElh
namespace Go.Proofs.Ytkealjaealeojab
open Go.RowKit
set_option linter.unusedVariables false
set_option maxHeartbeats 1000000 in
set_option maxRecDepth 100000 in
theorem lay_end {B D Dx : Nat} {t tx : Tr} {b x : Nb} {w : World} {pa : Option Addr} {np cp : Nat} (hB : B ≤ w.heap.size) (hN : NdS (· < B) D w b t) (hX : NdS (· < B) Dx w x tx) (hp : PathOk w pa np cp []) (hsz : t.size ≤ 1000000) :
    Calls Try.prog 28 #[.agg b.arr, .slice pa np cp, .agg x.arr] w fun e w' => (∃ b' er, e = .returned (.tuple #[.agg b'.arr, .int .i64 er]) ∧ LayIs B (D + Dx) w w' t tx [] b' er) ∧ Below w.heap.size w w' := by
  have hnp : ((np : Int) == 0) = true := by have := hp.1; simp at this; simp; omega
  have T0 : Hid (Bt w (((w.alloc (.cells b.arr 26)).alloc (.cells x.arr 26)).alloc (.cells #[.int .i64 0, .int .u64 0, .bool false, .string ⟨#[]⟩, .int .i64 0, .string ⟨#[]⟩, .slice none 0 0, .slice none 0 0, .slice none 0 0] 26)) b x zN) := bt_new w b x zN
  obtain ⟨c0, c1, c2, c3, c4, c5, c6, c7, c8⟩ := T0.out.two.fields
  obtain ⟨m0, m1, m2, m3, m4, m5, m6, m7, m8⟩ := T0.out.thr.fields
  have z0 := T0.out.thr.fz 0; have z1 := T0.out.thr.fz 1; have z2 := T0.out.thr.fz 2; have z3 := T0.out.thr.fz 3; have z4 := T0.out.thr.fz 4; have z5 := T0.out.thr.fz 5; have z6 := T0.out.thr.fz 6; have z7 := T0.out.thr.fz 7; have z8 := T0.out.thr.fz 8
  have hX' : Hid (NdS (· < B) Dx w x tx) := hX
  have hB' : Hid (B ≤ w.heap.size) := hB
  clear hB hN hX hp hsz
  go_enter Try.func28, Try.ntmps28
  go_wp2
  have T1 := bt_new w b x x
  obtain ⟨u0, u1, u2, u3, u4, u5, u6, u7, u8⟩ := T1.thr.fields
  refine bodyPost_ret (v := .tuple #[.agg x.arr, .int .i64 0]) (by simp [results, Try.results28, go_sem]; rfl) rfl ⟨⟨x, 0, rfl, .inr ⟨rfl, tx, rfl, ?_⟩⟩, T1.bel⟩
  exact ((hX'.out.below T1.bel fun k hk => Nat.lt_of_lt_of_le hk hB'.out).mono fun k hk => .inl hk).le (Nat.le_add_left _ _)
end Go.Proofs.Ytkealjaealeojab
