/-
  Bits taken apart.
-/
import Derived.Test.YtnjbppfanmmifaaGreatDoorQ8
namespace Go.Proofs.YtnjbppfanmmifaaGreatDoor
open Go.RowKit

set_option maxRecDepth 100000 in
set_option maxHeartbeats 1000000 in
theorem split2_any (n : Int) (h0 : 0 ≤ n) (h1 : n ≤ 18446744073709551615) (w : World) : Calls Tryz.prog 189 #[.agg #[.int .i64 2, .int .i64 5, .int .i64 10], .int .u64 n] w fun e w' => e = .returned (.agg #[.int .u64 (n / 32768), .int .u64 (n / 1024 % 32), .int .u64 (n % 1024)]) ∧ Below w.heap.size w w' := by
  have kT := top2_any
  have kA := ahead2_any
  have u1 : IntKind.i64.wrap 15 = 15 := by decide
  have u2 : IntKind.u64.wrap 1023 = 1023 := by decide
  have m1 : bits .and .u64 (n / 1024) 31 = n / 1024 % 32 := and_low 5 (by decide) _ (by omega) (by omega)
  have m2 : bits .and .u64 n 1023 = n % 1024 := and_low 10 (by decide) _ (by omega) (by omega)
  have r0 : Row3 ((w.alloc (.cells #[.int .i64 2, .int .i64 5, .int .i64 10] 149)).alloc (.cells #[.int .u64 0, .int .u64 0, .int .u64 0] 189)) w.heap.size 149 (.int .i64 2) (.int .i64 5) (.int .i64 10) := (row3_new w 149 (.int .i64 2) (.int .i64 5) (.int .i64 10)).kept (alloc_below _ _) (alloc_lt _ _)
  have p0 : Row3 ((w.alloc (.cells #[.int .i64 2, .int .i64 5, .int .i64 10] 149)).alloc (.cells #[.int .u64 0, .int .u64 0, .int .u64 0] 189)) (w.heap.size + 1) 189 (.int .u64 0) (.int .u64 0) (.int .u64 0) := by
    have h := row3_new (w.alloc (.cells #[.int .i64 2, .int .i64 5, .int .i64 10] 149)) 189 (.int .u64 0) (.int .u64 0) (.int .u64 0)
    have e : (w.alloc (.cells #[.int .i64 2, .int .i64 5, .int .i64 10] 149)).heap.size = w.heap.size + 1 := by simp
    rw [e] at h
    exact h
  have d0 : Below w.heap.size w ((w.alloc (.cells #[.int .i64 2, .int .i64 5, .int .i64 10] 149)).alloc (.cells #[.int .u64 0, .int .u64 0, .int .u64 0] 189)) := ((Below.refl _ _).alloc (Nat.le_refl _) _).alloc (by simp) _
  go_enter Tryz.func189, Tryz.ntmps189
  go_wp2
  go_region_held3 (fun wx => wx.cell? ⟨w.heap.size, 0, none⟩ = some (.int .i64 2) ∧ wx.cell? ⟨w.heap.size, 1, none⟩ = some (.int .i64 5) ∧ wx.cell? ⟨w.heap.size, 2, none⟩ = some (.int .i64 10)) (first | exact r0.at | exact q1.at | exact q2.at | exact (((q2.set (by simp) _).set (by simp) _).set (by simp) _).at) (first
    | (go_at_call 191; refine (kT _).mono ?_; rintro e w1 ⟨rfl, b1⟩; have d1 := d0.drew.trans (b1.mono d0.size); have q1 := Row3.kept (w := ((w.alloc (.cells #[.int .i64 2, .int .i64 5, .int .i64 10] 149)).alloc (.cells #[.int .u64 0, .int .u64 0, .int .u64 0] 189)).drew) r0 b1 r0.lt; have p1 := Row3.kept (w := ((w.alloc (.cells #[.int .i64 2, .int .i64 5, .int .i64 10] 149)).alloc (.cells #[.int .u64 0, .int .u64 0, .int .u64 0] 189)).drew) p0 b1 p0.lt)
    | (go_at_call 192; refine (kA _).mono ?_; rintro e w2 ⟨rfl, b2⟩; have d2 := d1.trans (b2.mono d1.size); have q2 := q1.kept b2 q1.lt; have p2 := p1.kept b2 p1.lt; obtain ⟨c0, c1, c2⟩ := p2.at; have f0 := p2.fz 0; have f1 := p2.fz 1; have f2 := p2.fz 2))
  go_wp2
  refine bodyPost_ret (v := .agg #[.int .u64 (n / 32768), .int .u64 (n / 1024 % 32), .int .u64 (n % 1024)]) (by simp [results, Tryz.results189, go_sem, *]) rfl ⟨rfl, ?_⟩
  exact ((d2.setCell (by simp) _).setCell (by simp) _).setCell (by simp) _
set_option maxRecDepth 100000 in
set_option maxHeartbeats 1000000 in
theorem split4_any (n : Int) (h0 : 0 ≤ n) (h1 : n ≤ 18446744073709551615) (w : World) : Calls Tryz.prog 189 #[.agg #[.int .i64 4, .int .i64 8, .int .i64 23], .int .u64 n] w fun e w' => e = .returned (.agg #[.int .u64 (n / 2147483648), .int .u64 (n / 8388608 % 256), .int .u64 (n % 8388608)]) ∧ Below w.heap.size w w' := by
  have kT := top4_any
  have kA := ahead4_any
  have u1 : IntKind.i64.wrap 31 = 31 := by decide
  have u2 : IntKind.u64.wrap 8388607 = 8388607 := by decide
  have m1 : bits .and .u64 (n / 8388608) 255 = n / 8388608 % 256 := and_low 8 (by decide) _ (by omega) (by omega)
  have m2 : bits .and .u64 n 8388607 = n % 8388608 := and_low 23 (by decide) _ (by omega) (by omega)
  have r0 : Row3 ((w.alloc (.cells #[.int .i64 4, .int .i64 8, .int .i64 23] 149)).alloc (.cells #[.int .u64 0, .int .u64 0, .int .u64 0] 189)) w.heap.size 149 (.int .i64 4) (.int .i64 8) (.int .i64 23) := (row3_new w 149 (.int .i64 4) (.int .i64 8) (.int .i64 23)).kept (alloc_below _ _) (alloc_lt _ _)
  have p0 : Row3 ((w.alloc (.cells #[.int .i64 4, .int .i64 8, .int .i64 23] 149)).alloc (.cells #[.int .u64 0, .int .u64 0, .int .u64 0] 189)) (w.heap.size + 1) 189 (.int .u64 0) (.int .u64 0) (.int .u64 0) := by
    have h := row3_new (w.alloc (.cells #[.int .i64 4, .int .i64 8, .int .i64 23] 149)) 189 (.int .u64 0) (.int .u64 0) (.int .u64 0)
    have e : (w.alloc (.cells #[.int .i64 4, .int .i64 8, .int .i64 23] 149)).heap.size = w.heap.size + 1 := by simp
    rw [e] at h
    exact h
  have d0 : Below w.heap.size w ((w.alloc (.cells #[.int .i64 4, .int .i64 8, .int .i64 23] 149)).alloc (.cells #[.int .u64 0, .int .u64 0, .int .u64 0] 189)) := ((Below.refl _ _).alloc (Nat.le_refl _) _).alloc (by simp) _
  go_enter Tryz.func189, Tryz.ntmps189
  go_wp2
  go_region_held3 (fun wx => wx.cell? ⟨w.heap.size, 0, none⟩ = some (.int .i64 4) ∧ wx.cell? ⟨w.heap.size, 1, none⟩ = some (.int .i64 8) ∧ wx.cell? ⟨w.heap.size, 2, none⟩ = some (.int .i64 23)) (first | exact r0.at | exact q1.at | exact q2.at | exact (((q2.set (by simp) _).set (by simp) _).set (by simp) _).at) (first
    | (go_at_call 191; refine (kT _).mono ?_; rintro e w1 ⟨rfl, b1⟩; have d1 := d0.drew.trans (b1.mono d0.size); have q1 := Row3.kept (w := ((w.alloc (.cells #[.int .i64 4, .int .i64 8, .int .i64 23] 149)).alloc (.cells #[.int .u64 0, .int .u64 0, .int .u64 0] 189)).drew) r0 b1 r0.lt; have p1 := Row3.kept (w := ((w.alloc (.cells #[.int .i64 4, .int .i64 8, .int .i64 23] 149)).alloc (.cells #[.int .u64 0, .int .u64 0, .int .u64 0] 189)).drew) p0 b1 p0.lt)
    | (go_at_call 192; refine (kA _).mono ?_; rintro e w2 ⟨rfl, b2⟩; have d2 := d1.trans (b2.mono d1.size); have q2 := q1.kept b2 q1.lt; have p2 := p1.kept b2 p1.lt; obtain ⟨c0, c1, c2⟩ := p2.at; have f0 := p2.fz 0; have f1 := p2.fz 1; have f2 := p2.fz 2))
  go_wp2
  refine bodyPost_ret (v := .agg #[.int .u64 (n / 2147483648), .int .u64 (n / 8388608 % 256), .int .u64 (n % 8388608)]) (by simp [results, Tryz.results189, go_sem, *]) rfl ⟨rfl, ?_⟩
  exact ((d2.setCell (by simp) _).setCell (by simp) _).setCell (by simp) _
end Go.Proofs.YtnjbppfanmmifaaGreatDoor
