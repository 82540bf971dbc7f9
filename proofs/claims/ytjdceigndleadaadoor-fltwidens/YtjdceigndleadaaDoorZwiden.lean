/-
  The document's side: Widen.
-/
import Derived.Test.YtjdceigndleadaaDoorZwid
import Derived.Test.YtjdceigndleadaaDoorFcal
namespace Go.Proofs.YtjdceigndleadaaDoor
open Go.RowKit
set_option linter.unusedVariables false

set_option maxRecDepth 100000 in
set_option maxHeartbeats 1000000 in
theorem zwiden_any (n width : Int) (hn : 0 ≤ n ∧ n < 18446744073709551616) (w : World) : Calls Tryd.prog 9 #[.int .u64 n, .int .i64 width] w fun e w' => e = .returned (.tuple #[.int .u64 (widenA n width).1, .int .i64 (widenA n width).2]) ∧ Below w.heap.size w w' := by
  by_cases h2 : width = 2
  · subst h2
    by_cases hr : n < 65536
    · have hR : widenA n 2 = (widen2 n, 0) := by unfold widenA; rw [if_pos ⟨rfl, hr⟩]
      rw [hR]
      have kw := zwid2_any n ⟨hn.1, hr⟩
      have e1 : (n / 65536 != 0) = false := by rw [Bool.eq_false_iff]; simp; omega
      clear hR hr hn
      go_enter Tryd.func9, Tryd.ntmps9
      go_wp2_with (go_at_call 20; refine (kw _).mono ?_; rintro e w1 ⟨rfl, d1⟩)
      go_ret2
      exact ⟨rfl, d1⟩
    · have hR : widenA n 2 = (0, 1) := by unfold widenA; rw [if_neg (by omega), if_neg (by omega), if_neg (by decide)]
      rw [hR]
      have e1 : (n / 65536 != 0) = true := by simp; omega
      clear hR hr hn
      go_enter Tryd.func9, Tryd.ntmps9
      go_wp2
      go_ret2
      exact ⟨rfl, Below.refl _ _⟩
  by_cases h4 : width = 4
  · subst h4
    by_cases hr : n < 4294967296
    · have hR : widenA n 4 = (widen4 n, 0) := by unfold widenA; rw [if_neg (by omega), if_pos ⟨rfl, hr⟩]
      rw [hR]
      have kw := zwid4_any n ⟨hn.1, hr⟩
      have e1 : (n / 4294967296 != 0) = false := by rw [Bool.eq_false_iff]; simp; omega
      clear hR hr hn
      go_enter Tryd.func9, Tryd.ntmps9
      go_wp2_with (go_at_call 20; refine (kw _).mono ?_; rintro e w1 ⟨rfl, d1⟩)
      go_ret2
      exact ⟨rfl, d1⟩
    · have hR : widenA n 4 = (0, 1) := by unfold widenA; rw [if_neg (by omega), if_neg (by omega), if_neg (by decide)]
      rw [hR]
      have e1 : (n / 4294967296 != 0) = true := by simp; omega
      clear hR hr hn
      go_enter Tryd.func9, Tryd.ntmps9
      go_wp2
      go_ret2
      exact ⟨rfl, Below.refl _ _⟩
  have e2 : (width != 2) = true := by simpa using h2
  have e4 : (width != 4) = true := by simpa using h4
  by_cases h8 : width = 8
  · subst h8
    have hR : widenA n 8 = (n, 0) := by unfold widenA; rw [if_neg (by omega), if_neg (by omega), if_pos rfl]
    rw [hR]
    have kw := zwid8_any n
    clear hR hn h2 h4 e2 e4
    go_enter Tryd.func9, Tryd.ntmps9
    go_wp2_with (go_at_call 20; refine (kw _).mono ?_; rintro e w1 ⟨rfl, d1⟩)
    go_ret2
    exact ⟨rfl, d1⟩
  · have hR : widenA n width = (0, 1) := by unfold widenA; rw [if_neg (by omega), if_neg (by omega), if_neg h8]
    rw [hR]
    have e8 : (width != 8) = true := by simpa using h8
    clear hR hn h2 h4 h8
    go_enter Tryd.func9, Tryd.ntmps9
    go_wp2
    go_ret2
    exact ⟨rfl, Below.refl _ _⟩
end Go.Proofs.YtjdceigndleadaaDoor
