/-
  May a datagram be told: the document's own answer; a short number as an int.
-/
import Derived.Test.YtfipdldoklkciaaLkh
namespace Go.Proofs.Ytfipdldoklkciaa
open Go.RowKit
set_option linter.unusedVariables false
set_option maxHeartbeats 4000000 in
set_option maxRecDepth 100000 in
theorem xmay_raw (kd tk ep sq ak bt cr fm : Int) (a : Option Addr) (n c : Nat) (w : World) :
    Calls Try.prog 39 #[.agg #[.int .i64 kd, .int .u64 tk, .int .i64 ep, .int .i64 sq, .int .i64 ak, .int .u64 bt, .int .i64 cr, .int .i64 fm, .slice a n c]] w fun e w' => e = .returned (.bool (fromB 1 kd 7 && fromB 0 fm 2 && fromB 0 ep 4611686018427387904 && fromB 0 sq 4611686018427387904 && fromB 0 ak 4611686018427387904 && fromB 0 cr 4611686018427387904)) ∧ Hid (Below w.heap.size w w') := by
  have hA : Hid (Below w.heap.size w (w.alloc (.cells #[.int .i64 kd, .int .u64 tk, .int .i64 ep, .int .i64 sq, .int .i64 ak, .int .u64 bt, .int .i64 cr, .int .i64 fm, .slice a n c] 25))) := (Below.refl _ _).alloc (Nat.le_refl _) _
  by_cases h0 : ¬ (1 ≤ kd)
  · have e : (fromB 1 kd 7 && fromB 0 fm 2 && fromB 0 ep 4611686018427387904 && fromB 0 sq 4611686018427387904 && fromB 0 ak 4611686018427387904 && fromB 0 cr 4611686018427387904) = false := by simp [fromB]; omega
    rw [e]
    have d0 : decide (kd ≥ 1) = false := by simp; omega
    clear e h0
    go_enter Try.func39, Try.ntmps39
    go_wp2
    go_ret
    exact ⟨rfl, hA⟩
  have h0 : 1 ≤ kd := Classical.not_not.1 h0
  have d0 : decide (kd ≥ 1) = true := by simp; omega
  by_cases h1 : ¬ (kd ≤ 7)
  · have e : (fromB 1 kd 7 && fromB 0 fm 2 && fromB 0 ep 4611686018427387904 && fromB 0 sq 4611686018427387904 && fromB 0 ak 4611686018427387904 && fromB 0 cr 4611686018427387904) = false := by simp [fromB]; omega
    rw [e]
    have d1 : decide (kd ≤ 7) = false := by simp; omega
    clear e h0 h1
    go_enter Try.func39, Try.ntmps39
    go_wp2
    go_ret
    exact ⟨rfl, hA⟩
  have h1 : kd ≤ 7 := Classical.not_not.1 h1
  have d1 : decide (kd ≤ 7) = true := by simp; omega
  by_cases h2 : ¬ (0 ≤ ep)
  · have e : (fromB 1 kd 7 && fromB 0 fm 2 && fromB 0 ep 4611686018427387904 && fromB 0 sq 4611686018427387904 && fromB 0 ak 4611686018427387904 && fromB 0 cr 4611686018427387904) = false := by simp [fromB]; omega
    rw [e]
    have d2 : decide (ep ≥ 0) = false := by simp; omega
    clear e h0 h1 h2
    go_enter Try.func39, Try.ntmps39
    go_wp2
    go_ret
    exact ⟨rfl, hA⟩
  have h2 : 0 ≤ ep := Classical.not_not.1 h2
  have d2 : decide (ep ≥ 0) = true := by simp; omega
  by_cases h3 : ¬ (ep ≤ 4611686018427387904)
  · have e : (fromB 1 kd 7 && fromB 0 fm 2 && fromB 0 ep 4611686018427387904 && fromB 0 sq 4611686018427387904 && fromB 0 ak 4611686018427387904 && fromB 0 cr 4611686018427387904) = false := by simp [fromB]; omega
    rw [e]
    have d3 : decide (ep ≤ 4611686018427387904) = false := by simp; omega
    clear e h0 h1 h2 h3
    go_enter Try.func39, Try.ntmps39
    go_wp2
    go_ret
    exact ⟨rfl, hA⟩
  have h3 : ep ≤ 4611686018427387904 := Classical.not_not.1 h3
  have d3 : decide (ep ≤ 4611686018427387904) = true := by simp; omega
  by_cases h4 : ¬ (0 ≤ sq)
  · have e : (fromB 1 kd 7 && fromB 0 fm 2 && fromB 0 ep 4611686018427387904 && fromB 0 sq 4611686018427387904 && fromB 0 ak 4611686018427387904 && fromB 0 cr 4611686018427387904) = false := by simp [fromB]; omega
    rw [e]
    have d4 : decide (sq ≥ 0) = false := by simp; omega
    clear e h0 h1 h2 h3 h4
    go_enter Try.func39, Try.ntmps39
    go_wp2
    go_ret
    exact ⟨rfl, hA⟩
  have h4 : 0 ≤ sq := Classical.not_not.1 h4
  have d4 : decide (sq ≥ 0) = true := by simp; omega
  by_cases h5 : ¬ (sq ≤ 4611686018427387904)
  · have e : (fromB 1 kd 7 && fromB 0 fm 2 && fromB 0 ep 4611686018427387904 && fromB 0 sq 4611686018427387904 && fromB 0 ak 4611686018427387904 && fromB 0 cr 4611686018427387904) = false := by simp [fromB]; omega
    rw [e]
    have d5 : decide (sq ≤ 4611686018427387904) = false := by simp; omega
    clear e h0 h1 h2 h3 h4 h5
    go_enter Try.func39, Try.ntmps39
    go_wp2
    go_ret
    exact ⟨rfl, hA⟩
  have h5 : sq ≤ 4611686018427387904 := Classical.not_not.1 h5
  have d5 : decide (sq ≤ 4611686018427387904) = true := by simp; omega
  by_cases h6 : ¬ (0 ≤ ak)
  · have e : (fromB 1 kd 7 && fromB 0 fm 2 && fromB 0 ep 4611686018427387904 && fromB 0 sq 4611686018427387904 && fromB 0 ak 4611686018427387904 && fromB 0 cr 4611686018427387904) = false := by simp [fromB]; omega
    rw [e]
    have d6 : decide (ak ≥ 0) = false := by simp; omega
    clear e h0 h1 h2 h3 h4 h5 h6
    go_enter Try.func39, Try.ntmps39
    go_wp2
    go_ret
    exact ⟨rfl, hA⟩
  have h6 : 0 ≤ ak := Classical.not_not.1 h6
  have d6 : decide (ak ≥ 0) = true := by simp; omega
  by_cases h7 : ¬ (ak ≤ 4611686018427387904)
  · have e : (fromB 1 kd 7 && fromB 0 fm 2 && fromB 0 ep 4611686018427387904 && fromB 0 sq 4611686018427387904 && fromB 0 ak 4611686018427387904 && fromB 0 cr 4611686018427387904) = false := by simp [fromB]; omega
    rw [e]
    have d7 : decide (ak ≤ 4611686018427387904) = false := by simp; omega
    clear e h0 h1 h2 h3 h4 h5 h6 h7
    go_enter Try.func39, Try.ntmps39
    go_wp2
    go_ret
    exact ⟨rfl, hA⟩
  have h7 : ak ≤ 4611686018427387904 := Classical.not_not.1 h7
  have d7 : decide (ak ≤ 4611686018427387904) = true := by simp; omega
  by_cases h8 : ¬ (0 ≤ cr)
  · have e : (fromB 1 kd 7 && fromB 0 fm 2 && fromB 0 ep 4611686018427387904 && fromB 0 sq 4611686018427387904 && fromB 0 ak 4611686018427387904 && fromB 0 cr 4611686018427387904) = false := by simp [fromB]; omega
    rw [e]
    have d8 : decide (cr ≥ 0) = false := by simp; omega
    clear e h0 h1 h2 h3 h4 h5 h6 h7 h8
    go_enter Try.func39, Try.ntmps39
    go_wp2
    go_ret
    exact ⟨rfl, hA⟩
  have h8 : 0 ≤ cr := Classical.not_not.1 h8
  have d8 : decide (cr ≥ 0) = true := by simp; omega
  by_cases h9 : ¬ (cr ≤ 4611686018427387904)
  · have e : (fromB 1 kd 7 && fromB 0 fm 2 && fromB 0 ep 4611686018427387904 && fromB 0 sq 4611686018427387904 && fromB 0 ak 4611686018427387904 && fromB 0 cr 4611686018427387904) = false := by simp [fromB]; omega
    rw [e]
    have d9 : decide (cr ≤ 4611686018427387904) = false := by simp; omega
    clear e h0 h1 h2 h3 h4 h5 h6 h7 h8 h9
    go_enter Try.func39, Try.ntmps39
    go_wp2
    go_ret
    exact ⟨rfl, hA⟩
  have h9 : cr ≤ 4611686018427387904 := Classical.not_not.1 h9
  have d9 : decide (cr ≤ 4611686018427387904) = true := by simp; omega
  by_cases h10 : ¬ (0 ≤ fm)
  · have e : (fromB 1 kd 7 && fromB 0 fm 2 && fromB 0 ep 4611686018427387904 && fromB 0 sq 4611686018427387904 && fromB 0 ak 4611686018427387904 && fromB 0 cr 4611686018427387904) = false := by simp [fromB]; omega
    rw [e]
    have d10 : decide (fm ≥ 0) = false := by simp; omega
    clear e h0 h1 h2 h3 h4 h5 h6 h7 h8 h9 h10
    go_enter Try.func39, Try.ntmps39
    go_wp2
    go_ret
    exact ⟨rfl, hA⟩
  have h10 : 0 ≤ fm := Classical.not_not.1 h10
  have d10 : decide (fm ≥ 0) = true := by simp; omega
  by_cases h11 : ¬ (fm ≤ 2)
  · have e : (fromB 1 kd 7 && fromB 0 fm 2 && fromB 0 ep 4611686018427387904 && fromB 0 sq 4611686018427387904 && fromB 0 ak 4611686018427387904 && fromB 0 cr 4611686018427387904) = false := by simp [fromB]; omega
    rw [e]
    have d11 : decide (fm ≤ 2) = false := by simp; omega
    clear e h0 h1 h2 h3 h4 h5 h6 h7 h8 h9 h10 h11
    go_enter Try.func39, Try.ntmps39
    go_wp2
    go_ret
    exact ⟨rfl, hA⟩
  have h11 : fm ≤ 2 := Classical.not_not.1 h11
  have d11 : decide (fm ≤ 2) = true := by simp; omega
  have e : (fromB 1 kd 7 && fromB 0 fm 2 && fromB 0 ep 4611686018427387904 && fromB 0 sq 4611686018427387904 && fromB 0 ak 4611686018427387904 && fromB 0 cr 4611686018427387904) = true := by simp [fromB]; omega
  rw [e]
  clear e h0 h1 h2 h3 h4 h5 h6 h7 h8 h9 h10 h11
  go_enter Try.func39, Try.ntmps39
  go_wp2
  go_ret
  exact ⟨rfl, hA⟩
theorem xmay_any (m : Mg) (a : Option Addr) (n c : Nat) (w : World) : Calls Try.prog 39 #[mval m a n c] w fun e w' => e = .returned (.bool (mayM m)) ∧ Hid (Below w.heap.size w w') := xmay_raw _ _ _ _ _ _ _ _ _ _ _ _
/-- A short number as an int. -/
def xnum (k : Nat) : Int := if 4611686018427387904 < k then -1 else (k : Int)
theorem xnum_any (k : Nat) (w : World) (h : k < 18446744073709551616) : Calls Try.prog 50 #[.int .u64 (k : Nat)] w fun e w' => e = .returned (.int .i64 (xnum k)) ∧ w' = w := by
  by_cases h1 : 4611686018427387904 < k
  · have e : xnum k = -1 := by unfold xnum; rw [if_pos h1]
    rw [e]
    have d : decide ((k : Int) > 4611686018427387904) = true := by simp; omega
    clear e h1
    go_enter Try.func50, Try.ntmps50
    go_wp2
    go_ret
    exact ⟨rfl, rfl⟩
  · have e : xnum k = (k : Int) := by unfold xnum; rw [if_neg h1]
    rw [e]
    have d : decide ((k : Int) > 4611686018427387904) = false := by simp; omega
    have e1 : IntKind.i64.wrap (k : Int) = (k : Int) := by rw [IntKind.wrap_i64]; omega
    clear e h1
    go_enter Try.func50, Try.ntmps50
    go_wp2
    go_ret
    exact ⟨rfl, rfl⟩
end Go.Proofs.Ytfipdldoklkciaa
