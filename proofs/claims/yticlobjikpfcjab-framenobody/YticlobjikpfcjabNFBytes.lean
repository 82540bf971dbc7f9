/-
  How many bytes the frames of loads have, in the program.
-/
import Derived.Test.YticlobjikpfcjabNLoads
namespace Go.Proofs.Yticlobjikpfcjab
open Go.RowKit

theorem sz_take (Ls : List (List Int)) (k : Nat) : sz (Ls.take k) ≤ sz Ls := by
  have h := sz_append (Ls.take k) (Ls.drop k)
  rw [List.take_append_drop] at h
  omega

set_option maxHeartbeats 400000 in
theorem fbytes_any (base : Nat) (a : Option Addr) (n cap : Nat) (Ls : List (List Int)) (w : World) (hl : Ls.length = n) (h : Lists w base a Ls) (hs : sz Ls ≤ 4611686018427387904) :
    Calls Try.prog 18 #[.slice a n cap] w fun e w' => e = .returned (.int .i64 (sz Ls : Nat)) ∧ w' = w := by
  obtain ⟨hm, hv⟩ := h
  unfold maxLen at hm
  rw [hl] at hm
  have hL : Hid (Ls.length = n) := hl
  have hS : Hid (sz Ls ≤ 4611686018427387904) := hs
  clear hl hs
  rcases hv with h0 | ⟨b, off, vs, rfl, _, hvl, hc⟩
  · subst h0
    obtain rfl : n = 0 := hL.out.symm
    go_enter Try.func18, Try.ntmps18
    go_wp2
    go_loop [3, 8] (fun t i => i = .int .i64 0 ∧ t = .int .i64 0) (fun _ _ => 0)
    case atStart => exact ⟨rfl, rfl⟩
    case round =>
      obtain ⟨rfl, rfl⟩ := hrel
      go_wp2
      go_ret
      exact ⟨rfl, rfl⟩
  · have hC : Hid (∀ i u, vs[i]? = some u → w.cell? ⟨b, off + i, none⟩ = some u ∧ Load w base u (Ls.getD i [])) := hc
    have hV : Hid (vs.length = Ls.length) := hvl
    clear hc hvl
    go_enter Try.func18, Try.ntmps18
    go_wp2
    go_loop [3, 8] (fun t i => ∃ k m : Nat, k ≤ n ∧ i = .int .i64 k ∧ t = .int .i64 m ∧ Hid (m = sz (Ls.take k))) (fun _ i => n - (intOf i).toNat)
    case atStart => exact ⟨0, 0, by omega, rfl, rfl, rfl⟩
    case round =>
      obtain ⟨k, m, hk, rfl, rfl, hmk⟩ := hrel
      by_cases hlt : k < n
      · obtain ⟨l, a1, n1, cap1, hcell, hl1, -, -, hc1, hm1, -, htk, -⟩ := next_load hV.out hC.out (k := k) (by rw [hL.out]; exact hlt)
        have hs2 : Hid (m + (n1 + 8) = sz (Ls.take (k + 1))) := by
          show _ = _
          rw [htk.out, sz_append, hmk.out, sz_cons, hl1.out]; simp [sz]
        have hb : m + (n1 + 8) ≤ 4611686018427387904 := by rw [hs2.out]; exact Nat.le_trans (sz_take Ls _) hS.out
        go_wp2
        go_round
        case rel => exact ⟨k + 1, m + (n1 + 8), by omega, by go_num, by go_num, hs2⟩
        case measure => simp [intOf]; omega
      · have hf : Hid (m = sz Ls) := by
          show _ = _
          rw [hmk.out, List.take_of_length_le (by rw [hL.out]; omega)]
        clear hmk
        go_wp2
        go_ret
        exact ⟨by rw [← hf.out]; rfl, rfl⟩
end Go.Proofs.Yticlobjikpfcjab
