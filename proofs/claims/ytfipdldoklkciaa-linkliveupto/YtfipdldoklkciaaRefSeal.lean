/-
  Sealing, as the document's own answer has it.
-/
import Derived.Test.YtfipdldoklkciaaSeal
namespace Go.Proofs.Ytfipdldoklkciaa
open Go.RowKit

theorem last_byte (n : Nat) (h : n < 4294967296) : (le4 n).take 4 = (le4 n).take 3 ++ [(n : Int) / 16777216] := by
  rw [show (n : Int) / 16777216 = ((n / 16777216 % 256 : Nat) : Int) from by omega]
  rfl

set_option maxHeartbeats 400000 in
theorem refSeal_any (a : Option Addr) (cap : Nat) (zs : List Int) (w : World) (hb : Bytes w a zs) (hn : a = none → cap = 0) (hl : zs.length + 4 ≤ 140737488355328) :
    Calls Try.prog 80 #[.slice a zs.length cap] w fun e w' => ∃ v, e = .returned v ∧ OwnsB w' w.heap.size v (zs ++ le4 (moreL 0 zs)) ∧ Below w.heap.size w w' := by
  have hlt := moreL_lt (n := 0) (by decide) hb.1
  have hB : Hid (Bytes w a zs) := hb
  clear hb
  go_enter Try.func80, Try.ntmps80
  go_wp2_with fail
  refine (refSum_any _ _ _ _ hB.out).mono ?_
  rintro e w1 ⟨rfl, rfl⟩
  go_wp2_with (at_builtin; refine wpList_append_bytes rfl _ (.tmp 8) rfl w1.heap.size (.slice none 0 0) [] zs rfl (ownsB_nil _ _) a zs.length cap rfl rfl hn hB.out (by simp; omega) (Nat.le_refl _) ?_; intro v2 w2 ho2 hg2; have hb2 := grown_below (Below.refl _ _) (ownsB_nil _ _) hg2 (Nat.le_refl _); simp only [List.nil_append] at ho2; clear hg2)
  go_loopw [4, 5] (fun v i wr => ∃ k : Nat, k ≤ 4 ∧ i = .int .i64 k ∧ OwnsB wr w1.heap.size v (zs ++ (le4 (moreL 0 zs)).take k) ∧ Below w1.heap.size w1 wr) (fun _ i _ => 4 - (intOf i).toNat)
  case atStart => exact ⟨0, by omega, rfl, by simpa using ho2, hb2⟩
  case round =>
    obtain ⟨k, hk, rfl, hown, hbr⟩ := hrel
    clear ho2 hb2
    have hsz := hbr.size
    by_cases hlt4 : k < 4
    · rcases (show k = 0 ∨ k = 1 ∨ k = 2 ∨ k = 3 by omega) with rfl | rfl | rfl | rfl
      · have hlen : (zs ++ (le4 (moreL 0 zs)).take 0).length + 1 ≤ 140737488355328 := by simp [le4]; omega
        go_wp2_with (at_builtin; refine wpList_append_bytes rfl (.tmp 14) (.tmp 20) rfl w1.heap.size u4 _ [(moreL 0 zs : Int) % 256] rfl (hown.alloc _) (some ⟨wr.heap.size, 0, none⟩) 1 1 rfl rfl (by simp) (one_byte wr _ (by omega) (by omega)) hlen (by simp; omega) ?_; intro v3 w3 ho3 hg3; have hb3 := grown_below (hbr.alloc hsz _) (hown.alloc _) hg3 (by simp; omega); clear hg3 hown)
        go_roundw
        case rel => exact ⟨1, by omega, rfl, by simpa [le4] using ho3, hb3⟩
        case measure => simp [intOf]
      · have hlen : (zs ++ (le4 (moreL 0 zs)).take 1).length + 1 ≤ 140737488355328 := by simp [le4]; omega
        go_wp2_with (at_builtin; refine wpList_append_bytes rfl (.tmp 14) (.tmp 20) rfl w1.heap.size u4 _ [(moreL 0 zs : Int) / 256 % 256] rfl (hown.alloc _) (some ⟨wr.heap.size, 0, none⟩) 1 1 rfl rfl (by simp) (one_byte wr _ (by omega) (by omega)) hlen (by simp; omega) ?_; intro v3 w3 ho3 hg3; have hb3 := grown_below (hbr.alloc hsz _) (hown.alloc _) hg3 (by simp; omega); clear hg3 hown)
        go_roundw
        case rel => exact ⟨2, by omega, rfl, by simpa [le4] using ho3, hb3⟩
        case measure => simp [intOf]
      · have hlen : (zs ++ (le4 (moreL 0 zs)).take 2).length + 1 ≤ 140737488355328 := by simp [le4]; omega
        go_wp2_with (at_builtin; refine wpList_append_bytes rfl (.tmp 14) (.tmp 20) rfl w1.heap.size u4 _ [(moreL 0 zs : Int) / 65536 % 256] rfl (hown.alloc _) (some ⟨wr.heap.size, 0, none⟩) 1 1 rfl rfl (by simp) (one_byte wr _ (by omega) (by omega)) hlen (by simp; omega) ?_; intro v3 w3 ho3 hg3; have hb3 := grown_below (hbr.alloc hsz _) (hown.alloc _) hg3 (by simp; omega); clear hg3 hown)
        go_roundw
        case rel => exact ⟨3, by omega, rfl, by simpa [le4] using ho3, hb3⟩
        case measure => simp [intOf]
      · have hlen : (zs ++ (le4 (moreL 0 zs)).take 3).length + 1 ≤ 140737488355328 := by simp [le4]; omega
        go_wp2_with (at_builtin; refine wpList_append_bytes rfl (.tmp 14) (.tmp 20) rfl w1.heap.size u4 _ [(moreL 0 zs : Int) / 16777216] rfl (hown.alloc _) (some ⟨wr.heap.size, 0, none⟩) 1 1 rfl rfl (by simp) (one_byte wr _ (by omega) (by omega)) hlen (by simp; omega) ?_; intro v3 w3 ho3 hg3; have hb3 := grown_below (hbr.alloc hsz _) (hown.alloc _) hg3 (by simp; omega); clear hg3 hown)
        go_roundw
        case rel => exact ⟨4, by omega, rfl, by rw [show (le4 (moreL 0 zs)).take 4 = (le4 (moreL 0 zs)).take 3 ++ [(moreL 0 zs : Int) / 16777216] from last_byte _ hlt, ← List.append_assoc]; exact ho3, hb3⟩
        case measure => simp [intOf]
    · have h4 : Hid (k = 4) := by show _ = _; omega
      go_wp2
      go_ret
      refine ⟨_, rfl, ?_, hbr⟩
      have h5 := h4.out
      subst h5
      exact hown
end Go.Proofs.Ytfipdldoklkciaa
