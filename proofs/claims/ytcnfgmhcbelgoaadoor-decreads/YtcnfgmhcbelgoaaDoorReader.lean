/-
  The document's reader in memory: its methods.
-/
import Derived.Test.YtcnfgmhcbelgoaaDoorRplain
import Derived.Test.YtcnfgmhcbelgoaaDoorYright
import Derived.Test.YtcnfgmhcbelgoaaDoorYmake
import Derived.Test.YtcnfgmhcbelgoaaDoorTake
import Derived.BigQuiet
import Derived.Lib.MinMax
namespace Go.Proofs.YtcnfgmhcbelgoaaDoor
open Go.RowKit

/-- A reader in block g: its text, its place, its fault. -/
def RAt (w : World) (g : Nat) (s : ByteArray) (st : St) : Prop := w.heap[g]? = some (.cells #[.string s, .int .i64 ((st.1 : Nat) : Int), .int .i64 st.2.1, .int .i64 st.2.2] 57 (0, 0))
theorem RAt.lt {w : World} {g : Nat} {s : ByteArray} {st : St} (h : RAt w g s st) : g < w.heap.size := (Array.getElem?_eq_some_iff.1 h).1
theorem RAt.c0 {w : World} {g : Nat} {s : ByteArray} {st : St} (h : RAt w g s st) : w.cell? ⟨g, 0, none⟩ = some (.string s) := by rw [cell_row h]; rfl
theorem RAt.c1 {w : World} {g : Nat} {s : ByteArray} {st : St} (h : RAt w g s st) : w.cell? ⟨g, 1, none⟩ = some (.int .i64 ((st.1 : Nat) : Int)) := by rw [cell_row h]; rfl
theorem RAt.c2 {w : World} {g : Nat} {s : ByteArray} {st : St} (h : RAt w g s st) : w.cell? ⟨g, 2, none⟩ = some (.int .i64 st.2.1) := by rw [cell_row h]; rfl
theorem RAt.c3 {w : World} {g : Nat} {s : ByteArray} {st : St} (h : RAt w g s st) : w.cell? ⟨g, 3, none⟩ = some (.int .i64 st.2.2) := by rw [cell_row h]; rfl
theorem RAt.fz {w : World} {g : Nat} {s : ByteArray} {st : St} (h : RAt w g s st) (j : Nat) : w.frozen? ⟨g, j, none⟩ = false := by
  unfold RAt at h
  simp [World.frozen?, h]
theorem RAt.goes {w : World} {g : Nat} {s : ByteArray} {k : Nat} {y f : Int} (h : RAt w g s (k, y, f)) (k' : Nat) : RAt (w.setCell ⟨g, 1, none⟩ (.int .i64 ((k' : Nat) : Int))) g s (k', y, f) := by
  unfold RAt at *
  rw [heap_setCell_same _ g 1 _ 57 _ h]
  rfl
theorem RAt.fails {w : World} {g : Nat} {s : ByteArray} {k : Nat} {y f : Int} (h : RAt w g s (k, y, f)) (y' f' : Int) : RAt ((w.setCell ⟨g, 2, none⟩ (.int .i64 y')).setCell ⟨g, 3, none⟩ (.int .i64 f')) g s (k, y', f') := by
  unfold RAt at *
  rw [heap_setCell_same _ g 3 _ 57 _ (heap_setCell_same _ g 2 _ 57 _ h)]
  rfl
theorem bdrew {B : Nat} {a w : World} (h : Below B a w) (q : Nat) : Below B a (w.drewN q) := h.trans ⟨rfl, rfl, rfl, Nat.le_refl _, fun _ _ => rfl⟩
theorem yok_any (g : Nat) (s : ByteArray) (st : St) (w : World) (h : RAt w g s st) : Calls Tryd.prog 37 #[.pointer (some ⟨g, 0, none⟩)] w fun e w' => e = .returned (.bool (st.2.1 == 0)) ∧ w' = w := by
  have c2 := h.c2
  clear h
  go_enter Tryd.func37, Tryd.ntmps37
  go_wp2
  go_ret
  exact ⟨rfl, rfl⟩
set_option maxHeartbeats 1000000 in
theorem yis_any (g : Nat) (s : ByteArray) (k : Nat) (y f : Int) (c : Int) (w : World) (h : RAt w g s (k, y, f)) : Calls Tryd.prog 34 #[.pointer (some ⟨g, 0, none⟩), .int .u8 c] w fun e w' => e = .returned (.bool (isR (bs s) (k, y, f) c)) ∧ ∃ q, w' = w.drewN q := by
  have hO : Hid (∀ q, Calls Tryd.prog 37 #[.pointer (some ⟨g, 0, none⟩)] (w.drewN q) fun e w' => e = .returned (.bool (y == 0)) ∧ w' = w.drewN q) := fun q => yok_any g s (k, y, f) (w.drewN q) h
  have c0 := h.c0
  have c1 := h.c1
  dsimp only at c1
  have hlen := bs_len s
  unfold isR
  dsimp only
  rw [hlen]
  clear h
  cases hy : (y == 0) with
  | false =>
    rw [hy] at hO
    go_enter Tryd.func34, Tryd.ntmps34
    go_wp2
    go_quiet (first | (go_at_call 37; exact Calls.quiet_of_same (hO.out _)))
    go_wp2
    go_ret
    exact ⟨rfl, _, rfl⟩
  | true =>
    rw [hy] at hO
    by_cases hk : k < s.size
    · have bk := bs_at s hk
      have hd : decide (k < s.size) = true := by simpa using hk
      rw [hd, bk]
      have dk : decide (((k : Nat) : Int) < ((s.size : Nat) : Int)) = true := by simp; omega
      clear bk hd
      cases hc : ((((s[k]'hk).toNat : Nat) : Int) == c) with
      | true =>
        go_enter Tryd.func34, Tryd.ntmps34
        go_wp2
        go_quiet (first | (go_at_call 37; exact Calls.quiet_of_same (hO.out _)))
        go_wp2
        go_ret
        exact ⟨rfl, _, rfl⟩
      | false =>
        go_enter Tryd.func34, Tryd.ntmps34
        go_wp2
        go_quiet (first | (go_at_call 37; exact Calls.quiet_of_same (hO.out _)))
        go_wp2
        go_ret
        exact ⟨rfl, _, rfl⟩
    · have hd : decide (k < s.size) = false := by simpa using hk
      rw [hd]
      have dk : decide (((k : Nat) : Int) < ((s.size : Nat) : Int)) = false := by simp; omega
      clear hd
      have hk' : ¬ ((k : Nat) : Int) < ((s.size : Nat) : Int) := by omega
      go_enter Tryd.func34, Tryd.ntmps34
      go_wp2
      go_quiet (first | (go_at_call 37; exact Calls.quiet_of_same (hO.out _)))
      go_wp2
      go_ret
      exact ⟨rfl, _, rfl⟩
set_option maxHeartbeats 1000000 in
theorem ymay_any (g : Nat) (s : ByteArray) (k : Nat) (y f : Int) (c : Int) (w : World) (h : RAt w g s (k, y, f)) (hk : k ≤ 4096) : Calls Tryd.prog 32 #[.pointer (some ⟨g, 0, none⟩), .int .u8 c] w fun e w' => e = .returned (.bool (isR (bs s) (k, y, f) c)) ∧ RAt w' g s (mayR (bs s) (k, y, f) c) ∧ Below g w w' := by
  have kI := yis_any g s k y f c w h
  have hH : Hid (RAt w g s (k, y, f)) := h
  have c1 := h.c1
  have f1 := h.fz 1
  dsimp only at c1
  clear h
  have wk : IntKind.i64.wrap (((k : Nat) : Int) + 1) = ((k + 1 : Nat) : Int) := by rw [IntKind.wrap_i64] <;> omega
  unfold mayR onR
  dsimp only
  generalize isR (bs s) (k, y, f) c = B at *
  generalize hk1 : k + 1 = K at *
  clear hk1 hk
  cases B with
  | true =>
    rw [if_pos rfl]
    go_enter Tryd.func32, Tryd.ntmps32
    go_wp2_with (go_at_call 34; refine kI.mono ?_; rintro e w1 ⟨rfl, q, hw⟩; rw [hw]; clear hw)
    go_ret
    exact ⟨rfl, RAt.goes (w := w.drewN q) hH.out K, bset (bdrew (Below.refl g w) q) 1 _⟩
  | false =>
    rw [if_neg (by simp)]
    go_enter Tryd.func32, Tryd.ntmps32
    go_wp2_with (go_at_call 34; refine kI.mono ?_; rintro e w1 ⟨rfl, q, hw⟩; rw [hw]; clear hw)
    go_ret
    exact ⟨rfl, hH.out, ⟨rfl, rfl, rfl, Nat.le_refl _, fun _ _ => rfl⟩⟩
set_option maxHeartbeats 1000000 in
theorem ywrong_any (g : Nat) (s : ByteArray) (k : Nat) (y f : Int) (w : World) (h : RAt w g s (k, y, f)) : Calls Tryd.prog 36 #[.pointer (some ⟨g, 0, none⟩)] w fun e w' => (∃ u, e = .returned u) ∧ RAt w' g s (wrongR (bs s) (k, y, f)) ∧ Below g w w' := by
  have kO := yok_any g s (k, y, f) w h
  have hH : Hid (RAt w g s (k, y, f)) := h
  have c0 := h.c0
  have c1 := h.c1
  have c2 := h.c2
  have c3 := h.c3
  have f2 := h.fz 2
  have f3 := h.fz 3
  dsimp only at c1 c2 c3 kO
  have hlen := bs_len s
  clear h
  unfold wrongR
  dsimp only
  rw [hlen]
  by_cases hy : y = 0
  · rw [if_pos hy]
    subst hy
    have kO' : Calls Tryd.prog 37 #[.pointer (some ⟨g, 0, none⟩)] w fun e w' => e = .returned (.bool true) ∧ w' = w := kO
    clear kO
    by_cases hk : s.size ≤ k
    · rw [if_pos hk]
      have dk : decide (((s.size : Nat) : Int) ≤ ((k : Nat) : Int)) = true := by simp; omega
      have hk' : ((s.size : Nat) : Int) ≤ ((k : Nat) : Int) := by omega
      go_enter Tryd.func36, Tryd.ntmps36
      go_wp2_with (go_at_call 37; refine kO'.mono ?_; rintro e w1 ⟨rfl, hw⟩; obtain rfl : w = w1 := hw.symm)
      go_quiet (fail)
      go_wp2
      refine bodyPost_end (results_none rfl _ _ _) rfl ?_
      exact ⟨⟨_, rfl⟩, RAt.fails (w := ((w.setCell ⟨g, 2, none⟩ (.int .i64 5)).setCell ⟨g, 3, none⟩ (.int .i64 ((k : Nat) : Int))).drewN nq) (hH.out.fails 5 ((k : Nat) : Int)) 3 ((s.size : Nat) : Int), bset (bset (bdrew (bset (bset (Below.refl g w) 2 _) 3 _) nq) 2 _) 3 _⟩
    · rw [if_neg hk]
      have dk : decide (((s.size : Nat) : Int) ≤ ((k : Nat) : Int)) = false := by simp; omega
      have hk' : ¬ ((s.size : Nat) : Int) ≤ ((k : Nat) : Int) := by omega
      go_enter Tryd.func36, Tryd.ntmps36
      go_wp2_with (go_at_call 37; refine kO'.mono ?_; rintro e w1 ⟨rfl, hw⟩; obtain rfl : w = w1 := hw.symm)
      go_quiet (fail)
      go_wp2
      refine bodyPost_end (results_none rfl _ _ _) rfl ?_
      exact ⟨⟨_, rfl⟩, hH.out.fails 5 ((k : Nat) : Int), bdrew (bset (bset (Below.refl g w) 2 _) 3 _) nq⟩
  · rw [if_neg hy]
    have hy' : (y == 0) = false := by simpa using hy
    rw [hy'] at kO
    clear hy
    go_enter Tryd.func36, Tryd.ntmps36
    go_wp2_with (go_at_call 37; refine kO.mono ?_; rintro e w1 ⟨rfl, hw⟩; obtain rfl : w = w1 := hw.symm)
    refine bodyPost_ret (results_none rfl _ _ _) rfl ?_
    exact ⟨⟨_, rfl⟩, hH.out, Below.refl _ _⟩
end Go.Proofs.YtcnfgmhcbelgoaaDoor
