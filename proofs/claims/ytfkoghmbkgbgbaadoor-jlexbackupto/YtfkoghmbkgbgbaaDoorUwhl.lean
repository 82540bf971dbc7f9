/-
  Where the whole characters end, and how far a character is begun, in the program.
-/
import Derived.Test.YtfkoghmbkgbgbaaDoorEnds
import Derived.Test.YtfkoghmbkgbgbaaDoorSame
import Derived.Laws.RangeAny
import Derived.LoopTactic
namespace Go.Proofs.YtfkoghmbkgbgbaaDoor
open Go.RowKit

/-- A byte's cell, as a natural number. -/
theorem Bytes.nat {w : World} {b off : Nat} {zs : List Int} (hb : Bytes w (some ⟨b, off, none⟩) zs) {i : Nat} (hi : i < zs.length) : w.cell? ⟨b, off + i, none⟩ = some (.int .u8 (nth zs i : Nat)) := by
  rcases hb.2.2 with h | ⟨b', off', h, hc⟩
  · subst h; simp at hi
  · cases h
    rw [hc i hi]
    have h1 : 0 ≤ zs.getD i 0 := by
      rw [List.getD_eq_getElem?_getD, List.getElem?_eq_getElem hi]
      exact (hb.1 _ (List.getElem_mem hi)).1
    unfold nth
    rw [Int.toNat_of_nonneg h1]

theorem rlen_any (r : Nat) (w : World) (h : Right r) :
    Calls Tryd.prog 64 #[.int .i32 (r : Nat)] w fun e w' => e = .returned (.int .i64 (lenR r : Nat)) ∧ w' = w := by
  unfold Right at h
  go_enter Tryd.func64, Tryd.ntmps64
  go_wp2
  all_goals
    go_ret
    refine ⟨?_, rfl⟩
    first
    | (have e : lenR r = 1 := by (unfold lenR; repeat' split) <;> omega
       rw [e]; rfl)
    | (have e : lenR r = 2 := by (unfold lenR; repeat' split) <;> omega
       rw [e]; rfl)
    | (have e : lenR r = 3 := by (unfold lenR; repeat' split) <;> omega
       rw [e]; rfl)
    | (have e : lenR r = 4 := by (unfold lenR; repeat' split) <;> omega
       rw [e]; rfl)

theorem iter_below (w : World) (s : ByteArray) (p : Nat) : Below w.heap.size w (w.iter s p) := (Below.refl _ _).alloc (Nat.le_refl _) _

set_option maxHeartbeats 1000000 in
theorem uwhole_any (a : Option Addr) (n cap : Nat) (zs : List Int) (w : World) (hl : zs.length = n) (hb : Bytes w a zs) (hn : n ≤ 4611686018427387904) :
    Calls Tryd.prog 43 #[.slice a n cap] w fun e w' => e = .returned (.int .i64 (endL zs : Nat)) ∧ Below w.heap.size w w' := by
  have hZ : Hid (∀ c ∈ zs, 0 ≤ c ∧ c < 256) := hb.1
  have hL : Hid (zs.length = n) := hl
  obtain ⟨s, hS, ks, hsz⟩ : ∃ s, Hid (s = strOfNums zs) ∧ (convert 22 9 (.slice a n cap)).run Tryd.prog w = .ok (.string s) w ∧ s.size = n := ⟨_, rfl, conv_str hb n cap hl, by rw [strOfNums_size, hl]⟩
  clear hb hl
  go_enter Tryd.func43, Tryd.ntmps43
  go_wp2
  go_loopw [3, 4] (fun f e wr => (∃ pos fr : Nat, wr = w.iter s pos ∧ f = .int .i64 fr ∧ e = .int .i64 pos ∧ pos ≤ n ∧ Hid (endL zs = pos + endL (zs.drop pos))) ∨ (∃ p q fr : Nat, wr = w.iter s p ∧ f = .int .i64 fr ∧ e = .int .i64 q ∧ p ≤ n ∧ Hid (p = fr + 1) ∧ Hid (q = fr + 3) ∧ Hid (endL zs = fr))) (fun _ _ wr => n - wr.iterPos w.heap.size)
  case atStart => exact .inl ⟨0, 0, rfl, rfl, rfl, Nat.zero_le _, (by show _ = _; simp)⟩
  case round =>
    rcases hrel with ⟨pos, fr, rfl, rfl, rfl, hp, hE⟩ | ⟨p, q, fr, rfl, rfl, rfl, hp, hP, hQ, hE⟩
    · by_cases hlt : pos < n
      · have h0 : zs.drop pos ≠ [] := by intro h; have := congrArg List.length h; rw [List.length_drop, hL.out] at this; simp at this; omega
        by_cases hg : Good (zs.drop pos)
        · have hd := decode_good hZ.out hg
          have hne := good_ne hg h0
          rw [List.length_drop, hL.out] at hne
          have hR := good_right hg
          have hlr := val_lenR hg
          have hE2 : Hid (endL zs = (pos + lenB (zs.drop pos)) + endL (zs.drop (pos + lenB (zs.drop pos)))) := by
            show _ = _
            rw [hE.out, end_good h0 hg, List.drop_drop]
            omega
          have hnx : ∀ ty, (Instr.next (.pointer (some ⟨w.heap.size, 0, none⟩)) true ty).run Tryd.prog (w.iter s pos) = .ok (.tuple #[.bool true, .int .i64 pos, .int .i32 (valB (zs.drop pos) : Nat)]) (w.iter s (pos + lenB (zs.drop pos))) := fun ty => by
            rw [run_next_any w s pos ty (by omega), hS.out, hd]
          clear hd hE h0 hg
          generalize valB (zs.drop pos) = V at *
          generalize lenB (zs.drop pos) = L at *
          have hlr' : Hid (lenR V = L) := hlr
          clear hlr
          have k := fun w' => rlen_any V w' hR
          rw [hlr'.out] at k
          go_wp2_with (go_at_call 64; refine (k _).mono ?_; rintro e w' ⟨rfl, rfl⟩)
          go_roundw
          case rel => exact .inl ⟨pos + L, pos, rfl, rfl, by go_num, by omega, hE2⟩
          case measure => simp; omega
        · have hd := decode_bad hZ.out hg
          have hE2 : Hid (endL zs = pos) := by
            show _ = _
            rw [hE.out, end_bad hg, Nat.add_zero]
          have hnx : ∀ ty, (Instr.next (.pointer (some ⟨w.heap.size, 0, none⟩)) true ty).run Tryd.prog (w.iter s pos) = .ok (.tuple #[.bool true, .int .i64 pos, .int .i32 (65533 : Nat)]) (w.iter s (pos + 1)) := fun ty => by
            rw [run_next_any w s pos ty (by omega), hS.out, hd]
          clear hd hE h0 hg
          have k := fun w' => rlen_any 65533 w' (by unfold Right; omega)
          rw [show lenR 65533 = 3 from rfl] at k
          go_wp2_with (go_at_call 64; refine (k _).mono ?_; rintro e w' ⟨rfl, rfl⟩)
          go_roundw
          case rel => exact .inr ⟨pos + 1, pos + 3, pos, rfl, rfl, by go_num, by omega, rfl, rfl, hE2⟩
          case measure => simp; omega
      · obtain rfl : pos = n := by omega
        have hE2 : Hid (endL zs = pos) := by
          show _ = _
          rw [hE.out, List.drop_of_length_le (by rw [hL.out]; omega), end_nil]
          rfl
        have hnx : ∀ ty, (Instr.next (.pointer (some ⟨w.heap.size, 0, none⟩)) true ty).run Tryd.prog (w.iter s pos) = _ := fun ty => run_next_end w s pos ty (by omega)
        clear hE
        go_wp2
        go_ret
        rw [hE2.out]
        exact ⟨rfl, iter_below _ _ _⟩
    · have hne : ((p : Int) != (q : Int)) = true := by have := hP.out; have := hQ.out; simp; omega
      by_cases hlt : p < n
      · have hnx : ∀ ty, (Instr.next (.pointer (some ⟨w.heap.size, 0, none⟩)) true ty).run Tryd.prog (w.iter s p) = _ := fun ty => run_next_any w s p ty (by omega)
        go_wp2
        go_ret
        rw [hE.out]
        exact ⟨rfl, iter_below _ _ _⟩
      · obtain rfl : p = n := by omega
        have hnx : ∀ ty, (Instr.next (.pointer (some ⟨w.heap.size, 0, none⟩)) true ty).run Tryd.prog (w.iter s p) = _ := fun ty => run_next_end w s p ty (by omega)
        have hne2 : ((q : Int) != (p : Int)) = true := by have := hP.out; have := hQ.out; simp; omega
        go_wp2
        go_ret
        rw [hE.out]
        exact ⟨rfl, iter_below _ _ _⟩
end Go.Proofs.YtfkoghmbkgbgbaaDoor
