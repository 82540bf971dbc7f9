/-
  A list of calls played on a cursor: behind a fault nothing turns.
-/
import Derived.Test.YtkmbphgcnppohaaPlay
import Derived.Deep.RegionHeld3
namespace Go.Proofs.Ytkmbphgcnppohaa
open Go.RowKit

/-- A variable of two numbers, in block q. -/
def PairAt (w : World) (q : Nat) (t : TypeId) (k n : Int) : Prop := w.heap[q]? = some (.cells #[.int .i64 k, .int .i64 n] t (0, 0))

theorem PairAt.lt {w : World} {q : Nat} {t : TypeId} {k n : Int} (h : PairAt w q t k n) : q < w.heap.size := (Array.getElem?_eq_some_iff.1 h).1
theorem PairAt.c0 {w : World} {q : Nat} {t : TypeId} {k n : Int} (h : PairAt w q t k n) : w.cell? ⟨q, 0, none⟩ = some (.int .i64 k) := cell_row h 0
theorem PairAt.c1 {w : World} {q : Nat} {t : TypeId} {k n : Int} (h : PairAt w q t k n) : w.cell? ⟨q, 1, none⟩ = some (.int .i64 n) := cell_row h 1
theorem PairAt.new (w : World) (t : TypeId) (k n : Int) : PairAt (w.alloc (.cells #[.int .i64 k, .int .i64 n] t)) w.heap.size t k n := heap_alloc_new _ _
theorem PairAt.kept {w w' : World} {q : Nat} {t : TypeId} {k n : Int} (h : PairAt w q t k n) (hb : Below w.heap.size w w') : PairAt w' q t k n := by
  unfold PairAt
  rw [hb.block q h.lt]
  exact h
theorem PairAt.but {w w' : World} {q g : Nat} {t : TypeId} {k n : Int} (h : PairAt w q t k n) (hg : w.grownBy w' (some g)) (hq : q ≠ g) : PairAt w' q t k n := by
  unfold PairAt
  rw [hg.block q h.lt (fun e => hq (Option.some.inj e))]
  exact h

theorem kinds (k : Int) : (IntKind.u64.wrap k).tmod 3 = 0 ∨ (IntKind.u64.wrap k).tmod 3 = 1 ∨ (IntKind.u64.wrap k).tmod 3 = 2 := by
  rw [IntKind.wrap_u64, Int.tmod_eq_emod_of_nonneg (by omega)]
  omega

set_option maxHeartbeats 2000000 in
theorem stays_walk (a0 : Option Addr) (len0 cap0 : Nat) (z0 : List Int) (a1 : Option Addr) (len1 cap1 : Nat) (w : World) (w0 : IsRow .u8 w a0 len0 cap0 z0) (r0 : cap0 ≤ 140737488351232) (w1 : Script w a1 len1 cap1) :
    Calls Try.prog 8 #[.slice a0 len0 cap0, .slice a1 len1 cap1] w fun e w' => e = .returned (.bool true) ∧ Below w.heap.size w w' := by
  have hnil : Hid (a0 = none → cap0 = 0) := nil_cap w0
  obtain ⟨hl, hb⟩ := bytes_of_row w0
  have hlc := (row_le w0).1
  generalize z0.take len0 = zs at *
  have hB : Hid (Bytes w a0 zs) := hb
  have hL : Hid (zs.length = len0) := hl
  have hsc : Hid (Script w a1 len1 cap1) := w1
  have hl1 : len1 ≤ 9223372036854775807 := by have := w1.1; have := w1.2.1; unfold maxLen at this; omega
  clear hb w0 hl w1
  go_enter Try.func8, Try.ntmps8
  go_wp2_with fail
  refine (new_any a0 len0 cap0 zs w hL.out hB.out hnil.out (by omega)).mono ?_
  rintro e w2 ⟨g, a2, rfl, hc2, hb2⟩
  go_wp2_with fail
  refine (alive_any _).mono ?_
  rintro e w3 ⟨rfl, hb3⟩
  have hc3 : Hid (Cur w3 w.heap.size g a2 len0 zs 0 0 0) := hc2.kept hb3
  have bl3 : Below w.heap.size w w3 := trans_kept hb2 hb3
  have hg0 : Hid (w.heap.size ≤ g) := hc2.2.2.2.2.2.1
  clear hc2 hb2 hb3 hB hnil
  go_wp2_with fail
  go_loopw [22] (fun i wr => ∃ j : Nat, j ≤ len1 ∧ i = .int .i64 j ∧ (∃ p y f, Hid (Cur wr w.heap.size g a2 len0 zs p y f) ∧ Hid (Inv y f)) ∧ Below w.heap.size w wr) (fun i _ => len1 - (intOf i).toNat)
  case atStart => exact ⟨0, by omega, rfl, ⟨0, 0, 0, hc3, fun _ => rfl⟩, bl3⟩
  case round =>
    obtain ⟨j, hj, rfl, ⟨p, y, f, hcr, hinv⟩, blr⟩ := hrel
    clear hc3 bl3
    by_cases hlt : j < len1
    · obtain ⟨-, -, h0 | ⟨b, off, rfl, hcell⟩⟩ := hsc.out.kept blr
      · omega
      · obtain ⟨k, n, c0, c1, hk, hn⟩ := hcell j hlt
        clear hcell
        go_wp2_with fail
        obtain ⟨w4, hw4⟩ : ∃ w4, Hid (wr.alloc (.cells #[.int .i64 k, .int .i64 n] 41) = w4) := ⟨_, rfl⟩
        have hb4 : Below wr.heap.size wr w4 := by rw [← hw4.out]; exact (Below.refl _ _).alloc (Nat.le_refl _) _
        have hq4 : Hid (PairAt w4 wr.heap.size 41 k n) := by rw [← hw4.out]; exact PairAt.new wr 41 k n
        rw [hw4.out]
        have hc4 : Hid (Cur w4 w.heap.size g a2 len0 zs p y f) := hcr.out.kept hb4
        have bl4 : Below w.heap.size w w4 := blr.trans (hb4.mono blr.size)
        have hqg : Hid (wr.heap.size ≠ g) := by have := hcr.out.1.lt; show _ ≠ _; omega
        clear hw4 hb4 hcr c0 c1
        generalize wr.heap.size = q at *
        refine (fault_any _ _ _ _ _ _ hc4.out.1).mono ?_
        rintro e w5 ⟨rfl, hb5⟩
        have hc5 : Hid (Cur w5 w.heap.size g a2 len0 zs p y f) := hc4.out.kept hb5
        have hq5 : Hid (PairAt w5 q 41 k n) := hq4.out.kept hb5
        have bl5 : Below w.heap.size w w5 := bl4.trans (hb5.mono bl4.size)
        clear hc4 hq4 bl4 hb5
        go_wp2_with fail
        refine (at_any _ _ _ _ _ _ hc5.out.1).mono ?_
        rintro e w6' ⟨rfl, rfl⟩
        obtain ⟨w6, hw6⟩ : ∃ w6, Hid (w6'.alloc (.cells #[.int .i64 y, .int .i64 f] 37) = w6) := ⟨_, rfl⟩
        have hb6 : Below w6'.heap.size w6' w6 := by rw [← hw6.out]; exact (Below.refl _ _).alloc (Nat.le_refl _) _
        have hs6 : Hid (PairAt w6 w6'.heap.size 37 y f) := by rw [← hw6.out]; exact PairAt.new w6' 37 y f
        have hc6 : Hid (Cur w6 w.heap.size g a2 len0 zs p y f) := hc5.out.kept hb6
        have hq6 : Hid (PairAt w6 q 41 k n) := hq5.out.kept hb6
        have bl6 : Below w.heap.size w w6 := bl5.trans (hb6.mono bl5.size)
        have hsg : Hid (w6'.heap.size ≠ g) := by have := hc5.out.1.lt; show _ ≠ _; omega
        have e0 := hq6.out.c0
        have e1 := hq6.out.c1
        rw [← hw6.out] at e0 e1
        by_cases hy : y = 0
        · have hf := hinv.out hy
          subst hy
          subst hf
          have hw0 : Hid (w6'.alloc (.cells #[.int .i64 0, .int .i64 0] 37) = w6) := hw6
          have d0 : (w6'.alloc (.cells #[.int .i64 0, .int .i64 0] 37)).cell? ⟨q, 0, none⟩ = some (.int .i64 k) := e0
          have d1 : (w6'.alloc (.cells #[.int .i64 0, .int .i64 0] 37)).cell? ⟨q, 1, none⟩ = some (.int .i64 n) := e1
          clear hw6 e0 e1
          rcases kinds k with hr | hr | hr
          · go_wp2_with fail
            rw [hw0.out]
            clear hw0 hb6 d0 d1 hr
            generalize w6'.heap.size = s at *
            obtain ⟨m, p', y', f', hs⟩ : ∃ m p' y' f', Hid (sW zs p 0 0 n = (m, p', y', f')) := ⟨_, _, _, _, rfl⟩
            refine (wide_u w.heap.size g p 0 0 len0 m p' y' f' a2 zs n w6 hc6.out hs.out).mono ?_
            rintro e w7 ⟨rfl, hc7', hg7⟩
            have hi7 : Hid (Inv y' f') := sW_inv (fun _ => rfl) hs.out
            have hc7 : Hid (Cur w7 w.heap.size g a2 len0 zs p' y' f') := hc7'
            have hs7 : Hid (PairAt w7 s 37 (0 : Nat) (0 : Nat)) := hs6.out.but hg7 hsg.out
            have bl7 := below_but bl6 hg7 bl6.size hg0.out
            clear hc7' hc6 hq6 hs6 bl6 hg7 hq5 hc5 bl5 hs
            go_wp2_with fail
            have s0 : w7.cell? ⟨s, 0, none⟩ = some (.int .i64 0) := hs7.out.c0
            have s1 : w7.cell? ⟨s, 1, none⟩ = some (.int .i64 0) := hs7.out.c1
            go_quiet (fail)
            all_goals
              go_wp2
              go_roundw
              case rel => exact ⟨j + 1, by omega, by go_num, ⟨p', y', f', hc7, hi7⟩, below_drewN bl7 nq⟩
              case measure => simp [intOf]; omega
          · go_wp2_with fail
            rw [hw0.out]
            clear hw0 hb6 d0 d1 hr
            generalize w6'.heap.size = s at *
            obtain ⟨m, p', y', f', hs⟩ : ∃ m p' y' f', Hid (sS zs p 0 0 = (m, p', y', f')) := ⟨_, _, _, _, rfl⟩
            refine (short_u w.heap.size g p 0 0 len0 m p' y' f' a2 zs w6 hc6.out hs.out).mono ?_
            rintro e w7 ⟨rfl, hc7', hg7⟩
            have hi7 : Hid (Inv y' f') := sS_inv (fun _ => rfl) hs.out
            have hc7 : Hid (Cur w7 w.heap.size g a2 len0 zs p' y' f') := hc7'
            have hs7 : Hid (PairAt w7 s 37 (0 : Nat) (0 : Nat)) := hs6.out.but hg7 hsg.out
            have bl7 := below_but bl6 hg7 bl6.size hg0.out
            clear hc7' hc6 hq6 hs6 bl6 hg7 hq5 hc5 bl5 hs
            go_wp2_with fail
            have s0 : w7.cell? ⟨s, 0, none⟩ = some (.int .i64 0) := hs7.out.c0
            have s1 : w7.cell? ⟨s, 1, none⟩ = some (.int .i64 0) := hs7.out.c1
            go_quiet (fail)
            all_goals
              go_wp2
              go_roundw
              case rel => exact ⟨j + 1, by omega, by go_num, ⟨p', y', f', hc7, hi7⟩, below_drewN bl7 nq⟩
              case measure => simp [intOf]; omega
          · go_wp2_with fail
            rw [hw0.out]
            clear hw0 hb6 d0 d1 hr
            generalize w6'.heap.size = s at *
            obtain ⟨xs, p', y', f', hs⟩ : ∃ xs p' y' f', Hid (sT zs p 0 0 n = (xs, p', y', f')) := ⟨_, _, _, _, rfl⟩
            refine (take_u w.heap.size g p 0 0 len0 p' y' f' a2 zs xs n w6 hc6.out hs.out).mono ?_
            rintro e w7 ⟨a7, m7, rfl, -, -, -, hc7', hg7⟩
            have hi7 : Hid (Inv y' f') := sT_inv (fun _ => rfl) hs.out
            have hc7 : Hid (Cur w7 w.heap.size g a2 len0 zs p' y' f') := hc7'
            have hs7 : Hid (PairAt w7 s 37 (0 : Nat) (0 : Nat)) := hs6.out.but hg7 hsg.out
            have bl7 := below_but bl6 hg7 bl6.size hg0.out
            clear hc7' hc6 hq6 hs6 bl6 hg7 hq5 hc5 bl5 hs
            go_wp2_with fail
            have s0 : w7.cell? ⟨s, 0, none⟩ = some (.int .i64 0) := hs7.out.c0
            have s1 : w7.cell? ⟨s, 1, none⟩ = some (.int .i64 0) := hs7.out.c1
            go_quiet (fail)
            all_goals
              go_wp2
              go_roundw
              case rel => exact ⟨j + 1, by omega, by go_num, ⟨p', y', f', hc7, hi7⟩, below_drewN bl7 nq⟩
              case measure => simp [intOf]; omega
        · rcases kinds k with hr | hr | hr
          · go_wp2_with fail
            rw [hw6.out]
            clear hw6 hb6 e0 e1 hr
            generalize w6'.heap.size = s at *
            refine (wide_u w.heap.size g p y f len0 0 p y f a2 zs n w6 hc6.out (if_pos hy)).mono ?_
            rintro e w7 ⟨rfl, hc7', hg7⟩
            have hc7 : Hid (Cur w7 w.heap.size g a2 len0 zs p y f) := hc7'
            have hs7 : Hid (PairAt w7 s 37 y f) := hs6.out.but hg7 hsg.out
            have bl7 := below_but bl6 hg7 bl6.size hg0.out
            have hyb : ((y : Int) == 0) = false := by rw [beq_eq_false_iff_ne]; omega
            clear hc7' hc6 hq6 hs6 bl6 hg7 hq5 hc5 bl5
            go_wp2_with fail
            go_region_held3 (fun w' => w'.cell? ⟨s, 0, none⟩ = some (.int .i64 y) ∧ w'.cell? ⟨s, 1, none⟩ = some (.int .i64 f)) (first | exact ⟨hs7.out.c0, hs7.out.c1⟩ | exact ⟨hs8.out.c0, hs8.out.c1⟩) (first
              | (go_at_call 24; refine (fault_any g p y f _ _ (by exact hc7.out.1)).mono ?_; rintro e w8 ⟨rfl, hb8'⟩; have hb8 : Below w7.heap.size w7 w8 := ⟨hb8'.os, hb8'.tape, hb8'.output, hb8'.size, hb8'.block⟩; have hs8 : Hid (PairAt w8 s 37 y f) := hs7.out.kept hb8; have hc8 : Hid (Cur w8 w.heap.size g a2 len0 zs p y f) := hc7.out.kept hb8; have bl8 : Below w.heap.size w w8 := bl7.trans (hb8.mono bl7.size); clear hb8')
              | (go_at_call 22; refine (at_any g p y f _ _ (by exact hc8.out.1)).mono ?_; rintro e w9 ⟨rfl, rfl⟩))
            all_goals
              go_wp2
              go_roundw
              case rel => exact ⟨j + 1, by omega, by go_num, ⟨p, y, f, hc8, hinv⟩, bl8⟩
              case measure => simp [intOf]; omega
          · go_wp2_with fail
            rw [hw6.out]
            clear hw6 hb6 e0 e1 hr
            generalize w6'.heap.size = s at *
            refine (short_u w.heap.size g p y f len0 0 p y f a2 zs w6 hc6.out (if_pos hy)).mono ?_
            rintro e w7 ⟨rfl, hc7', hg7⟩
            have hc7 : Hid (Cur w7 w.heap.size g a2 len0 zs p y f) := hc7'
            have hs7 : Hid (PairAt w7 s 37 y f) := hs6.out.but hg7 hsg.out
            have bl7 := below_but bl6 hg7 bl6.size hg0.out
            have hyb : ((y : Int) == 0) = false := by rw [beq_eq_false_iff_ne]; omega
            clear hc7' hc6 hq6 hs6 bl6 hg7 hq5 hc5 bl5
            go_wp2_with fail
            go_region_held3 (fun w' => w'.cell? ⟨s, 0, none⟩ = some (.int .i64 y) ∧ w'.cell? ⟨s, 1, none⟩ = some (.int .i64 f)) (first | exact ⟨hs7.out.c0, hs7.out.c1⟩ | exact ⟨hs8.out.c0, hs8.out.c1⟩) (first
              | (go_at_call 24; refine (fault_any g p y f _ _ (by exact hc7.out.1)).mono ?_; rintro e w8 ⟨rfl, hb8'⟩; have hb8 : Below w7.heap.size w7 w8 := ⟨hb8'.os, hb8'.tape, hb8'.output, hb8'.size, hb8'.block⟩; have hs8 : Hid (PairAt w8 s 37 y f) := hs7.out.kept hb8; have hc8 : Hid (Cur w8 w.heap.size g a2 len0 zs p y f) := hc7.out.kept hb8; have bl8 : Below w.heap.size w w8 := bl7.trans (hb8.mono bl7.size); clear hb8')
              | (go_at_call 22; refine (at_any g p y f _ _ (by exact hc8.out.1)).mono ?_; rintro e w9 ⟨rfl, rfl⟩))
            all_goals
              go_wp2
              go_roundw
              case rel => exact ⟨j + 1, by omega, by go_num, ⟨p, y, f, hc8, hinv⟩, bl8⟩
              case measure => simp [intOf]; omega
          · go_wp2_with fail
            rw [hw6.out]
            clear hw6 hb6 e0 e1 hr
            generalize w6'.heap.size = s at *
            refine (take_u w.heap.size g p y f len0 p y f a2 zs [] n w6 hc6.out (if_pos hy)).mono ?_
            rintro e w7 ⟨a7, m7, rfl, -, -, hm7, hc7', hg7⟩
            obtain rfl : m7 = 0 := hm7.out.symm
            clear hm7
            have hc7 : Hid (Cur w7 w.heap.size g a2 len0 zs p y f) := hc7'
            have hs7 : Hid (PairAt w7 s 37 y f) := hs6.out.but hg7 hsg.out
            have bl7 := below_but bl6 hg7 bl6.size hg0.out
            have hyb : ((y : Int) == 0) = false := by rw [beq_eq_false_iff_ne]; omega
            clear hc7' hc6 hq6 hs6 bl6 hg7 hq5 hc5 bl5
            go_wp2_with fail
            go_region_held3 (fun w' => w'.cell? ⟨s, 0, none⟩ = some (.int .i64 y) ∧ w'.cell? ⟨s, 1, none⟩ = some (.int .i64 f)) (first | exact ⟨hs7.out.c0, hs7.out.c1⟩ | exact ⟨hs8.out.c0, hs8.out.c1⟩) (first
              | (go_at_call 24; refine (fault_any g p y f _ _ (by exact hc7.out.1)).mono ?_; rintro e w8 ⟨rfl, hb8'⟩; have hb8 : Below w7.heap.size w7 w8 := ⟨hb8'.os, hb8'.tape, hb8'.output, hb8'.size, hb8'.block⟩; have hs8 : Hid (PairAt w8 s 37 y f) := hs7.out.kept hb8; have hc8 : Hid (Cur w8 w.heap.size g a2 len0 zs p y f) := hc7.out.kept hb8; have bl8 : Below w.heap.size w w8 := bl7.trans (hb8.mono bl7.size); clear hb8')
              | (go_at_call 22; refine (at_any g p y f _ _ (by exact hc8.out.1)).mono ?_; rintro e w9 ⟨rfl, rfl⟩))
            all_goals
              go_wp2
              go_roundw
              case rel => exact ⟨j + 1, by omega, by go_num, ⟨p, y, f, hc8, hinv⟩, bl8⟩
              case measure => simp [intOf]; omega
    · go_wp2
      go_ret
      exact ⟨rfl, blr⟩
end Go.Proofs.Ytkmbphgcnppohaa
