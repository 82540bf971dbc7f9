/-
  A short number read off a cursor, in the program.
-/
import Derived.Test.YtfipdldoklkciaaQtk
import Derived.Test.YtfipdldoklkciaaQpt
namespace Go.Proofs.Ytfipdldoklkciaa
open Go.RowKit

/-- A byte that may not stand there, at place i of a short number, behind groups that are n. -/
def wrongB (i : Nat) (x : Int) (n : Nat) : Bool := decide ((i = 0 ∧ x = 128) ∨ (i = 9 ∧ (128 ≤ x ∨ 144115188075855872 ≤ n)))

set_option maxHeartbeats 400000 in
theorem wrong_any (i n : Nat) (x : Int) (w : World) :
    Calls Try.prog 85 #[.int .i64 i, .int .u8 x, .int .u64 n] w fun e w' => e = .returned (.bool (wrongB i x n)) ∧ w' = w := by
  go_enter Try.func85, Try.ntmps85
  go_wp2
  all_goals
    go_ret
    refine ⟨?_, rfl⟩
    show Ending.returned (Value.bool _) = _
    unfold wrongB
    congr 2
    first | (simp_all; done) | (rw [Bool.eq_iff_iff]; simp_all; done) | (rw [Bool.eq_iff_iff]; simp at *; omega) | (simp at *; omega)

theorem pass_at (base g p y f n k : Nat) (K : Int) (a : Option Addr) (zs : List Int) (w : World) (h : Cur w base g a n zs p y f) (hK : K = (k : Int)) (hk : p + k ≤ n) :
    Calls Try.prog 86 #[.pointer (some ⟨g, 0, none⟩), .int .i64 K] w fun e w' => ∃ a' c', e = .returned (.slice a' k c') ∧ Cur w' base g a n zs (p + k) y f ∧ w.grownBy w' (some g) := by
  subst hK
  refine (pass_any base g p y f n k a zs w h hk).mono ?_
  rintro e w' ⟨a', c', rfl, _, _, _, hc, hg⟩
  exact ⟨a', c', rfl, hc, hg⟩

theorem mask_in (x : Int) (h0 : 0 ≤ x) (h1 : x < 256) : bits .and .u8 x 127 = x % 128 := by
  obtain ⟨d, rfl⟩ : ∃ d : Nat, x = (d : Int) := ⟨x.toNat, by omega⟩
  rw [show (127 : Int) = ((127 : Nat) : Int) from rfl, u8_and_nat d 127 (by omega) (by decide), nat_mask7]
  omega

theorem join7 (A : Nat) (c : Int) (hA : A < 144115188075855872) (h0 : 0 ≤ c) (h1 : c < 128) : bits .or .u64 ((A : Int) * 128) c = ((A * 128 + c.toNat : Nat) : Int) := by
  obtain ⟨d, rfl⟩ : ∃ d : Nat, c = (d : Int) := ⟨c.toNat, by omega⟩
  rw [show (A : Int) * 128 = ((A * 128 : Nat) : Int) from rfl, u64_or_nat (A * 128) d (by omega) (by omega), nat_join 7 (A * 128) d (by omega) (by omega)]
  rfl

set_option maxHeartbeats 400000 in
theorem short_stop (base g p y f n : Nat) (a : Option Addr) (zs : List Int) (w : World) (h : Cur w base g a n zs p y f) (hy : y ≠ 0) :
    Calls Try.prog 44 #[.pointer (some ⟨g, 0, none⟩)] w fun e w' => e = .returned (.int .u64 0) ∧ Cur w' base g a n zs p y f ∧ w.grownBy w' (some g) := by
  go_enter Try.func44, Try.ntmps44
  go_wp2_with fail
  go_loopw [3, 6] (fun t i wr => t = .int .u64 0 ∧ i = .int .i64 0 ∧ Hid (wr = w)) (fun _ _ _ => 0)
  case atStart => exact ⟨rfl, rfl, rfl⟩
  case round =>
    obtain ⟨rfl, rfl, hw⟩ := hrel
    have hwr := hw.out
    subst hwr
    go_wp2_with fail
    refine (canRead_stop _ _ _ _ _ _ _ _ h.1 hy).mono ?_
    rintro e w2 ⟨rfl, hb2⟩
    go_wp2
    go_ret
    exact ⟨rfl, h.kept hb2, Below.but hb2 _⟩

/-- What a cursor's Short answers, and where it stands then. -/
def sS (zs : List Int) (p y f : Nat) : Nat × Nat × Nat × Nat :=
  if y ≠ 0 then (0, p, y, f)
  else if (rdS (zs.drop p) 0 0).1 = 0 then ((rdS (zs.drop p) 0 0).2.1, p + (rdS (zs.drop p) 0 0).2.2, 0, f)
  else if (rdS (zs.drop p) 0 0).1 = 3 then (0, p, 3, zs.length)
  else (0, p, 5, p + (rdS (zs.drop p) 0 0).2.2)

set_option maxHeartbeats 1000000 in
theorem short_go (base g p f n : Nat) (a : Option Addr) (zs : List Int) (w : World) (h : Cur w base g a n zs p 0 f) :
    Calls Try.prog 44 #[.pointer (some ⟨g, 0, none⟩)] w fun e w' => e = .returned (.int .u64 ((sS zs p 0 f).1 : Nat)) ∧ Cur w' base g a n zs (sS zs p 0 f).2.1 (sS zs p 0 f).2.2.1 (sS zs p 0 f).2.2.2 ∧ w.grownBy w' (some g) := by
  have hn : n ≤ 140737488355328 := h.2.2.2.2.1
  have hl : Hid (zs.length = n) := h.2.2.1
  have hz : Hid (∀ c ∈ zs, 0 ≤ c ∧ c < 256) := h.2.1.1
  go_enter Try.func44, Try.ntmps44
  go_wp2_with fail
  go_loopw [3, 6] (fun t i wr => ∃ I A : Nat, I ≤ 9 ∧ p + I ≤ n ∧ t = .int .u64 A ∧ i = .int .i64 I ∧ Hid (A < 128 ^ I) ∧ Hid (rdS (zs.drop p) 0 0 = rdS (zs.drop (p + I)) I A) ∧ Hid (Cur wr base g a n zs p 0 f) ∧ w.grownBy wr (some g)) (fun _ i _ => 9 - (intOf i).toNat)
  case atStart => exact ⟨0, 0, by omega, h.2.2.2.1, rfl, rfl, by show _ < _; simp, rfl, h, World.grownBy.refl _ _⟩
  case round =>
    obtain ⟨I, A, hI, hpI, rfl, rfl, hA, hrd, hcur, hgr⟩ := hrel
    have hp : p ≤ n := by omega
    clear h
    by_cases hlt : p + I < n
    · obtain ⟨x, hx⟩ : ∃ x, zs[p + I]? = some x := ⟨_, List.getElem?_eq_getElem (by rw [hl.out]; exact hlt)⟩
      have hx' : Hid (zs.drop (p + I) = x :: zs.drop (p + I + 1)) := by
        obtain ⟨hx1, hx2⟩ := List.getElem?_eq_some_iff.1 hx
        show _ = _
        rw [List.drop_eq_getElem_cons hx1, hx2]
      have hx0 : 0 ≤ x ∧ x < 256 := hz.out x (List.mem_of_getElem? hx)
      obtain ⟨hx1, hx2⟩ := hx0
      go_wp2_with fail
      refine (canRead_ok _ _ _ _ _ _ _ _ hcur.out.1 hp (by omega) (by omega)).mono ?_
      rintro e w2 ⟨rfl, hb2⟩
      have hc2 : Hid (Cur w2 base g a n zs p 0 f) := hcur.out.kept hb2
      have hg2 : w.grownBy w2 (some g) := hgr.trans (Below.but hb2 _)
      obtain ⟨b, off, rfl⟩ := bytes_some hc2.out.2.1 (by rw [hl.out]; omega)
      have hcell : w2.cell? ⟨b, off + (p + I), none⟩ = some (.int .u8 x) := by
        obtain ⟨_, _, h0 | ⟨b', off', h1, hcell⟩⟩ := hc2.out.2.1
        · have := hl.out
          rw [h0] at this
          simp at this
          omega
        · cases h1
          rw [hcell (p + I) (by rw [hl.out]; exact hlt), List.getD_eq_getElem?_getD, hx]
          rfl
      have c1 := hc2.out.1.c1
      have c2 := hc2.out.1.c2
      clear hcur hgr hb2 hx
      go_wp2_with fail
      go_quiet (fail)
      have hb3 := below_drewN (Below.refl w2.heap.size w2) nq
      have hc3 : Hid (Cur (w2.drewN nq) base g (some ⟨b, off, none⟩) n zs p 0 f) := hc2.out.kept hb3
      have hg3 : w.grownBy (w2.drewN nq) (some g) := but_drewN hg2 nq
      clear hb3 hc2 hg2 hcell c1 c2
      generalize w2.drewN nq = w3 at *
      go_wp2_with fail
      refine (wrong_any _ _ _ _).mono ?_
      rintro e w4 ⟨rfl, rfl⟩
      have c2 := hc3.out.1.c2
      have c3 := hc3.out.1.c3
      have c4 := hc3.out.1.c4
      have z3 := hc3.out.1.fz 3
      have z4 := hc3.out.1.fz 4
      by_cases hwr : wrongB I x A = true
      · rw [hwr]
        have hr : Hid (rdS (zs.drop p) 0 0 = (5, 0, I)) := by
          show _ = _
          rw [hrd.out, hx'.out, rdS, if_pos (of_decide_eq_true hwr)]
        clear hrd hx' hwr hA
        go_wp2
        go_ret
        have hf := hc3.out.1.fails 5 (p + I)
        have hg := but_setCell (but_setCell (World.grownBy.refl w4 (some g)) 3 (.int .i64 (5 : Nat))) 4 (.int .i64 ((p + I : Nat) : Int))
        have hs : sS zs p 0 f = (0, p, 5, p + I) := by simp [sS, hr.out]
        rw [hs]
        exact ⟨rfl, hc3.out.turned hg hf hp, hg3.trans hg⟩
      · have hwf : wrongB I x A = false := by simpa using hwr
        rw [hwf]
        have hnw : ¬ ((I = 0 ∧ x = 128) ∨ (I = 9 ∧ (128 ≤ x ∨ 144115188075855872 ≤ A))) := of_decide_eq_false hwf
        have hA57 : A < 144115188075855872 := by
          by_cases h9 : I = 9
          · omega
          · have h1 : 128 ^ I ≤ 128 ^ 8 := Nat.pow_le_pow_right (by decide) (by omega)
            have h2 := hA.out
            omega
        have hmask := mask_in x hx1 hx2
        have hor := join7 A (x % 128) hA57 (by omega) (by omega)
        obtain ⟨B, hB0⟩ : ∃ B : Nat, Hid (B = A * 128 + (x % 128).toNat) := ⟨_, rfl⟩
        rw [← hB0.out] at hor
        clear hwr hwf
        by_cases hx8 : x < 128
        · have hr : Hid (rdS (zs.drop p) 0 0 = (0, B, I + 1)) := by
            show _ = _
            rw [hrd.out, hx'.out, rdS, if_neg hnw, if_pos hx8, hB0.out]
            simp only [Prod.mk.injEq, true_and, and_true]
            omega
          have hnw' : Hid (¬ ((I = 0 ∧ x = 128) ∨ (I = 9 ∧ (128 ≤ x ∨ 144115188075855872 ≤ A)))) := hnw
          clear hnw hrd hx' hA
          go_wp2_with fail
          refine (pass_at base g p 0 f n (I + 1) _ _ zs _ hc3.out (by omega) (by omega)).mono ?_
          rintro e w5 ⟨a5, k5, rfl, hc5, hg5⟩
          go_wp2
          go_ret
          have hs : sS zs p 0 f = (B, p + (I + 1), 0, f) := by simp [sS, hr.out]
          rw [hs]
          exact ⟨rfl, hc5, hg3.trans hg5⟩
        · have hI8 : I + 1 ≤ 9 := by omega
          have hr : Hid (rdS (zs.drop p) 0 0 = rdS (zs.drop (p + (I + 1))) (I + 1) B) := by
            show _ = _
            rw [hrd.out, hx'.out, rdS, if_neg hnw, if_neg hx8, hB0.out, show A * 128 + (x - 128).toNat = A * 128 + (x % 128).toNat from by omega]
            rfl
          have hA' : Hid (B < 128 ^ (I + 1)) := by
            show _ < _
            have h2 := hA.out
            rw [hB0.out, Nat.pow_succ]
            omega
          clear hnw hrd hx' hA
          go_wp2
          go_roundw
          case rel => exact ⟨I + 1, B, hI8, by omega, rfl, by go_num, hA', hr, hc3, hg3⟩
          case measure => simp [intOf]; omega
    · have hr : Hid (rdS (zs.drop p) 0 0 = (3, 0, I)) := by
        show _ = _
        rw [hrd.out, List.drop_eq_nil_of_le (by rw [hl.out]; omega), rdS]
      clear hrd hA
      go_wp2_with fail
      refine (canRead_end _ _ _ _ _ _ _ _ hcur.out.1 hp (by omega) (by omega)).mono ?_
      rintro e w2 ⟨rfl, hc2, hg2⟩
      go_wp2
      go_ret
      have hs : sS zs p 0 f = (0, p, 3, n) := by simp [sS, hr.out, hl.out]
      rw [hs]
      exact ⟨rfl, hcur.out.turned hg2 hc2 hp, hgr.trans hg2⟩
end Go.Proofs.Ytfipdldoklkciaa
