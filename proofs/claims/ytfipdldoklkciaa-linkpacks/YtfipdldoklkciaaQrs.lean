/-
  A short number read off the document's own cursor.
-/
import Derived.Test.YtfipdldoklkciaaQrc
import Derived.Test.YtfipdldoklkciaaQrp
namespace Go.Proofs.Ytfipdldoklkciaa
open Go.RowKit
theorem fails_at (r p f : Nat) (y' f' : Nat) (Y F : Int) (v : Value) (w : World) (h : RAt w r v p 0 f) (hY : Y = (y' : Int)) (hF : F = (f' : Int)) :
    Calls Try.prog 88 #[.pointer (some ⟨r, 0, none⟩), .int .i64 Y, .int .i64 F] w fun e w' => (∃ u, e = .returned u) ∧ RAt w' r v p y' f' ∧ w.grownBy w' (some r) := by
  subst hY
  subst hF
  exact fails_any r p f y' f' v w h


set_option maxHeartbeats 400000 in
theorem rshort_stop (r p y f n cap : Nat) (a : Option Addr) (zs : List Int) (w : World) (h : RCur w r a n cap zs p y f) (hy : y ≠ 0) :
    Calls Try.prog 51 #[.pointer (some ⟨r, 0, none⟩)] w fun e w' => e = .returned (.int .u64 0) ∧ w' = w := by
  have c2 := h.1.c2
  have hyb : ((y : Int) != 0) = true := by rw [bne_iff_ne]; omega
  go_enter Try.func51, Try.ntmps51
  go_wp2
  go_ret
  exact ⟨rfl, rfl⟩

set_option maxRecDepth 100000 in
set_option maxHeartbeats 4000000 in
theorem rshort_go (r p f n cap : Nat) (a : Option Addr) (zs : List Int) (w : World) (h : RCur w r a n cap zs p 0 f) :
    Calls Try.prog 51 #[.pointer (some ⟨r, 0, none⟩)] w fun e w' => e = .returned (.int .u64 ((sS zs p 0 f).1 : Nat)) ∧ RCur w' r a n cap zs (sS zs p 0 f).2.1 (sS zs p 0 f).2.2.1 (sS zs p 0 f).2.2.2 ∧ w.grownBy w' (some r) := by
  have hn : n ≤ 140737488355328 := h.2.2.2.2.1
  have hcap : n ≤ cap := h.2.2.2.2.2.1
  have hl : Hid (zs.length = n) := h.2.2.1
  have hz : Hid (∀ c ∈ zs, 0 ≤ c ∧ c < 256) := h.2.1.1
  have c2 := h.1.c2
  go_enter Try.func51, Try.ntmps51
  go_wp2_with fail
  go_loopw [3, 4] (fun t i wr => ∃ I A : Nat, I ≤ 9 ∧ p + I ≤ n ∧ t = .int .u64 A ∧ i = .int .i64 I ∧ Hid (A < 128 ^ I) ∧ Hid (rdS (zs.drop p) 0 0 = rdS (zs.drop (p + I)) I A) ∧ Hid (RCur wr r a n cap zs p 0 f) ∧ w.grownBy wr (some r)) (fun _ i _ => 9 - (intOf i).toNat)
  case atStart => exact ⟨0, 0, by omega, h.2.2.2.1, rfl, rfl, by show _ < _; simp, rfl, h, World.grownBy.refl _ _⟩
  case round =>
    obtain ⟨I, A, hI, hpI, rfl, rfl, hA, hrd, hcur, hgr⟩ := hrel
    have hp : p ≤ n := by omega
    clear h c2
    have c0 := hcur.out.1.c0
    have c1 := hcur.out.1.c1
    by_cases hlt : p + I < n
    · obtain ⟨x, hx⟩ : ∃ x, zs[p + I]? = some x := ⟨_, List.getElem?_eq_getElem (by rw [hl.out]; exact hlt)⟩
      have hx' : Hid (zs.drop (p + I) = x :: zs.drop (p + I + 1)) := by
        obtain ⟨hx1, hx2⟩ := List.getElem?_eq_some_iff.1 hx
        show _ = _
        rw [List.drop_eq_getElem_cons hx1, hx2]
      have hx0 : 0 ≤ x ∧ x < 256 := hz.out x (List.mem_of_getElem? hx)
      obtain ⟨hx1, hx2⟩ := hx0
      obtain ⟨b, off, rfl⟩ := bytes_some hcur.out.2.1 (by rw [hl.out]; omega)
      have hcell : wr.cell? ⟨b, off + (p + I), none⟩ = some (.int .u8 x) := by
        obtain ⟨_, _, h0 | ⟨b', off', h1, hcell⟩⟩ := hcur.out.2.1
        · have := hl.out
          rw [h0] at this
          simp at this
          omega
        · cases h1
          rw [hcell (p + I) (by rw [hl.out]; exact hlt), List.getD_eq_getElem?_getD, hx]
          rfl
      clear hx
      go_wp2_with fail
      go_quiet (fail)
      have hc2 : Hid (RCur (wr.drewN nq) r (some ⟨b, off, none⟩) n cap zs p 0 f) := hcur.out.kept (below_drewN (Below.refl _ _) nq)
      have hg2 : w.grownBy (wr.drewN nq) (some r) := but_drewN hgr nq
      have hcell2 : (wr.drewN nq).cell? ⟨b, off + (p + I), none⟩ = some (.int .u8 x) := hcell
      clear hcur hgr hcell c0 c1
      generalize wr.drewN nq = w2 at *
      have c0 := hc2.out.1.c0
      have c1 := hc2.out.1.c1
      clear nq
      go_wp2_with fail
      go_quiet (fail)
      have hc3 : Hid (RCur (w2.drewN nq) r (some ⟨b, off, none⟩) n cap zs p 0 f) := hc2.out.kept (below_drewN (Below.refl _ _) nq)
      have hg3 : w.grownBy (w2.drewN nq) (some r) := but_drewN hg2 nq
      clear hc2 hg2 hcell2 c0 c1
      generalize w2.drewN nq = w3 at *
      by_cases hi : I = 0
      · by_cases hq : x = 128
        · have hb1 : ((I : Int) == 0) = true := by rw [beq_iff_eq]; omega
          have hb2 : (x == 128) = true := by rw [beq_iff_eq]; omega
          have hcase : Hid (((I = 0 ∧ x = 128) ∨ (I = 9 ∧ (128 ≤ x ∨ 144115188075855872 ≤ A)))) := by show ((I = 0 ∧ x = 128) ∨ (I = 9 ∧ (128 ≤ x ∨ 144115188075855872 ≤ A))); omega
          clear hi hq
          have hr : Hid (rdS (zs.drop p) 0 0 = (5, 0, I)) := by
            show _ = _
            rw [hrd.out, hx'.out, rdS, if_pos hcase.out]
          have d1 := hc3.out.1.c1
          clear hrd hx' hA hcase
          go_wp2_with fail
          refine (fails_at r p f 5 (p + I) 5 ((p : Int) + (I : Int)) _ _ hc3.out.1 rfl (by omega)).mono ?_
          rintro e w4 ⟨⟨u4, rfl⟩, hc4, hg4⟩
          go_wp2
          go_ret
          have hs : sS zs p 0 f = (0, p, 5, p + I) := by simp [sS, hr.out]
          rw [hs]
          exact ⟨rfl, hc3.out.turned hg4 hc4 hp, hg3.trans hg4⟩
        · have h00 : A < 1 := by have := hA.out; rw [hi] at this; simpa using this
          have hb1 : ((I : Int) == 0) = true := by rw [beq_iff_eq]; omega
          have hb2 : (x == 128) = false := by rw [beq_eq_false_iff_ne]; omega
          have hb3 : ((I : Int) == 9) = false := by rw [beq_eq_false_iff_ne]; omega
          have hb5 : ((A : Int) / 144115188075855872 != 0) = false := by rw [bne_eq_false_iff_eq]; omega
          have hcase : Hid (¬ ((I = 0 ∧ x = 128) ∨ (I = 9 ∧ (128 ≤ x ∨ 144115188075855872 ≤ A)))) := by show ¬ ((I = 0 ∧ x = 128) ∨ (I = 9 ∧ (128 ≤ x ∨ 144115188075855872 ≤ A))); omega
          have hA57 : Hid (A < 144115188075855872) := by show _ < _; omega
          clear hi hq h00
          have hmask := mask_in x hx1 hx2
          have hor := join7 A (x % 128) hA57.out (by omega) (by omega)
          obtain ⟨B, hB0⟩ : ∃ B : Nat, Hid (B = A * 128 + (x % 128).toNat) := ⟨_, rfl⟩
          rw [← hB0.out] at hor
          have hA57' : A < 144115188075855872 := hA57.out
          by_cases hx8 : x < 128
          · have hr : Hid (rdS (zs.drop p) 0 0 = (0, B, I + 1)) := by
              show _ = _
              rw [hrd.out, hx'.out, rdS, if_neg hcase.out, if_pos hx8, hB0.out]
              simp only [Prod.mk.injEq, true_and, and_true]
              omega
            have hx8' : decide (x < 128) = true := by simpa using hx8
            have d1 := hc3.out.1.c1
            have z1 := hc3.out.1.fz 1
            clear hrd hx' hA hcase
            go_wp2
            go_ret
            have hg4 := but_setCell (World.grownBy.refl w3 (some r)) 1 (.int .i64 ((p + (I + 1) : Nat) : Int))
            have hs : sS zs p 0 f = (B, p + (I + 1), 0, f) := by simp [sS, hr.out]
            rw [hs]
            exact ⟨rfl, hc3.out.turned hg4 (hc3.out.1.goes (p + (I + 1))) (show p + (I + 1) ≤ n by omega), hg3.trans hg4⟩
          · have hI8 : I + 1 ≤ 9 := by have := hcase.out; omega
            have hr : Hid (rdS (zs.drop p) 0 0 = rdS (zs.drop (p + (I + 1))) (I + 1) B) := by
              show _ = _
              rw [hrd.out, hx'.out, rdS, if_neg hcase.out, if_neg hx8, hB0.out, show A * 128 + (x - 128).toNat = A * 128 + (x % 128).toNat from by omega]
              rfl
            have hA' : Hid (B < 128 ^ (I + 1)) := by
              show _ < _
              have h2 := hA.out
              rw [hB0.out, Nat.pow_succ]
              omega
            have hx8' : decide (x < 128) = false := by simpa using hx8
            clear hrd hx' hA hcase
            go_wp2
            go_roundw
            case rel => exact ⟨I + 1, B, hI8, by omega, rfl, by go_num, hA', hr, hc3, hg3⟩
            case measure => simp [intOf]; omega
      · by_cases h9 : I = 9
        · by_cases hq : 128 ≤ x
          · have hb1 : ((I : Int) == 0) = false := by rw [beq_eq_false_iff_ne]; omega
            have hb3 : ((I : Int) == 9) = true := by rw [beq_iff_eq]; omega
            have hb4 : decide (128 ≤ x) = true := by simp; omega
            have hcase : Hid (((I = 0 ∧ x = 128) ∨ (I = 9 ∧ (128 ≤ x ∨ 144115188075855872 ≤ A)))) := by show ((I = 0 ∧ x = 128) ∨ (I = 9 ∧ (128 ≤ x ∨ 144115188075855872 ≤ A))); omega
            clear hi h9 hq
            have hr : Hid (rdS (zs.drop p) 0 0 = (5, 0, I)) := by
              show _ = _
              rw [hrd.out, hx'.out, rdS, if_pos hcase.out]
            have d1 := hc3.out.1.c1
            clear hrd hx' hA hcase
            go_wp2_with fail
            refine (fails_at r p f 5 (p + I) 5 ((p : Int) + (I : Int)) _ _ hc3.out.1 rfl (by omega)).mono ?_
            rintro e w4 ⟨⟨u4, rfl⟩, hc4, hg4⟩
            go_wp2
            go_ret
            have hs : sS zs p 0 f = (0, p, 5, p + I) := by simp [sS, hr.out]
            rw [hs]
            exact ⟨rfl, hc3.out.turned hg4 hc4 hp, hg3.trans hg4⟩
          · by_cases hv : 144115188075855872 ≤ A
            · have hAb : A < 18446744073709551616 := by have := hA.out; rw [h9] at this; omega
              have hb1 : ((I : Int) == 0) = false := by rw [beq_eq_false_iff_ne]; omega
              have hb3 : ((I : Int) == 9) = true := by rw [beq_iff_eq]; omega
              have hb4 : decide (128 ≤ x) = false := by simp; omega
              have hb5 : ((A : Int) / 144115188075855872 != 0) = true := by rw [bne_iff_ne]; omega
              have hcase : Hid (((I = 0 ∧ x = 128) ∨ (I = 9 ∧ (128 ≤ x ∨ 144115188075855872 ≤ A)))) := by show ((I = 0 ∧ x = 128) ∨ (I = 9 ∧ (128 ≤ x ∨ 144115188075855872 ≤ A))); omega
              clear hi h9 hq hv
              have hr : Hid (rdS (zs.drop p) 0 0 = (5, 0, I)) := by
                show _ = _
                rw [hrd.out, hx'.out, rdS, if_pos hcase.out]
              have d1 := hc3.out.1.c1
              clear hrd hx' hA hcase
              go_wp2_with fail
              refine (fails_at r p f 5 (p + I) 5 ((p : Int) + (I : Int)) _ _ hc3.out.1 rfl (by omega)).mono ?_
              rintro e w4 ⟨⟨u4, rfl⟩, hc4, hg4⟩
              go_wp2
              go_ret
              have hs : sS zs p 0 f = (0, p, 5, p + I) := by simp [sS, hr.out]
              rw [hs]
              exact ⟨rfl, hc3.out.turned hg4 hc4 hp, hg3.trans hg4⟩
            · have hb1 : ((I : Int) == 0) = false := by rw [beq_eq_false_iff_ne]; omega
              have hb3 : ((I : Int) == 9) = true := by rw [beq_iff_eq]; omega
              have hb4 : decide (128 ≤ x) = false := by simp; omega
              have hb5 : ((A : Int) / 144115188075855872 != 0) = false := by rw [bne_eq_false_iff_eq]; omega
              have hcase : Hid (¬ ((I = 0 ∧ x = 128) ∨ (I = 9 ∧ (128 ≤ x ∨ 144115188075855872 ≤ A)))) := by show ¬ ((I = 0 ∧ x = 128) ∨ (I = 9 ∧ (128 ≤ x ∨ 144115188075855872 ≤ A))); omega
              have hA57 : Hid (A < 144115188075855872) := by show _ < _; omega
              clear hi h9 hq hv
              have hmask := mask_in x hx1 hx2
              have hor := join7 A (x % 128) hA57.out (by omega) (by omega)
              obtain ⟨B, hB0⟩ : ∃ B : Nat, Hid (B = A * 128 + (x % 128).toNat) := ⟨_, rfl⟩
              rw [← hB0.out] at hor
              have hA57' : A < 144115188075855872 := hA57.out
              by_cases hx8 : x < 128
              · have hr : Hid (rdS (zs.drop p) 0 0 = (0, B, I + 1)) := by
                  show _ = _
                  rw [hrd.out, hx'.out, rdS, if_neg hcase.out, if_pos hx8, hB0.out]
                  simp only [Prod.mk.injEq, true_and, and_true]
                  omega
                have hx8' : decide (x < 128) = true := by simpa using hx8
                have d1 := hc3.out.1.c1
                have z1 := hc3.out.1.fz 1
                clear hrd hx' hA hcase
                go_wp2
                go_ret
                have hg4 := but_setCell (World.grownBy.refl w3 (some r)) 1 (.int .i64 ((p + (I + 1) : Nat) : Int))
                have hs : sS zs p 0 f = (B, p + (I + 1), 0, f) := by simp [sS, hr.out]
                rw [hs]
                exact ⟨rfl, hc3.out.turned hg4 (hc3.out.1.goes (p + (I + 1))) (show p + (I + 1) ≤ n by omega), hg3.trans hg4⟩
              · have hI8 : I + 1 ≤ 9 := by have := hcase.out; omega
                have hr : Hid (rdS (zs.drop p) 0 0 = rdS (zs.drop (p + (I + 1))) (I + 1) B) := by
                  show _ = _
                  rw [hrd.out, hx'.out, rdS, if_neg hcase.out, if_neg hx8, hB0.out, show A * 128 + (x - 128).toNat = A * 128 + (x % 128).toNat from by omega]
                  rfl
                have hA' : Hid (B < 128 ^ (I + 1)) := by
                  show _ < _
                  have h2 := hA.out
                  rw [hB0.out, Nat.pow_succ]
                  omega
                have hx8' : decide (x < 128) = false := by simpa using hx8
                clear hrd hx' hA hcase
                go_wp2
                go_roundw
                case rel => exact ⟨I + 1, B, hI8, by omega, rfl, by go_num, hA', hr, hc3, hg3⟩
                case measure => simp [intOf]; omega
        · have hA8 : A < 72057594037927936 := by
            have h1 : 128 ^ I ≤ 128 ^ 8 := Nat.pow_le_pow_right (by decide) (by omega)
            have h2 := hA.out
            omega
          have hb1 : ((I : Int) == 0) = false := by rw [beq_eq_false_iff_ne]; omega
          have hb3 : ((I : Int) == 9) = false := by rw [beq_eq_false_iff_ne]; omega
          have hb5 : ((A : Int) / 144115188075855872 != 0) = false := by rw [bne_eq_false_iff_eq]; omega
          have hcase : Hid (¬ ((I = 0 ∧ x = 128) ∨ (I = 9 ∧ (128 ≤ x ∨ 144115188075855872 ≤ A)))) := by show ¬ ((I = 0 ∧ x = 128) ∨ (I = 9 ∧ (128 ≤ x ∨ 144115188075855872 ≤ A))); omega
          have hA57 : Hid (A < 144115188075855872) := by show _ < _; omega
          clear hi h9 hA8
          have hmask := mask_in x hx1 hx2
          have hor := join7 A (x % 128) hA57.out (by omega) (by omega)
          obtain ⟨B, hB0⟩ : ∃ B : Nat, Hid (B = A * 128 + (x % 128).toNat) := ⟨_, rfl⟩
          rw [← hB0.out] at hor
          have hA57' : A < 144115188075855872 := hA57.out
          by_cases hx8 : x < 128
          · have hr : Hid (rdS (zs.drop p) 0 0 = (0, B, I + 1)) := by
              show _ = _
              rw [hrd.out, hx'.out, rdS, if_neg hcase.out, if_pos hx8, hB0.out]
              simp only [Prod.mk.injEq, true_and, and_true]
              omega
            have hx8' : decide (x < 128) = true := by simpa using hx8
            have d1 := hc3.out.1.c1
            have z1 := hc3.out.1.fz 1
            clear hrd hx' hA hcase
            go_wp2
            go_ret
            have hg4 := but_setCell (World.grownBy.refl w3 (some r)) 1 (.int .i64 ((p + (I + 1) : Nat) : Int))
            have hs : sS zs p 0 f = (B, p + (I + 1), 0, f) := by simp [sS, hr.out]
            rw [hs]
            exact ⟨rfl, hc3.out.turned hg4 (hc3.out.1.goes (p + (I + 1))) (show p + (I + 1) ≤ n by omega), hg3.trans hg4⟩
          · have hI8 : I + 1 ≤ 9 := by have := hcase.out; omega
            have hr : Hid (rdS (zs.drop p) 0 0 = rdS (zs.drop (p + (I + 1))) (I + 1) B) := by
              show _ = _
              rw [hrd.out, hx'.out, rdS, if_neg hcase.out, if_neg hx8, hB0.out, show A * 128 + (x - 128).toNat = A * 128 + (x % 128).toNat from by omega]
              rfl
            have hA' : Hid (B < 128 ^ (I + 1)) := by
              show _ < _
              have h2 := hA.out
              rw [hB0.out, Nat.pow_succ]
              omega
            have hx8' : decide (x < 128) = false := by simpa using hx8
            clear hrd hx' hA hcase
            go_wp2
            go_roundw
            case rel => exact ⟨I + 1, B, hI8, by omega, rfl, by go_num, hA', hr, hc3, hg3⟩
            case measure => simp [intOf]; omega
    · have hr : Hid (rdS (zs.drop p) 0 0 = (3, 0, I)) := by
        show _ = _
        rw [hrd.out, List.drop_eq_nil_of_le (by rw [hl.out]; omega), rdS]
      clear hrd hA
      go_wp2_with fail
      go_quiet (fail)
      go_wp2_with fail
      refine (fails_at r p f 3 n _ _ _ _ (by exact hcur.out.1) rfl rfl).mono ?_
      rintro e w4 ⟨⟨u4, rfl⟩, hc4, hg4'⟩
      have hg4 : wr.grownBy w4 (some r) := ⟨hg4'.os, hg4'.tape, hg4'.output, hg4'.size, hg4'.block⟩
      go_wp2
      go_ret
      have hs : sS zs p 0 f = (0, p, 3, n) := by simp [sS, hr.out, hl.out]
      rw [hs]
      exact ⟨rfl, hcur.out.turned hg4 hc4 hp, hgr.trans hg4⟩
end Go.Proofs.Ytfipdldoklkciaa
