/-
  Losses parsed by the document's own answer: a number of at most so much.
-/
import Derived.Test.YtgfnohgpmmaocaaDoorLpa
import Derived.Test.YtgfnohgpmmaocaaDoorQrs
namespace Go.Proofs.YtgfnohgpmmaocaaDoor
open Go.RowKit
set_option linter.unusedVariables false
set_option linter.unusedSimpArgs false

/-- THE DOCUMENT's CURSOR AS A READER: fine at a place, or with a fault. -/
def RS (w : World) (r : Nat) (a : Option Addr) (n cap : Nat) (zs : List Int) (s : St) : Prop :=
  (s.1 = 0 ∧ s.2.1 = 0 ∧ RCur w r a n cap zs s.2.2 0 0) ∨ (s.1 ≠ 0 ∧ ∃ p, RCur w r a n cap zs p s.1 s.2.1)
theorem RS.cur {w : World} {r : Nat} {a : Option Addr} {n cap : Nat} {zs : List Int} {s : St} (h : RS w r a n cap zs s) : ∃ p f, RCur w r a n cap zs p s.1 f ∧ (s.1 = 0 → p = s.2.2 ∧ f = 0) ∧ (s.1 ≠ 0 → f = s.2.1) := by
  rcases h with ⟨h1, h2, h3⟩ | ⟨h1, p, h3⟩
  · exact ⟨s.2.2, 0, by rw [h1]; exact h3, fun _ => ⟨rfl, rfl⟩, fun h => absurd h1 h⟩
  · exact ⟨p, s.2.1, h3, fun h => absurd h h1, fun _ => rfl⟩
theorem RS.kept {w w' : World} {r : Nat} {a : Option Addr} {n cap : Nat} {zs : List Int} {s : St} (h : RS w r a n cap zs s) (hb : Below w.heap.size w w') : RS w' r a n cap zs s := by
  rcases h with ⟨h1, h2, h3⟩ | ⟨h1, p, h3⟩
  · exact .inl ⟨h1, h2, h3.kept hb⟩
  · exact .inr ⟨h1, p, h3.kept hb⟩
theorem RS.other {w w' : World} {r g : Nat} {a : Option Addr} {n cap : Nat} {zs : List Int} {s : St} (h : RS w r a n cap zs s) (hg : w.grownBy w' (some g)) (hr : r ≠ g) (ha : ∀ x, a = some x → zs ≠ [] → x.block ≠ g) : RS w' r a n cap zs s := by
  rcases h with ⟨h1, h2, h3⟩ | ⟨h1, p, h3⟩
  · exact .inl ⟨h1, h2, h3.other hg hr ha⟩
  · exact .inr ⟨h1, p, h3.other hg hr ha⟩
theorem RS.zs {w : World} {r : Nat} {a : Option Addr} {n cap : Nat} {zs : List Int} {s : St} (h : RS w r a n cap zs s) : (∀ c ∈ zs, 0 ≤ c ∧ c < 256) ∧ zs.length = n ∧ n ≤ 140737488355328 := by
  obtain ⟨p, f, h, _⟩ := h.cur
  exact ⟨h.2.1.1, h.2.2.1, h.2.2.2.2.1⟩
/-- A fault is laid. -/
theorem RS.fails {w : World} {r : Nat} {a : Option Addr} {n cap : Nat} {zs : List Int} {s : St} (h : RS w r a n cap zs s) (y f : Nat) (hy : y ≠ 0) : RS ((w.setCell ⟨r, 2, none⟩ (.int .i64 (y : Nat))).setCell ⟨r, 3, none⟩ (.int .i64 (f : Nat))) r a n cap zs (y, f, 0) ∧ w.grownBy ((w.setCell ⟨r, 2, none⟩ (.int .i64 (y : Nat))).setCell ⟨r, 3, none⟩ (.int .i64 (f : Nat))) (some r) := by
  obtain ⟨p, f0, hc, _⟩ := h.cur
  have hg := but_setCell (but_setCell (World.grownBy.refl w (some r)) 2 (.int .i64 (y : Nat))) 3 (.int .i64 (f : Nat))
  exact ⟨.inr ⟨hy, p, hc.turned hg (hc.1.fails y f) hc.2.2.2.1⟩, hg⟩

theorem rshort_rs {r n cap : Nat} {a : Option Addr} {zs : List Int} {s : St} {w : World} (h : RS w r a n cap zs s) :
    Calls Tryd.prog 28 #[.pointer (some ⟨r, 0, none⟩)] w fun e w' => e = .returned (.int .u64 ((wordS zs s).1 : Nat)) ∧ Hid (RS w' r a n cap zs (wordS zs s).2) ∧ Hid (w.grownBy w' (some r)) := by
  have hz := h.zs
  rcases h with ⟨h1, h2, h3⟩ | ⟨h1, p, h3⟩
  · obtain ⟨s1, s2, s3⟩ := s
    obtain rfl : s1 = 0 := h1
    obtain rfl : s2 = 0 := h2
    have h3' : RCur w r a n cap zs s3 0 0 := h3
    refine (rshort_go r s3 0 n cap a zs w h3').mono ?_
    rintro e w' ⟨rfl, hc, hg⟩
    have hzd : ∀ c ∈ zs.drop s3, 0 ≤ c ∧ c < 256 := fun c hc => hz.1 c (List.mem_of_mem_drop hc)
    have hlt := rdS_lt (zs.drop s3) 0 0 hzd (by omega) (by simp)
    unfold sS at hc ⊢
    unfold wordS numS
    simp only [ne_eq, not_true_eq_false, if_false] at hc ⊢
    rcases hr : rdS (zs.drop s3) 0 0 with ⟨r1, m, k⟩
    rw [hr] at hc hlt
    simp only at hc hlt ⊢
    by_cases e1 : r1 = 0
    · rw [if_pos e1] at hc
      rw [if_pos e1, if_pos e1, if_neg (by omega)]
      exact ⟨rfl, .inl ⟨rfl, rfl, hc⟩, hg⟩
    · rw [if_neg e1] at hc
      rw [if_neg e1, if_neg e1]
      by_cases e3 : r1 = 3
      · rw [if_pos e3] at hc
        rw [if_pos e3, if_pos e3]
        exact ⟨rfl, .inr ⟨by simp, _, hc⟩, hg⟩
      · rw [if_neg e3] at hc
        rw [if_neg e3, if_neg e3]
        exact ⟨rfl, .inr ⟨by simp, _, hc⟩, hg⟩
  · have hw : wordS zs s = (0, s) := numS_bad _ _ _ _ _ h1
    refine (rshort_stop r p s.1 s.2.1 n cap a zs w h3 h1).mono ?_
    rintro e w' ⟨rfl, rfl⟩
    rw [hw]
    exact ⟨rfl, .inr ⟨h1, p, h3⟩, World.grownBy.refl _ _⟩

theorem numS_word' (zs : List Int) (s : St) (lo hi why : Nat) (h0 : s.1 = 0) (hz : ∀ c ∈ zs, 0 ≤ c ∧ c < 256) : numS zs s lo hi why = if (wordS zs s).2.1 ≠ 0 then (0, (wordS zs s).2) else if (wordS zs s).1 < lo ∨ hi < (wordS zs s).1 then (0, (why, s.2.2, 0)) else wordS zs s := by
  have hzd : ∀ c ∈ zs.drop s.2.2, 0 ≤ c ∧ c < 256 := fun c hc => hz c (List.mem_of_mem_drop hc)
  have hlt := rdS_lt (zs.drop s.2.2) 0 0 hzd (by omega) (by simp)
  unfold wordS numS
  rcases hr : rdS (zs.drop s.2.2) 0 0 with ⟨r1, m, k⟩
  rw [hr] at hlt
  simp only [h0, ne_eq, not_true_eq_false, if_false] at hlt ⊢
  by_cases h1 : r1 = 0
  · have h9 : ¬ (m < 0 ∨ 18446744073709551615 < m) := by omega
    simp only [if_pos h1, if_neg h9, not_true_eq_false, if_false]
  · by_cases h3 : r1 = 3
    · simp [h3]
    · simp [h1, h3]

theorem word_zero (zs : List Int) (s : St) (hz : ∀ c ∈ zs, 0 ≤ c ∧ c < 256) (h : (wordS zs s).2.1 ≠ 0) : (wordS zs s).1 = 0 := by
  unfold wordS numS at h ⊢
  by_cases h0 : s.1 ≠ 0
  · rw [if_pos h0]
  · rw [if_neg h0] at h ⊢
    by_cases h1 : (rdS (zs.drop s.2.2) 0 0).1 = 0
    · rw [if_pos h1] at h ⊢
      by_cases h2 : (rdS (zs.drop s.2.2) 0 0).2.1 < 0 ∨ 18446744073709551615 < (rdS (zs.drop s.2.2) 0 0).2.1
      · rw [if_pos h2]
      · rw [if_neg h2] at h; simp at h
    · rw [if_neg h1] at h ⊢
      split <;> rfl

set_option maxHeartbeats 4000000 in
theorem most_any {r n cap : Nat} {a : Option Addr} {zs : List Int} {s : St} {w : World} (hi why : Nat) (hhi : hi ≤ 4095) (hwhy : why ≠ 0) (hw8 : why ≤ 10) (h : RS w r a n cap zs s) :
    Calls Tryd.prog 27 #[.pointer (some ⟨r, 0, none⟩), .int .u64 (hi : Nat), .int .i64 (why : Nat)] w fun e w' => e = .returned (.int .i64 ((numS zs s 0 hi why).1 : Nat)) ∧ Hid (RS w' r a n cap zs (numS zs s 0 hi why).2) ∧ Hid (w.grownBy w' (some r)) := by
  obtain ⟨R, hRR⟩ : ∃ R, Hid (numS zs s 0 hi why = R) := ⟨_, rfl⟩
  rw [hRR.out]
  have hz := h.zs
  obtain ⟨p, f0, hc, hp, _⟩ := h.cur
  have c1 := hc.1.c1
  have hpn : p ≤ 140737488355328 := by have := hc.2.2.2.1; omega
  have k1 := rshort_rs h
  clear hc h
  go_enter Tryd.func27, Tryd.ntmps27
  go_wp2_with fail
  refine k1.mono ?_
  rintro e w2 ⟨rfl, hR2, hg2⟩
  clear k1 c1
  obtain ⟨p2, f2, hc2, _, _⟩ := hR2.out.cur
  have d2 := hc2.1.c2
  have d3 := hc2.1.c3
  have z2 := hc2.1.fz 2
  have z3 := hc2.1.fz 3
  clear hc2
  by_cases h2 : (wordS zs s).2.1 = 0
  · have h0 : s.1 = 0 := by
      by_cases h0 : s.1 = 0
      · exact h0
      · rw [show wordS zs s = (0, s) from numS_bad _ _ _ _ _ h0] at h2
        exact absurd h2 h0
    have hps := (hp h0).1
    subst hps
    have hN : Hid (R = if (wordS zs s).1 < 0 ∨ hi < (wordS zs s).1 then (0, (why, s.2.2, 0)) else wordS zs s) := by
      show _ = _
      rw [← hRR.out, numS_word' zs s 0 hi why h0 hz.1, if_neg (by omega)]
    rw [h2] at d2
    obtain ⟨hR4, hg4⟩ := hR2.out.fails why s.2.2 hwhy
    have hR4' : Hid (RS _ r a n cap zs (why, s.2.2, 0)) := hR4
    have hg4' : Hid (w2.grownBy _ (some r)) := hg4
    clear hR4 hg4 hRR hp hz h2
    by_cases hx : hi < (wordS zs s).1
    · have hE : Hid (R = (0, (why, s.2.2, 0))) := by show _ = _; rw [hN.out, if_pos (.inr hx)]
      clear hN
      generalize (wordS zs s).1 = v at *
      go_wp2
      go_ret
      rw [hE.out]
      exact ⟨rfl, hR4', hg2.out.trans hg4'.out⟩
    · have hE : Hid (R = wordS zs s) := by show _ = _; rw [hN.out, if_neg (by omega)]
      have hE1 : Hid (R.1 = (wordS zs s).1 ∧ R.2 = (wordS zs s).2) := by show _ ∧ _; rw [hE.out]; exact ⟨rfl, rfl⟩
      clear hN hE
      generalize (wordS zs s).1 = v at *
      have wv : IntKind.i64.wrap (v : Int) = (v : Int) := by rw [IntKind.wrap_i64]; omega
      go_wp2
      go_ret
      rw [hE1.out.1, hE1.out.2]
      exact ⟨rfl, hR2, hg2⟩
  · have hN : Hid (R = (0, (wordS zs s).2)) := by
      show _ = _
      rw [← hRR.out]
      by_cases h0 : s.1 = 0
      · rw [numS_word' zs s 0 hi why h0 hz.1, if_pos h2]
      · rw [show wordS zs s = (0, s) from numS_bad _ _ _ _ _ h0, numS_bad _ _ _ _ _ h0]
    have hv := word_zero zs s hz.1 h2
    have hy : ((((wordS zs s).2.1 : Nat) : Int) == 0) = false := by rw [beq_eq_false_iff_ne]; omega
    rw [hv]
    clear hRR hp hz hv
    go_wp2
    go_ret
    rw [hN.out]
    exact ⟨rfl, hR2, hg2⟩
end Go.Proofs.YtgfnohgpmmaocaaDoor
