/-
  A reader of losses: a path, a loss, all losses.
-/
import Derived.Test.YtgfnohgpmmaocaaDoorLma
import Derived.Test.YtgfnohgpmmaocaaDoorInts
namespace Go.Proofs.YtgfnohgpmmaocaaDoor
open Go.RowKit
set_option linter.unusedVariables false

theorem OwnsI.k2 {q g : Nat} {w w' : World} {base : Nat} {v : Value} {l : List Int} (h : OwnsI w base v l) (k : K2 q g w w') (hq : q < base) (hg : g < base) : OwnsI w' base v l := by
  obtain ⟨h1, h2⟩ := h
  refine ⟨h1, ?_⟩
  rcases h2 with h2 | ⟨b, cap, cur, hv, hb, hc, r⟩
  · exact .inl h2
  · exact .inr ⟨b, cap, cur, hv, hb, by rw [k.block b (Array.getElem?_eq_some_iff.1 hc).1 (by omega) (by omega)]; exact hc, r⟩

theorem OwnsI.form3 {w : World} {base : Nat} {v : Value} {l : List Int} (h : OwnsI w base v l) : ∃ a n cap, v = .slice a n cap ∧ n = l.length ∧ n ≤ cap ∧ cap ≤ 9223372036854775807 := by
  rcases h.2 with ⟨hv, hn⟩ | ⟨g, cap, cur, hv, hg, hc, hnc, hcm, r⟩
  · exact ⟨none, 0, 0, hv, hn.symm, by omega, by omega⟩
  · exact ⟨some ⟨g, 0, none⟩, l.length, cap, hv, rfl, hnc, by unfold maxLen at hcm; omega⟩
theorem K2.low {q g : Nat} {w w3 w4 : World} (k : K2 q g w w3) (h : Below w.heap.size w3 w4) : K2 q g w w4 :=
  ⟨h.os.trans k.os, h.tape.trans k.tape, h.output.trans k.output, Nat.le_trans k.size h.size, fun i hi h1 h2 => (h.block i hi).trans (k.block i hi h1 h2)⟩
theorem Cur.low {w w' : World} {base g W : Nat} {a : Option Addr} {n : Nat} {zs : List Int} {p y f : Nat} (h : Cur w base g a n zs p y f) (hb : Below W w w') (hg : g < W) (ha : ∀ x, a = some x → x.block < W) : Cur w' base g a n zs p y f := by
  obtain ⟨h1, h2, h3, h4, h5, h6, h7, h8⟩ := h
  refine ⟨?_, ⟨h2.1, h2.2.1, ?_⟩, h3, h4, h5, h6, h7, fun x hx => ⟨(h8 x hx).1, Nat.lt_of_lt_of_le (h8 x hx).2.1 hb.size, (h8 x hx).2.2⟩⟩
  · unfold CurAt
    rw [hb.block g hg]
    exact h1
  · rcases h2.2.2 with h0 | ⟨b, off, rfl, hc⟩
    · exact .inl h0
    · refine .inr ⟨b, off, rfl, fun i hi => ?_⟩
      rw [hb.cell (p := ⟨b, off + i, none⟩) (ha ⟨b, off, none⟩ rfl)]
      exact hc i hi
/-- All that a reader is lies below W. -/
def Low (W q g : Nat) (a : Option Addr) : Prop := q < W ∧ g < W ∧ ∀ x, a = some x → x.block < W
theorem Rd.lows {w : World} {base q g : Nat} {a : Option Addr} {n : Nat} {zs : List Int} {s : St} (h : Rd w base q g a n zs s) : Low w.heap.size q g a := by
  obtain ⟨p, y, f, h1, _⟩ := h.cur
  exact ⟨h.places.2.2.1, h.places.2.2.2.1, fun x hx => (h1.2.2.2.2.2.2.2 x hx).2.1⟩
theorem Rd.low {w w' : World} {base q g W : Nat} {a : Option Addr} {n : Nat} {zs : List Int} {s : St} (h : Rd w base q g a n zs s) (hb : Below W w w') (hl : Low W q g a) : Rd w' base q g a n zs s := by
  have hB : ∀ {y f : Nat}, RBk w q g y f → RBk w' q g y f := fun hx => by
    unfold RBk
    rw [hb.block q hl.1]
    exact hx
  obtain ⟨h0, ⟨h1, h2, h3, h4⟩ | ⟨h1, h2, p, h3⟩ | ⟨h1, h2, p, y, f, h3⟩⟩ := h
  · exact ⟨h0, .inl ⟨h1, h2, hB h3, h4.low hb hl.2.1 hl.2.2⟩⟩
  · exact ⟨h0, .inr (.inl ⟨h1, hB h2, p, h3.low hb hl.2.1 hl.2.2⟩)⟩
  · exact ⟨h0, .inr (.inr ⟨h1, hB h2, p, y, f, h3.low hb hl.2.1 hl.2.2⟩)⟩
theorem numS_zero (zs : List Int) (s : St) (lo hi why : Nat) (h : (numS zs s lo hi why).2.1 ≠ 0) : (numS zs s lo hi why).1 = 0 := by
  unfold numS at h ⊢
  by_cases h0 : s.1 ≠ 0
  · rw [if_pos h0]
  · rw [if_neg h0] at h ⊢
    by_cases h1 : (rdS (zs.drop s.2.2) 0 0).1 = 0
    · rw [if_pos h1] at h ⊢
      by_cases h2 : (rdS (zs.drop s.2.2) 0 0).2.1 < lo ∨ hi < (rdS (zs.drop s.2.2) 0 0).2.1
      · rw [if_pos h2]
      · rw [if_neg h2] at h; simp at h
    · rw [if_neg h1] at h ⊢
      split <;> rfl

set_option maxHeartbeats 4000000 in
theorem path_any {base q g n : Nat} {a : Option Addr} {zs : List Int} {s : St} {w : World} (h : Rd w base q g a n zs s) :
    Calls Tryd.prog 48 #[.pointer (some ⟨q, 0, none⟩)] w fun e w' => ∃ v, e = .returned v ∧ Hid (OwnsI w' w.heap.size v (pathS zs s).1) ∧ Hid (Rd w' base q g a n zs (pathS zs s).2) ∧ Hid (K2 q g w w') := by
  obtain ⟨R, hRR⟩ : ∃ R, Hid (pathS zs s = R) := ⟨_, rfl⟩
  rw [hRR.out]
  have k1 := number_any 0 64 8 (by decide) (by decide) (by decide) h
  have hpl : Hid (Low w.heap.size q g a) := h.lows
  clear h
  go_enter Tryd.func48, Tryd.ntmps48
  go_wp2_with fail
  refine k1.mono ?_
  rintro e w1 ⟨rfl, hR1, hK1⟩
  clear k1
  have hc : Hid ((numS zs s 0 64 8).1 ≤ 64) := by
    show _ ≤ _
    by_cases h0 : (numS zs s 0 64 8).2.1 = 0
    · by_cases h1 : s.1 = 0
      · obtain ⟨m, p, e, _, h2, _⟩ := numS_ok zs hR1.out.zs.1 s 0 64 8 h1 h0 (.inl (by decide))
        rw [e]; exact h2
      · rw [numS_bad _ _ _ _ _ h1]; simp
    · rw [numS_zero zs s 0 64 8 h0]; simp
  have hI : Hid (stepsS zs (numS zs s 0 64 8).1 (numS zs s 0 64 8).2 = R) := hRR.out
  clear hRR
  generalize (numS zs s 0 64 8).1 = c at *
  generalize (numS zs s 0 64 8).2 = s1 at *
  have hfd := field_y
  go_wp2_with fail
  go_loopw [3] (fun v wr => ∃ (l : List Int) (k : Nat) (s' : St) (av : Option Addr) (nv cv : Nat), v = .slice av nv cv ∧ nv = l.length ∧ nv ≤ cv ∧ cv ≤ 9223372036854775807 ∧ l.length + k = c ∧ Hid (OwnsI wr w.heap.size v l) ∧ Hid (Rd wr base q g a n zs s') ∧ Hid (K2 q g w wr) ∧ Hid (l ++ (stepsS zs k s').1 = R.1 ∧ (stepsS zs k s').2 = R.2)) (fun v _ => match v with | .slice _ n _ => c - n | _ => 0)
  case atStart => exact ⟨[], c, s1, none, 0, 0, rfl, rfl, by omega, by omega, by simp, ownsI_nil _ _, hR1, hK1, by show _ ∧ _; rw [hI.out]; exact ⟨rfl, rfl⟩⟩
  case round =>
    obtain ⟨l, k, s', av, nv, cv, rfl, hnv, hcv, hcm, hk, hO, hR, hK, hE⟩ := hrel
    subst hnv
    have hc64 := hc.out
    cases k with
    | zero =>
      have e0 : l.length = c := by omega
      have hd : decide ((l.length : Int) < (c : Int)) = false := by simp; omega
      have hE' : Hid (R = (l, s')) := by
        show _ = _
        obtain ⟨h1, h2⟩ := hE.out
        simp only [stepsS, List.append_nil] at h1 h2
        rw [h1, h2]
      clear hE hI hR1 hK1 hc
      go_wp2
      go_ret
      refine ⟨_, rfl, ?_⟩
      rw [hE'.out]
      exact ⟨hO, hR, hK⟩
    | succ k =>
      have hlt : l.length < c := by omega
      have hd : decide ((l.length : Int) < (c : Int)) = true := by simp; omega
      have k2 := rfault_any hR.out
      clear hI hR1 hK1 hc
      go_wp2_with fail
      refine k2.mono ?_
      rintro e w2 ⟨⟨f, rfl, hf⟩, hb2⟩
      clear k2
      have hR2 : Hid (Rd w2 base q g a n zs s') := hR.out.kept hb2
      have hO2 : Hid (OwnsI w2 w.heap.size (.slice av l.length cv) l) := hO.out.below hb2
      have hK2 : Hid (K2 q g w w2) := hK.out.trans (K2.of_below hb2)
      clear hR hO hK hb2 hf
      by_cases h0 : s'.1 = 0
      · have hE3 : Hid (l ++ ((((numS zs s' 0 4095 5).1 : Nat) : Int) :: (stepsS zs k (numS zs s' 0 4095 5).2).1) = R.1 ∧ (stepsS zs k (numS zs s' 0 4095 5).2).2 = R.2) := by
          have := hE.out
          unfold stepsS at this
          simp only [h0, ne_eq, not_true_eq_false, if_false] at this
          exact this
        have k3 := number_any 0 4095 5 (by decide) (by decide) (by decide) hR2.out
        rw [h0]
        clear hE h0
        go_wp2_with (first
          | (go_at_call 35; refine k3.mono ?_; rintro e w3 ⟨rfl, hR3, hK3⟩; clear k3; have hO3 : Hid (OwnsI w3 w.heap.size (.slice av l.length cv) l) := hO2.out.k2 hK3.out hpl.out.1 hpl.out.2.1; have hK3' : Hid (K2 q g w w3) := hK2.out.trans hK3.out; generalize (numS zs s' 0 4095 5).1 = m at *; generalize (numS zs s' 0 4095 5).2 = s3 at *)
          | (at_builtin; refine wpList_append_ints rfl _ _ rfl w.heap.size _ l [((m : Nat) : Int)] rfl (hO3.out.alloc _) (some ⟨w3.heap.size, 0, none⟩) 1 1 rfl rfl (by simp) (one_int w3 _) (by simp; omega) (by have := hK3'.out.size; simp; omega) ?_; intro v4 w4 hO4 hg4))
        have hB4 : Hid (Below w.heap.size w3 w4) := grownI_below ((Below.refl _ _).alloc hK3'.out.size _) (hO3.out.alloc _) hg4 (by have := hK3'.out.size; simp; omega)
        have hR4 : Hid (Rd w4 base q g a n zs s3) := hR3.out.low hB4.out hpl.out
        have hK4 : Hid (K2 q g w w4) := hK3'.out.low hB4.out
        have hO4' : Hid (OwnsI w4 w.heap.size v4 (l ++ [((m : Nat) : Int)])) := hO4
        obtain ⟨a4, n4, c4, rfl, hn4, hc4, hm4⟩ := hO4.form3
        clear hg4 hO3 hR3 hK3 hK3' hB4 hO2 hR2 hK2 hO4
        go_roundw
        case rel => exact ⟨l ++ [((m : Nat) : Int)], k, s3, a4, n4, c4, rfl, hn4, hc4, hm4, by simp; omega, hO4', hR4, hK4, by show _ ∧ _; rw [List.append_assoc]; exact hE3.out⟩
        case measure => rw [hn4, List.length_append]; simp; omega
      · have hE' : Hid (R = (l, s')) := by
          show _ = _
          obtain ⟨h1, h2⟩ := hE.out
          rw [stepsS_bad _ _ _ h0] at h1 h2
          simp only [List.append_nil] at h1 h2
          rw [h1, h2]
        have hy : (((s'.1 : Nat) : Int) == 0) = false := by rw [beq_eq_false_iff_ne]; omega
        clear hE
        go_wp2
        go_ret
        refine ⟨_, rfl, ?_⟩
        rw [hE'.out]
        exact ⟨hO2, hR2, hK2⟩
end Go.Proofs.YtgfnohgpmmaocaaDoor
