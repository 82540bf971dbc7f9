/-
  A reader of losses: all of them, the end, and Parse.
-/
import Derived.Test.YtgfnohgpmmaocaaDoorLmc
import Derived.Test.YtgfnohgpmmaocaaDoorLmd
namespace Go.Proofs.YtgfnohgpmmaocaaDoor
open Go.RowKit
set_option linter.unusedVariables false

def manyS (zs : List Int) (s : St) : List Ls × St := lsS zs (numS zs s 0 2048 8).1 (numS zs s 0 2048 8).2

set_option maxHeartbeats 4000000 in
theorem losses_any {base q g n : Nat} {a : Option Addr} {zs : List Int} {s : St} {w : World} (h : Rd w base q g a n zs s) :
    Calls Tryd.prog 24 #[.pointer (some ⟨q, 0, none⟩)] w fun e w' => ∃ (v : Value) (L : List (Value × Ls)), e = .returned v ∧ Hid (OwnsK w' w.heap.size v L ∧ L.length ≤ 2048) ∧ Hid ((manyS zs s).2.1 = 0 → L.map Prod.snd = (manyS zs s).1) ∧ Hid (Rd w' base q g a n zs (manyS zs s).2) ∧ Hid (K2 q g w w') := by
  obtain ⟨R, hRR⟩ : ∃ R, Hid (manyS zs s = R) := ⟨_, rfl⟩
  rw [hRR.out]
  have k1 := number_any 0 2048 8 (by decide) (by decide) (by decide) h
  have hpl : Hid (Low w.heap.size q g a) := h.lows
  clear h
  go_enter Tryd.func24, Tryd.ntmps24
  go_wp2_with fail
  refine k1.mono ?_
  rintro e w1 ⟨rfl, hR1, hK1⟩
  clear k1
  have hc : Hid ((numS zs s 0 2048 8).1 ≤ 2048) := by
    show _ ≤ _
    by_cases h0 : (numS zs s 0 2048 8).2.1 = 0
    · by_cases h1 : s.1 = 0
      · obtain ⟨m, p, e, _, h2, _⟩ := numS_ok zs hR1.out.zs.1 s 0 2048 8 h1 h0 (.inl (by decide))
        rw [e]; exact h2
      · rw [numS_bad _ _ _ _ _ h1]; simp
    · rw [numS_zero zs s 0 2048 8 h0]; simp
  have hI : Hid (lsS zs (numS zs s 0 2048 8).1 (numS zs s 0 2048 8).2 = R) := hRR.out
  clear hRR
  generalize (numS zs s 0 2048 8).1 = c at *
  generalize (numS zs s 0 2048 8).2 = s1 at *
  have hfd := field_y
  go_wp2_with fail
  go_loopw [3] (fun v wr => ∃ (l : List (Value × Ls)) (k : Nat) (s' : St) (av : Option Addr) (nv cv : Nat), v = .slice av nv cv ∧ nv = l.length ∧ nv ≤ cv ∧ cv ≤ 9223372036854775807 ∧ l.length + k = c ∧ Hid (OwnsK wr w.heap.size v l) ∧ Hid (Rd wr base q g a n zs s') ∧ Hid (K2 q g w wr) ∧ Hid ((s'.1 = 0 → l.map Prod.snd ++ (lsS zs k s').1 = R.1) ∧ (lsS zs k s').2 = R.2)) (fun v _ => match v with | .slice _ n _ => c - n | _ => 0)
  case atStart => exact ⟨[], c, s1, none, 0, 0, rfl, rfl, by omega, by omega, by simp, ownsK_nil _ _, hR1, hK1, by show _ ∧ _; rw [hI.out]; exact ⟨fun _ => rfl, rfl⟩⟩
  case round =>
    obtain ⟨l, k, s', av, nv, cv, rfl, hnv, hcv, hcm, hk, hO, hR, hK, hE⟩ := hrel
    subst hnv
    have hc64 := hc.out
    cases k with
    | zero =>
      have e0 : l.length = c := by omega
      have hd : decide ((l.length : Int) < (c : Int)) = false := by simp; omega
      have hE' : Hid ((R.2.1 = 0 → l.map Prod.snd = R.1) ∧ s' = R.2) := by
        show _ ∧ _
        obtain ⟨h1, h2⟩ := hE.out
        simp only [lsS, List.append_nil] at h1 h2
        exact ⟨fun h => h1 (by rw [h2]; exact h), h2⟩
      clear hE hI hR1 hK1 hc
      go_wp2
      go_ret
      refine ⟨_, l, rfl, ⟨hO.out, by omega⟩, hE'.out.1, ?_, hK⟩
      rw [← hE'.out.2]
      exact hR
    | succ k =>
      have hlt : l.length < c := by omega
      have hd : decide ((l.length : Int) < (c : Int)) = true := by simp; omega
      have k2 := rfault_any hR.out
      clear hI hR1 hK1 hc
      go_wp2_with fail
      refine k2.mono ?_
      rintro e w2 ⟨⟨f, rfl, hf⟩, hb2⟩
      clear k2
      have hR2 : Hid (Rd w2 base q g a n zs s') := hR.out.kept hb2
      have hO2 : Hid (OwnsK w2 w.heap.size (.slice av l.length cv) l) := hO.out.kept hb2
      have hK2 : Hid (K2 q g w w2) := hK.out.trans (K2.of_below hb2)
      clear hR hO hK hb2 hf
      by_cases h0 : s'.1 = 0
      · have hE3 : Hid (l.map Prod.snd ++ ((lossS zs s').1 :: (lsS zs k (lossS zs s').2).1) = R.1 ∧ (lsS zs k (lossS zs s').2).2 = R.2) := by
          have := hE.out
          unfold lsS at this
          simp only [h0, ne_eq, not_true_eq_false, if_false] at this
          exact ⟨this.1 trivial, this.2⟩
        have k3 := Go.Proofs.YtgfnohgpmmaocaaDoor.loss_any hR2.out
        rw [h0]
        clear hE h0
        go_wp2_with (first
          | (go_at_call 36; refine k3.mono ?_; rintro e w3 ⟨pv, ⟨pt, kd, nn⟩, rfl, hT3, hx3, hR3, hK3⟩; clear k3; have hO3 : Hid (OwnsK w3 w.heap.size (.slice av l.length cv) l) := hO2.out.k2 hK3.out hpl.out.1 hpl.out.2.1; have hK3' : Hid (K2 q g w w3) := hK2.out.trans hK3.out; have hT3' : Hid (OwnsI w3 w.heap.size pv pt ∧ nn < 18446744073709551616) := ⟨hT3.out.1.base hK2.out.size, hT3.out.2⟩; generalize (lossS zs s').1 = x3 at *; generalize (lossS zs s').2 = s3 at *)
          | (at_builtin; refine wpList_append_loss rfl _ _ rfl w.heap.size _ l (pv, ⟨pt, kd, nn⟩) rfl (hO3.out.alloc _) ⟨hT3'.out.1.alloc _, hT3'.out.2⟩ w3.heap.size rfl (fun j _ => ((blk_new w3 _ _).cell j).trans Array.getElem?_toList.symm) (by omega) (by have := hK3'.out.size; simp; omega) ?_; intro v4 w4 hO4 hg4))
        have hB4 : Hid (Below w.heap.size w3 w4) := grownK_below ((Below.refl _ _).alloc hK3'.out.size _) (hO3.out.alloc _) hg4 (by have := hK3'.out.size; simp; omega)
        have hR4 : Hid (Rd w4 base q g a n zs s3) := hR3.out.low hB4.out hpl.out
        have hK4 : Hid (K2 q g w w4) := hK3'.out.low hB4.out
        have hO4' : Hid (OwnsK w4 w.heap.size v4 (l ++ [(pv, ⟨pt, kd, nn⟩)])) := hO4
        obtain ⟨a4, n4, c4, rfl, hn4, hc4, hm4⟩ := hO4.form
        clear hg4 hO3 hR3 hK3 hK3' hB4 hO2 hR2 hK2 hO4 hT3 hT3'
        go_roundw
        case rel =>
          refine ⟨l ++ [(pv, ⟨pt, kd, nn⟩)], k, s3, a4, n4, c4, rfl, hn4, hc4, hm4, by simp; omega, hO4', hR4, hK4, ⟨fun h => ?_, hE3.out.2⟩⟩
          rw [List.map_append, List.append_assoc]
          have := hx3.out h
          show l.map Prod.snd ++ ((⟨pt, kd, nn⟩ : Ls) :: (lsS zs k s3).1) = R.1
          rw [this]
          exact hE3.out.1
        case measure => rw [hn4, List.length_append]; simp; omega
      · have hE' : Hid ((R.2.1 = 0 → l.map Prod.snd = R.1) ∧ s' = R.2) := by
          show _ ∧ _
          obtain ⟨h1, h2⟩ := hE.out
          rw [lsS_bad _ _ _ h0] at h2
          have h2' : s' = R.2 := h2
          exact ⟨fun h => absurd (by rw [h2']; exact h) h0, h2⟩
        have hy : (((s'.1 : Nat) : Int) == 0) = false := by rw [beq_eq_false_iff_ne]; omega
        clear hE
        go_wp2
        go_ret
        refine ⟨_, l, rfl, ⟨hO2.out, by omega⟩, hE'.out.1, ?_, hK2⟩
        rw [← hE'.out.2]
        exact hR2
end Go.Proofs.YtgfnohgpmmaocaaDoor
