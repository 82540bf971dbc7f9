/-
  How many are held.
-/
import Derived.Test.YtfipdldoklkciaaRcd
import Derived.Deep.MidRow
namespace Go.Proofs.Ytfipdldoklkciaa
open Go.RowKit
set_option linter.unusedVariables false
/-- How many of the first k. -/
def cnt (g : Nat → Bool) : Nat → Nat
  | 0 => 0
  | k + 1 => if g k = true then cnt g k + 1 else cnt g k
theorem cnt_le (g : Nat → Bool) : ∀ k, cnt g k ≤ k
  | 0 => Nat.le_refl _
  | k + 1 => by
    have := cnt_le g k
    unfold cnt
    split <;> omega
theorem cnt_congr {g h : Nat → Bool} : ∀ k, (∀ j, j < k → g j = h j) → cnt g k = cnt h k
  | 0, _ => rfl
  | k + 1, e => by
    unfold cnt
    rw [cnt_congr k (fun j hj => e j (by omega)), e k (by omega)]
theorem cnt_add (g : Nat → Bool) (a : Nat) : ∀ b, cnt g (a + b) = cnt g a + cnt (fun i => g (a + i)) b
  | 0 => rfl
  | b + 1 => by
    have h1 : cnt g (a + (b + 1)) = if g (a + b) = true then cnt g (a + b) + 1 else cnt g (a + b) := rfl
    have h2 : cnt (fun i => g (a + i)) (b + 1) = if g (a + b) = true then cnt (fun i => g (a + i)) b + 1 else cnt (fun i => g (a + i)) b := rfl
    rw [h1, h2, cnt_add g a b]
    split <;> omega
theorem cnt_all {g : Nat → Bool} : ∀ k, (∀ j, j < k → g j = true) → cnt g k = k
  | 0, _ => rfl
  | k + 1, e => by
    unfold cnt
    rw [if_pos (e k (by omega)), cnt_all k (fun j hj => e j (by omega))]
theorem cnt_none {g : Nat → Bool} : ∀ k, (∀ j, j < k → g j = false) → cnt g k = 0
  | 0, _ => rfl
  | k + 1, e => by
    unfold cnt
    rw [if_neg (by rw [e k (by omega)]; decide), cnt_none k (fun j hj => e j (by omega))]
theorem cnt_turn (g : Nat → Bool) (r : Nat) (hr : r ≤ 32) : cnt (fun p => g ((p + 32 - r) % 32)) 32 = cnt g 32 := by
  have e1 := cnt_add (fun p => g ((p + 32 - r) % 32)) r (32 - r)
  have e2 := cnt_add g (32 - r) r
  rw [show r + (32 - r) = 32 by omega] at e1
  rw [show 32 - r + r = 32 by omega] at e2
  rw [e1, e2, Nat.add_comm (cnt g (32 - r))]
  congr 1
  · refine cnt_congr r (fun j hj => ?_)
    show g ((j + 32 - r) % 32) = g (32 - r + j)
    congr 1
    omega
  · refine cnt_congr (32 - r) (fun j hj => ?_)
    show g ((r + j + 32 - r) % 32) = g j
    congr 1
    omega
/-- HOW MANY ARE HELD. -/
def has (s : Rc) (j : Nat) : Bool := (s.L (s.tk + 1 + (j : Int))).isSome
def hld (s : Rc) : Nat := cnt (has s) 32
theorem hld_ring (s : Rc) (ht : 0 ≤ s.tk) : cnt (fun p => (s.at p).isSome) 32 = hld s := by
  unfold hld
  have hr : ((s.tk + 1) % 32).toNat ≤ 32 := by omega
  rw [← cnt_turn (has s) ((s.tk + 1) % 32).toNat hr]
  refine cnt_congr 32 (fun p hp => ?_)
  show (s.L (s.tk + 1 + ((p : Int) - (s.tk + 1)) % 32)).isSome = (s.L (s.tk + 1 + (((p + 32 - ((s.tk + 1) % 32).toNat) % 32 : Nat) : Int))).isSome
  congr 3
  omega
theorem ext_two {α : Type} (cs : List α) (n : Nat) (u v : α) (h1 : cs[n]? = some u) (h2 : cs[n + 1]? = some v) : cs.toArray.extract n (n + 2) = #[u, v] := by
  apply Array.ext'
  rw [Array.toList_extract]
  simp only [List.extract_eq_take_drop]
  have e1 : cs.drop n = u :: v :: cs.drop (n + 2) := by
    rw [List.drop_eq_getElem_cons (List.getElem?_eq_some_iff.1 h1).1, List.drop_eq_getElem_cons (List.getElem?_eq_some_iff.1 h2).1, (List.getElem?_eq_some_iff.1 h1).2, (List.getElem?_eq_some_iff.1 h2).2]
  rw [e1, show n + 2 - n = 2 by omega]
  rfl
theorem size_pl : (Try.prog.info? 135).map (fun i => i.size) = some 2 := by kernel_rfl
theorem agg_pl (W : World) : (isAgg 135).run Try.prog W = .ok true W := by kernel_rfl
theorem sz_pl (W : World) : (sizeOf 135).run Try.prog W = .ok 2 W := by kernel_rfl
theorem idx_ring (cs : List Value) (p : Nat) (u v : Value) (W : World) (hp : p < 32) (h1 : cs[p * 2]? = some u) (h2 : cs[p * 2 + 1]? = some v) :
    (Instr.index 136 (.agg cs.toArray) (.int .i64 (p : Int))).run Try.prog W = .ok (.agg #[u, v]) W := by
  have h3 : (0 : Int) ≤ (p : Int) ∧ (p : Int) < (32 : Nat) := by omega
  unfold Instr.index
  simp only [asIntOf, Sem.run_bind, Sem.run_pure, Result.andThen_ok, run_underlying Try.underlying136 W]
  rw [if_pos h3]
  simp only [Sem.run_bind, sz_pl, Result.andThen_ok, part, agg_pl, Int.toNat_natCast, if_true, Sem.run_pure]
  rw [ext_two cs (p * 2) u v h1 h2]
theorem size_rg : (Try.prog.info? 136).map (fun i => i.size) = some 64 := by kernel_rfl
set_option maxRecDepth 100000 in
theorem held_any {rb : Nat} {s : Rc} {w : World} (h : Rv w rb s) :
    Calls Try.prog 63 #[.pointer (some ⟨rb, 0, none⟩)] w fun e w' => e = .returned (.int .i64 (hld s)) ∧ Hid (Below w.heap.size w w') := by
  have k0 := rmade_yes rb w h.c0
  have hR : Hid (Rv w rb s) := h
  have hH := hld_ring s h.ok.t1
  obtain ⟨cs, hcl, hcr, hcA, hcB⟩ : ∃ cs : List Value, cs.length = 64 ∧ w.rangeAt rb 3 cs ∧ (∀ p, p < 32 → cs[p * 2]? = some (.bool (s.at p).isSome)) ∧ (∀ p, p < 32 → cs[p * 2 + 1]? = some (.string (strOfNums ((s.at p).getD [])))) := by
    obtain ⟨h1, ca, h2, h3, h4, h5, h6, h7⟩ := h
    have hg : ∀ j, (ca.toList.drop 3)[j]? = ca[3 + j]? := fun j => by rw [List.getElem?_drop, Array.getElem?_toList]
    refine ⟨ca.toList.drop 3, by rw [List.length_drop, Array.length_toList, h3], fun j v hv => ?_, fun p hp => ?_, fun p hp => ?_⟩
    · rw [h2.cell, ← hg j]; exact hv
    · rw [hg]; exact (h7 p hp).1
    · rw [hg, ← Nat.add_assoc]; exact (h7 p hp).2
  have hcr' : Hid (w.rangeAt rb 3 cs) := hcr
  have hcz : Hid ((Try.prog.info? 136).map (fun i => i.size) = some cs.length) := by rw [hcl]; exact size_rg
  have hN : Hid (∀ k, cnt (fun p => (s.at p).isSome) (k + 1) = if (s.at k).isSome = true then cnt (fun p => (s.at p).isSome) k + 1 else cnt (fun p => (s.at p).isSome) k) := fun k => rfl
  have hHH : Hid (cnt (fun p => (s.at p).isSome) 32 = hld s) := hH
  have hle : Hid (∀ k, cnt (fun p => (s.at p).isSome) k ≤ k) := cnt_le _
  have hI : Hid (∀ (p : Nat) (W : World), p < 32 → (Instr.index 136 (.agg cs.toArray) (.int .i64 (p : Int))).run Try.prog W = .ok (.agg #[.bool (s.at p).isSome, .string (strOfNums ((s.at p).getD []))]) W) := fun p W hp => idx_ring cs p _ _ W hp (hcA p hp) (hcB p hp)
  clear h hH hcl hcr hcA hcB
  generalize cnt (fun p => (s.at p).isSome) = C at *
  go_enter Try.func63, Try.ntmps63
  go_wp2_with (first | (go_at_call 94; refine k0.mono ?_; rintro e w1 ⟨rfl, hw1⟩; obtain rfl := hw1.symm; clear k0 hw1) | (refine wpList_load_mid rfl 136 (.tmp 11) rfl rb 3 rfl cs _ hcr'.out Try.underlying136 rfl hcz.out ?_))
  generalize cs.toArray = ca at *
  go_loopw [3, 13] (fun s3 s13 wr => ∃ k : Nat, k ≤ 32 ∧ s3 = .int .i64 (C k : Int) ∧ s13 = .int .i64 (k : Int) ∧ Hid (Below w.heap.size w wr)) (fun _ v _ => 32 - (intOf v).toNat)
  case atStart => exact ⟨0, by omega, by have := hle.out 0; rw [show C 0 = 0 by omega]; rfl, rfl, Below.refl _ _⟩
  case round =>
    obtain ⟨k, hk, rfl, rfl, hB⟩ := hrel
    by_cases hlt : k < 32
    · have hd : decide ((k : Int) < 32) = true := by simp; omega
      have hi := fun W => hI.out k W hlt
      have hn := hN.out k
      have hl := hle.out k
      cases hs : (s.at k).isSome with
      | true =>
        rw [hs] at hi hn
        rw [if_pos rfl] at hn
        go_wp2_with fail
        exact ⟨⟨k + 1, by omega, by rw [hn]; simp, by simp, hB.out.alloc hB.out.size _⟩, by simp [intOf]; omega⟩
      | false =>
        rw [hs] at hi hn
        rw [if_neg (by decide)] at hn
        go_wp2_with fail
        exact ⟨⟨k + 1, by omega, by rw [hn], by simp, hB.out.alloc hB.out.size _⟩, by simp [intOf]; omega⟩
    · have hd : decide ((k : Int) < 32) = false := by simp; omega
      obtain rfl : k = 32 := by omega
      have hx := hHH.out
      go_wp2
      go_ret
      exact ⟨by rw [hx]; rfl, hB⟩
end Go.Proofs.Ytfipdldoklkciaa
