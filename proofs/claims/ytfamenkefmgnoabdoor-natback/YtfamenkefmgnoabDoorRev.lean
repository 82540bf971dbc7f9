/-
  Bytes turned round in place: slices.Reverse.
-/
import Derived.Test.YtfamenkefmgnoabDoorOwn
import Derived.Deep.LoopGhost
namespace Go.Proofs.YtfamenkefmgnoabDoor
open Go.RowKit

/-- A row whose outer i bytes, at either end, have been turned round. -/
def Half (zs p : List Int) (i : Nat) : Prop := p.length = zs.length ∧ ∀ k, k < zs.length → p.getD k 0 = if k < i ∨ zs.length - i ≤ k then zs.getD (zs.length - 1 - k) 0 else zs.getD k 0
theorem set_same {l : List Int} {i : Nat} (h : i < l.length) (u : Int) : (l.set i u).getD i 0 = u := by
  rw [List.getD_eq_getElem?_getD, List.getElem?_set_self h]; rfl
theorem set_other {l : List Int} {i j : Nat} (h : i ≠ j) (u : Int) : (l.set i u).getD j 0 = l.getD j 0 := by
  rw [List.getD_eq_getElem?_getD, List.getElem?_set_ne h, ← List.getD_eq_getElem?_getD]
theorem half_start (zs : List Int) : Half zs zs 0 := ⟨rfl, fun k hk => by rw [if_neg (by omega)]⟩
theorem Half.next {zs p : List Int} {i j : Nat} (h : Half zs p i) (hj : j = zs.length - 1 - i) (hij : i < j) (hjn : j < zs.length) : Half zs ((p.set i (p.getD j 0)).set j (p.getD i 0)) (i + 1) := by
  obtain ⟨h1, h2⟩ := h
  refine ⟨by rw [List.length_set, List.length_set]; exact h1, fun k hk => ?_⟩
  have ei := h2 i (by omega)
  have ej := h2 j hjn
  rw [if_neg (by omega)] at ei ej
  by_cases c1 : k = j
  · subst c1
    rw [set_same (by rw [List.length_set]; omega), if_pos (by omega), ei]
    congr 1
    omega
  · rw [set_other (by omega)]
    by_cases c2 : k = i
    · subst c2
      rw [set_same (by omega), if_pos (by omega), ej, hj]
    · rw [set_other (by omega), h2 k hk]
      by_cases c3 : k < i ∨ zs.length - i ≤ k
      · rw [if_pos c3, if_pos (by omega)]
      · rw [if_neg c3, if_neg (by omega)]
theorem Half.whole {zs p : List Int} {i : Nat} (h : Half zs p i) (hi : zs.length ≤ 2 * i + 1) : p = zs.reverse := by
  obtain ⟨h1, h2⟩ := h
  apply List.ext_getElem
  · rw [h1, List.length_reverse]
  · intro k hk hk'
    have e := h2 k (by omega)
    rw [List.getD_eq_getElem?_getD, List.getElem?_eq_getElem hk, Option.getD_some] at e
    rw [e, List.getElem_reverse]
    have f : ∀ j, j = zs.length - 1 - k → zs.getD j 0 = zs[zs.length - 1 - k]'(by omega) := fun j hj => by
      subst hj
      rw [List.getD_eq_getElem?_getD, List.getElem?_eq_getElem (by omega : zs.length - 1 - k < zs.length)]; rfl
    by_cases c : k < i ∨ zs.length - i ≤ k
    · rw [if_pos c]
      exact f _ rfl
    · rw [if_neg c]
      exact f _ (by omega)
theorem OwnR.drewO {w : World} {base g n cap : Nat} {zs : List Int} (h : OwnR w base g n cap zs) : OwnR w.drew base g n cap zs := h
set_option maxHeartbeats 1600000 in
set_option maxRecDepth 1000000 in
theorem rev_any (g n cap base : Nat) (zs : List Int) (w : World) (hO : OwnR w base g n cap zs) (hn : n ≤ 1000000) :
    Calls Tryd.prog 22 #[.slice (some ⟨g, 0, none⟩) n cap] w fun e w' => e = .returned (.tuple #[]) ∧ OwnR w' base g n cap zs.reverse ∧ Below base w w' := by
  have hl : Hid (zs.length = n) := hO.2.1
  have hbg : Hid (base ≤ g) := hO.2.2.2
  have hO0 : Hid _ := hO
  have w0 : IntKind.i64.wrap ((n : Int) - 1) = (n : Int) - 1 := by rw [IntKind.wrap_i64]; omega
  clear hO
  go_enter Tryd.func22, Tryd.ntmps22
  go_wp2
  go_loopw [2, 3] (fun s2 s3 wr => ∃ (i : Nat) (p : List Int), i ≤ n ∧ s2 = .int .i64 i ∧ s3 = .int .i64 ((n : Int) - 1 - i) ∧ Hid (Half zs p i) ∧ Hid (OwnR wr base g n cap p) ∧ Hid (Below base w wr)) (fun i _ _ => n - (intOf i).toNat)
  case atStart => exact ⟨0, zs, Nat.zero_le _, rfl, by simp, half_start zs, hO0, Below.refl _ _⟩
  case round =>
    obtain ⟨i, p, hi, rfl, rfl, hH, hO, hbl⟩ := hrel
    by_cases hlt : i < n - 1 - i
    · obtain ⟨j, hj⟩ : ∃ j : Nat, n - 1 - i = j := ⟨_, rfl⟩
      have hlen := hl.out
      have hjz : (n : Int) - 1 - i = (j : Int) := by omega
      have hX := hO.out.cell i (by omega)
      have hY := hO.out.cell j (by omega)
      have hfX := hO.out.frozen i
      have hfY := hO.out.frozen j
      have hpl : p.length = n := by rw [hH.out.1, hlen]
      have hz := hO.out.2.2.1
      have hXb : 0 ≤ p.getD i 0 ∧ p.getD i 0 < 256 := hz _ (by rw [List.getD_eq_getElem?_getD, List.getElem?_eq_getElem (by omega : i < p.length)]; exact List.getElem_mem _)
      have hYb : 0 ≤ p.getD j 0 ∧ p.getD j 0 < 256 := hz _ (by rw [List.getD_eq_getElem?_getD, List.getElem?_eq_getElem (by omega : j < p.length)]; exact List.getElem_mem _)
      have hN : Hid _ := hH.out.next (j := j) (by omega) (by omega) (by omega)
      have hO' : Hid _ := (hO.out.store i _ hYb).store j _ hXb
      generalize p.getD i 0 = X at *
      generalize p.getD j 0 = Y at *
      have i1 : (i : Int) < (j : Int) := by omega
      have i2 : (i : Int) < (n : Int) := by omega
      have i3 : (j : Int) < (n : Int) := by omega
      have w2 : IntKind.i64.wrap ((j : Int) - 1) = (n : Int) - 1 - ((i + 1 : Nat) : Int) := by rw [IntKind.wrap_i64]; omega
      have hj' : Hid ((n : Int) - 1 - i = (j : Int)) := hjz
      have hin : i + 1 ≤ n := by omega
      rw [hjz]
      clear hjz hXb hYb hz hpl hlen hj hH hlt
      go_wp2
      go_region
      go_wp2
      go_roundw
      case rel => exact ⟨i + 1, (p.set i Y).set j X, by omega, by go_num, by go_num, hN, hO', ((hbl.out.setCell (p := ⟨g, i, none⟩) hbg.out _).setCell (p := ⟨g, j, none⟩) hbg.out _).drew⟩
      case measure => simp [intOf]; omega
    · have hn' : ¬ (i : Int) < (n : Int) - 1 - i := by omega
      have hfin : Hid (OwnR wr base g n cap zs.reverse) := by
        show OwnR _ _ _ _ _ _
        rw [← hH.out.whole (by rw [hl.out]; omega)]
        exact hO.out
      clear hH hO
      go_wp2
      go_end0
      exact ⟨rfl, hfin.out, hbl.out⟩
theorem rev_none (a : Option Addr) (c : Nat) (w : World) :
    Calls Tryd.prog 22 #[.slice a 0 c] w fun e w' => e = .returned (.tuple #[]) ∧ w' = w := by
  go_enter Tryd.func22, Tryd.ntmps22
  go_wp2
  go_loopw [2, 3] (fun s2 s3 wr => s2 = .int .i64 0 ∧ s3 = .int .i64 (-1) ∧ wr = w) (fun _ _ _ => 0)
  case atStart => exact ⟨rfl, rfl, rfl⟩
  case round =>
    obtain ⟨rfl, rfl, rfl⟩ := hrel
    go_wp2
    go_end0
    exact ⟨rfl, rfl⟩
end Go.Proofs.YtfamenkefmgnoabDoor
