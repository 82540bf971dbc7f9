/-
  The document's calls.
-/
import Derived.Test.YtajidkgmifcoaaaRcr
import Derived.Deep.RegionHeld3
namespace Go.Proofs.Ytajidkgmifcoaaa
open Go.RowKit
set_option linter.unusedVariables false
/-- What a walk is told of the document's receiver. -/
structure DmF (w : World) (mb D g n c : Nat) (L : List Cm) (s : Rc) : Prop where
  hm : D ≤ mb
  ok : Rok s
  blk : Blk w mb #[.int .i64 s.win, .int .i64 s.tk, .slice (some ⟨g, 0, none⟩) n c] 29
  own : OwnsC w D (.slice (some ⟨g, 0, none⟩) n c) L
  nw : (n : Int) = s.win
  len : L.length = n
  rel : ∀ k p, L[k]? = some p → p.1 = has s k ∧ (p.1 = true → s.L (s.tk + 1 + (k : Int)) = some p.2.2)
theorem Dm.open_ {w : World} {mb D : Nat} {s : Rc} (h : Dm w mb D s) : ∃ g n c L, DmF w mb D g n c L s ∧ n ≤ c ∧ c ≤ 9223372036854775807 := by
  obtain ⟨hm, ok, g, n, c, L, h1, h2, h3, h4, h5, h6, h7⟩ := h
  exact ⟨g, n, c, L, ⟨hm, ok, h1, h2, h3, h4, h7⟩, h5, h6⟩
theorem DmF.shut {w : World} {mb D g n c : Nat} {L : List Cm} {s : Rc} (h : DmF w mb D g n c L s) (h1 : n ≤ c) (h2 : c ≤ 9223372036854775807) : Dm w mb D s :=
  ⟨h.hm, h.ok, g, n, c, L, h.blk, h.own, h.nw, h.len, h1, h2, h.rel⟩
theorem DmF.is {w : World} {mb D g n c : Nat} {L : List Cm} {s : Rc} (h : DmF w mb D g n c L s) {k : Nat} (hk : k < n) : w.cell? ⟨g, k * 2, none⟩ = some (.bool (has s k)) := by
  have hx : L[k]? = some (L[k]'(by rw [h.len]; exact hk)) := List.getElem?_eq_getElem _
  rw [(h.own.cell hx).1, (h.rel k _ hx).1]
theorem has_of {s : Rc} (h : Rok s) {k : Nat} (hk : s.win ≤ (k : Int)) : has s k = false := by
  unfold has
  rw [h.none (by omega)]
  rfl
/-! ### the document's Ready and Held -/
theorem mready_any {w : World} {mb D : Nat} {s : Rc} (h : Dm w mb D s) :
    Calls Try.prog 21 #[.pointer (some ⟨mb, 0, none⟩)] w fun e w' => e = .returned (.int .i64 (rdy s)) ∧ w' = w := by
  obtain ⟨g, n, c, L, hF, hnc, hcm⟩ := h.open_
  have hF' : Hid (DmF w mb D g n c L s) := hF
  have c2 := hF.blk.cell 2
  simp only [List.getElem?_toArray, List.getElem?_cons_succ, List.getElem?_cons_zero] at c2
  have hn32 : n ≤ 32 := by have := hF.ok.w2; have := hF.nw; omega
  clear h hF
  go_enter Try.func21, Try.ntmps21
  go_wp2_with fail
  go_loopw [3] (fun s3 wr => ∃ k : Nat, k ≤ n ∧ s3 = .int .i64 (k : Int) ∧ Hid (∀ j, j < k → has s j = true) ∧ wr = w) (fun v _ => 33 - (intOf v).toNat)
  case atStart => exact ⟨0, Nat.zero_le _, rfl, fun _ h => by omega, rfl⟩
  case round =>
    obtain ⟨k, hk, rfl, hj, hw⟩ := hrel
    obtain rfl := hw.symm
    clear hw
    by_cases hlt : k < n
    · have hd : decide ((k : Int) < (n : Int)) = true := by simp; omega
      have hc := hF'.out.is hlt
      cases hs : has s k with
      | true =>
        rw [hs] at hc
        have hs' : Hid (has s k = true) := hs
        clear hs
        go_wp2_with fail
        refine ⟨⟨k + 1, by omega, by simp, fun j hj2 => ?_, by trivial⟩, by simp [intOf]; omega⟩
        by_cases e : j = k
        · rw [e]; exact hs'.out
        · exact hj.out j (by omega)
      | false =>
        rw [hs] at hc
        have hr : Hid (rdy s = k) := rdy_of hF'.out.ok hj.out (by
          unfold has at hs
          cases hL : s.L (s.tk + 1 + (k : Int)) with
          | none => rfl
          | some l => rw [hL] at hs; cases hs)
        clear hs
        go_wp2_with fail
        go_ret
        exact ⟨by rw [hr.out]; rfl, rfl⟩
    · have hd : decide ((k : Int) < (n : Int)) = false := by simp; omega
      have hr : Hid (rdy s = k) := rdy_of hF'.out.ok hj.out (by
        have hs : has s k = false := has_of hF'.out.ok (by have := hF'.out.nw; omega)
        unfold has at hs
        cases hL : s.L (s.tk + 1 + (k : Int)) with
        | none => rfl
        | some l => rw [hL] at hs; cases hs)
      go_wp2_with fail
      go_ret
      exact ⟨by rw [hr.out]; rfl, rfl⟩
theorem mheld_any {w : World} {mb D : Nat} {s : Rc} (h : Dm w mb D s) :
    Calls Try.prog 23 #[.pointer (some ⟨mb, 0, none⟩)] w fun e w' => e = .returned (.int .i64 (hld s)) ∧ w' = w := by
  obtain ⟨g, n, c, L, hF, hnc, hcm⟩ := h.open_
  have hF' : Hid (DmF w mb D g n c L s) := hF
  have c2 := hF.blk.cell 2
  simp only [List.getElem?_toArray, List.getElem?_cons_succ, List.getElem?_cons_zero] at c2
  have hn32 : n ≤ 32 := by have := hF.ok.w2; have := hF.nw; omega
  have hH : Hid (cnt (has s) n = hld s) := by
    have e := cnt_add (has s) n (32 - n)
    rw [show n + (32 - n) = 32 by omega, cnt_none (g := fun i => has s (n + i)) _ (fun j hj => has_of hF.ok (by have := hF.nw; omega))] at e
    show _ = cnt (has s) 32
    omega
  have hle : Hid (∀ k, cnt (has s) k ≤ k) := cnt_le _
  have hN : Hid (∀ k, cnt (has s) (k + 1) = if has s k = true then cnt (has s) k + 1 else cnt (has s) k) := fun k => rfl
  clear h hF
  generalize cnt (has s) = C at *
  go_enter Try.func23, Try.ntmps23
  go_wp2_with fail
  go_loopw [3, 4] (fun s3 s4 wr => ∃ k : Nat, k ≤ n ∧ s3 = .int .i64 (C k : Int) ∧ s4 = .int .i64 (k : Int) ∧ wr = w) (fun _ v _ => 33 - (intOf v).toNat)
  case atStart => exact ⟨0, Nat.zero_le _, by have := hle.out 0; rw [show C 0 = 0 by omega]; rfl, rfl, rfl⟩
  case round =>
    obtain ⟨k, hk, rfl, rfl, hw⟩ := hrel
    obtain rfl := hw.symm
    clear hw
    by_cases hlt : k < n
    · have hd : decide ((k : Int) < (n : Int)) = true := by simp; omega
      have hc := hF'.out.is hlt
      have hn := hN.out k
      have hl := hle.out k
      cases hs : has s k with
      | true =>
        rw [hs] at hc hn
        rw [if_pos rfl] at hn
        clear hs
        go_wp2_with fail
        exact ⟨⟨k + 1, by omega, by rw [hn]; simp, by simp, by trivial⟩, by simp [intOf]; omega⟩
      | false =>
        rw [hs] at hc hn
        rw [if_neg (by decide)] at hn
        clear hs
        go_wp2_with fail
        exact ⟨⟨k + 1, by omega, by rw [hn], by simp, by trivial⟩, by simp [intOf]; omega⟩
    · have hd : decide ((k : Int) < (n : Int)) = false := by simp; omega
      obtain rfl : k = n := by omega
      have hx := hH.out
      go_wp2_with fail
      go_ret
      exact ⟨by rw [hx]; rfl, rfl⟩
end Go.Proofs.Ytajidkgmifcoaaa
