/-
  A new sender; a load done, and one that is there.
-/
import Derived.Test.YtfipdldoklkciaaSdc
namespace Go.Proofs.Ytfipdldoklkciaa
open Go.RowKit
set_option linter.unusedVariables false
theorem new_yes (win : Int) (w : World) (h1 : 1 ≤ win) (h2 : win ≤ 32) :
    Calls Try.prog 54 #[.int .i64 win] w fun e w' => e = .returned (.tuple #[.pointer (some ⟨w.heap.size + 1, 0, none⟩), .int .i64 0]) ∧ Hid (Sd w' w.heap.size (w.heap.size + 1) w.heap.size ⟨win, 0, 1, 1, fun _ => none⟩) ∧ Hid (Below w.heap.size w w') := by
  have d0 : decide (win < 1) = false := by simp; omega
  have d1 : decide (win > 32) = false := by simp; omega
  have hO : Hid (Ok ⟨win, 0, 1, 1, fun _ => none⟩) := ⟨h1, h2, by simp, by simp, by show (1:Int) - 1 ≤ win; omega, by simp, by simp, (fun z => by constructor <;> intro h <;> simp at h ⊢ <;> omega), by simp⟩
  have hmk := run_makeMap (P := Try.prog) 139 w
  clear h1 h2
  go_enter Try.func54, Try.ntmps54
  go_wp2
  go_ret2
  refine ⟨rfl, ?_, ?_⟩
  · refine ⟨hO.out, by omega, by omega, ?_, ?_, by simp⟩
    · have e := blk_new (w.alloc (.map #[] 0)) #[.bool true, .int .i64 win, .int .i64 0, .int .i64 1, .int .i64 1, .map (some w.heap.size)] 141
      rw [show (w.alloc (.map #[] 0)).heap.size = w.heap.size + 1 by simp] at e
      exact e
    · exact (mapI_new w).kept ((Below.refl _ _).alloc (Nat.le_refl _) _)
  · exact ((Below.refl _ _).alloc (Nat.le_refl _) _).alloc (by simp) _
theorem new_no (win : Int) (w : World) (h : win < 1 ∨ 32 < win) :
    Calls Try.prog 54 #[.int .i64 win] w fun e w' => e = .returned (.tuple #[.pointer none, .int .i64 1]) ∧ w' = w := by
  by_cases h0 : win < 1
  · have d0 : decide (win < 1) = true := by simp; omega
    clear h h0
    go_enter Try.func54, Try.ntmps54
    go_wp2
    go_ret2
    all_goals simp_all
  · have d0 : decide (win < 1) = false := by simp; omega
    have d1 : decide (win > 32) = true := by simp; omega
    clear h h0
    go_enter Try.func54, Try.ntmps54
    go_wp2
    go_ret2
    all_goals simp_all

/-- A number in memory. -/
def cellI (w : World) (g j : Nat) : Int := match w.cell? ⟨g, j, none⟩ with | some (.int _ z) => z | _ => 0
theorem Sd.cell3 {w : World} {B sb mb : Nat} {s : St} (h : Sd w B sb mb s) : cellI w sb 3 = s.base := by unfold cellI; rw [h.c3]
/-- ALL UP TO k ARE DONE. -/
def finA (s : St) (k : Int) : St := { s with base := if s.base ≤ k then k + 1 else s.base, L := fun z => if z ≤ k then none else s.L z }
theorem fin_ok {s : St} {k : Int} (h : Ok s) (hk : k < s.nxt) : Ok (finA s k) := by
  obtain ⟨w1, w2, b1, b2, few, l1, l2, inn, ent⟩ := h
  unfold finA
  refine ⟨w1, w2, ?_, ?_, ?_, l1, l2, fun z => ?_, fun z e he => ?_⟩
  · show 1 ≤ if s.base ≤ k then k + 1 else s.base
    split <;> omega
  · show (if s.base ≤ k then k + 1 else s.base) ≤ s.nxt
    split <;> omega
  · show s.nxt - (if s.base ≤ k then k + 1 else s.base) ≤ s.win
    split <;> omega
  · show (if z ≤ k then none else s.L z).isSome = true ↔ (if s.base ≤ k then k + 1 else s.base) ≤ z ∧ z < s.nxt
    have := inn z
    by_cases hz : z ≤ k
    · rw [if_pos hz]; simp; split <;> omega
    · rw [if_neg hz, this]; split <;> omega
  · have he : (if z ≤ k then none else s.L z) = some e := he
    split at he
    · cases he
    · exact ent z e he
/-- One number is done. -/
def popA (s : St) : St := { s with base := s.base + 1, L := fun z => if z = s.base then none else s.L z }
theorem pop_ok {s : St} (h : Ok s) (hk : s.base < s.nxt) : Ok (popA s) := by
  obtain ⟨w1, w2, b1, b2, few, l1, l2, inn, ent⟩ := h
  unfold popA
  refine ⟨w1, w2, ?_, ?_, ?_, l1, l2, fun z => ?_, fun z e he => ?_⟩
  · show 1 ≤ s.base + 1
    omega
  · show s.base + 1 ≤ s.nxt
    omega
  · show s.nxt - (s.base + 1) ≤ s.win
    omega
  · show (if z = s.base then none else s.L z).isSome = true ↔ s.base + 1 ≤ z ∧ z < s.nxt
    have := inn z
    by_cases hz : z = s.base
    · rw [if_pos hz]; simp; omega
    · rw [if_neg hz, this]; omega
  · have he : (if z = s.base then none else s.L z) = some e := he
    split at he
    · cases he
    · exact ent z e he
theorem St.ext' {s t : St} (h1 : s.win = t.win) (h2 : s.lim = t.lim) (h3 : s.base = t.base) (h4 : s.nxt = t.nxt) (h5 : ∀ z, s.L z = t.L z) : s = t := by
  cases s; cases t
  simp at h1 h2 h3 h4
  subst h1 h2 h3 h4
  congr 1
  exact funext h5
theorem fin_pop {s : St} {k : Int} (h : Ok s) (hk : s.base ≤ k) : finA (popA s) k = finA s k := by
  refine St.ext' rfl rfl ?_ rfl fun z => ?_
  · show (if s.base + 1 ≤ k then k + 1 else s.base + 1) = if s.base ≤ k then k + 1 else s.base
    rw [if_pos hk]
    split <;> omega
  · show (if z ≤ k then none else if z = s.base then none else s.L z) = if z ≤ k then none else s.L z
    split
    · rfl
    · rw [if_neg (by omega)]
theorem fin_none {s : St} {k : Int} (h : Ok s) (hk : ¬ s.base ≤ k) : finA s k = s := by
  refine St.ext' rfl rfl ?_ rfl fun z => ?_
  · show (if s.base ≤ k then k + 1 else s.base) = s.base
    rw [if_neg hk]
  · show (if z ≤ k then none else s.L z) = s.L z
    split
    · have := h.inn z
      cases hL : s.L z with
      | none => rfl
      | some e => rw [hL] at this; simp at this; omega
    · rfl
/-- One number deleted, and the base raised: the sender behind it. -/
theorem sd_pop {w w1 : World} {B sb mb : Nat} {s : St} (h : Sd w B sb mb s) (hk : s.base < s.nxt) (m : MapI w1 mb (put s.f s.base none) (if (s.f s.base).isSome then (s.nxt - s.base).toNat - 1 else (s.nxt - s.base).toNat)) (g : w.grownBy w1 (some mb)) :
    Sd (w1.setCell ⟨sb, 3, none⟩ (.int .i64 (s.base + 1))) B sb mb (popA s) := by
  have hne := h.ne
  have hb1 : Blk w1 sb _ 141 := h.blk.but g (Ne.symm hne)
  refine ⟨pop_ok h.ok hk, h.hs, h.hm, hb1.set 3 _, ?_, fun z e he => ?_⟩
  · have hf : (popA s).f = put s.f s.base none := by
      funext z
      show (if z = s.base then none else s.L z).map Ent.val = if z = s.base then none else (s.L z).map Ent.val
      split <;> rfl
    have hsome : (s.f s.base).isSome = true := by
      have := (h.ok.inn s.base).2 ⟨by omega, hk⟩
      simpa [St.f] using this
    rw [hsome, if_pos rfl] at m
    rw [hf, show ((popA s).nxt - (popA s).base).toNat = (s.nxt - s.base).toNat - 1 by show (s.nxt - (s.base + 1)).toNat = _; omega]
    exact m.set hne 3 _
  · have he : (if z = s.base then none else s.L z) = some e := he
    split at he
    · cases he
    · exact (h.ld z e he).k2 ((K2.of_g g).trans (K2.set w1 3 _))
theorem finish_any {B sb mb : Nat} {s : St} {w : World} (k : Int) (h : Sd w B sb mb s) (hk : k < s.nxt) :
    Calls Try.prog 91 #[.pointer (some ⟨sb, 0, none⟩), .int .i64 k] w fun e w' => e = .returned (.tuple #[]) ∧ Hid (Sd w' B sb mb (finA s k)) ∧ Hid (K2 sb mb w w') := by
  have hS : Hid (Sd w B sb mb s) := h
  have hk' : Hid (k < s.nxt) := hk
  clear h hk
  go_enter Try.func91, Try.ntmps91
  go_wp2
  go_loopw [] (fun wr => ∃ s' : St, Hid (Sd wr B sb mb s') ∧ Hid (s'.nxt = s.nxt) ∧ Hid (finA s' k = finA s k) ∧ Hid (K2 sb mb w wr)) (fun wr => (k + 1 - cellI wr sb 3).toNat)
  case atStart => exact ⟨s, hS, rfl, rfl, K2.refl _ _ _⟩
  case round =>
    obtain ⟨s', hS', hn', hf', hK'⟩ := hrel
    have c3 := hS'.out.c3
    have c5 := hS'.out.c5
    have f3 := hS'.out.blk.fz 3
    by_cases hlt : s'.base ≤ k
    · have hd : decide (s'.base ≤ k) = true := by simp; omega
      have hsn : Hid (s'.base < s'.nxt) := by have := hn'.out; have := hk'.out; show _ < _; omega
      have hwr : IntKind.i64.wrap (s'.base + 1) = s'.base + 1 := by
        have := hS'.out.ok.b1; have := hS'.out.ok.b2; have := hS'.out.ok.l1; have := hS'.out.ok.l2
        rw [IntKind.wrap_i64]; omega
      have hrg : -9223372036854775808 ≤ s'.base ∧ s'.base < 9223372036854775808 := by
        have := hS'.out.ok.b1; have := hS'.out.ok.b2; have := hS'.out.ok.l1; have := hS'.out.ok.l2
        omega
      obtain ⟨w1, hr, hm, hg⟩ := hS'.out.mp.drew.drop hrg 0
      have hg0 : Hid (wr.grownBy w1 (some mb)) := ⟨hg.os, hg.tape, hg.output, hg.size, hg.block⟩
      have hm1 : Hid (MapI w1 mb (put s'.f s'.base none) (if (s'.f s'.base).isSome then (s'.nxt - s'.base).toNat - 1 else (s'.nxt - s'.base).toNat)) := hm
      have b1 := hS'.out.blk.but hg0.out (Ne.symm hS'.out.ne)
      have c31 := b1.cell 3
      have f31 := b1.fz 3
      have hS2 : Hid (Sd (w1.setCell ⟨sb, 3, none⟩ (.int .i64 (s'.base + 1))) B sb mb (popA s')) := sd_pop hS'.out hsn.out hm1.out hg0.out
      have hF2 : Hid (finA (popA s') k = finA s k) := (fin_pop hS'.out.ok hlt).trans hf'.out
      have hK2 : Hid (K2 sb mb w (w1.setCell ⟨sb, 3, none⟩ (.int .i64 (s'.base + 1)))) := hK'.out.trans ((K2.of_g hg0.out).trans (K2.set w1 3 _))
      have hm3 : Hid (cellI wr sb 3 = s'.base) := hS'.out.cell3
      clear b1 hm hg hm1 hrg hlt
      go_wp2
      go_region
      go_wp2
      go_roundw
      · exact ⟨popA s', hS2, hn', hF2, hK2⟩
      · rw [hS2.out.cell3, hm3.out]
        show (k + 1 - (s'.base + 1)).toNat < _
        have := of_decide_eq_true hd
        omega
    · have hd : decide (s'.base ≤ k) = false := by simp; omega
      have hN : Hid (finA s' k = s') := fin_none hS'.out.ok hlt
      clear hlt c5 f3
      go_wp2
      refine bodyPost_end (results_none rfl _ _ _) rfl ?_
      refine ⟨rfl, ?_, hK'⟩
      rw [← hf'.out, hN.out]
      exact hS'
end Go.Proofs.Ytfipdldoklkciaa
