/-
  A load that came beyond a gap.
-/
import Derived.Test.YtfipdldoklkciaaSdd
namespace Go.Proofs.Ytfipdldoklkciaa
open Go.RowKit
set_option linter.unusedVariables false
/-- One load's state anew. -/
def setA (s : St) (z : Int) (e : Ent) : St := { s with L := fun x => if x = z then some e else s.L x }
theorem set_ok {s : St} {z : Int} {e e' : Ent} (h : Ok s) (hL : s.L z = some e) (hz : e'.zs = e.zs) (hn : e'.n = e.n) (ht : 0 ≤ e'.time ∧ e'.time ≤ 1099511627840 ∧ 1 ≤ e'.wait ∧ e'.wait ≤ 64) : Ok (setA s z e') := by
  obtain ⟨w1, w2, b1, b2, few, l1, l2, inn, ent⟩ := h
  refine ⟨w1, w2, b1, b2, few, l1, l2, fun x => ?_, fun x e1 he => ?_⟩
  · show (if x = z then some e' else s.L x).isSome = true ↔ s.base ≤ x ∧ x < s.nxt
    have := inn x
    by_cases hx : x = z
    · subst hx
      rw [if_pos rfl]
      rw [hL] at this
      simpa using this
    · rw [if_neg hx]; exact this
  · have he : (if x = z then some e' else s.L x) = some e1 := he
    split at he
    · cases he
      have := ent z e hL
      rw [hz, hn]
      exact ⟨this.1, this.2.1, ht⟩
    · exact ent x e1 he
theorem sd_put {w w1 : World} {B sb mb : Nat} {s : St} {z : Int} {e e' : Ent} (h : Sd w B sb mb s) (hL : s.L z = some e) (ha : e'.a = e.a) (hn : e'.n = e.n) (hc : e'.c = e.c) (hz : e'.zs = e.zs) (ht : 0 ≤ e'.time ∧ e'.time ≤ 1099511627840 ∧ 1 ≤ e'.wait ∧ e'.wait ≤ 64)
    (m : MapI w1 mb (put s.f z (some e'.val)) (if (s.f z).isSome then (s.nxt - s.base).toNat else (s.nxt - s.base).toNat + 1)) (g : w.grownBy w1 (some mb)) : Sd w1 B sb mb (setA s z e') := by
  refine ⟨set_ok h.ok hL hz hn ht, h.hs, h.hm, h.blk.but g (Ne.symm h.ne), ?_, fun x e1 he => ?_⟩
  · have hf : (setA s z e').f = put s.f z (some e'.val) := by
      funext x
      show (if x = z then some e' else s.L x).map Ent.val = if x = z then some e'.val else (s.L x).map Ent.val
      split <;> rfl
    have hsome : (s.f z).isSome = true := by simp [St.f, hL]
    rw [hsome, if_pos rfl] at m
    rw [hf]
    exact m
  · have he : (if x = z then some e' else s.L x) = some e1 := he
    split at he
    · cases he
      have k := (h.ld z e hL).k2 (K2.of_g g)
      exact ⟨by rw [ha, hz]; exact k.by_, by rw [ha, hc]; exact k.nil, by rw [hn, hc]; exact k.le, by rw [hc]; exact k.mx, by rw [ha]; exact k.at_, by rw [ha]; exact k.ty⟩
    · exact (h.ld x e1 he).k2 (K2.of_g g)
theorem sd_rg {w : World} {B sb mb : Nat} {s : St} (h : Sd w B sb mb s) {z : Int} {e : Ent} (hL : s.L z = some e) : -9223372036854775808 ≤ z ∧ z < 9223372036854775808 := by
  have := (h.ok.inn z).1 (by rw [hL]; rfl)
  have := h.ok.b1; have := h.ok.b2; have := h.ok.l1; have := h.ok.l2
  omega
def beyA (s : St) (z : Int) : St := match s.L z with | some e => setA s z { e with there := true } | none => s
theorem bey_any {B sb mb : Nat} {s : St} {w : World} (z : Int) (h : Sd w B sb mb s) (hrg : -9223372036854775808 ≤ z ∧ z < 9223372036854775808) :
    Calls Try.prog 92 #[.pointer (some ⟨sb, 0, none⟩), .int .i64 z] w fun e w' => e = .returned (.tuple #[]) ∧ Hid (Sd w' B sb mb (beyA s z)) ∧ Hid (K2 sb mb w w') := by
  have hS : Hid (Sd w B sb mb s) := h
  have c5 := h.c5
  have hl := h.mp.look2 hrg
  have hlt := h.blk.lt
  cases hL : s.L z with
  | none =>
    have e1 : Hid (beyA s z = s) := by show _ = _; unfold beyA; rw [hL]
    rw [show s.f z = none by simp [St.f, hL]] at hl
    simp only [Option.getD_none, Option.isSome_none, zE] at hl
    clear h hL hrg
    go_enter Try.func92, Try.ntmps92
    go_wp2
    refine bodyPost_end (results_none rfl _ _ _) rfl ?_
    refine ⟨rfl, ?_, ?_⟩
    · rw [e1.out]
      refine hS.out.kept ?_
      repeat (refine Below.setCell ?_ (by first | exact Nat.le_refl _ | simp) _)
      exact (Below.refl w.heap.size w).alloc (Nat.le_refl _) _
    · refine K2.of_below ?_
      repeat (refine Below.setCell ?_ (by first | exact Nat.le_refl _ | simp) _)
      exact (Below.refl w.heap.size w).alloc (Nat.le_refl _) _
  | some e =>
    have e1 : Hid (beyA s z = setA s z { e with there := true }) := by show _ = _; unfold beyA; rw [hL]
    have hL' : Hid (s.L z = some e) := hL
    have hrg' : Hid (-9223372036854775808 ≤ z ∧ z < 9223372036854775808) := hrg
    rw [show s.f z = some e.val by simp [St.f, hL]] at hl
    simp only [Option.getD_some, Option.isSome_some, Ent.val] at hl
    clear h hL hrg
    go_enter Try.func92, Try.ntmps92
    go_wp2
    have hB2 : Hid (Below w.heap.size w (w.alloc (.cells #[.slice e.a e.n e.c, .int .i64 e.time, .int .i64 e.wait, .bool true] 145))) := (Below.refl w.heap.size w).alloc (Nat.le_refl _) _
    have hbk : Hid (Blk (w.alloc (.cells #[.slice e.a e.n e.c, .int .i64 e.time, .int .i64 e.wait, .bool true] 145)) w.heap.size _ 145) := blk_new w _ _
    generalize (w.alloc (.cells #[.slice e.a e.n e.c, .int .i64 e.time, .int .i64 e.wait, .bool true] 145)) = w2 at hB2 hbk ⊢
    have hS2 : Hid (Sd w2 B sb mb s) := hS.out.kept hB2.out
    have c5' := hS2.out.c5
    have d0 := hbk.out.cell 0
    have d1 := hbk.out.cell 1
    have d2 := hbk.out.cell 2
    have d3 := hbk.out.cell 3
    have hsz : Hid ((s.nxt - s.base).toNat < 1000) := by have := hS2.out.ok.few; have := hS2.out.ok.w2; show _ < _; omega
    obtain ⟨w3, hr, hm, hg⟩ := hS2.out.mp.drew.store hsz.out hrg'.out (Ent.val { e with there := true })
    have hg0 : Hid (w2.grownBy w3 (some mb)) := ⟨hg.os, hg.tape, hg.output, hg.size, hg.block⟩
    have hS3 : Hid (Sd w3 B sb mb (beyA s z)) := by
      show Sd w3 B sb mb (beyA s z)
      rw [e1.out]
      have := hS2.out.ok.ent z e hL'.out
      exact sd_put hS2.out hL'.out rfl rfl rfl rfl this.2.2 hm hg0.out
    have hK3 : Hid (K2 sb mb w w3) := (K2.of_below hB2.out).trans (K2.of_g hg0.out)
    simp only [Ent.val] at hr
    clear hm hg hsz c5 hl hlt
    go_region
    go_wp2
    refine bodyPost_end (results_none rfl _ _ _) rfl ?_
    exact ⟨rfl, hS3, hK3⟩
end Go.Proofs.Ytfipdldoklkciaa
