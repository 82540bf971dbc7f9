/-
  A load pushed.
-/
import Derived.Test.YtfipdldoklkciaaSde
import Derived.Deep.RegionHeld3
namespace Go.Proofs.Ytfipdldoklkciaa
open Go.RowKit
set_option linter.unusedVariables false
theorem OwnsB.blk {w : World} {base n c : Nat} {a : Option Addr} {zs : List Int} (h : OwnsB w base (.slice a n c) zs) : ∀ x, a = some x → ∃ cs, Blk w x.block cs 5 := by
  intro x hx
  rcases h.1.2 with ⟨hv, _⟩ | ⟨g, cap, cur, hv, _, hc, _⟩
  · cases hv; cases hx
  · cases hv; cases hx
    exact ⟨cur, hc⟩
def pushE (s : St) (n : Nat) (now : Int) : Int := if timeB now = false then 1 else if 1200 < n then 8 else if s.lim < s.nxt ∨ s.win ≤ s.nxt - s.base then 13 else 0
def addA (s : St) (e : Ent) : St := { s with nxt := s.nxt + 1, L := fun z => if z = s.nxt then some e else s.L z }
theorem add_ok {s : St} {e : Ent} (h : Ok s) (h1 : ¬ s.lim < s.nxt) (h2 : ¬ s.win ≤ s.nxt - s.base) (he : e.zs.length = e.n ∧ e.n ≤ 1200 ∧ 0 ≤ e.time ∧ e.time ≤ 1099511627840 ∧ 1 ≤ e.wait ∧ e.wait ≤ 64) : Ok (addA s e) := by
  obtain ⟨w1, w2, b1, b2, few, l1, l2, inn, ent⟩ := h
  refine ⟨w1, w2, b1, ?_, ?_, ?_, l2, fun x => ?_, fun x e1 he1 => ?_⟩
  · show s.base ≤ s.nxt + 1
    omega
  · show s.nxt + 1 - s.base ≤ s.win
    omega
  · show s.nxt + 1 - 1 ≤ s.lim
    omega
  · show (if x = s.nxt then some e else s.L x).isSome = true ↔ s.base ≤ x ∧ x < s.nxt + 1
    have := inn x
    by_cases hx : x = s.nxt
    · rw [if_pos hx]; simp; omega
    · rw [if_neg hx, this]; omega
  · have he1 : (if x = s.nxt then some e else s.L x) = some e1 := he1
    split at he1
    · cases he1
      exact he
    · exact ent x e1 he1
theorem sd_add {w w1 : World} {B sb mb : Nat} {s : St} {e : Ent} (h : Sd w B sb mb s) (h1 : ¬ s.lim < s.nxt) (h2 : ¬ s.win ≤ s.nxt - s.base) (he : e.zs.length = e.n ∧ e.n ≤ 1200 ∧ 0 ≤ e.time ∧ e.time ≤ 1099511627840 ∧ 1 ≤ e.wait ∧ e.wait ≤ 64)
    (hl : Ld w B sb mb e) (m : MapI w1 mb (put s.f s.nxt (some e.val)) (if (s.f s.nxt).isSome then (s.nxt - s.base).toNat else (s.nxt - s.base).toNat + 1)) (g : w.grownBy w1 (some mb)) :
    Sd (w1.setCell ⟨sb, 4, none⟩ (.int .i64 (s.nxt + 1))) B sb mb (addA s e) := by
  have hne := h.ne
  have hb1 : Blk w1 sb _ 141 := h.blk.but g (Ne.symm hne)
  refine ⟨add_ok h.ok h1 h2 he, h.hs, h.hm, hb1.set 4 _, ?_, fun z e1 he1 => ?_⟩
  · have hf : (addA s e).f = put s.f s.nxt (some e.val) := by
      funext z
      show (if z = s.nxt then some e else s.L z).map Ent.val = if z = s.nxt then some e.val else (s.L z).map Ent.val
      split <;> rfl
    have hnone : (s.f s.nxt).isSome = false := by
      have := h.ok.inn s.nxt
      cases hL : s.L s.nxt with
      | none => simp [St.f, hL]
      | some e1 => rw [hL] at this; simp at this
    rw [hnone, if_neg (by simp)] at m
    have hb := h.ok.b2
    rw [hf, show ((addA s e).nxt - (addA s e).base).toNat = (s.nxt - s.base).toNat + 1 by show (s.nxt + 1 - s.base).toNat = _; omega]
    exact m.set hne 4 _
  · have he1 : (if z = s.nxt then some e else s.L z) = some e1 := he1
    split at he1
    · cases he1
      exact hl.k2 ((K2.of_g g).trans (K2.set w1 4 _))
    · exact (h.ld z e1 he1).k2 ((K2.of_g g).trans (K2.set w1 4 _))
theorem below_drewN (w : World) (n : Nat) : Below w.heap.size w (w.drewN n) := ⟨rfl, rfl, rfl, Nat.le_refl _, fun _ _ => rfl⟩
set_option maxHeartbeats 1000000 in
theorem push_ok {B sb mb : Nat} {s : St} {w : World} (a : Option Addr) (n c : Nat) (zs : List Int) (now : Int) (h : Sd w B sb mb s) (hE : pushE s n now = 0) (hB : B ≤ w.heap.size) (hn : zs.length = n) (h0 : a = none → c = 0) (hb : Bytes w a zs) :
    Calls Try.prog 64 #[.pointer (some ⟨sb, 0, none⟩), .slice a n c, .int .i64 now] w fun e w' => e = .returned (.tuple #[.int .i64 s.nxt, .int .i64 0]) ∧ ∃ en : Ent, Hid (en.zs = zs ∧ en.time = now ∧ en.wait = 1 ∧ en.there = false ∧ ∀ x, en.a = some x → w.heap.size ≤ x.block) ∧ Hid (Sd w' B sb mb (addA s en)) ∧ Hid (K2 sb mb w w') := by
  have k1 := made_yes sb w h.c0
  have k2 := time_any now w
  have hS : Hid (Sd w B sb mb s) := h
  have h1 : timeB now = true := by
    unfold pushE at hE
    cases ht : timeB now with
    | true => rfl
    | false => rw [ht, if_pos rfl] at hE; cases hE
  rw [h1] at k2
  have h2 : ¬ 1200 < n := fun h2 => by
    unfold pushE at hE
    rw [if_neg (by simp [h1]), if_pos h2] at hE
    cases hE
  have h3 : ¬ (s.lim < s.nxt ∨ s.win ≤ s.nxt - s.base) := fun h3 => by
    unfold pushE at hE
    rw [if_neg (by simp [h1]), if_neg h2, if_pos h3] at hE
    cases hE
  have h3a : Hid (¬ s.lim < s.nxt) := fun h => h3 (.inl h)
  have h3b : Hid (¬ s.win ≤ s.nxt - s.base) := fun h => h3 (.inr h)
  have d2 : decide ((n : Int) > 1200) = false := by simp; omega
  have d4 : decide (s.nxt > s.lim) = false := by have := h3a.out; simp; omega
  have d5 : decide (s.nxt - s.base ≥ s.win) = false := by have := h3b.out; simp; omega
  have c1 := h.c1
  have c2 := h.c2
  have c3 := h.c3
  have c4 := h.c4
  have c5 := h.c5
  have hw : IntKind.i64.wrap (s.nxt - s.base) = s.nxt - s.base := by
    have := h.ok.b1; have := h.ok.b2; have := h.ok.l1; have := h.ok.l2
    rw [IntKind.wrap_i64]; omega
  have hw2 : IntKind.i64.wrap (s.nxt + 1) = s.nxt + 1 := by
    have := h.ok.b1; have := h.ok.b2; have := h.ok.l1; have := h.ok.l2
    rw [IntKind.wrap_i64]; omega
  have hbt : Hid (0 ≤ now ∧ now ≤ 1099511627776) := by
    simp [timeB] at h1
    exact h1
  have hrg : Hid (-9223372036854775808 ≤ s.nxt ∧ s.nxt < 9223372036854775808) := by
    have := h.ok.b1; have := h.ok.b2; have := h.ok.l1; have := h.ok.l2
    show _ ∧ _; omega
  have k3 : Hid (∀ w', Below w.heap.size w w' → Calls Try.prog 97 #[.slice a n c] w' fun e w'' => ∃ v, e = .returned v ∧ OwnsB w'' w'.heap.size v zs ∧ Below w'.heap.size w' w'') := fun w' hw' => copy_any a n c zs w' hn h0 (hb.kept hw') (by omega)
  have hn' : Hid (zs.length = n) := hn
  have hBB : Hid (B ≤ w.heap.size) := hB
  have h2' : Hid (n ≤ 1200) := by show n ≤ 1200; omega
  have SK : Hid (∀ w', Below w.heap.size w w' → w'.cell? ⟨sb, 5, none⟩ = some (.map (some mb))) := fun w' hb => (hS.out.kept hb).c5
  clear h hE h1 h2 h3 hb h0 hn hB
  go_enter Try.func64, Try.ntmps64
  go_wp2_with (first | (go_at_call 89; refine k1.mono ?_; rintro e w1 ⟨rfl, hw1⟩; obtain rfl := hw1.symm) | (go_at_call 95; refine k2.mono ?_; rintro e w1 ⟨rfl, hw1⟩; obtain rfl := hw1.symm))
  go_quiet (fail)
  go_wp2
  have hB1 : Hid (Below w.heap.size w (w.drewN nq)) := below_drewN _ _
  generalize w.drewN nq = w1 at *
  have hsz : Hid ((s.nxt - s.base).toNat < 1000) := by have := hS.out.ok.few; have := hS.out.ok.w2; show _ < _; omega
  clear k1 k2
  go_region_held3 (fun wx => wx.cell? ⟨sb, 5, none⟩ = some (.map (some mb))) ((first | with_reducible exact cc5 | ((with_reducible refine SK.out _ ?_); (repeat' with_reducible first | exact hB1.out | exact hB3.out | exact hB4.out | refine Below.drew ?_)))) (first
    | (go_at_call 97; refine (k3.out _ hB1.out.drew).mono ?_; rintro e w3 ⟨v, rfl, hO, hb3⟩; obtain ⟨a3, n3, c3', rfl, hn3, hz3, hle3, hmx3, hby3⟩ := hO.form; have hB3 : Hid (Below w.heap.size w w3) := hB1.out.drew.trans (hb3.mono hB1.out.size); have hO3 : Hid (OwnsB w3 w1.heap.size (.slice a3 n3 c3') zs) := hO; clear hO hb3)
    | (go_at_call 96; refine (outF_any _ _ _ _ _).mono ?_; rintro e w4 ⟨rfl, hb4⟩; have hB4 : Hid (Below w.heap.size w w4) := hB3.out.trans (hb4.mono hB3.out.size); have hO4 : Hid (OwnsB w4 w1.heap.size (.slice a3 n3 c3') zs) := hO3.out.below hb4; have hS4 : Hid (Sd w4 B sb mb s) := hS.out.kept hB4.out; obtain ⟨w5, hr, hm, hg⟩ := hS4.out.mp.store hsz.out hrg.out (.agg #[.slice a3 n3 c3', .int .i64 now, .int .i64 1, .bool false]); have hm5 : Hid (MapI w5 mb _ _) := hm; have hg5 : Hid (w4.grownBy w5 (some mb)) := hg; have cc5 : w5.cell? ⟨sb, 5, none⟩ = some (.map (some mb)) := (hS4.out.blk.but hg (Ne.symm hS4.out.ne)).cell 5; have cc4 : w5.cell? ⟨sb, 4, none⟩ = some (.int .i64 s.nxt) := (hS4.out.blk.but hg (Ne.symm hS4.out.ne)).cell 4; have ff4 : w5.frozen? ⟨sb, 4, none⟩ = false := (hS4.out.blk.but hg (Ne.symm hS4.out.ne)).fz 4; clear hm hg hb4))
  go_wp2
  go_ret2
  obtain ⟨ax, cx, hv, hnil, ⟨hle, hmx⟩, hbx, hax⟩ := hO4.out.shape
  cases hv
  have hs1 := hS4.out.blk.lt
  have hs2 := hS4.out.mp.lt
  have hsb := hS.out.blk.lt
  have hmb := hS.out.mp.lt
  have hw1 := hB1.out.size
  refine ⟨rfl, ⟨a3, zs.length, c3', zs, now, 1, false⟩, ⟨rfl, rfl, rfl, rfl, fun x hx => Nat.le_trans hw1 (hax x hx).1⟩, ?_, ?_⟩
  · refine sd_add hS4.out (by have := h3a.out; omega) (by have := h3b.out; omega) ⟨rfl, by have := hn'.out; have := h2'.out; show zs.length ≤ 1200; omega, hbt.out.1, by have := hbt.out.2; show now ≤ _; omega, by show (1 : Int) ≤ 1; omega, by show (1 : Int) ≤ 64; omega⟩ ⟨hbx, hnil, hle, by unfold maxLen at hmx; exact hmx, fun x hx => ?_, fun x hx => hO4.out.blk x hx⟩ hm5.out hg5.out
    have := hax x hx
    have := hBB.out
    exact ⟨by omega, by omega, by omega, by omega⟩
  · exact (K2.of_below hB4.out).trans ((K2.of_g hg5.out).trans (K2.set w5 4 _))
end Go.Proofs.Ytfipdldoklkciaa
