/-
  An ack heard; a load sent; a load polled; a link begun anew.
-/
import Derived.Test.YtfipdldoklkciaaLkj
namespace Go.Proofs.Ytfipdldoklkciaa
open Go.RowKit
set_option linter.unusedVariables false
/-- What a sender holds is what it held, with the same bytes. -/
def Sub (s' s : St) : Prop := ∀ z e, s'.L z = some e → ∃ e0, s.L z = some e0 ∧ e0.zs = e.zs
theorem Sub.refl (s : St) : Sub s s := fun z e h => ⟨e, h, rfl⟩
theorem Sub.trans {a b c : St} (h : Sub a b) (k : Sub b c) : Sub a c := fun z e he => by
  obtain ⟨e1, h1, h2⟩ := h z e he
  obtain ⟨e2, h3, h4⟩ := k z e1 h1
  exact ⟨e2, h3, h4.trans h2⟩
theorem Sub.few {a b : St} {N : Nat} (h : Sub a b) (k : ∀ z e, b.L z = some e → e.zs.length ≤ N) : ∀ z e, a.L z = some e → e.zs.length ≤ N := fun z e he => by
  obtain ⟨e1, h1, h2⟩ := h z e he
  rw [← h2]
  exact k z e1 h1
theorem sub_fin (s : St) (k : Int) : Sub (finA s k) s := fun z e h => by
  have h : (if z ≤ k then none else s.L z) = some e := h
  split at h
  · cases h
  · exact ⟨e, h, rfl⟩
theorem sub_bey (s : St) (z : Int) : Sub (beyA s z) s := by
  unfold beyA
  split
  · rename_i e he
    intro x e' h
    have h2 : (if x = z then some { e with there := true } else s.L x) = some e' := h
    by_cases hx : x = z
    · rw [if_pos hx] at h2
      subst hx
      obtain rfl := Option.some.inj h2
      exact ⟨e, he, rfl⟩
    · rw [if_neg hx] at h2
      exact ⟨e', h2, rfl⟩
  · exact Sub.refl s
theorem sub_bits (s : St) (ack bits : Int) : ∀ i, Sub (bitsA s ack bits i) s
  | 0 => Sub.refl s
  | i + 1 => by
    rw [bitsA]
    split
    · exact (sub_bey _ _).trans (sub_bits s ack bits i)
    · exact sub_bits s ack bits i
theorem sub_pops : ∀ (k : Nat) (s : St), Sub (popsF k s) s
  | 0, s => Sub.refl s
  | k + 1, s => by
    rw [popsF]
    split
    · split
      · exact (sub_pops k _).trans (sub_fin s _)
      · exact Sub.refl s
    · exact Sub.refl s
theorem sub_lim (s : St) (c : Int) : Sub (limA s c) s := fun z e h => ⟨e, h, rfl⟩
theorem sub_ack (s : St) (ack bits c : Int) : Sub (ackA s ack bits c) s := (sub_lim _ c).trans ((sub_pops 64 _).trans ((sub_bits _ ack bits 64).trans (sub_fin s ack)))
theorem sub_map (f : Ent → Ent) (hf : ∀ e, (f e).zs = e.zs) (s : St) (q : Int) : Sub { s with L := fun z => if z < q then (s.L z).map f else s.L z } s := fun z e h => by
  have h : (if z < q then (s.L z).map f else s.L z) = some e := h
  split at h
  · cases hL : s.L z with
    | none => rw [hL] at h; cases h
    | some e0 =>
      rw [hL] at h
      obtain rfl := Option.some.inj h
      exact ⟨e0, rfl, (hf e0).symm⟩
  · exact ⟨e, h, rfl⟩
theorem sub_res (s : St) (ack c now : Int) : Sub (resA s ack c now) s := by
  have h1 : Sub (resU (finA s ack) now s.nxt) (finA s ack) := sub_map (ren now) (fun _ => rfl) (finA s ack) s.nxt
  exact (show Sub (resA s ack c now) (resU (finA s ack) now s.nxt) from fun z e h => ⟨e, h, rfl⟩).trans (h1.trans (sub_fin s ack))
theorem sub_due (s : St) (now : Int) : Sub (dueA s now) s := sub_map (dueE now) (fun e => by unfold dueE; split <;> rfl) s s.nxt
def ackS (s : St) (ack bits credit : Int) : St := if mayB s ack credit = true then ackA s ack bits credit else s
def ackE (s : St) (ack credit : Int) : Int := if mayB s ack credit = true then 0 else 1
theorem ack_step {B sb mb : Nat} {s : St} {w : World} (ack bits credit : Int) (h : Sd w B sb mb s) :
    Calls Try.prog 55 #[.pointer (some ⟨sb, 0, none⟩), .int .i64 ack, .int .u64 bits, .int .i64 credit] w fun e w' => e = .returned (.int .i64 (ackE s ack credit)) ∧ Hid (Sd w' B sb mb (ackS s ack bits credit)) ∧ Hid (K2 sb mb w w') := by
  unfold ackE ackS
  by_cases hm : mayB s ack credit = true
  · rw [if_pos hm, if_pos hm]
    exact ack_ok ack bits credit h hm
  · rw [if_neg hm, if_neg hm]
    refine (ack_bad ack bits credit h (by simpa using hm)).mono ?_
    rintro e w' ⟨rfl, rfl⟩
    exact ⟨rfl, h, K2.refl _ _ _⟩
theorem sub_ackS (s : St) (ack bits c : Int) : Sub (ackS s ack bits c) s := by
  unfold ackS
  split
  · exact sub_ack s ack bits c
  · exact Sub.refl s
set_option maxHeartbeats 2000000 in
theorem hear_ack {w : World} {B : Nat} {q : Qb} {L : Lk} (m : Mg) (a : Option Addr) (n c : Nat) (h : Lm w B q L) :
    Calls Try.prog 57 #[.pointer (some ⟨q.lb, 0, none⟩), mval m a n c] w fun e w' => e = .returned (.int .i64 (ackE L.s m.ack m.cred)) ∧ Hid (Lm w' B q { L with s := ackS L.s m.ack m.bits m.cred }) ∧ Hid (K4 q w w') := by
  have c4 := h.cell.2.2.2.2.1
  have hlt := h.lt
  have k : ∀ x, Below w.heap.size w x → Calls Try.prog 55 #[.pointer (some ⟨q.sb, 0, none⟩), .int .i64 m.ack, .int .u64 m.bits, .int .i64 m.cred] x fun e w' => e = .returned (.int .i64 (ackE L.s m.ack m.cred)) ∧ Hid (Lm w' B q { L with s := ackS L.s m.ack m.bits m.cred }) ∧ Hid (K4 q w w') := fun x hx =>
    (ack_step m.ack m.bits m.cred (h.sd.kept hx)).mono (by
      rintro e w' ⟨rfl, hR, hK⟩
      exact ⟨rfl, (h.kept hx).turnS hR.out hK.out ((sub_ackS _ _ _ _).few h.ok.few), (K4.of_below hx).trans (K4.of_s hK.out)⟩)
  have k' : Hid (∀ x, Below w.heap.size w x → _) := k
  unfold mval
  clear h k
  go_enter Try.func57, Try.ntmps57
  go_wp2
  go_region_with (go_at_call 55; refine (k'.out _ (((Below.refl _ _).alloc (Nat.le_refl _) _).drew)).mono ?_; rintro e w1 ⟨rfl, hL1, hK1⟩)
  all_goals go_wp2
  all_goals go_ret
  all_goals exact ⟨rfl, hL1, hK1⟩
/-! ### a load is sent -/
def sendE (L : Lk) (n : Nat) : Int := if 1100 < n then 8 else pushE L.s n L.now
def SendR (w' : World) (B : Nat) (q : Qb) (L : Lk) (zs : List Int) : Prop := (sendE L zs.length ≠ 0 → Lm w' B q L) ∧ (sendE L zs.length = 0 → ∃ en : Ent, en.zs = zs ∧ en.time = L.now ∧ en.wait = 1 ∧ en.there = false ∧ Lm w' B q { L with s := addA L.s en })
set_option maxRecDepth 100000 in
theorem send_any {w : World} {B : Nat} {q : Qb} {L : Lk} (a : Option Addr) (n c : Nat) (zs : List Int) (h : Lm w B q L) (hB : B ≤ w.heap.size) (hn : zs.length = n) (h0 : a = none → c = 0) (hb : Bytes w a zs) :
    Calls Try.prog 26 #[.pointer (some ⟨q.lb, 0, none⟩), .slice a n c] w fun e w' => e = .returned (.int .i64 (sendE L n)) ∧ Hid (SendR w' B q L zs) ∧ Hid (K4 q w w') := by
  have k0 := kmade h
  have c2 := h.cell.2.2.1
  have c4 := h.cell.2.2.2.2.1
  have hl : (n : Int) ≤ 9223372036854775807 := by have := hb.2.1; unfold maxLen at this; omega
  by_cases h1 : 1100 < n
  · have d1 : decide ((n : Int) > 1100) = true := by simp; omega
    have e : sendE L n = 8 := by unfold sendE; rw [if_pos h1]
    have hR : Hid (SendR w B q L zs) := ⟨fun _ => h, fun h2 => by rw [hn, e] at h2; cases h2⟩
    rw [e]
    clear h h1 e hb h0 hn hB
    go_enter Try.func26, Try.ntmps26
    go_wp2_with (go_at_call 58; refine k0.mono ?_; rintro e w1 ⟨rfl, hw1⟩; obtain rfl := hw1.symm; clear hw1)
    go_ret
    exact ⟨rfl, hR, K4.refl _ _⟩
  · have d1 : decide ((n : Int) > 1100) = false := by simp; omega
    have e : sendE L n = pushE L.s n L.now := by unfold sendE; rw [if_neg h1]
    have k1 : Hid (∃ R : Ending → World → Prop, Calls Try.prog 64 #[.pointer (some ⟨q.sb, 0, none⟩), .slice a n c, .int .i64 L.now] w.drew R ∧ ∀ e w', R e w' → ∃ v, e = .returned (.tuple #[v, .int .i64 (sendE L n)]) ∧ Hid (SendR w' B q L zs) ∧ Hid (K4 q w w')) := by
      by_cases hp : pushE L.s n L.now = 0
      · refine ⟨_, push_ok a n c zs L.now h.drew.sd hp hB hn h0 (hb.drewN 1), ?_⟩
        rintro e' w' ⟨rfl, en, he, hS, hK⟩
        refine ⟨_, by rw [e, hp], ⟨fun h2 => absurd (by rw [hn, e]; exact hp) h2, fun _ => ⟨en, he.out.1, he.out.2.1, he.out.2.2.1, he.out.2.2.2.1, ?_⟩⟩, (K4.refl q w).drew.trans (K4.of_s hK.out)⟩
        refine h.drew.turnS hS.out hK.out (fun z e1 he1 => ?_)
        have he1 : (if z = L.s.nxt then some en else L.s.L z) = some e1 := he1
        split at he1
        · obtain rfl := Option.some.inj he1
          rw [he.out.1]; omega
        · exact h.ok.few z e1 he1
      · refine ⟨_, push_bad a n c L.now h.drew.sd hp hl, ?_⟩
        rintro e' w' ⟨rfl, hb'⟩
        exact ⟨_, by rw [e], ⟨fun _ => h.drew.kept hb'.out, fun h2 => absurd (by rw [hn, e] at h2; exact h2) hp⟩, (K4.refl q w).drew.trans (K4.of_below hb'.out)⟩
    obtain ⟨R, k1, k2⟩ := k1.out
    have k2' : Hid (∀ e w', R e w' → _) := k2
    clear h h1 e hb h0 hn hB k2
    go_enter Try.func26, Try.ntmps26
    go_wp2_with (go_at_call 58; refine k0.mono ?_; rintro e w1 ⟨rfl, hw1⟩; obtain rfl := hw1.symm; clear hw1)
    go_region_with (go_at_call 64; refine k1.mono ?_; intro e w1 hr; obtain ⟨v, rfl, hS, hK⟩ := k2'.out _ _ hr; clear hr)
    all_goals go_wp2
    all_goals go_ret
    all_goals exact ⟨rfl, hS, hK⟩
end Go.Proofs.Ytfipdldoklkciaa
