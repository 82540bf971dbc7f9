/-
  The receiver's calls that turn nothing; what each call leaves; a sender of no loads.
-/
import Derived.Test.YtfipdldoklkciaaGac
namespace Go.Proofs.Ytfipdldoklkciaa
open Go.RowKit
set_option linter.unusedVariables false
theorem Rv.k2 {w w' : World} {rb q g : Nat} {s : Rc} (h : Rv w rb s) (k : K2 q g w w') (hq : rb ≠ q) (hg : rb ≠ g) : Rv w' rb s := by
  obtain ⟨h1, cs, h2, h3⟩ := h
  exact ⟨h1, cs, (k.block rb h2.lt hq hg).trans h2, h3⟩
theorem below_dn {B : Nat} {w w' : World} (h : Below B w w') (n : Nat) : Below B w (w'.drewN n) := ⟨h.os, h.tape, h.output, h.size, h.block⟩
theorem dn_b (w : World) (m : Nat) : Hid (Below w.heap.size w (w.drewN m)) := below_dn (Below.refl _ _) m
/-! ### the calls that turn nothing, the world a letter -/
theorem ack_k {rb : Nat} {s : Rc} {w : World} (h : Rv w rb s) :
    Calls Try.prog 67 #[.pointer (some ⟨rb, 0, none⟩)] w fun e w' => e = .returned (.tuple #[.int .i64 (ackN s), .int .u64 (ackB s), .int .i64 (s.tk + s.win)]) ∧ Hid (Below w.heap.size w w') :=
  (ack_any h).mono (by rintro e w' ⟨rfl, m, rfl⟩; exact ⟨rfl, dn_b w m⟩)
theorem ready_k {rb : Nat} {s : Rc} {w : World} (h : Rv w rb s) :
    Calls Try.prog 98 #[.pointer (some ⟨rb, 0, none⟩)] w fun e w' => e = .returned (.int .i64 (rdy s)) ∧ Hid (Below w.heap.size w w') :=
  (ready_any h).mono (by rintro e w' ⟨rfl, m, rfl⟩; exact ⟨rfl, dn_b w m⟩)
theorem data_k {rb : Nat} {s : Rc} {w : World} (z : Int) (a : Option Addr) (n c : Nat) (h : Rv w rb s) (he : dataE s z n ≠ 0) (hn : (n : Int) ≤ 9223372036854775807) :
    Calls Try.prog 93 #[.pointer (some ⟨rb, 0, none⟩), .int .i64 z, .slice a n c] w fun e w' => e = .returned (.int .i64 (dataE s z n)) ∧ Hid (Below w.heap.size w w') :=
  (data_bad z a n c h he hn).mono (by rintro e w' ⟨rfl, m, rfl⟩; exact ⟨rfl, dn_b w m⟩)
theorem take_k {rb : Nat} {s : Rc} {w : World} (h : Rv w rb s) (hL : s.L (s.tk + 1) = none) :
    Calls Try.prog 70 #[.pointer (some ⟨rb, 0, none⟩)] w fun e w' => e = .returned (.tuple #[.slice none 0 0, .bool false]) ∧ Hid (Below w.heap.size w w') :=
  (take_no h hL).mono (by rintro e w' ⟨rfl, m, rfl⟩; exact ⟨rfl, dn_b w m⟩)
def dataS (s : Rc) (z : Int) (zs : List Int) : Rc := if dataE s z zs.length = 0 then putA s z zs else s
def takeS (s : Rc) : Rc := if (s.L (s.tk + 1)).isSome = true then takeA s else s
theorem take_step {rb : Nat} {s : Rc} {w : World} (h : Rv w rb s) (ht : s.tk < 4611686018427387904) :
    Calls Try.prog 70 #[.pointer (some ⟨rb, 0, none⟩)] w fun e w' => ∃ v, e = .returned v ∧ Hid (Rv w' rb (takeS s)) ∧ Hid (K2 rb rb w w') := by
  cases hL : s.L (s.tk + 1) with
  | none =>
    have e : takeS s = s := by unfold takeS; rw [hL]; rfl
    rw [e]
    refine (take_k h hL).mono ?_
    rintro e w' ⟨rfl, hb⟩
    exact ⟨_, rfl, h.kept hb.out, K2.of_below hb.out⟩
  | some l =>
    have e : takeS s = takeA s := by unfold takeS; rw [hL]; rfl
    rw [e]
    refine (take_yes l h ht hL).mono ?_
    rintro e w' ⟨g, n, c, rfl, hS, hR, hK⟩
    exact ⟨_, rfl, hR, hK⟩
theorem data_step {rb : Nat} {s : Rc} {w : World} (z : Int) (a : Option Addr) (n c : Nat) (zs : List Int) (h : Rv w rb s) (hn : zs.length = n) (h0 : a = none → c = 0) (hb : Bytes w a zs) :
    Calls Try.prog 93 #[.pointer (some ⟨rb, 0, none⟩), .int .i64 z, .slice a n c] w fun e w' => e = .returned (.int .i64 (dataE s z n)) ∧ Hid (Rv w' rb (dataS s z zs)) ∧ Hid (K2 rb rb w w') := by
  subst hn
  by_cases he : dataE s z zs.length = 0
  · have e : dataS s z zs = putA s z zs := by unfold dataS; rw [if_pos he]
    rw [e, he]
    exact data_ok z a _ c zs h he rfl h0 hb
  · have e : dataS s z zs = s := by unfold dataS; rw [if_neg he]
    rw [e]
    refine (data_k z a _ c h he (by have := hb.2.1; unfold maxLen at this; omega)).mono ?_
    rintro e w' ⟨rfl, hb⟩
    exact ⟨rfl, h.kept hb.out, K2.of_below hb.out⟩
/-! ### plain facts -/
theorem takeS_win (s : Rc) : (takeS s).win = s.win := by unfold takeS; split <;> rfl
theorem dataS_win (s : Rc) (z : Int) (zs : List Int) : (dataS s z zs).win = s.win := by unfold dataS; split <;> rfl
theorem takeS_tk (s : Rc) : s.tk ≤ (takeS s).tk ∧ (takeS s).tk ≤ s.tk + 1 := by
  unfold takeS
  split
  · exact ⟨by show s.tk ≤ s.tk + 1; omega, Int.le_refl _⟩
  · exact ⟨Int.le_refl _, by omega⟩
theorem dataS_tk (s : Rc) (z : Int) (zs : List Int) : (dataS s z zs).tk = s.tk := by unfold dataS; split <;> rfl
theorem rdy_mono {s s' : Rc} (h : Rok s) (h' : Rok s') (ht : s'.tk = s.tk) (hL : ∀ x, (s.L x).isSome = true → (s'.L x).isSome = true) : rdy s ≤ rdy s' := by
  rcases Nat.lt_or_ge (rdy s') (rdy s) with k | k
  · have h1 := rdy_in h k
    have h2 := rdy_end h'
    rw [ht] at h2
    have h3 := hL _ h1
    rw [h2] at h3
    cases h3
  · exact k
theorem ack_data {s : Rc} {z : Int} {zs : List Int} (h : Rok s) (h' : Rok (dataS s z zs)) : ackN s ≤ ackN (dataS s z zs) := by
  unfold ackN
  rw [dataS_tk]
  have := rdy_mono h h' (dataS_tk s z zs) (fun x hx => by
    unfold dataS
    split
    · show (if x = z then some zs else s.L x).isSome = true
      split
      · rfl
      · exact hx
    · exact hx)
  omega
theorem ack_take {s : Rc} (h : Rok s) (h' : Rok (takeS s)) : ackN (takeS s) = ackN s := by
  unfold takeS at h' ⊢
  split
  · rename_i hs
    rw [if_pos hs] at h'
    have hr : 1 ≤ rdy s := by
      rcases Nat.eq_zero_or_pos (rdy s) with k | k
      · have := rdy_end h
        rw [k] at this
        simp only [Int.natCast_zero, Int.add_zero] at this
        rw [this] at hs
        cases hs
      · exact k
    have e : rdy (takeA s) = rdy s - 1 := by
      refine rdy_of h' (fun j hj => ?_) ?_
      · show (if s.tk + 1 + 1 + (j : Int) = s.tk + 1 then none else s.L (s.tk + 1 + 1 + (j : Int))).isSome = true
        rw [if_neg (by omega)]
        have := rdy_in h (j := j + 1) (by omega)
        rw [show s.tk + 1 + ((j + 1 : Nat) : Int) = s.tk + 1 + 1 + (j : Int) by omega] at this
        exact this
      · show (if s.tk + 1 + 1 + ((rdy s - 1 : Nat) : Int) = s.tk + 1 then none else s.L (s.tk + 1 + 1 + ((rdy s - 1 : Nat) : Int))) = none
        rw [if_neg (by omega), show s.tk + 1 + 1 + ((rdy s - 1 : Nat) : Int) = s.tk + 1 + (rdy s : Int) by omega]
        exact rdy_end h
    unfold ackN
    rw [e]
    show s.tk + 1 + _ = _
    omega
  · rfl
theorem hld_le {s : Rc} (h : Rok s) : (hld s : Int) ≤ s.win := by
  have w1 := h.w1
  have w2 := h.w2
  have e := cnt_add (has s) s.win.toNat (32 - s.win.toNat)
  rw [show s.win.toNat + (32 - s.win.toNat) = 32 by omega, cnt_none (g := fun i => has s (s.win.toNat + i)) _ (fun j hj => by
    show (s.L (s.tk + 1 + ((s.win.toNat + j : Nat) : Int))).isSome = false
    rw [h.none (by omega)]
    rfl)] at e
  have := cnt_le (has s) s.win.toNat
  unfold hld
  omega
theorem rdy_hld {s : Rc} (h : Rok s) : rdy s ≤ hld s := by
  have w2 := h.w2
  have hr := rdy_le h
  have e := cnt_add (has s) (rdy s) (32 - rdy s)
  rw [show rdy s + (32 - rdy s) = 32 by omega, cnt_all (g := has s) (rdy s) (fun j hj => rdy_in h hj)] at e
  unfold hld
  omega
theorem ackB_low {s : Rc} (h : Rok s) : ackB s / 2 ^ s.win.toNat = 0 := by
  have w1 := h.w1
  have w2 := h.w2
  have e : ackB s = bF (ackF s) s.win.toNat := by
    unfold ackB
    rw [show (64 : Nat) = s.win.toNat + (64 - s.win.toNat) by omega]
    refine bF_stop _ (fun j h1 h2 => ?_)
    unfold ackF ackN
    rw [h.none (by omega)]
    rfl
  rw [e]
  have hb := bF_bnd (ackF s) s.win.toNat
  exact Int.ediv_eq_zero_of_lt hb.1 hb.2
theorem ackB_bnd (s : Rc) : 0 ≤ ackB s ∧ ackB s < 18446744073709551616 := by
  have h := bF_bnd (ackF s) 64
  have e : (2 : Int) ^ 64 = 18446744073709551616 := by decide
  rw [e] at h
  exact h
theorem bit_zero (i : Nat) : bitB 0 i = false := by
  unfold bitB
  rw [Int.zero_ediv]
  decide
theorem bits_zero (s : St) (ack : Int) : ∀ i, bitsA s ack 0 i = s
  | 0 => rfl
  | i + 1 => by rw [bitsA, if_neg (by simp [bit_zero])]; exact bits_zero s ack i
/-- A sender of no loads, with a limit. -/
def s0 (win lim : Int) : St := ⟨win, lim, 1, 1, fun _ => none⟩
theorem s0_ok {win lim : Int} (h1 : 1 ≤ win) (h2 : win ≤ 32) (h3 : 0 ≤ lim) (h4 : lim ≤ 4611686018427387904) : Ok (s0 win lim) :=
  ⟨h1, h2, by simp [s0], by simp [s0], by show (1 : Int) - 1 ≤ win; omega, by show (1 : Int) - 1 ≤ lim; omega, h4, (fun z => by constructor <;> intro h <;> simp [s0] at h ⊢ <;> omega), by simp [s0]⟩
theorem ack_s0 {win c : Int} (h1 : 1 ≤ win) (h2 : win ≤ 32) (hc : 0 ≤ c) : ackA (s0 win 0) 0 0 c = s0 win c := by
  unfold ackA
  rw [fin_none (s0_ok h1 h2 (by omega) (by omega)) (by show ¬ (1 : Int) ≤ 0; omega), bits_zero]
  show limA (s0 win 0) c = _
  refine St.ext' rfl ?_ rfl rfl fun _ => rfl
  show max 0 c = c
  omega
theorem may_s0 {win c : Int} (hc : 0 ≤ c) (hc' : c ≤ 4611686018427387904) : mayB (s0 win 0) 0 c = true := by simp [mayB, s0]; omega
theorem same_any (a1 a2 : Option Addr) (n1 n2 c1 c2 : Nat) (z1 z2 : List Int) (w : World) (h1 : Bytes w a1 z1) (h2 : Bytes w a2 z2) (hl1 : z1.length = n1) (hl2 : z2.length = n2) :
    Calls Try.prog 15 #[.slice a1 n1 c1, .slice a2 n2 c2] w fun e w' => e = .returned (.bool (decide (z1 = z2))) ∧ w' = w := by
  have k1 := conv_str h1 n1 c1 hl1
  have k2 := conv_str h2 n2 c2 hl2
  have k3 := str_eq h1.1 h2.1
  clear h1 h2 hl1 hl2
  go_enter Try.func15, Try.ntmps15
  go_wp2
  go_ret
  all_goals simp_all
theorem one_mark (w : World) (n : Int) (h0 : 0 ≤ n) (h1 : n < 256) : Bytes (w.alloc (.cells #[.int .u8 n] 5 (1, 2))) (some ⟨w.heap.size, 0, none⟩) [n] := by
  refine ⟨by simp; omega, by simp [maxLen], .inr ⟨w.heap.size, 0, rfl, fun i hi => ?_⟩⟩
  have : i = 0 := by simp at hi; omega
  subst this
  exact World.cell?_alloc_mark w _ 5 (1, 2) 0
end Go.Proofs.Ytfipdldoklkciaa
