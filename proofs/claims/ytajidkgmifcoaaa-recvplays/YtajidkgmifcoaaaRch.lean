/-
  What each call leaves, as plain data; the calls of a script.
-/
import Derived.Test.YtajidkgmifcoaaaRcg
namespace Go.Proofs.Ytajidkgmifcoaaa
open Go.RowKit
set_option linter.unusedVariables false
def dataS (s : Rc) (z : Int) (zs : List Int) : Rc := if dataE s z zs.length = 0 then putA s z zs else s
def takeS (s : Rc) : Rc := if (s.L (s.tk + 1)).isSome = true then takeA s else s
theorem take_step {rb : Nat} {s : Rc} {w : World} (h : Rv w rb s) (ht : s.tk < 4611686018427387904) :
    Calls Try.prog 12 #[.pointer (some ⟨rb, 0, none⟩)] w fun e w' => ∃ v, e = .returned v ∧ Hid (Rv w' rb (takeS s)) ∧ Hid (K2 rb rb w w') := by
  cases hL : s.L (s.tk + 1) with
  | none =>
    have e : takeS s = s := by unfold takeS; rw [hL]; rfl
    rw [e]
    refine (take_k h hL).mono ?_
    rintro e w' ⟨rfl, hb⟩
    exact ⟨_, rfl, h.kept hb.out, K2.of_below hb.out⟩
  | some l =>
    have e : takeS s = takeA s := by unfold takeS; rw [hL]; rfl
    rw [e]
    refine (take_yes l h ht hL).mono ?_
    rintro e w' ⟨g, n, c, rfl, hS, hR, hK⟩
    exact ⟨_, rfl, hR, hK⟩
theorem data_step {rb : Nat} {s : Rc} {w : World} (z : Int) (a : Option Addr) (n c : Nat) (zs : List Int) (h : Rv w rb s) (hn : zs.length = n) (h0 : a = none → c = 0) (hb : Bytes w a zs) :
    Calls Try.prog 15 #[.pointer (some ⟨rb, 0, none⟩), .int .i64 z, .slice a n c] w fun e w' => e = .returned (.int .i64 (dataE s z n)) ∧ Hid (Rv w' rb (dataS s z zs)) ∧ Hid (K2 rb rb w w') := by
  subst hn
  by_cases he : dataE s z zs.length = 0
  · have e : dataS s z zs = putA s z zs := by unfold dataS; rw [if_pos he]
    rw [e, he]
    exact data_ok z a _ c zs h he rfl h0 hb
  · have e : dataS s z zs = s := by unfold dataS; rw [if_neg he]
    rw [e]
    refine (data_k z a _ c h he (by have := hb.2.1; unfold maxLen at this; omega)).mono ?_
    rintro e w' ⟨rfl, hb⟩
    exact ⟨rfl, h.kept hb.out, K2.of_below hb.out⟩
/-- A RECEIVER, AND WHAT HAS TURNED SINCE. -/
structure At (w0 w : World) (rb : Nat) (s : Rc) : Prop where
  rv : Rv w rb s
  bel : Below rb w0 w
  sz : rb ≤ w.heap.size
theorem At.step {w0 w w' : World} {rb : Nat} {s : Rc} (h : At w0 w rb s) (hb : Below w.heap.size w w') : At w0 w' rb s := ⟨h.rv.kept hb, h.bel.trans (hb.mono h.sz), Nat.le_trans h.sz hb.size⟩
theorem At.turn {w0 w w' : World} {rb : Nat} {s s' : Rc} (h : At w0 w rb s) (hr : Rv w' rb s') (k : K2 rb rb w w') : At w0 w' rb s' := ⟨hr, k.below h.bel h.sz (Nat.le_refl _) (Nat.le_refl _), Nat.le_trans h.sz k.size⟩
/-! ### plain facts -/
theorem takeS_win (s : Rc) : (takeS s).win = s.win := by unfold takeS; split <;> rfl
theorem dataS_win (s : Rc) (z : Int) (zs : List Int) : (dataS s z zs).win = s.win := by unfold dataS; split <;> rfl
theorem takeS_tk (s : Rc) : s.tk ≤ (takeS s).tk ∧ (takeS s).tk ≤ s.tk + 1 := by
  unfold takeS
  split
  · exact ⟨by show s.tk ≤ s.tk + 1; omega, Int.le_refl _⟩
  · exact ⟨Int.le_refl _, by omega⟩
theorem dataS_tk (s : Rc) (z : Int) (zs : List Int) : (dataS s z zs).tk = s.tk := by unfold dataS; split <;> rfl
theorem rdy_mono {s s' : Rc} (h : Rok s) (h' : Rok s') (ht : s'.tk = s.tk) (hL : ∀ x, (s.L x).isSome = true → (s'.L x).isSome = true) : rdy s ≤ rdy s' := by
  rcases Nat.lt_or_ge (rdy s') (rdy s) with k | k
  · have h1 := rdy_in h k
    have h2 := rdy_end h'
    rw [ht] at h2
    have h3 := hL _ h1
    rw [h2] at h3
    cases h3
  · exact k
theorem ack_data {s : Rc} {z : Int} {zs : List Int} (h : Rok s) (h' : Rok (dataS s z zs)) : ackN s ≤ ackN (dataS s z zs) := by
  unfold ackN
  rw [dataS_tk]
  have := rdy_mono h h' (dataS_tk s z zs) (fun x hx => by
    unfold dataS
    split
    · show (if x = z then some zs else s.L x).isSome = true
      split
      · rfl
      · exact hx
    · exact hx)
  omega
theorem ack_take {s : Rc} (h : Rok s) (h' : Rok (takeS s)) : ackN (takeS s) = ackN s := by
  unfold takeS at h' ⊢
  split
  · rename_i hs
    rw [if_pos hs] at h'
    have hr : 1 ≤ rdy s := by
      rcases Nat.eq_zero_or_pos (rdy s) with k | k
      · have := rdy_end h
        rw [k] at this
        simp only [Int.natCast_zero, Int.add_zero] at this
        rw [this] at hs
        cases hs
      · exact k
    have e : rdy (takeA s) = rdy s - 1 := by
      refine rdy_of h' (fun j hj => ?_) ?_
      · show (if s.tk + 1 + 1 + (j : Int) = s.tk + 1 then none else s.L (s.tk + 1 + 1 + (j : Int))).isSome = true
        rw [if_neg (by omega)]
        have := rdy_in h (j := j + 1) (by omega)
        rw [show s.tk + 1 + ((j + 1 : Nat) : Int) = s.tk + 1 + 1 + (j : Int) by omega] at this
        exact this
      · show (if s.tk + 1 + 1 + ((rdy s - 1 : Nat) : Int) = s.tk + 1 then none else s.L (s.tk + 1 + 1 + ((rdy s - 1 : Nat) : Int))) = none
        rw [if_neg (by omega), show s.tk + 1 + 1 + ((rdy s - 1 : Nat) : Int) = s.tk + 1 + (rdy s : Int) by omega]
        exact rdy_end h
    unfold ackN
    rw [e]
    show s.tk + 1 + _ = _
    omega
  · rfl
theorem hld_le {s : Rc} (h : Rok s) : (hld s : Int) ≤ s.win := by
  have w1 := h.w1
  have w2 := h.w2
  have e := cnt_add (has s) s.win.toNat (32 - s.win.toNat)
  rw [show s.win.toNat + (32 - s.win.toNat) = 32 by omega, cnt_none (g := fun i => has s (s.win.toNat + i)) _ (fun j hj => by
    show (s.L (s.tk + 1 + ((s.win.toNat + j : Nat) : Int))).isSome = false
    rw [h.none (by omega)]
    rfl)] at e
  have := cnt_le (has s) s.win.toNat
  unfold hld
  omega
theorem rdy_hld {s : Rc} (h : Rok s) : rdy s ≤ hld s := by
  have w2 := h.w2
  have hr := rdy_le h
  have e := cnt_add (has s) (rdy s) (32 - rdy s)
  rw [show rdy s + (32 - rdy s) = 32 by omega, cnt_all (g := has s) (rdy s) (fun j hj => rdy_in h hj)] at e
  unfold hld
  omega
theorem ackB_low {s : Rc} (h : Rok s) : ackB s / 2 ^ s.win.toNat = 0 := by
  have w1 := h.w1
  have w2 := h.w2
  have e : ackB s = bF (ackF s) s.win.toNat := by
    unfold ackB
    rw [show (64 : Nat) = s.win.toNat + (64 - s.win.toNat) by omega]
    refine bF_stop _ (fun j h1 h2 => ?_)
    unfold ackF ackN
    rw [h.none (by omega)]
    rfl
  rw [e]
  have hb := bF_bnd (ackF s) s.win.toNat
  exact Int.ediv_eq_zero_of_lt hb.1 hb.2
theorem ackB_bnd (s : Rc) : 0 ≤ ackB s ∧ ackB s < 18446744073709551616 := by
  have h := bF_bnd (ackF s) 64
  have e : (2 : Int) ^ 64 = 18446744073709551616 := by decide
  rw [e] at h
  exact h
end Go.Proofs.Ytajidkgmifcoaaa
