/-
  A new receiver; a load that comes.
-/
import Derived.Test.YtfipdldoklkciaaRca
namespace Go.Proofs.Ytfipdldoklkciaa
open Go.RowKit
set_option linter.unusedVariables false
def r0 (win : Int) : Rc := ⟨win, 0, fun _ => none⟩
theorem r0_ok {win : Int} (h1 : 1 ≤ win) (h2 : win ≤ 32) : Rok (r0 win) := ⟨h1, h2, by simp [r0], by simp [r0], by simp [r0], by simp [r0]⟩
def ring0 : Nat → List Value
  | 0 => []
  | n + 1 => .bool false :: .string (strOfNums []) :: ring0 n
theorem ring0_at : ∀ (n p : Nat), p < n → (ring0 n)[p * 2]? = some (.bool false) ∧ (ring0 n)[p * 2 + 1]? = some (.string (strOfNums []))
  | 0, p, h => by omega
  | n + 1, 0, h => ⟨rfl, rfl⟩
  | n + 1, p + 1, h => by
    have := ring0_at n p (by omega)
    rw [show (p + 1) * 2 = p * 2 + 1 + 1 by omega]
    exact this
def zc : Array Value := (.bool false :: .int .i64 0 :: .int .i64 0 :: ring0 32).toArray
theorem zero_rc (w : World) : (zeroValue 138).run Try.prog w = .ok (.agg zc) w := by kernel_rfl
theorem zc_ne : (zc = #[]) = False := by
  rw [eq_iff_iff]
  exact ⟨fun h => absurd (congrArg Array.size h) (by decide), False.elim⟩
theorem zc_size : zc.size = 67 := rfl
theorem rnew_yes (win : Int) (w : World) (h1 : 1 ≤ win) (h2 : win ≤ 32) :
    Calls Try.prog 53 #[.int .i64 win] w fun e w' => e = .returned (.tuple #[.pointer (some ⟨w.heap.size, 0, none⟩), .int .i64 0]) ∧ Hid (Rv w' w.heap.size (r0 win)) ∧ Hid (Below w.heap.size w w') := by
  have d0 : decide (win < 1) = false := by simp; omega
  have d1 : decide (win > 32) = false := by simp; omega
  have hO : Hid (Rok (r0 win)) := r0_ok h1 h2
  have hz := zero_rc
  have hz1 := zc_ne
  have hz2 := zc_size
  clear h1 h2
  go_enter Try.func53, Try.ntmps53
  go_wp2
  go_ret2
  refine ⟨rfl, ?_, ?_⟩
  · refine ⟨hO.out, _, blk_new w _ 138, rfl, rfl, rfl, rfl, fun p hp => ?_⟩
    have := ring0_at 32 p hp
    rw [show 3 + p * 2 = p * 2 + 3 by omega, Array.getElem?_setIfInBounds_ne (by omega), Array.getElem?_setIfInBounds_ne (by omega), Array.getElem?_setIfInBounds_ne (by omega), Array.getElem?_setIfInBounds_ne (by omega)]
    unfold zc
    rw [List.getElem?_toArray, List.getElem?_toArray]
    exact this
  · exact (Below.refl _ _).alloc (Nat.le_refl _) _
theorem rnew_no (win : Int) (w : World) (h : win < 1 ∨ 32 < win) :
    Calls Try.prog 53 #[.int .i64 win] w fun e w' => e = .returned (.tuple #[.pointer none, .int .i64 1]) ∧ w' = w := by
  by_cases h0 : win < 1
  · have d0 : decide (win < 1) = true := by simp; omega
    clear h h0
    go_enter Try.func53, Try.ntmps53
    go_wp2
    go_ret2
    all_goals simp_all
  · have d0 : decide (win < 1) = false := by simp; omega
    have d1 : decide (win > 32) = true := by simp; omega
    clear h h0
    go_enter Try.func53, Try.ntmps53
    go_wp2
    go_ret2
    all_goals simp_all
/-- WHAT Data ANSWERS. -/
def dataE (s : Rc) (z : Int) (n : Nat) : Int :=
  if z < 1 then 1 else if 1200 < n then 8 else if z ≤ s.tk ∨ (s.L z).isSome = true then 17 else if s.tk + s.win < z then 13 else 0
/-- A LOAD CAME. -/
def putA (s : Rc) (z : Int) (l : List Int) : Rc := { s with L := fun x => if x = z then some l else s.L x }
theorem dataE_ok {s : Rc} {z : Int} {n : Nat} (h : dataE s z n = 0) : 1 ≤ z ∧ n ≤ 1200 ∧ s.tk < z ∧ z ≤ s.tk + s.win ∧ (s.L z).isSome = false := by
  unfold dataE at h
  split at h
  · omega
  · split at h
    · omega
    · split at h
      · omega
      · split at h
        · omega
        · rename_i h1 h2 h3 h4
          refine ⟨by omega, by omega, ?_, by omega, ?_⟩
          · exact Int.not_le.1 fun k => h3 (.inl k)
          · cases hL : (s.L z).isSome with
            | false => rfl
            | true => exact absurd (.inr hL) h3
theorem put_ok {s : Rc} {z : Int} {l : List Int} (h : Rok s) (h1 : s.tk < z) (h2 : z ≤ s.tk + s.win) (hl : l.length ≤ 1200) (hb : ∀ c ∈ l, 0 ≤ c ∧ c < 256) : Rok (putA s z l) := by
  refine ⟨h.w1, h.w2, h.t1, h.t2, fun x hx => ?_, fun x m hm => ?_⟩
  · have hx : (if x = z then some l else s.L x).isSome = true := hx
    by_cases e : x = z
    · subst e; exact ⟨h1, h2⟩
    · rw [if_neg e] at hx; exact h.inn x hx
  · have hm : (if x = z then some l else s.L x) = some m := hm
    by_cases e : x = z
    · rw [if_pos e] at hm; cases hm; exact ⟨hl, hb⟩
    · rw [if_neg e] at hm; exact h.few x m hm
theorem put_at {s : Rc} {z : Int} {l : List Int} (h1 : s.tk < z) (h2 : z ≤ s.tk + 32) (p : Nat) (hp : p < 32) : (putA s z l).at p = if (p : Int) = z % 32 then some l else s.at p := by
  show (if s.tk + 1 + ((p : Int) - (s.tk + 1)) % 32 = z then some l else s.L (s.tk + 1 + ((p : Int) - (s.tk + 1)) % 32)) = if (p : Int) = z % 32 then some l else s.L (s.tk + 1 + ((p : Int) - (s.tk + 1)) % 32)
  by_cases e : (p : Int) = z % 32
  · rw [if_pos e, if_pos (by omega)]
  · rw [if_neg e, if_neg (by omega)]
/-- Two cells of the ring written anew: what the receiver then is. -/
theorem rv_set {w : World} {rb : Nat} {s s' : Rc} (h : Rv w rb s) (hs : Rok s') (hw : s'.win = s.win) (ht : s'.tk = s.tk ∨ True) (p : Nat) (hp : p < 32) (o : Option (List Int)) (ha : ∀ q, q < 32 → s'.at q = if q = p then o else s.at q)
    (ht' : s'.tk = s.tk) : Rv ((w.setCell ⟨rb, 3 + p * 2, none⟩ (.bool o.isSome)).setCell ⟨rb, 3 + p * 2 + 1, none⟩ (.string (strOfNums (o.getD [])))) rb s' := by
  obtain ⟨h1, cs, h2, h3, h4, h5, h6, h7⟩ := h
  refine ⟨hs, _, (h2.set (3 + p * 2) _).set (3 + p * 2 + 1) _, by simp [h3], ?_, ?_, ?_, fun q hq => ?_⟩
  · rw [Array.getElem?_setIfInBounds_ne (by omega), Array.getElem?_setIfInBounds_ne (by omega)]; exact h4
  · rw [Array.getElem?_setIfInBounds_ne (by omega), Array.getElem?_setIfInBounds_ne (by omega), hw]; exact h5
  · rw [Array.getElem?_setIfInBounds_ne (by omega), Array.getElem?_setIfInBounds_ne (by omega), ht']; exact h6
  · rw [ha q hq]
    by_cases e : q = p
    · subst e
      rw [if_pos rfl]
      constructor
      · rw [Array.getElem?_setIfInBounds_ne (by omega), Array.getElem?_setIfInBounds_self_of_lt (by omega)]
      · rw [Array.getElem?_setIfInBounds_self_of_lt (by simp [h3]; omega)]
    · rw [if_neg e]
      rw [Array.getElem?_setIfInBounds_ne (by omega), Array.getElem?_setIfInBounds_ne (by omega), Array.getElem?_setIfInBounds_ne (by omega), Array.getElem?_setIfInBounds_ne (by omega)]
      exact h7 q hq
set_option maxHeartbeats 1000000 in
theorem data_ok {rb : Nat} {s : Rc} {w : World} (z : Int) (a : Option Addr) (n c : Nat) (zs : List Int) (h : Rv w rb s) (he : dataE s z n = 0) (hn : zs.length = n) (h0 : a = none → c = 0) (hb : Bytes w a zs) :
    Calls Try.prog 93 #[.pointer (some ⟨rb, 0, none⟩), .int .i64 z, .slice a n c] w fun e w' => e = .returned (.int .i64 0) ∧ Hid (Rv w' rb (putA s z zs)) ∧ Hid (K2 rb rb w w') := by
  obtain ⟨e1, e2, e3, e4, e5⟩ := dataE_ok he
  have k0 := rmade_yes rb w h.c0
  have c2 := h.c2
  have d1 : decide (z < 1) = false := by simp; omega
  have d2 : decide ((n : Int) > 1200) = false := by simp; omega
  have d3 : decide (z ≤ s.tk) = false := by simp; omega
  have d4 : decide (z > s.tk + s.win) = false := by simp; omega
  have k1 := holds_any z h
  rw [e5] at k1
  have k2 := fun m => credit_any (h.dn m)
  have k3 := fun x => place_any z x (by omega)
  obtain ⟨p, hp⟩ : ∃ p : Nat, z % 32 = (p : Int) := ⟨(z % 32).toNat, by omega⟩
  have hp3 : p < 32 := by omega
  have hi : decide ((p : Int) < 32) = true := by simp; omega
  have hi0 : decide ((0 : Int) ≤ (p : Int)) = true := by simp
  rw [hp] at k3
  have hcv := fun m => conv_str (hb.drewN m) n c hn
  have f1 := h.fz (3 + p * 2)
  have f2 := h.fz (3 + p * 2 + 1)
  have q1 := h.cA hp3
  have q2 := h.cB hp3
  have hK : Hid (∀ m, K2 rb rb w (((w.drewN m).setCell ⟨rb, 3 + p * 2, none⟩ (.bool true)).setCell ⟨rb, 3 + p * 2 + 1, none⟩ (.string (strOfNums zs)))) := fun m => (K2.dn w m).trans ((K2.set _ _ _).trans (K2.set _ _ _))
  have hR : Hid (∀ m, Rv (((w.drewN m).setCell ⟨rb, 3 + p * 2, none⟩ (.bool true)).setCell ⟨rb, 3 + p * 2 + 1, none⟩ (.string (strOfNums zs))) rb (putA s z zs)) :=
    fun m => rv_set (h.dn m) (put_ok h.ok e3 e4 (by omega) hb.1) rfl (.inl rfl) p hp3 (some zs) (fun q hq => by rw [put_at e3 (by have := h.ok.w2; omega) q hq, hp]; by_cases e : q = p; (subst e; rw [if_pos rfl, if_pos rfl]); (rw [if_neg e, if_neg (by omega)])) rfl
  clear hp e1 e2 e3 e4 e5 hb h0 he h hn
  go_enter Try.func93, Try.ntmps93
  go_wp2_with (first | (go_at_call 94; refine k0.mono ?_; rintro e w1 ⟨rfl, hw1⟩; obtain rfl := hw1.symm; clear k0 hw1) | (go_at_call 99; refine k1.mono ?_; rintro e w1 ⟨rfl, m1, rfl⟩; clear k1) | (go_at_call 100; refine (k2 _).mono ?_; rintro e w1 ⟨rfl, m2, rfl⟩; clear k2))
  go_region_with (first | (go_at_call 101; refine (k3 _).mono ?_; rintro e w1 ⟨rfl, hw1⟩; obtain rfl := hw1.symm; clear k3 hw1))
  all_goals go_wp2
  all_goals go_ret
  all_goals exact ⟨rfl, hR.out _, hK.out _⟩
theorem data_bad {rb : Nat} {s : Rc} {w : World} (z : Int) (a : Option Addr) (n c : Nat) (h : Rv w rb s) (he : dataE s z n ≠ 0) (hn : (n : Int) ≤ 9223372036854775807) :
    Calls Try.prog 93 #[.pointer (some ⟨rb, 0, none⟩), .int .i64 z, .slice a n c] w fun e w' => e = .returned (.int .i64 (dataE s z n)) ∧ ∃ m, w' = w.drewN m := by
  have k0 := rmade_yes rb w h.c0
  have c2 := h.c2
  by_cases h1 : z < 1
  · have d1 : decide (z < 1) = true := by simp; omega
    have e : dataE s z n = 1 := by unfold dataE; rw [if_pos h1]
    rw [e]
    clear he h h1 e hn
    go_enter Try.func93, Try.ntmps93
    go_wp2_with (go_at_call 94; refine k0.mono ?_; rintro e w1 ⟨rfl, hw1⟩; obtain rfl := hw1.symm; clear k0 hw1)
    go_ret
    exact ⟨rfl, 0, rfl⟩
  have d1 : decide (z < 1) = false := by simp; omega
  by_cases h2 : 1200 < n
  · have d2 : decide ((n : Int) > 1200) = true := by simp; omega
    have e : dataE s z n = 8 := by unfold dataE; rw [if_neg h1, if_pos h2]
    rw [e]
    clear he h h1 h2 e hn
    go_enter Try.func93, Try.ntmps93
    go_wp2_with (go_at_call 94; refine k0.mono ?_; rintro e w1 ⟨rfl, hw1⟩; obtain rfl := hw1.symm; clear k0 hw1)
    go_ret
    exact ⟨rfl, 0, rfl⟩
  have d2 : decide ((n : Int) > 1200) = false := by simp; omega
  by_cases h3 : z ≤ s.tk
  · have d3 : decide (z ≤ s.tk) = true := by simp; omega
    have e : dataE s z n = 17 := by unfold dataE; rw [if_neg h1, if_neg h2, if_pos (.inl h3)]
    rw [e]
    clear he h h1 h2 h3 e hn
    go_enter Try.func93, Try.ntmps93
    go_wp2_with (go_at_call 94; refine k0.mono ?_; rintro e w1 ⟨rfl, hw1⟩; obtain rfl := hw1.symm; clear k0 hw1)
    go_ret
    exact ⟨rfl, 0, rfl⟩
  have d3 : decide (z ≤ s.tk) = false := by simp; omega
  have k1 := holds_any z h
  have k2 := fun m => credit_any (h.dn m)
  cases hL : (s.L z).isSome with
  | true =>
    have e : dataE s z n = 17 := by unfold dataE; rw [if_neg h1, if_neg h2, if_pos (.inr hL)]
    rw [e]
    rw [hL] at k1
    clear he h h1 h2 h3 e hn k2 hL
    go_enter Try.func93, Try.ntmps93
    go_wp2_with (first | (go_at_call 94; refine k0.mono ?_; rintro e w1 ⟨rfl, hw1⟩; obtain rfl := hw1.symm; clear k0 hw1) | (go_at_call 99; refine k1.mono ?_; rintro e w1 ⟨rfl, m1, rfl⟩; clear k1))
    go_ret
    exact ⟨rfl, _, rfl⟩
  | false =>
    by_cases h4 : s.tk + s.win < z
    · have d4 : decide (z > s.tk + s.win) = true := by simp; omega
      have e : dataE s z n = 13 := by unfold dataE; rw [if_neg h1, if_neg h2, if_neg (by rw [hL]; intro k; rcases k with k | k; exact h3 k; cases k), if_pos h4]
      rw [e]
      rw [hL] at k1
      clear he h h1 h2 h3 h4 e hn hL
      go_enter Try.func93, Try.ntmps93
      go_wp2_with (first | (go_at_call 94; refine k0.mono ?_; rintro e w1 ⟨rfl, hw1⟩; obtain rfl := hw1.symm; clear k0 hw1) | (go_at_call 99; refine k1.mono ?_; rintro e w1 ⟨rfl, m1, rfl⟩; clear k1) | (go_at_call 100; refine (k2 _).mono ?_; rintro e w1 ⟨rfl, m2, rfl⟩; clear k2))
      go_ret
      exact ⟨rfl, _, rfl⟩
    · exact absurd (by unfold dataE; rw [if_neg h1, if_neg h2, if_neg (by rw [hL]; intro k; rcases k with k | k; exact h3 k; cases k), if_neg h4]) he
end Go.Proofs.Ytfipdldoklkciaa
