/-
  Numbers that are made of a whole number and a power of 10, of 5, of 2: plain mathematics.
-/
import Derived.Test.YtjdceigndleadaaGreatDoorDans
namespace Go.Proofs.YtjdceigndleadaaGreatDoor
open Go

theorem num_pad {v : Nat} (hv : 0 < v) (j : Nat) : numL (v * 10 ^ j) = numL v ++ zerosL j := by
  refine canon_inj (num_canon _) ?_ (by rw [val_num, val_pad, val_num])
  have h0 := num_ne v
  have hh := num_head v (by omega)
  refine ⟨fun h => h0 (List.append_eq_nil_iff.1 h).1, digs_append (num_digs v) (zeros_digs j), fun h => ?_⟩
  exfalso
  rcases hx : numL v with _ | ⟨x, l⟩
  · exact h0 hx
  · rw [hx] at h hh
    exact hh h
theorem long_num {v : Nat} (hv : 0 < v) : longL (numL v) = numL v := by
  have h := long_eq 0 (numL v) (fun _ => num_head v (by omega))
  exact h
theorem short_pad (l : List Int) (j : Nat) (hl : shortL l ≠ []) : shortL (l ++ zerosL j) = shortL l := by
  obtain ⟨k, hk⟩ := short_cut l
  have h1 := short_eq (k + j) (shortL l) (fun _ => short_last hl)
  have e : l ++ zerosL j = shortL l ++ zerosL (k + j) := by
    rw [show zerosL (k + j) = zerosL k ++ zerosL j from by unfold zerosL; rw [List.replicate_append_replicate], ← List.append_assoc, ← hk]
  rw [e, h1]
theorem short_some {v : Nat} (hv : 0 < v) : shortL (numL v) ≠ [] := by
  intro h
  obtain ⟨k, hk⟩ := short_cut (numL v)
  rw [h, List.nil_append] at hk
  have := val_num v
  rw [hk, val_zeros] at this
  omega
theorem allD_num (v : Nat) : allD (numL v) = true := (allD_iff _).2 (num_digs v)
theorem len_num {v : Nat} (h : v < top) : 0 < (numL v).length ∧ (numL v).length ≤ 800 := by
  refine ⟨List.length_pos_iff.2 (num_ne v), ?_⟩
  unfold top at h
  exact (num_len (by decide)).2 h
theorem make_open (n : Bool) {v : Nat} (h : v < top) (e : Int) (hv : 0 < v) : makeA n (txt v) e =
    if 800 < (shortL (numL v)).length ∨ e < -2000 - (((numL v).length - (shortL (numL v)).length : Nat) : Int) ∨ 2000 - (((numL v).length - (shortL (numL v)).length : Nat) : Int) < e then (noN, 11)
    else ((n, strOfNums (shortL (numL v)), e + (((numL v).length - (shortL (numL v)).length : Nat) : Int)), 0) := by
  have hl := len_num h
  unfold makeA
  rw [bs_txt, txt_size, long_num hv, if_neg (by rintro (h1 | h1 | h1) <;> first | omega | (rw [allD_num] at h1; cases h1)), if_neg (num_ne v)]
/-- NEEDLESS TENS COUNT FOR NOTHING. -/
theorem make_pad (n : Bool) {v j : Nat} (h : v * 10 ^ j < top) (e : Int) (hv : 0 < v) : makeA n (txt (v * 10 ^ j)) e = makeA n (txt v) (e + (j : Int)) := by
  have hp : 0 < 10 ^ j := Nat.pow_pos (by decide)
  have h1 : v * 1 ≤ v * 10 ^ j := Nat.mul_le_mul_left _ hp
  rw [make_open n h e (by omega), make_open n (by omega : v < top) _ hv, num_pad hv j, short_pad _ _ (short_some hv), List.length_append]
  have hz : (zerosL j).length = j := by unfold zerosL; rw [List.length_replicate]
  rw [hz]
  obtain ⟨k, hk⟩ := short_cut (numL v)
  have hl : (shortL (numL v)).length ≤ (numL v).length := by
    have h2 := congrArg List.length hk
    rw [List.length_append] at h2
    omega
  generalize (shortL (numL v)).length = a at *
  generalize (numL v).length = b at *
  have e1 : ((b + j - a : Nat) : Int) = ((b - a : Nat) : Int) + (j : Int) := by omega
  rw [e1]
  generalize ((b - a : Nat) : Int) = D at *
  by_cases hc : 800 < a ∨ e < -2000 - (D + (j : Int)) ∨ 2000 - (D + (j : Int)) < e
  · rw [if_pos hc, if_pos (by omega)]
  · rw [if_neg hc, if_neg (by omega), show e + (D + (j : Int)) = e + (j : Int) + D from by omega]
theorem make_zero (n : Bool) (e : Int) : makeA n (txt 0) e = (zeroN, 0) := by
  have h : txt 0 = zS := by decide
  rw [h]
  unfold makeA
  rw [if_neg (by decide), if_pos (by decide)]
/-- What is made of a number: its sign, and how great it is. -/
theorem make_key {v : Nat} (h : v < top) {e : Int} (he : -2000 ≤ e ∧ e ≤ 0) (hv : 0 < v) :
    ∃ U Z, (∀ n, makeA n (txt v) e = ((n, U, Z), 0)) ∧ bs U ≠ [48] ∧ key (bs U) Z = v * 10 ^ (e + 2000).toNat := by
  have hl := len_num h
  obtain ⟨k, hk⟩ := short_cut (numL v)
  have hkl : (numL v).length = (shortL (numL v)).length + k := by
    have h2 := congrArg List.length hk
    rw [List.length_append] at h2
    unfold zerosL at h2
    rw [List.length_replicate] at h2
    exact h2
  have hd : Digs (shortL (numL v)) := fun c hc => num_digs v c (by rw [hk]; exact List.mem_append.2 (.inl hc))
  have hval : valS (shortL (numL v)) * 10 ^ k = v := by
    have h2 := val_num v
    rw [hk, val_pad] at h2
    exact h2
  refine ⟨strOfNums (shortL (numL v)), e + (k : Int), fun n => ?_, ?_, ?_⟩
  · have hm := make_open n h e hv
    rw [if_neg (by omega), show (numL v).length - (shortL (numL v)).length = k from by omega] at hm
    exact hm
  · rw [bs_str (digs_bytes hd)]
    intro h3
    rw [h3] at hval
    have : valS [48] = 0 := by decide
    rw [this] at hval
    omega
  · rw [bs_str (digs_bytes hd)]
    unfold key
    rw [show (e + (k : Int) + 2000).toNat = k + (e + 2000).toNat from by omega, Nat.pow_add, ← Nat.mul_assoc, hval]
theorem five_top {m k a N : Nat} (hm : m < 10 ^ 16) (hk : k ≤ 10 * a) (hN : 16 + 7 * a ≤ N) : m * 5 ^ k < 10 ^ N := by
  have h1 : 5 ^ k ≤ 5 ^ (10 * a) := Nat.pow_le_pow_right (by decide) hk
  have h2 : (5 ^ 10) ^ a ≤ (10 ^ 7) ^ a := Nat.pow_le_pow_left (by decide) a
  rw [Nat.pow_mul] at h1
  have h3 : m * 5 ^ k ≤ m * (10 ^ 7) ^ a := Nat.mul_le_mul_left _ (Nat.le_trans h1 h2)
  have h4 : m * (10 ^ 7) ^ a < 10 ^ 16 * (10 ^ 7) ^ a := Nat.mul_lt_mul_of_pos_right hm (Nat.pow_pos (by decide))
  rw [← Nat.pow_mul, ← Nat.pow_add] at h4
  rw [← Nat.pow_mul] at h3
  exact Nat.lt_of_le_of_lt h3 (Nat.lt_of_lt_of_le h4 (Nat.pow_le_pow_right (by decide) hN))
theorem two_top {m k a N : Nat} (hm : m < 10 ^ 16) (hk : k ≤ 10 * a) (hN : 16 + 4 * a ≤ N) : m * 2 ^ k < 10 ^ N := by
  have h1 : 2 ^ k ≤ 2 ^ (10 * a) := Nat.pow_le_pow_right (by decide) hk
  have h2 : (2 ^ 10) ^ a ≤ (10 ^ 4) ^ a := Nat.pow_le_pow_left (by decide) a
  rw [Nat.pow_mul] at h1
  have h3 : m * 2 ^ k ≤ m * (10 ^ 4) ^ a := Nat.mul_le_mul_left _ (Nat.le_trans h1 h2)
  have h4 : m * (10 ^ 4) ^ a < 10 ^ 16 * (10 ^ 4) ^ a := Nat.mul_lt_mul_of_pos_right hm (Nat.pow_pos (by decide))
  rw [← Nat.pow_mul, ← Nat.pow_add] at h4
  rw [← Nat.pow_mul] at h3
  exact Nat.lt_of_le_of_lt h3 (Nat.lt_of_lt_of_le h4 (Nat.pow_le_pow_right (by decide) hN))
/-- A number without its sign: a whole number, and the power of 2. -/
def sizM (X G : Int) : Int := if X = 0 then G else 4503599627370496 + G
def sizP (X : Int) : Int := if X = 0 then -1074 else X - 1075
theorem siz_in {X G : Int} (hX : 0 ≤ X ∧ X < 2047) (hG : 0 ≤ G ∧ G < 4503599627370496) : (0 ≤ sizM X G ∧ sizM X G < 9007199254740992) ∧ -1074 ≤ sizP X ∧ sizP X ≤ 971 := by
  unfold sizM sizP
  by_cases h : X = 0
  · rw [if_pos h, if_pos h]; omega
  · rw [if_neg h, if_neg h]; omega
/-- Its digits, where the power is below 0, or is not. -/
def fivV (X G : Int) : Nat := (sizM X G).toNat * 5 ^ (-sizP X).toNat
def twoV (X G : Int) : Nat := (sizM X G).toNat * 2 ^ (sizP X).toNat
theorem low_top {X G : Int} (hX : 0 ≤ X ∧ X < 2047) (hG : 0 ≤ G ∧ G < 4503599627370496) : fivV X G < top ∧ 5 ^ (-sizP X).toNat < top := by
  obtain ⟨h1, h2⟩ := siz_in hX hG
  have h3 : ∀ N, 772 ≤ N → fivV X G < 10 ^ N ∧ 5 ^ (-sizP X).toNat < 10 ^ N := fun N hN => by
    have h4 := five_top (m := 1) (k := (-sizP X).toNat) (a := 108) (N := N) (by decide) (by omega) hN
    rw [Nat.one_mul] at h4
    exact ⟨five_top (a := 108) (by omega) (by omega) hN, h4⟩
  unfold top
  exact h3 800 (by decide)
theorem high_top {X G : Int} (hX : 0 ≤ X ∧ X < 2047) (hG : 0 ≤ G ∧ G < 4503599627370496) : twoV X G < top ∧ 2 ^ (sizP X).toNat < top := by
  obtain ⟨h1, h2⟩ := siz_in hX hG
  have h3 : ∀ N, 416 ≤ N → twoV X G < 10 ^ N ∧ 2 ^ (sizP X).toNat < 10 ^ N := fun N hN => by
    have h4 := two_top (m := 1) (k := (sizP X).toNat) (a := 100) (N := N) (by decide) (by omega) hN
    rw [Nat.one_mul] at h4
    exact ⟨two_top (a := 100) (by omega) (by omega) hN, h4⟩
  unfold top
  exact h3 800 (by decide)
/-- P7.3: the number. -/
def exA (neg : Bool) (X G : Int) : Nm × Int := if X = 2047 then (noN, 12) else if sizP X < 0 then makeA neg (txt (fivV X G)) (sizP X) else makeA neg (txt (twoV X G)) 0
def exactA (n : Int) : Nm × Int := exA (decide (9223372036854775808 ≤ n)) (n / 4503599627370496 % 2048) (n % 4503599627370496)
/-- No number, 0, or a number of either sign. -/
theorem ex_cases {X G : Int} (hX : 0 ≤ X ∧ X < 2048) (hG : 0 ≤ G ∧ G < 4503599627370496) :
    (X = 2047 ∧ ∀ n, exA n X G = (noN, 12)) ∨ (X ≠ 2047 ∧ sizM X G = 0 ∧ ∀ n, exA n X G = (zeroN, 0)) ∨
      (X ≠ 2047 ∧ 0 < sizM X G ∧ ∃ U Z, (∀ n, exA n X G = ((n, U, Z), 0)) ∧ bs U ≠ [48] ∧ key (bs U) Z = if sizP X < 0 then fivV X G * 10 ^ (sizP X + 2000).toNat else twoV X G * 10 ^ ((0 : Int) + 2000).toNat) := by
  by_cases hx : X = 2047
  · exact .inl ⟨hx, fun n => by unfold exA; rw [if_pos hx]⟩
  obtain ⟨hm, hp⟩ := siz_in (X := X) (G := G) (by omega) hG
  by_cases hz : sizM X G = 0
  · refine .inr (.inl ⟨hx, hz, fun n => ?_⟩)
    have h5 : fivV X G = 0 := by unfold fivV; rw [hz]; simp
    have h2 : twoV X G = 0 := by unfold twoV; rw [hz]; simp
    unfold exA
    rw [if_neg hx, h5, h2, make_zero, make_zero]
    split <;> rfl
  refine .inr (.inr ⟨hx, by omega, ?_⟩)
  by_cases hs : sizP X < 0
  · have h0 : 0 < fivV X G := Nat.mul_pos (by omega) (Nat.pow_pos (by decide))
    obtain ⟨U, Z, h1, h2, h3⟩ := make_key (low_top (X := X) (G := G) (by omega) hG).1 (e := sizP X) (by omega) h0
    exact ⟨U, Z, fun n => by unfold exA; rw [if_neg hx, if_pos hs]; exact h1 n, h2, by rw [if_pos hs]; exact h3⟩
  · have h0 : 0 < twoV X G := Nat.mul_pos (by omega) (Nat.pow_pos (by decide))
    obtain ⟨U, Z, h1, h2, h3⟩ := make_key (high_top (X := X) (G := G) (by omega) hG).1 (e := 0) (by omega) h0
    exact ⟨U, Z, fun n => by unfold exA; rw [if_neg hx, if_neg hs]; exact h1 n, h2, by rw [if_neg hs]; exact h3⟩
end Go.Proofs.YtjdceigndleadaaGreatDoor
