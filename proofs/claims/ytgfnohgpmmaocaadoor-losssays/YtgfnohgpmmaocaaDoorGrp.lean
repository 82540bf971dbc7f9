/-
  Digits and groups of digits, the lowest first, to whatever base: what they are worth, what is added to one of them, what is carried, and what is divided. No program is named here.
-/
import Derived.Test.YtgfnohgpmmaocaaDoorPlain
namespace Go.Proofs.YtgfnohgpmmaocaaDoor

/-- What digits to the base b are worth. -/
def lv (b : Int) : List Int → Int
  | [] => 0
  | g :: l => g + b * lv b l
/-- Digits as they should be. -/
def Grp (b : Int) (l : List Int) : Prop := ∀ g ∈ l, 0 ≤ g ∧ g < b
theorem lv_cons (b g : Int) (l : List Int) : lv b (g :: l) = g + b * lv b l := rfl
theorem lv_append (b : Int) (l m : List Int) : lv b (l ++ m) = lv b l + b ^ l.length * lv b m := by
  induction l with
  | nil => simp [lv]
  | cons g l ih =>
    rw [List.cons_append, lv_cons, ih, lv_cons, List.length_cons, Int.pow_succ, Int.mul_add, Int.mul_comm (b ^ l.length) b, Int.mul_assoc]
    omega
theorem lv_snoc (b : Int) (l : List Int) (g : Int) : lv b (l ++ [g]) = lv b l + b ^ l.length * g := by
  rw [lv_append]
  show _ + _ * (g + b * 0) = _
  rw [Int.mul_zero, Int.add_zero]
/-- One digit, a number more. -/
theorem lv_set (b : Int) (l : List Int) : ∀ (i : Nat) (c : Int), i < l.length → lv b (l.set i (l.getD i 0 + c)) = lv b l + b ^ i * c := by
  induction l with
  | nil => intro i c h; simp at h
  | cons g l ih =>
    intro i c h
    cases i with
    | zero =>
      show g + c + b * lv b l = g + b * lv b l + b ^ 0 * c
      rw [Int.pow_zero, Int.one_mul]
      omega
    | succ i =>
      show g + b * lv b (l.set i (l.getD i 0 + c)) = g + b * lv b l + b ^ (i + 1) * c
      rw [ih i c (by simpa using h), Int.pow_succ, Int.mul_add, Int.mul_comm (b ^ i) b, Int.mul_assoc]
      omega
theorem lv_zeros (b : Int) (k : Nat) : lv b (List.replicate k 0) = 0 := by
  induction k with
  | zero => rfl
  | succ k ih => rw [List.replicate_succ, lv_cons, ih, Int.mul_zero]; rfl
theorem lv_take (b : Int) (l : List Int) (k : Nat) (h : k < l.length) : lv b (l.take (k + 1)) = lv b (l.take k) + b ^ k * l.getD k 0 := by
  rw [List.take_succ_eq_append_getElem h, lv_snoc, List.length_take, Nat.min_eq_left (by omega), List.getD_eq_getElem?_getD, List.getElem?_eq_getElem h]
  rfl
theorem lv_drop (b : Int) (l : List Int) (k : Nat) (h : k < l.length) : lv b (l.drop k) = l.getD k 0 + b * lv b (l.drop (k + 1)) := by
  rw [List.drop_eq_getElem_cons h, lv_cons, List.getD_eq_getElem?_getD, List.getElem?_eq_getElem h]
  rfl
theorem lv_nonneg {b : Int} (hb : 0 ≤ b) {l : List Int} (h : ∀ g ∈ l, 0 ≤ g) : 0 ≤ lv b l := by
  induction l with
  | nil => exact Int.le_refl _
  | cons g l ih =>
    have h1 := ih fun x hx => h x (by simp [hx])
    have h2 := h g (by simp)
    have h3 := Int.mul_nonneg hb h1
    rw [lv_cons]
    omega
theorem lv_lt {b : Int} (hb : 0 < b) {l : List Int} (h : Grp b l) : 0 ≤ lv b l ∧ lv b l < b ^ l.length := by
  refine ⟨lv_nonneg (by omega) fun g hg => (h g hg).1, ?_⟩
  induction l with
  | nil => show (0 : Int) < b ^ 0; rw [Int.pow_zero]; omega
  | cons g l ih =>
    have h1 := ih fun x hx => h x (by simp [hx])
    have h2 := h g (by simp)
    rw [lv_cons, List.length_cons, Int.pow_succ, Int.mul_comm (b ^ l.length) b]
    have h3 : b * (lv b l + 1) ≤ b * b ^ l.length := Int.mul_le_mul_of_nonneg_left (by omega) (by omega)
    rw [Int.mul_add, Int.mul_one] at h3
    omega
theorem grp_nil (b : Int) : Grp b [] := fun _ h => by cases h
theorem Grp.snoc {b : Int} {l : List Int} (h : Grp b l) {g : Int} (hg : 0 ≤ g ∧ g < b) : Grp b (l ++ [g]) := fun x hx => by
  rcases List.mem_append.1 hx with h1 | h1
  · exact h x h1
  · simp only [List.mem_cons, List.not_mem_nil, or_false] at h1
    rw [h1]; exact hg
theorem Grp.cons {b : Int} {l : List Int} (h : Grp b l) {g : Int} (hg : 0 ≤ g ∧ g < b) : Grp b (g :: l) := fun x hx => by
  rcases List.mem_cons.1 hx with h1 | h1
  · rw [h1]; exact hg
  · exact h x h1
theorem Grp.at {b : Int} {l : List Int} (h : Grp b l) {k : Nat} (hk : k < l.length) : 0 ≤ l.getD k 0 ∧ l.getD k 0 < b := by
  rw [List.getD_eq_getElem?_getD, List.getElem?_eq_getElem hk]
  exact h _ (List.getElem_mem hk)
theorem pow_pos' {b : Int} (hb : 0 < b) (k : Nat) : 0 < b ^ k := Int.pow_pos hb

/-- Naturals as integers. -/
def intsN (l : List Nat) : List Int := l.map fun d => ((d : Nat) : Int)
theorem intsN_len (l : List Nat) : (intsN l).length = l.length := by simp [intsN]
theorem lv_ints (l : List Nat) : lv 10 (intsN l) = ((lowV l : Nat) : Int) := by
  induction l with
  | nil => rfl
  | cons d l ih =>
    show (d : Int) + 10 * lv 10 (intsN l) = ((d + 10 * lowV l : Nat) : Int)
    rw [ih]
    omega
theorem intsN_getD (l : List Nat) (k : Nat) : (intsN l).getD k 0 = ((l.getD k 0 : Nat) : Int) := by
  rw [List.getD_eq_getElem?_getD, List.getD_eq_getElem?_getD, intsN, List.getElem?_map]
  cases l[k]? with
  | none => rfl
  | some x => rfl

/-- A number's digits, the lowest first. -/
def dgs (s : List Int) : List Int := s.reverse.map fun c => c - 48
theorem dgs_len (s : List Int) : (dgs s).length = s.length := by simp [dgs]
theorem dgs_grp {s : List Int} (h : Digs s) : Grp 10 (dgs s) := fun g hg => by
  obtain ⟨c, hc, rfl⟩ := List.mem_map.1 hg
  have := h c (List.mem_reverse.1 hc)
  omega
theorem dgs_val {s : List Int} (h : Digs s) : lv 10 (dgs s) = ((valS s : Nat) : Int) := by
  have e : dgs s = intsN (s.reverse.map fun c => (c - 48).toNat) := by
    unfold dgs intsN
    rw [List.map_map]
    refine List.map_congr_left fun c hc => ?_
    have := h c (List.mem_reverse.1 hc)
    simp only [Function.comp_apply]
    omega
  rw [e, lv_ints, low_rev]
theorem dgs_getD (s : List Int) (k : Nat) (h : k < s.length) : (dgs s).getD k 0 = s.getD (s.length - 1 - k) 0 - 48 := by
  unfold dgs
  rw [List.getD_eq_getElem?_getD, List.getElem?_map, List.getElem?_reverse h, List.getD_eq_getElem?_getD, List.getElem?_eq_getElem (by omega)]
  rfl

/-! ### Settled: what is carried and borrowed -/

/-- Settling l, 'over' having come in: the groups, and what is left over. -/
def settleL : Int → List Int → List Int × Int
  | over, [] => ([], over)
  | over, g :: l => ((g + over) % 1000000 :: (settleL ((g + over) / 1000000) l).1, (settleL ((g + over) / 1000000) l).2)
theorem settle_grp (l : List Int) : ∀ over, Grp 1000000 (settleL over l).1 ∧ (settleL over l).1.length = l.length ∧ lv 1000000 (settleL over l).1 + 1000000 ^ l.length * (settleL over l).2 = lv 1000000 l + over := by
  induction l with
  | nil => intro over; exact ⟨grp_nil _, rfl, by simp [settleL, lv]⟩
  | cons g l ih =>
    intro over
    obtain ⟨h1, h2, h3⟩ := ih ((g + over) / 1000000)
    refine ⟨?_, by simp [settleL, h2], ?_⟩
    · intro x hx
      simp only [settleL, List.mem_cons] at hx
      rcases hx with rfl | hx
      · omega
      · exact h1 x hx
    · simp only [settleL, lv_cons, List.length_cons, Int.pow_succ]
      rw [Int.mul_comm (1000000 ^ l.length) 1000000, Int.mul_assoc]
      omega
/-- Where what they tell has room, nothing is left over. -/
theorem room_zero {v x q o : Int} (hx0 : 0 ≤ x) (hx1 : x < q) (hv0 : 0 ≤ v) (hv1 : v < q) (h : x + q * o = v) : o = 0 := by
  rcases Int.lt_trichotomy o 0 with h1 | h1 | h1
  · have : q * o ≤ q * (-1) := Int.mul_le_mul_of_nonneg_left (by omega) (by omega)
    omega
  · exact h1
  · have : q * 1 ≤ q * o := Int.mul_le_mul_of_nonneg_left (by omega) (by omega)
    omega
theorem settle_val {l : List Int} (h0 : 0 ≤ lv 1000000 l) (h1 : lv 1000000 l < 1000000 ^ l.length) : lv 1000000 (settleL 0 l).1 = lv 1000000 l := by
  obtain ⟨a, b, c⟩ := settle_grp l 0
  have d := lv_lt (by decide) a
  rw [b] at d
  rw [Int.add_zero] at c
  have e := room_zero d.1 d.2 h0 h1 c
  rw [e] at c
  omega

/-! ### Six digits of a group -/

/-- The six digits of a group, the highest first, as bytes. -/
def dig6 (g : Int) : List Int := [48 + g / 100000 % 10, 48 + g / 10000 % 10, 48 + g / 1000 % 10, 48 + g / 100 % 10, 48 + g / 10 % 10, 48 + g % 10]
theorem dig6_digs {g : Int} : Digs (dig6 g) := by
  intro c hc
  simp only [dig6, List.mem_cons, List.not_mem_nil, or_false] at hc
  omega
theorem dig6_val {g : Int} (h : 0 ≤ g ∧ g < 1000000) : ((valS (dig6 g) : Nat) : Int) = g := by
  have e1 : g / 10 = g / 10 := rfl
  have h1 : g / 100 = g / 10 / 10 := by omega
  have h2 : g / 1000 = g / 100 / 10 := by omega
  have h3 : g / 10000 = g / 1000 / 10 := by omega
  have h4 : g / 100000 = g / 10000 / 10 := by omega
  obtain ⟨a, ha⟩ : ∃ a, a = g / 10 := ⟨_, rfl⟩
  obtain ⟨b, hb⟩ : ∃ b, b = a / 10 := ⟨_, rfl⟩
  obtain ⟨c, hc⟩ : ∃ c, c = b / 10 := ⟨_, rfl⟩
  obtain ⟨d, hd⟩ : ∃ d, d = c / 10 := ⟨_, rfl⟩
  obtain ⟨e, he⟩ : ∃ e, e = d / 10 := ⟨_, rfl⟩
  rw [← ha, ← hb] at h1
  rw [h1, ← hc] at h2
  rw [h2, ← hd] at h3
  rw [h3, ← he] at h4
  unfold dig6
  rw [h1, h2, h3, h4, ← ha]
  clear h1 h2 h3 h4 e1
  show (((((((0 * 10 + (48 + e % 10 - 48).toNat) * 10 + (48 + d % 10 - 48).toNat) * 10 + (48 + c % 10 - 48).toNat) * 10 + (48 + b % 10 - 48).toNat) * 10 + (48 + a % 10 - 48).toNat) * 10 + (48 + g % 10 - 48).toNat : Nat) : Int) = g
  have s1 : ∀ x : Int, (((48 + x % 10 - 48).toNat : Nat) : Int) = x % 10 := fun x => by omega
  generalize hE : (48 + e % 10 - 48).toNat = E
  generalize hD : (48 + d % 10 - 48).toNat = D
  generalize hC : (48 + c % 10 - 48).toNat = C
  generalize hB : (48 + b % 10 - 48).toNat = B
  generalize hA : (48 + a % 10 - 48).toNat = A
  generalize hG : (48 + g % 10 - 48).toNat = G
  have tE := s1 e; rw [hE] at tE; clear hE
  have tD := s1 d; rw [hD] at tD; clear hD
  have tC := s1 c; rw [hC] at tC; clear hC
  have tB := s1 b; rw [hB] at tB; clear hB
  have tA := s1 a; rw [hA] at tA; clear hA
  have tG := s1 g; rw [hG] at tG; clear hG s1
  have k1 : e < 10 := by omega
  have k2 : e % 10 = e := by omega
  rw [k2] at tE
  have k3 : (E : Int) * 10 + D = d := by omega
  have k4 : ((E : Int) * 10 + D) * 10 + C = c := by rw [k3]; omega
  have k5 : (((E : Int) * 10 + D) * 10 + C) * 10 + B = b := by rw [k4]; omega
  have k6 : ((((E : Int) * 10 + D) * 10 + C) * 10 + B) * 10 + A = a := by rw [k5]; omega
  have k7 : (((((E : Int) * 10 + D) * 10 + C) * 10 + B) * 10 + A) * 10 + G = g := by rw [k6]; omega
  rw [← k7]
  simp only [Nat.zero_mul, Nat.zero_add, Int.natCast_add, Int.natCast_mul]
  rfl
/-- Groups as digits, the highest first. -/
def tellL (l : List Int) : List Int := l.reverse.flatMap dig6
theorem tell_cons (g : Int) (l : List Int) : tellL (g :: l) = tellL l ++ dig6 g := by simp [tellL]
theorem tell_len (l : List Int) : (tellL l).length = 6 * l.length := by
  induction l with
  | nil => rfl
  | cons g l ih => rw [tell_cons, List.length_append, ih, List.length_cons]; show _ + 6 = _; omega
theorem tell_digs (l : List Int) : Digs (tellL l) := by
  induction l with
  | nil => intro c hc; cases hc
  | cons g l ih => rw [tell_cons]; exact digs_append ih dig6_digs
theorem tell_val {l : List Int} (h : Grp 1000000 l) : ((valS (tellL l) : Nat) : Int) = lv 1000000 l := by
  induction l with
  | nil => rfl
  | cons g l ih =>
    have h1 := ih fun x hx => h x (by simp [hx])
    have h2 := dig6_val (h g (by simp))
    rw [tell_cons, val_append, lv_cons, ← h1]
    show ((valS (tellL l) * 10 ^ 6 + valS (dig6 g) : Nat) : Int) = _
    omega
/-- Digits without the 0 ahead. -/
def trimL (s : List Int) : List Int := s.dropWhile (· == 48)
theorem trim_val (s : List Int) : valS (trimL s) = valS s := by
  induction s with
  | nil => rfl
  | cons c s ih =>
    unfold trimL at ih ⊢
    rw [List.dropWhile_cons]
    by_cases h : c = 48
    · subst h
      rw [if_pos (by rfl), ih, val_cons]
      show _ = 0 * _ + _
      omega
    · rw [if_neg (by simpa using h)]
theorem trim_digs {s : List Int} (h : Digs s) : Digs (trimL s) := fun c hc => h c ((List.dropWhile_sublist _).mem hc)
theorem trim_head (s : List Int) (h : trimL s ≠ []) : (trimL s).getD 0 0 ≠ 48 := by
  induction s with
  | nil => exact absurd rfl h
  | cons c s ih =>
    unfold trimL at ih h ⊢
    rw [List.dropWhile_cons] at h ⊢
    by_cases hc : c = 48
    · subst hc
      rw [if_pos (by rfl)] at h ⊢
      exact ih h
    · rw [if_neg (by simpa using hc)]
      exact hc
theorem trim_num {s : List Int} (h : Digs s) (h0 : trimL s ≠ []) : trimL s = numL (valS s) := by
  rw [← trim_val, num_val]
  exact ⟨h0, trim_digs h, fun h1 => absurd h1 (trim_head s h0)⟩
theorem trim_none {s : List Int} (h0 : trimL s = []) : valS s = 0 := by rw [← trim_val, h0]; rfl

/-! ### Divided, the highest first -/
theorem div_step (q r g b d : Int) : (q * d + r) * b + g = (q * b + (r * b + g) / d) * d + (r * b + g) % d := by
  have h := Int.mul_ediv_add_emod (r * b + g) d
  rw [Int.add_mul, Int.add_mul, Int.add_assoc, Int.mul_right_comm, Int.add_assoc]
  rw [Int.mul_comm ((r * b + g) / d) d, h]
end Go.Proofs.YtgfnohgpmmaocaaDoor
