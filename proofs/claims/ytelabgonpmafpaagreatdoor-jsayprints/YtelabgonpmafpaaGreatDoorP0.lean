/-
  Natural numbers as digits, as plain lists of bytes: which are numbers, what they are worth, the one form of a number, and how two stand. No program is named here.
  Digits and groups of digits, the lowest first, to whatever base: what they are worth, what is added to one of them, what is carried, and what is divided. No program is named here.
  Numbers as texts of bytes, and what each call of the document answers, said over the numbers alone.
-/
import Derived.Laws.BytesArg
import Derived.Lib.Bytealg
import Derived.Lib.Small
namespace Go.Proofs.YtelabgonpmafpaaGreatDoor

/-- Digits. -/
def Digs (s : List Int) : Prop := ∀ c ∈ s, 48 ≤ c ∧ c ≤ 57
/-- What digits are worth, the highest first. -/
def valS (s : List Int) : Nat := s.foldl (fun n c => n * 10 + (c - 48).toNat) 0
/-- A number's form: a digit at least, and no needless 0 ahead. -/
def Canon (s : List Int) : Prop := s ≠ [] ∧ Digs s ∧ (s.getD 0 0 = 48 → s.length = 1)
/-- A number. -/
def RightS (s : List Int) : Prop := Canon s ∧ s.length ≤ 800
/-- The digits of n, k more at most than one. -/
def numF : Nat → Nat → List Int
  | 0, n => [((48 + n % 10 : Nat) : Int)]
  | k + 1, n => if n < 10 then [((48 + n : Nat) : Int)] else numF k (n / 10) ++ [((48 + n % 10 : Nat) : Int)]
/-- THE ONE FORM OF A NUMBER. -/
def numL (n : Nat) : List Int := numF n n

theorem numF_more (k : Nat) : ∀ n m, n ≤ k → k ≤ m → numF m n = numF k n := by
  induction k with
  | zero =>
    intro n m h _
    obtain rfl : n = 0 := by omega
    cases m with
    | zero => rfl
    | succ m => rfl
  | succ k ih =>
    intro n m h hm
    obtain ⟨m, rfl⟩ : ∃ m', m = m' + 1 := ⟨m - 1, by omega⟩
    rw [numF, numF]
    by_cases h1 : n < 10
    · rw [if_pos h1, if_pos h1]
    · rw [if_neg h1, if_neg h1, ih (n / 10) m (by omega) (by omega)]
theorem num_small {n : Nat} (h : n < 10) : numL n = [((48 + n : Nat) : Int)] := by
  unfold numL
  cases n with
  | zero => rfl
  | succ n => rw [numF, if_pos h]
theorem num_big {n : Nat} (h : 10 ≤ n) : numL n = numL (n / 10) ++ [((48 + n % 10 : Nat) : Int)] := by
  unfold numL
  obtain ⟨k, rfl⟩ : ∃ k, n = k + 1 := ⟨n - 1, by omega⟩
  rw [numF, if_neg (by omega), numF_more ((k + 1) / 10) ((k + 1) / 10) k (Nat.le_refl _) (by omega)]
theorem num_ind {M : Nat → Prop} (small : ∀ n, n < 10 → M n) (big : ∀ n, 10 ≤ n → M (n / 10) → M n) (n : Nat) : M n := by
  have h : ∀ k n, n ≤ k → M n := by
    intro k
    induction k with
    | zero => intro n h; exact small n (by omega)
    | succ k ih =>
      intro n h
      by_cases h1 : n < 10
      · exact small n h1
      · exact big n (by omega) (ih _ (by omega))
  exact h n n (Nat.le_refl _)

theorem val_snoc (s : List Int) (c : Int) : valS (s ++ [c]) = valS s * 10 + (c - 48).toNat := by
  unfold valS
  rw [List.foldl_append]
  rfl
theorem fold_start (s : List Int) : ∀ n, s.foldl (fun n c => n * 10 + (c - 48).toNat) n = n * 10 ^ s.length + valS s := by
  unfold valS
  induction s with
  | nil => intro n; simp
  | cons c s ih =>
    intro n
    rw [List.foldl_cons, List.foldl_cons, ih, ih (0 * 10 + (c - 48).toNat), List.length_cons, Nat.pow_succ]
    rw [Nat.zero_mul, Nat.zero_add, Nat.add_mul, Nat.add_assoc, Nat.mul_assoc, Nat.mul_comm 10]
theorem val_append (s t : List Int) : valS (s ++ t) = valS s * 10 ^ t.length + valS t := by
  show (s ++ t).foldl _ 0 = _
  rw [List.foldl_append, fold_start]
  rfl
theorem val_cons (c : Int) (s : List Int) : valS (c :: s) = (c - 48).toNat * 10 ^ s.length + valS s := by
  have h := val_append [c] s
  rw [List.singleton_append] at h
  rw [h]
  show (0 * 10 + (c - 48).toNat) * _ + _ = _
  rw [Nat.zero_mul, Nat.zero_add]

theorem digs_append {s t : List Int} (h1 : Digs s) (h2 : Digs t) : Digs (s ++ t) := fun c hc => by
  rcases List.mem_append.1 hc with h | h
  · exact h1 c h
  · exact h2 c h
theorem digs_one {n : Nat} (h : n < 10) : Digs [((48 + n : Nat) : Int)] := by
  intro c hc
  simp only [List.mem_cons, List.not_mem_nil, or_false] at hc
  omega
theorem num_ne (n : Nat) : numL n ≠ [] := by
  by_cases h : n < 10
  · rw [num_small h]; simp
  · rw [num_big (by omega)]; simp
theorem num_digs (n : Nat) : Digs (numL n) := by
  induction n using num_ind with
  | small n h => rw [num_small h]; exact digs_one h
  | big n h ih => rw [num_big h]; exact digs_append ih (digs_one (by omega))
theorem num_head (n : Nat) : n ≠ 0 → (numL n).getD 0 0 ≠ 48 := by
  induction n using num_ind with
  | small n h =>
    intro h0
    rw [num_small h]
    show ((48 + n : Nat) : Int) ≠ 48
    omega
  | big n h ih =>
    intro _
    rw [num_big h]
    have h1 := ih (by omega)
    have h2 := num_ne (n / 10)
    rcases hx : numL (n / 10) with _ | ⟨x, l⟩
    · exact absurd hx h2
    · rw [hx] at h1
      exact h1
theorem num_canon (n : Nat) : Canon (numL n) := by
  refine ⟨num_ne n, num_digs n, fun h => ?_⟩
  by_cases h0 : n = 0
  · subst h0; rfl
  · exact absurd h (num_head n h0)
theorem val_num (n : Nat) : valS (numL n) = n := by
  induction n using num_ind with
  | small n h =>
    rw [num_small h]
    show 0 * 10 + (((48 + n : Nat) : Int) - 48).toNat = n
    omega
  | big n h ih =>
    rw [num_big h, val_snoc, ih]
    omega
theorem val_lt {s : List Int} (h : Digs s) : valS s < 10 ^ s.length := by
  induction s with
  | nil => simp [valS]
  | cons c s ih =>
    have h1 := ih fun x hx => h x (by simp [hx])
    have h2 := h c (by simp)
    have h3 : (c - 48).toNat ≤ 9 := by omega
    rw [val_cons, List.length_cons, Nat.pow_succ]
    have h4 : (c - 48).toNat * 10 ^ s.length ≤ 9 * 10 ^ s.length := Nat.mul_le_mul_right _ h3
    omega
/-- A number's first digit counts. -/
theorem val_ge {s : List Int} (h : Canon s) (h1 : valS s ≠ 0) : 10 ^ (s.length - 1) ≤ valS s := by
  obtain ⟨h0, hd, hz⟩ := h
  rcases s with _ | ⟨c, s⟩
  · exact absurd rfl h0
  · rw [List.length_cons, Nat.add_sub_cancel]
    rw [val_cons] at h1 ⊢
    have h2 := hd c (by simp)
    by_cases hc : c = 48
    · have h3 := hz (by rw [hc]; rfl)
      rw [List.length_cons] at h3
      have h4 : s = [] := List.eq_nil_of_length_eq_zero (by omega)
      subst h4
      rw [hc] at h1
      exact absurd rfl h1
    · have h3 : 1 ≤ (c - 48).toNat := by omega
      have h4 : 1 * 10 ^ s.length ≤ (c - 48).toNat * 10 ^ s.length := Nat.mul_le_mul_right _ h3
      omega
/-- How long a number is. -/
theorem num_len {n k : Nat} (hk : 1 ≤ k) : (numL n).length ≤ k ↔ n < 10 ^ k := by
  constructor
  · intro h
    have h1 := val_lt (num_digs n)
    rw [val_num] at h1
    exact Nat.lt_of_lt_of_le h1 (Nat.pow_le_pow_right (by omega) h)
  · intro h
    by_cases h0 : n = 0
    · subst h0; exact hk
    · have h1 := val_ge (num_canon n) (by rw [val_num]; exact h0)
      rw [val_num] at h1
      rcases Nat.lt_or_ge k (numL n).length with h2 | h2
      · have h3 : 10 ^ k ≤ 10 ^ ((numL n).length - 1) := Nat.pow_le_pow_right (by omega) (by omega)
        omega
      · exact h2
end Go.Proofs.YtelabgonpmafpaaGreatDoor
namespace Go.Proofs.YtelabgonpmafpaaGreatDoor

/-- Digits as they should be. -/
def Grp (b : Int) (l : List Int) : Prop := ∀ g ∈ l, 0 ≤ g ∧ g < b
theorem Grp.cons {b : Int} {l : List Int} (h : Grp b l) {g : Int} (hg : 0 ≤ g ∧ g < b) : Grp b (g :: l) := fun x hx => by
  rcases List.mem_cons.1 hx with h1 | h1
  · rw [h1]; exact hg
  · exact h x h1
theorem Grp.at {b : Int} {l : List Int} (h : Grp b l) {k : Nat} (hk : k < l.length) : 0 ≤ l.getD k 0 ∧ l.getD k 0 < b := by
  rw [List.getD_eq_getElem?_getD, List.getElem?_eq_getElem hk]
  exact h _ (List.getElem_mem hk)
/-! ### Settled: what is carried and borrowed -/

/-! ### Six digits of a group -/

/-! ### Divided, the highest first -/
end Go.Proofs.YtelabgonpmafpaaGreatDoor
namespace Go.Proofs.YtelabgonpmafpaaGreatDoor
open Go

/-- A text's bytes. -/
def bs (s : ByteArray) : List Int := s.data.toList.map fun b => ((b.toNat : Nat) : Int)
theorem bs_bytes (s : ByteArray) : ∀ c ∈ bs s, 0 ≤ c ∧ c < 256 := fun c hc => by
  obtain ⟨b, _, rfl⟩ := List.mem_map.1 hc
  have := b.toNat_lt
  omega
theorem bs_len (s : ByteArray) : (bs s).length = s.size := by unfold bs; rw [List.length_map, Array.length_toList]; rfl
theorem bs_str {l : List Int} (h : ∀ c ∈ l, 0 ≤ c ∧ c < 256) : bs (strOfNums l) = l := by
  unfold bs
  rw [strOfNums_data, List.map_map]
  have e : ∀ c ∈ l, ((fun b : UInt8 => ((b.toNat : Nat) : Int)) ∘ fun n : Int => UInt8.ofNat n.toNat) c = c := fun c hc => by
    have := h c hc
    simp only [Function.comp_apply]
    rw [UInt8.toNat_ofNat', Nat.mod_eq_of_lt (by omega)]
    omega
  rw [List.map_congr_left e, List.map_id']
theorem str_bs (s : ByteArray) : strOfNums (bs s) = s := by
  unfold bs strOfNums
  rw [List.map_map]
  have e : ((fun n : Int => UInt8.ofNat n.toNat) ∘ fun b : UInt8 => ((b.toNat : Nat) : Int)) = id := by
    funext b
    simp
  rw [e, List.map_id]
theorem bs_inj {s t : ByteArray} (h : bs s = bs t) : s = t := by rw [← str_bs s, ← str_bs t, h]
/-- A number's text. -/
def txt (n : Nat) : ByteArray := strOfNums (numL n)
theorem digs_bytes {l : List Int} (h : Digs l) : ∀ c ∈ l, 0 ≤ c ∧ c < 256 := fun c hc => by have := h c hc; omega
theorem bs_txt (n : Nat) : bs (txt n) = numL n := bs_str (digs_bytes (num_digs n))
/-- What a text is worth. -/
def val (s : ByteArray) : Nat := valS (bs s)
/-- The greatest number, and one. -/
def top : Nat := 10 ^ 800
/-- Whether a text is a number. -/
def rightT (l : List Int) : Bool := !l.isEmpty && (decide (l.length ≤ 800) && ((l.getD 0 0 != 48 || l.length == 1) && l.all fun c => decide (48 ≤ c) && decide (c ≤ 57)))
theorem right_iff (l : List Int) : rightT l = true ↔ RightS l := by
  unfold rightT RightS Canon Digs
  simp only [Bool.and_eq_true, Bool.or_eq_true, Bool.not_eq_true', List.isEmpty_eq_false_iff, decide_eq_true_eq, bne_iff_ne, beq_iff_eq, List.all_eq_true]
  constructor
  · rintro ⟨h0, h1, h2, h3⟩
    refine ⟨⟨h0, h3, fun h => ?_⟩, h1⟩
    rcases h2 with h2 | h2
    · exact absurd h h2
    · exact h2
  · rintro ⟨⟨h0, h3, h2⟩, h1⟩
    refine ⟨h0, h1, ?_, h3⟩
    by_cases h : l.getD 0 0 = 48
    · exact .inr (h2 h)
    · exact .inl h
/-- A text is a number. -/
def rt (s : ByteArray) : Bool := rightT (bs s)
theorem rt_iff (s : ByteArray) : rt s = true ↔ RightS (bs s) := right_iff _
theorem rt_not {s : ByteArray} (h : ¬ RightS (bs s)) : rt s = false := by
  cases h1 : rt s with
  | false => rfl
  | true => exact absurd ((rt_iff s).1 h1) h
theorem txt_size {n : Nat} : (txt n).size = (numL n).length := by unfold txt; rw [strOfNums_size]
/-- No text. -/
def noS : ByteArray := ⟨#[]⟩
theorem rt_size {a : ByteArray} (h : rt a = true) : 0 < a.size ∧ a.size ≤ 800 := by
  have h1 := (rt_iff a).1 h
  have h2 := List.length_pos_iff.2 h1.1.1
  rw [← bs_len]
  exact ⟨h2, h1.2⟩
end Go.Proofs.YtelabgonpmafpaaGreatDoor
