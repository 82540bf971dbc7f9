/-
  Natural numbers as digits, as plain lists of bytes: which are numbers, what they are worth, the one form of a number, and how two stand. No program is named here.
-/
namespace Go.Proofs.YtgfnohgpmmaocaaDoor

/-- Digits. -/
def Digs (s : List Int) : Prop := ∀ c ∈ s, 48 ≤ c ∧ c ≤ 57
/-- What digits are worth, the highest first. -/
def valS (s : List Int) : Nat := s.foldl (fun n c => n * 10 + (c - 48).toNat) 0
/-- A number's form: a digit at least, and no needless 0 ahead. -/
def Canon (s : List Int) : Prop := s ≠ [] ∧ Digs s ∧ (s.getD 0 0 = 48 → s.length = 1)
/-- A number. -/
def RightS (s : List Int) : Prop := Canon s ∧ s.length ≤ 800
/-- The digits of n, k more at most than one. -/
def numF : Nat → Nat → List Int
  | 0, n => [((48 + n % 10 : Nat) : Int)]
  | k + 1, n => if n < 10 then [((48 + n : Nat) : Int)] else numF k (n / 10) ++ [((48 + n % 10 : Nat) : Int)]
/-- THE ONE FORM OF A NUMBER. -/
def numL (n : Nat) : List Int := numF n n

theorem numF_more (k : Nat) : ∀ n m, n ≤ k → k ≤ m → numF m n = numF k n := by
  induction k with
  | zero =>
    intro n m h _
    obtain rfl : n = 0 := by omega
    cases m with
    | zero => rfl
    | succ m => rfl
  | succ k ih =>
    intro n m h hm
    obtain ⟨m, rfl⟩ : ∃ m', m = m' + 1 := ⟨m - 1, by omega⟩
    rw [numF, numF]
    by_cases h1 : n < 10
    · rw [if_pos h1, if_pos h1]
    · rw [if_neg h1, if_neg h1, ih (n / 10) m (by omega) (by omega)]
theorem num_small {n : Nat} (h : n < 10) : numL n = [((48 + n : Nat) : Int)] := by
  unfold numL
  cases n with
  | zero => rfl
  | succ n => rw [numF, if_pos h]
theorem num_big {n : Nat} (h : 10 ≤ n) : numL n = numL (n / 10) ++ [((48 + n % 10 : Nat) : Int)] := by
  unfold numL
  obtain ⟨k, rfl⟩ : ∃ k, n = k + 1 := ⟨n - 1, by omega⟩
  rw [numF, if_neg (by omega), numF_more ((k + 1) / 10) ((k + 1) / 10) k (Nat.le_refl _) (by omega)]
theorem num_ind {M : Nat → Prop} (small : ∀ n, n < 10 → M n) (big : ∀ n, 10 ≤ n → M (n / 10) → M n) (n : Nat) : M n := by
  have h : ∀ k n, n ≤ k → M n := by
    intro k
    induction k with
    | zero => intro n h; exact small n (by omega)
    | succ k ih =>
      intro n h
      by_cases h1 : n < 10
      · exact small n h1
      · exact big n (by omega) (ih _ (by omega))
  exact h n n (Nat.le_refl _)

theorem val_nil : valS [] = 0 := rfl
theorem val_snoc (s : List Int) (c : Int) : valS (s ++ [c]) = valS s * 10 + (c - 48).toNat := by
  unfold valS
  rw [List.foldl_append]
  rfl
theorem fold_start (s : List Int) : ∀ n, s.foldl (fun n c => n * 10 + (c - 48).toNat) n = n * 10 ^ s.length + valS s := by
  unfold valS
  induction s with
  | nil => intro n; simp
  | cons c s ih =>
    intro n
    rw [List.foldl_cons, List.foldl_cons, ih, ih (0 * 10 + (c - 48).toNat), List.length_cons, Nat.pow_succ]
    rw [Nat.zero_mul, Nat.zero_add, Nat.add_mul, Nat.add_assoc, Nat.mul_assoc, Nat.mul_comm 10]
theorem val_append (s t : List Int) : valS (s ++ t) = valS s * 10 ^ t.length + valS t := by
  show (s ++ t).foldl _ 0 = _
  rw [List.foldl_append, fold_start]
  rfl
theorem val_cons (c : Int) (s : List Int) : valS (c :: s) = (c - 48).toNat * 10 ^ s.length + valS s := by
  have h := val_append [c] s
  rw [List.singleton_append] at h
  rw [h]
  show (0 * 10 + (c - 48).toNat) * _ + _ = _
  rw [Nat.zero_mul, Nat.zero_add]

theorem digs_append {s t : List Int} (h1 : Digs s) (h2 : Digs t) : Digs (s ++ t) := fun c hc => by
  rcases List.mem_append.1 hc with h | h
  · exact h1 c h
  · exact h2 c h
theorem digs_one {n : Nat} (h : n < 10) : Digs [((48 + n : Nat) : Int)] := by
  intro c hc
  simp only [List.mem_cons, List.not_mem_nil, or_false] at hc
  omega
theorem num_ne (n : Nat) : numL n ≠ [] := by
  by_cases h : n < 10
  · rw [num_small h]; simp
  · rw [num_big (by omega)]; simp
theorem num_digs (n : Nat) : Digs (numL n) := by
  induction n using num_ind with
  | small n h => rw [num_small h]; exact digs_one h
  | big n h ih => rw [num_big h]; exact digs_append ih (digs_one (by omega))
theorem num_head (n : Nat) : n ≠ 0 → (numL n).getD 0 0 ≠ 48 := by
  induction n using num_ind with
  | small n h =>
    intro h0
    rw [num_small h]
    show ((48 + n : Nat) : Int) ≠ 48
    omega
  | big n h ih =>
    intro _
    rw [num_big h]
    have h1 := ih (by omega)
    have h2 := num_ne (n / 10)
    rcases hx : numL (n / 10) with _ | ⟨x, l⟩
    · exact absurd hx h2
    · rw [hx] at h1
      exact h1
theorem num_canon (n : Nat) : Canon (numL n) := by
  refine ⟨num_ne n, num_digs n, fun h => ?_⟩
  by_cases h0 : n = 0
  · subst h0; rfl
  · exact absurd h (num_head n h0)
theorem val_num (n : Nat) : valS (numL n) = n := by
  induction n using num_ind with
  | small n h =>
    rw [num_small h]
    show 0 * 10 + (((48 + n : Nat) : Int) - 48).toNat = n
    omega
  | big n h ih =>
    rw [num_big h, val_snoc, ih]
    omega
theorem num_inj {m n : Nat} (h : numL m = numL n) : m = n := by rw [← val_num m, ← val_num n, h]

theorem val_lt {s : List Int} (h : Digs s) : valS s < 10 ^ s.length := by
  induction s with
  | nil => simp [valS]
  | cons c s ih =>
    have h1 := ih fun x hx => h x (by simp [hx])
    have h2 := h c (by simp)
    have h3 : (c - 48).toNat ≤ 9 := by omega
    rw [val_cons, List.length_cons, Nat.pow_succ]
    have h4 : (c - 48).toNat * 10 ^ s.length ≤ 9 * 10 ^ s.length := Nat.mul_le_mul_right _ h3
    omega
/-- A number's first digit counts. -/
theorem val_ge {s : List Int} (h : Canon s) (h1 : valS s ≠ 0) : 10 ^ (s.length - 1) ≤ valS s := by
  obtain ⟨h0, hd, hz⟩ := h
  rcases s with _ | ⟨c, s⟩
  · exact absurd rfl h0
  · rw [List.length_cons, Nat.add_sub_cancel]
    rw [val_cons] at h1 ⊢
    have h2 := hd c (by simp)
    by_cases hc : c = 48
    · have h3 := hz (by rw [hc]; rfl)
      rw [List.length_cons] at h3
      have h4 : s = [] := List.eq_nil_of_length_eq_zero (by omega)
      subst h4
      rw [hc] at h1
      exact absurd rfl h1
    · have h3 : 1 ≤ (c - 48).toNat := by omega
      have h4 : 1 * 10 ^ s.length ≤ (c - 48).toNat * 10 ^ s.length := Nat.mul_le_mul_right _ h3
      omega
/-- THE FORM IS ONE. -/
theorem num_snoc (s : List Int) (c : Int) (hs : s = [] ∨ (Canon s ∧ valS s ≠ 0)) (hc : 48 ≤ c ∧ c ≤ 57) (ih : s ≠ [] → numL (valS s) = s) : numL (valS (s ++ [c])) = s ++ [c] := by
  rw [val_snoc]
  rcases hs with rfl | ⟨h1, h2⟩
  · rw [num_small (by show 0 * 10 + _ < 10; omega)]
    show [((48 + (0 * 10 + (c - 48).toNat) : Nat) : Int)] = [c]
    simp only [List.cons.injEq, and_true]
    omega
  · rw [num_big (by omega), show (valS s * 10 + (c - 48).toNat) / 10 = valS s from by omega, ih h1.1, show (valS s * 10 + (c - 48).toNat) % 10 = (c - 48).toNat from by omega]
    congr 1
    simp only [List.cons.injEq, and_true]
    omega
theorem canon_front {s : List Int} {c : Int} (h : Canon (s ++ [c])) (h0 : s ≠ []) : Canon s ∧ valS s ≠ 0 := by
  obtain ⟨_, hd, hz⟩ := h
  have hp := List.length_pos_iff.2 h0
  have hs : Digs s := fun x hx => hd x (by simp [hx])
  have hh : (s ++ [c]).getD 0 0 = s.getD 0 0 := by
    rcases s with _ | ⟨x, l⟩
    · exact absurd rfl h0
    · rfl
  have hne : s.getD 0 0 ≠ 48 := by
    intro h1
    have h2 := hz (by rw [hh]; exact h1)
    rw [List.length_append, List.length_cons, List.length_nil] at h2
    omega
  refine ⟨⟨h0, hs, fun h1 => absurd h1 hne⟩, ?_⟩
  rcases s with _ | ⟨x, l⟩
  · exact absurd rfl h0
  · have h2 : (48 : Int) ≤ x ∧ x ≤ 57 := hs x (by simp)
    have h3 : x ≠ 48 := hne
    rw [val_cons]
    have h4 : 1 * 10 ^ l.length ≤ (x - 48).toNat * 10 ^ l.length := Nat.mul_le_mul_right _ (by omega)
    have h5 : 0 < 10 ^ l.length := Nat.pow_pos (by omega)
    omega
theorem num_val_up (k : Nat) : ∀ s : List Int, s.length ≤ k → Canon s → numL (valS s) = s := by
  induction k with
  | zero =>
    intro s h hc
    exact absurd (List.eq_nil_of_length_eq_zero (by omega)) hc.1
  | succ k ih =>
    intro s h hc
    obtain ⟨t, c, rfl⟩ : ∃ t c, s = t ++ [c] := ⟨s.dropLast, s.getLast hc.1, (List.dropLast_concat_getLast hc.1).symm⟩
    rw [List.length_append, List.length_cons, List.length_nil] at h
    refine num_snoc t c ?_ (hc.2.1 c (by simp)) fun h0 => ih t (by omega) (canon_front hc h0).1
    by_cases h0 : t = []
    · exact .inl h0
    · exact .inr (canon_front hc h0)
theorem num_val {s : List Int} (h : Canon s) : numL (valS s) = s := num_val_up s.length s (Nat.le_refl _) h
theorem canon_inj {s t : List Int} (h1 : Canon s) (h2 : Canon t) (h : valS s = valS t) : s = t := by rw [← num_val h1, ← num_val h2, h]
/-- How long a number is. -/
theorem num_len {n k : Nat} (hk : 1 ≤ k) : (numL n).length ≤ k ↔ n < 10 ^ k := by
  constructor
  · intro h
    have h1 := val_lt (num_digs n)
    rw [val_num] at h1
    exact Nat.lt_of_lt_of_le h1 (Nat.pow_le_pow_right (by omega) h)
  · intro h
    by_cases h0 : n = 0
    · subst h0; exact hk
    · have h1 := val_ge (num_canon n) (by rw [val_num]; exact h0)
      rw [val_num] at h1
      rcases Nat.lt_or_ge k (numL n).length with h2 | h2
      · have h3 : 10 ^ k ≤ 10 ^ ((numL n).length - 1) := Nat.pow_le_pow_right (by omega) (by omega)
        omega
      · exact h2
theorem right_num {n : Nat} : RightS (numL n) ↔ n < 10 ^ 800 := ⟨fun h => (num_len (k := 800) (by omega)).1 h.2, fun h => ⟨num_canon n, (num_len (k := 800) (by omega)).2 h⟩⟩

/-- How two numbers stand: by their lengths .. -/
theorem len_lt {s t : List Int} (h0 : s ≠ []) (h1 : Digs s) (h2 : Canon t) (h : s.length < t.length) : valS s < valS t := by
  have h3 := val_lt h1
  have hp := List.length_pos_iff.2 h0
  have h4 : valS t ≠ 0 := by
    intro h4
    have h6 := num_val h2
    rw [h4] at h6
    have h7 : t.length = 1 := by rw [← h6]; rfl
    omega
  have h5 := val_ge h2 h4
  have h6 : 10 ^ s.length ≤ 10 ^ (t.length - 1) := Nat.pow_le_pow_right (by omega) (by omega)
  omega
/-- .. and, where these are the same, by their first unlike digit. -/
theorem head_lt {c d : Int} {s t : List Int} (hs : Digs s) (hl : s.length = t.length) (hc : 48 ≤ c ∧ c ≤ 57) (hd : 48 ≤ d ∧ d ≤ 57) (h : c < d) : valS (c :: s) < valS (d :: t) := by
  rw [val_cons, val_cons, hl]
  have h1 := val_lt hs
  rw [hl] at h1
  have h2 : ((c - 48).toNat + 1) * 10 ^ t.length ≤ (d - 48).toNat * 10 ^ t.length := Nat.mul_le_mul_right _ (by omega)
  rw [Nat.add_mul, Nat.one_mul] at h2
  omega
theorem head_same {c : Int} {s t : List Int} (hl : s.length = t.length) : valS (c :: s) < valS (c :: t) ↔ valS s < valS t := by
  rw [val_cons, val_cons, hl]
  omega
/-- Digits one behind the other, the lowest first, each as great as it may be. -/
def lowV : List Nat → Nat
  | [] => 0
  | d :: l => d + 10 * lowV l
theorem low_append (l m : List Nat) : lowV (l ++ m) = lowV l + 10 ^ l.length * lowV m := by
  induction l with
  | nil => simp [lowV]
  | cons d l ih =>
    rw [List.cons_append]
    show d + 10 * lowV (l ++ m) = d + 10 * lowV l + 10 ^ (l.length + 1) * lowV m
    rw [ih, Nat.pow_succ, Nat.mul_add, Nat.mul_comm (10 ^ l.length) 10, Nat.mul_assoc]
    omega
/-- A number's digits, the lowest first, are worth it. -/
theorem low_rev (s : List Int) : lowV (s.reverse.map fun c => (c - 48).toNat) = valS s := by
  induction s with
  | nil => rfl
  | cons c s ih =>
    rw [List.reverse_cons, List.map_append, low_append, ih, val_cons, List.length_map, List.length_reverse]
    show valS s + 10 ^ s.length * ((c - 48).toNat + 10 * 0) = _
    rw [Nat.mul_zero, Nat.add_zero, Nat.mul_comm]
    omega
/-- Zeros at the high end count for nothing. -/
theorem low_zeros (l : List Nat) (k : Nat) : lowV (l ++ List.replicate k 0) = lowV l := by
  rw [low_append]
  have h : lowV (List.replicate k 0) = 0 := by
    induction k with
    | zero => rfl
    | succ k ih => rw [List.replicate_succ]; show 0 + 10 * _ = 0; rw [ih]
  rw [h, Nat.mul_zero, Nat.add_zero]

/-- What bytes are worth, the highest first. -/
def bytV (b : List Int) : Nat := b.foldl (fun n c => n * 256 + c.toNat) 0
def byF : Nat → Nat → List Int
  | 0, _ => []
  | k + 1, n => if n = 0 then [] else byF k (n / 256) ++ [((n % 256 : Nat) : Int)]
/-- A number's bytes, as few as can be. -/
def byL (n : Nat) : List Int := byF n n
theorem byF_more (k : Nat) : ∀ n m, n ≤ k → k ≤ m → byF m n = byF k n := by
  induction k with
  | zero =>
    intro n m h _
    obtain rfl : n = 0 := by omega
    cases m with
    | zero => rfl
    | succ m => rfl
  | succ k ih =>
    intro n m h hm
    obtain ⟨m, rfl⟩ : ∃ m', m = m' + 1 := ⟨m - 1, by omega⟩
    rw [byF, byF]
    by_cases h1 : n = 0
    · rw [if_pos h1, if_pos h1]
    · rw [if_neg h1, if_neg h1, ih (n / 256) m (by omega) (by omega)]
theorem by_zero : byL 0 = [] := rfl
theorem by_some {n : Nat} (h : n ≠ 0) : byL n = byL (n / 256) ++ [((n % 256 : Nat) : Int)] := by
  unfold byL
  obtain ⟨k, rfl⟩ : ∃ k, n = k + 1 := ⟨n - 1, by omega⟩
  rw [byF, if_neg (by omega), byF_more ((k + 1) / 256) ((k + 1) / 256) k (Nat.le_refl _) (by omega)]
theorem by_ind {M : Nat → Prop} (zero : M 0) (some : ∀ n, n ≠ 0 → M (n / 256) → M n) (n : Nat) : M n := by
  have h : ∀ k n, n ≤ k → M n := by
    intro k
    induction k with
    | zero =>
      intro n h
      obtain rfl : n = 0 := by omega
      exact zero
    | succ k ih =>
      intro n h
      by_cases h1 : n = 0
      · rw [h1]; exact zero
      · exact some n h1 (ih _ (by omega))
  exact h n n (Nat.le_refl _)
theorem byt_snoc (b : List Int) (c : Int) : bytV (b ++ [c]) = bytV b * 256 + c.toNat := by
  unfold bytV
  rw [List.foldl_append]
  rfl
theorem byt_by (n : Nat) : bytV (byL n) = n := by
  induction n using by_ind with
  | zero => rfl
  | some n h ih => rw [by_some h, byt_snoc, ih]; omega
theorem by_bytes (n : Nat) : ∀ c ∈ byL n, 0 ≤ c ∧ c < 256 := by
  induction n using by_ind with
  | zero => intro c hc; cases hc
  | some n h ih =>
    rw [by_some h]
    intro c hc
    rcases List.mem_append.1 hc with h1 | h1
    · exact ih c h1
    · simp only [List.mem_cons, List.not_mem_nil, or_false] at h1
      omega
theorem byt_zero (b : List Int) : bytV (0 :: b) = bytV b := rfl
/-- Bytes whose first one is not 0 are the number's. -/
theorem byt_pos {b : List Int} (hb : ∀ c ∈ b, 0 ≤ c ∧ c < 256) (h0 : b ≠ []) (h : b.getD 0 0 ≠ 0) : bytV b ≠ 0 := by
  have up : ∀ (k : Nat) (l : List Int), 0 < k → 0 < l.foldl (fun n c => n * 256 + c.toNat) k := by
    intro k l
    induction l generalizing k with
    | nil => intro h; exact h
    | cons c l ih => intro h; exact ih (k * 256 + c.toNat) (by omega)
  rcases b with _ | ⟨c, l⟩
  · exact absurd rfl h0
  · have h1 := hb c (by simp)
    have h2 : c ≠ 0 := h
    have h3 : 0 < bytV (c :: l) := up (0 * 256 + c.toNat) l (by omega)
    omega
theorem by_byt_up (k : Nat) : ∀ b : List Int, b.length ≤ k → (∀ c ∈ b, 0 ≤ c ∧ c < 256) → (b ≠ [] → b.getD 0 0 ≠ 0) → byL (bytV b) = b := by
  induction k with
  | zero =>
    intro b h _ _
    obtain rfl : b = [] := List.eq_nil_of_length_eq_zero (by omega)
    rfl
  | succ k ih =>
    intro b h hb hh
    by_cases h0 : b = []
    · subst h0; rfl
    · obtain ⟨t, c, rfl⟩ : ∃ t c, b = t ++ [c] := ⟨b.dropLast, b.getLast h0, (List.dropLast_concat_getLast h0).symm⟩
      have hc := hb c (by simp)
      rw [List.length_append, List.length_cons, List.length_nil] at h
      have hne := byt_pos hb h0 (hh h0)
      rw [by_some hne, byt_snoc, show (bytV t * 256 + c.toNat) / 256 = bytV t from by omega, show (bytV t * 256 + c.toNat) % 256 = c.toNat from by omega]
      have ht : byL (bytV t) = t := ih t (by omega) (fun x hx => hb x (by simp [hx])) (fun h1 => by
        have h2 := hh h0
        rcases t with _ | ⟨x, l⟩
        · exact absurd rfl h1
        · exact h2)
      rw [ht]
      congr 1
      simp only [List.cons.injEq, and_true]
      omega
theorem by_byt {b : List Int} (hb : ∀ c ∈ b, 0 ≤ c ∧ c < 256) (h : b ≠ [] → b.getD 0 0 ≠ 0) : byL (bytV b) = b := by_byt_up b.length b (Nat.le_refl _) hb h

/-- Digits, the lowest first, as a text, the highest first. -/
def upL (o : List Nat) : List Int := o.reverse.map fun d => ((48 + d : Nat) : Int)
theorem up_nil : upL [] = [] := rfl
theorem up_cons (d : Nat) (o : List Nat) : upL (d :: o) = upL o ++ [((48 + d : Nat) : Int)] := by simp [upL]
theorem up_snoc (o : List Nat) (d : Nat) : upL (o ++ [d]) = ((48 + d : Nat) : Int) :: upL o := by simp [upL]
theorem up_len (o : List Nat) : (upL o).length = o.length := by simp [upL]
theorem up_val (o : List Nat) : valS (upL o) = lowV o := by
  induction o with
  | nil => rfl
  | cons d o ih =>
    rw [up_cons, val_snoc, ih]
    show _ = d + 10 * lowV o
    omega
theorem up_digs {o : List Nat} (h : ∀ d ∈ o, d < 10) : Digs (upL o) := by
  intro c hc
  obtain ⟨d, hd, rfl⟩ := List.mem_map.1 hc
  have := h d (List.mem_reverse.1 hd)
  omega
/-- Digits whose last one is not 0, or that are one alone, are a number. -/
theorem up_num {o : List Nat} (h : ∀ d ∈ o, d < 10) (h0 : o ≠ []) (hl : o.length = 1 ∨ o.getLast h0 ≠ 0) : upL o = numL (lowV o) := by
  refine canon_inj ?_ (num_canon _) (by rw [up_val, val_num])
  refine ⟨fun h1 => h0 ?_, up_digs h, fun h1 => ?_⟩
  · have := congrArg List.length h1
    rw [up_len, List.length_nil] at this
    exact List.eq_nil_of_length_eq_zero this
  · rw [up_len]
    rcases hl with h2 | h2
    · exact h2
    · have e := List.dropLast_concat_getLast h0
      rw [← e, up_snoc] at h1
      have h3 : ((48 + o.getLast h0 : Nat) : Int) = 48 := h1
      omega
/-- A 0 that is the last of several may go. -/
theorem low_trim (o : List Nat) : lowV (o ++ [0]) = lowV o := by
  have h := low_zeros o 1
  exact h
/-- A number's digits, the lowest first, and back. -/
theorem up_down {s : List Int} (h : Digs s) : upL (s.reverse.map fun c => (c - 48).toNat) = s := by
  unfold upL
  rw [← List.map_reverse, List.reverse_reverse, List.map_map]
  have e : ∀ c ∈ s, ((fun d => ((48 + d : Nat) : Int)) ∘ fun c : Int => (c - 48).toNat) c = c := fun c hc => by
    have := h c hc
    simp only [Function.comp_apply]
    omega
  rw [List.map_congr_left e, List.map_id']
end Go.Proofs.YtgfnohgpmmaocaaDoor
