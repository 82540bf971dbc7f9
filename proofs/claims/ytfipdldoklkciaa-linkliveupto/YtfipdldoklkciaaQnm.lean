/-
  Numbers in bytes, plainly: the short form and the wide one, and how each is read.
-/
import Derived.Test.YtfipdldoklkciaaSame
namespace Go.Proofs.Ytfipdldoklkciaa

/-- In how many groups of seven bits a number stands, none for 0 (with a bound). -/
def c0 : Nat → Nat → Nat
  | 0, _ => 0
  | f + 1, r => if r = 0 then 0 else 1 + c0 f (r / 128)

theorem c0_spec : ∀ (f r : Nat), r < 128 ^ f → ∀ i, i < c0 f r ↔ r / 128 ^ i ≠ 0 := by
  intro f
  induction f with
  | zero =>
    intro r hr i
    have h0 : r = 0 := by simpa using hr
    subst h0
    simp [c0]
  | succ f ih =>
    intro r hr i
    by_cases h0 : r = 0
    · subst h0; simp [c0]
    · have h1 : r / 128 < 128 ^ f := by rw [Nat.div_lt_iff_lt_mul (by decide), ← Nat.pow_succ]; exact hr
      simp only [c0, if_neg h0]
      cases i with
      | zero => simp [h0]; omega
      | succ i =>
        have h2 := ih (r / 128) h1 i
        rw [Nat.div_div_eq_div_mul, Nat.mul_comm, ← Nat.pow_succ] at h2
        rw [← h2]
        omega

/-- In how many groups of seven bits a number of 64 bits stands. -/
def cg (n : Nat) : Nat := 1 + c0 9 (n / 128)

theorem cg_spec (n : Nat) (hn : n < 18446744073709551616) (i : Nat) : i + 1 < cg n ↔ n / 128 ^ (i + 1) ≠ 0 := by
  have h := c0_spec 9 (n / 128) (by omega) i
  rw [Nat.div_div_eq_div_mul, Nat.mul_comm, ← Nat.pow_succ] at h
  rw [← h]
  unfold cg
  omega

theorem cg_pos (n : Nat) : 1 ≤ cg n := by unfold cg; omega

theorem cg_le (n : Nat) (hn : n < 18446744073709551616) : cg n ≤ 10 := by
  rcases Nat.lt_or_ge 10 (cg n) with h | h
  · have := (cg_spec n hn 9).1 h
    exact absurd (Nat.div_eq_of_lt (by omega)) this
  · exact h

theorem cg_top (n : Nat) (hn : n < 18446744073709551616) : n / 128 ^ cg n = 0 := by
  have h1 := cg_pos n
  obtain ⟨i, hi⟩ : ∃ i, cg n = i + 1 := ⟨cg n - 1, by omega⟩
  have h2 := cg_spec n hn i
  rw [hi]
  rcases Nat.eq_zero_or_pos (n / 128 ^ (i + 1)) with h3 | h3
  · exact h3
  · have := h2.2 (by omega)
    omega

/-- The lower i + 1 groups of a number, as bytes of its short form. -/
def tl (n : Nat) : Nat → List Int
  | 0 => [((n % 128 : Nat) : Int)]
  | i + 1 => ((128 + n / 128 ^ (i + 1) % 128 : Nat) : Int) :: tl n i

/-- A NUMBER's SHORT FORM. -/
def shortL (n : Nat) : List Int := tl n (cg n - 1)

theorem tl_length (n i : Nat) : (tl n i).length = i + 1 := by
  induction i with
  | zero => rfl
  | succ i ih => simp [tl, ih]

theorem tl_bytes (n i : Nat) : ∀ c ∈ tl n i, 0 ≤ c ∧ c < 256 := by
  induction i with
  | zero => intro c hc; simp [tl] at hc; omega
  | succ i ih =>
    intro c hc
    simp only [tl, List.mem_cons] at hc
    rcases hc with rfl | hc
    · omega
    · exact ih c hc

theorem shortL_length (n : Nat) : (shortL n).length = cg n := by
  rw [shortL, tl_length]
  have := cg_pos n
  omega

/-- The short form as the document's own answer builds it: every group of ten that is not ahead of the number. -/
def rl (n : Nat) : Nat → List Int
  | 0 => [((n % 128 : Nat) : Int)]
  | i + 1 => if n / 128 ^ (i + 1) = 0 then rl n i else ((128 + n / 128 ^ (i + 1) % 128 : Nat) : Int) :: rl n i

theorem rl_eq (n : Nat) (hn : n < 18446744073709551616) (i : Nat) : rl n i = tl n (min i (cg n - 1)) := by
  induction i with
  | zero => simp [rl, tl]
  | succ i ih =>
    have h := cg_spec n hn i
    by_cases h0 : n / 128 ^ (i + 1) = 0
    · rw [rl, if_pos h0, ih]
      have h1 : ¬ (i + 1 < cg n) := fun h2 => h.1 h2 h0
      congr 1
      omega
    · have h1 := h.2 h0
      rw [rl, if_neg h0, ih, show min (i + 1) (cg n - 1) = min i (cg n - 1) + 1 from by omega, show min i (cg n - 1) = i from by omega]
      rfl

theorem rl_short (n : Nat) (hn : n < 18446744073709551616) : rl n 9 = shortL n := by
  rw [rl_eq n hn, shortL]
  have := cg_le n hn
  congr 1
  omega

theorem cg_mono {a b : Nat} (hb : b < 18446744073709551616) (h : a ≤ b) : cg a ≤ cg b := by
  have ha := cg_pos b
  rcases Nat.lt_or_ge (cg b) (cg a) with h1 | h1
  · obtain ⟨i, hi⟩ : ∃ i, cg b = i + 1 := ⟨cg b - 1, by omega⟩
    rw [hi] at h1
    have h2 := (cg_spec a (by omega) i).1 h1
    have h3 := cg_top b hb
    rw [hi] at h3
    have h4 : a / 128 ^ (i + 1) ≤ b / 128 ^ (i + 1) := Nat.div_le_div_right h
    rw [h3] at h4
    exact absurd (Nat.le_antisymm h4 (Nat.zero_le _)) h2
  · exact h1

/-- HOW A SHORT NUMBER IS READ: the kind (0: it is there; 3: a byte is missing; 5: a byte that may not stand there), the number, the place behind it or of the fault; i bytes, which are n, have been read. -/
def rdS : List Int → Nat → Nat → Nat × Nat × Nat
  | [], i, _ => (3, 0, i)
  | x :: l, i, n =>
    if (i = 0 ∧ x = 128) ∨ (i = 9 ∧ (128 ≤ x ∨ 144115188075855872 ≤ n)) then (5, 0, i)
    else if x < 128 then (0, n * 128 + x.toNat, i + 1)
    else rdS l (i + 1) (n * 128 + (x - 128).toNat)

theorem rdS_lt : ∀ (l : List Int) (i n : Nat), (∀ c ∈ l, 0 ≤ c ∧ c < 256) → i ≤ 9 → n < 128 ^ i → (rdS l i n).2.1 < 18446744073709551616 := by
  intro l
  induction l with
  | nil => intro i n _ _ _; simp [rdS]
  | cons x l ih =>
    intro i n hz hi hn
    have hx := hz x (by simp)
    unfold rdS
    by_cases hw : (i = 0 ∧ x = 128) ∨ (i = 9 ∧ (128 ≤ x ∨ 144115188075855872 ≤ n))
    · simp [hw]
    · rw [if_neg hw]
      by_cases h1 : x < 128
      · rw [if_pos h1]
        have h2 : n < 144115188075855872 := by
          by_cases h9 : i = 9
          · omega
          · have : 128 ^ i ≤ 128 ^ 8 := Nat.pow_le_pow_right (by decide) (by omega)
            omega
        show n * 128 + x.toNat < _
        omega
      · rw [if_neg h1]
        have h9 : i + 1 ≤ 9 := by omega
        refine ih (i + 1) _ (fun c hc => hz c (by simp [hc])) h9 ?_
        rw [Nat.pow_succ]
        omega

/-- What was put is read. -/
theorem rd_tl (n : Nat) (hn : n < 18446744073709551616) (rest : List Int) : ∀ (j i : Nat), i + j ≤ 9 → (i = 0 → j ≠ 0 → n / 128 ^ j % 128 ≠ 0) → rdS (tl n j ++ rest) i (n / 128 ^ (j + 1)) = (0, n, i + j + 1) := by
  intro j
  induction j with
  | zero =>
    intro i hi _
    simp only [tl, List.cons_append, List.nil_append, rdS, Nat.zero_add, Nat.pow_one]
    rw [if_neg (by omega), if_pos (by omega)]
    simp only [Prod.mk.injEq, true_and, and_true, Int.toNat_natCast]
    omega
  | succ j ih =>
    intro i hi h0
    have hd : n / 128 ^ (j + 1 + 1) * 128 + n / 128 ^ (j + 1) % 128 = n / 128 ^ (j + 1) := by
      rw [Nat.pow_succ 128 (j + 1), ← Nat.div_div_eq_div_mul]
      omega
    have h1 := ih (i + 1) (by omega) (by omega)
    simp only [tl, List.cons_append, rdS]
    rw [if_neg (by omega), if_neg (by omega), show ((128 + n / 128 ^ (j + 1) % 128 : Nat) : Int) - 128 = ((n / 128 ^ (j + 1) % 128 : Nat) : Int) from by omega, Int.toNat_natCast, hd, h1]
    simp only [Prod.mk.injEq, true_and]
    omega

theorem rd_short (n : Nat) (hn : n < 18446744073709551616) (rest : List Int) : rdS (shortL n ++ rest) 0 0 = (0, n, cg n) := by
  have h1 := cg_pos n
  have h2 := cg_le n hn
  have h3 := cg_top n hn
  obtain ⟨j, hj⟩ : ∃ j, cg n = j + 1 := ⟨cg n - 1, by omega⟩
  have h := rd_tl n hn rest j 0 (by omega) (fun _ h0 => by
    obtain ⟨i, rfl⟩ : ∃ i, j = i + 1 := ⟨j - 1, by omega⟩
    have h4 := (cg_spec n hn i).1 (by omega)
    rw [hj, Nat.pow_succ, ← Nat.div_div_eq_div_mul] at h3
    omega)
  rw [← hj, h3] at h
  rw [shortL, show cg n - 1 = j from by omega, h]
  simp only [Prod.mk.injEq, true_and]
  omega

/-- What is read is what would be put. -/
theorem rd_one : ∀ (l : List Int) (i n m k : Nat), (∀ c ∈ l, 0 ≤ c ∧ c < 256) → rdS l i n = (0, m, k) → i < k ∧ k ≤ i + l.length ∧ l.take (k - i) = tl m (k - i - 1) ∧ m / 128 ^ (k - i) = n := by
  intro l
  induction l with
  | nil => intro i n m k _ h; simp [rdS] at h
  | cons x l ih =>
    intro i n m k hz h
    have hx := hz x (by simp)
    unfold rdS at h
    by_cases hw : (i = 0 ∧ x = 128) ∨ (i = 9 ∧ (128 ≤ x ∨ 144115188075855872 ≤ n))
    · simp [hw] at h
    · rw [if_neg hw] at h
      by_cases h1 : x < 128
      · rw [if_pos h1] at h
        simp only [Prod.mk.injEq, true_and] at h
        obtain ⟨rfl, rfl⟩ := h
        refine ⟨by omega, by simp, ?_, ?_⟩
        · rw [show i + 1 - i = 1 from by omega]
          have e : x = (((n * 128 + x.toNat) % 128 : Nat) : Int) := by omega
          show [x] = [(((n * 128 + x.toNat) % 128 : Nat) : Int)]
          rw [← e]
        · rw [show i + 1 - i = 1 from by omega, Nat.pow_one]
          omega
      · rw [if_neg h1] at h
        obtain ⟨g1, g2, g3, g4⟩ := ih (i + 1) _ m k (fun c hc => hz c (by simp [hc])) h
        obtain ⟨t, ht⟩ : ∃ t, k - i = t + 1 + 1 := ⟨k - i - 2, by omega⟩
        rw [show k - (i + 1) = t + 1 from by omega] at g3 g4
        refine ⟨by omega, by simp; omega, ?_, ?_⟩
        · rw [ht, List.take_succ_cons, g3, show t + 1 + 1 - 1 = t + 1 from by omega, show t + 1 - 1 = t from by omega]
          simp only [tl, List.cons.injEq, and_true]
          rw [g4]
          omega
        · rw [ht, Nat.pow_succ 128 (t + 1), ← Nat.div_div_eq_div_mul, g4]
          omega

theorem rd_whole (zs : List Int) (m k : Nat) (hz : ∀ c ∈ zs, 0 ≤ c ∧ c < 256) (h : rdS zs 0 0 = (0, m, k)) : m < 18446744073709551616 ∧ 1 ≤ k ∧ k ≤ zs.length ∧ zs.take k = shortL m ∧ k = cg m := by
  have hm : m < 18446744073709551616 := by
    have := rdS_lt zs 0 0 hz (by omega) (by simp)
    rwa [h] at this
  obtain ⟨g1, g2, g3, g4⟩ := rd_one zs 0 0 m k hz h
  rw [Nat.sub_zero] at g3 g4
  have hc : k = cg m := by
    have h1 := cg_pos m
    have h2 : ¬ (k < cg m) := fun h3 => by
      obtain ⟨i, rfl⟩ : ∃ i, k = i + 1 := ⟨k - 1, by omega⟩
      exact (cg_spec m hm i).1 h3 g4
    by_cases hk : k = 1
    · omega
    · obtain ⟨i, rfl⟩ : ∃ i, k = i + 1 + 1 := ⟨k - 2, by omega⟩
      have h3 : m / 128 ^ (i + 1) ≠ 0 := by
        intro h4
        cases zs with
        | nil => simp [rdS] at h
        | cons x l =>
          rw [show i + 1 + 1 - 1 = i + 1 from by omega] at g3
          simp only [List.take_succ_cons, tl, List.cons.injEq] at g3
          rw [h4] at g3
          unfold rdS at h
          simp [g3.1] at h
      have h5 := (cg_spec m hm i).2 h3
      omega
  refine ⟨hm, by omega, by omega, ?_, hc⟩
  rw [g3, shortL, hc]

/-- The lower i bytes of a number, the highest first. -/
def wl (n : Nat) : Nat → List Int
  | 0 => []
  | i + 1 => ((n / 256 ^ i % 256 : Nat) : Int) :: wl n i

theorem wl_length (n i : Nat) : (wl n i).length = i := by
  induction i with
  | zero => rfl
  | succ i ih => simp [wl, ih]

theorem wl_bytes (n i : Nat) : ∀ c ∈ wl n i, 0 ≤ c ∧ c < 256 := by
  induction i with
  | zero => intro c hc; simp [wl] at hc
  | succ i ih =>
    intro c hc
    simp only [wl, List.mem_cons] at hc
    rcases hc with rfl | hc
    · omega
    · exact ih c hc

/-- HOW A WIDE NUMBER IS READ, behind n. -/
def rdW (n : Nat) : List Int → Nat
  | [] => n
  | x :: l => rdW (n * 256 + x.toNat) l

theorem rdW_snoc (n : Nat) (l : List Int) (x : Int) : rdW n (l ++ [x]) = rdW n l * 256 + x.toNat := by
  induction l generalizing n with
  | nil => rfl
  | cons y l ih => exact ih _

theorem rdW_lt (l : List Int) (hz : ∀ c ∈ l, 0 ≤ c ∧ c < 256) : ∀ n i, n < 256 ^ i → rdW n l < 256 ^ (i + l.length) := by
  induction l with
  | nil => intro n i h; exact h
  | cons x l ih =>
    intro n i h
    have hx := hz x (by simp)
    have h1 := ih (fun c hc => hz c (by simp [hc])) (n * 256 + x.toNat) (i + 1) (by rw [Nat.pow_succ]; omega)
    rw [List.length_cons, show i + (l.length + 1) = i + 1 + l.length from by omega]
    exact h1

theorem rdW_wl (n : Nat) : ∀ i, rdW (n / 256 ^ i) (wl n i) = n := by
  intro i
  induction i with
  | zero => simp [wl, rdW]
  | succ i ih =>
    show rdW (n / 256 ^ (i + 1) * 256 + ((n / 256 ^ i % 256 : Nat) : Int).toNat) (wl n i) = n
    rw [Int.toNat_natCast, Nat.pow_succ, ← Nat.div_div_eq_div_mul, show n / 256 ^ i / 256 * 256 + n / 256 ^ i % 256 = n / 256 ^ i from by omega]
    exact ih

theorem rdW_eight (n : Nat) (hn : n < 18446744073709551616) : rdW 0 (wl n 8) = n := by
  have h := rdW_wl n 8
  rwa [Nat.div_eq_of_lt (by omega)] at h

theorem rdW_small (l : List Int) (hz : ∀ c ∈ l, 0 ≤ c ∧ c < 256) (hl : l.length ≤ 8) : rdW 0 l < 18446744073709551616 := by
  have h1 := rdW_lt l hz 0 0 (by simp)
  have h2 : 256 ^ (0 + l.length) ≤ 256 ^ 8 := Nat.pow_le_pow_right (by decide) (by omega)
  omega
end Go.Proofs.Ytfipdldoklkciaa
