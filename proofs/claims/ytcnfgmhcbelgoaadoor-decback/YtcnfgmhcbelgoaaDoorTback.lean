/-
  A number's text is read back.
-/
import Derived.Test.YtcnfgmhcbelgoaaDoorMach
import Derived.Test.YtcnfgmhcbelgoaaDoorText
namespace Go.Proofs.YtcnfgmhcbelgoaaDoor
open Go

theorem span_digs {d : List Int} (hd : Digs d) (r : List Int) (hr : ∀ c, r.head? = some c → isD c = false) : (d ++ r).takeWhile isD = d ∧ (d ++ r).dropWhile isD = r := by
  induction d with
  | nil =>
    cases r with
    | nil => exact ⟨rfl, rfl⟩
    | cons c r =>
      have hc := hr c rfl
      simp [hc]
  | cons c d ih =>
    have hc : isD c = true := isD_iff.2 (hd c (by simp))
    obtain ⟨h1, h2⟩ := ih (fun x hx => hd x (by simp [hx]))
    rw [List.cons_append, List.takeWhile_cons_of_pos hc, List.dropWhile_cons_of_pos hc, h1, h2]
    exact ⟨rfl, rfl⟩
theorem run_cons (c : Int) (l : List Int) (k q : Nat) (p : Pd) : runS (c :: l) k q p = if afterS q c = 9 then (some k, 9, p) else runS l (k + 1) (afterS q c) (takeS p (afterS q c) c) := by
  conv => lhs; unfold runS
/-- Digits that are a number without 0 ahead, read from the start or behind the sign. -/
theorem run_number {s : List Int} (hs : Canon s) (r : List Int) (hr : ∀ c, r.head? = some c → isD c = false) (hz : s = [48] → r = []) (k q : Nat) (hq : q = 0 ∨ q = 1) (n : Bool) :
    ∃ q', (q' = 2 ∨ q' = 3) ∧ (r ≠ [] → q' = 3) ∧ runS (s ++ r) k q (n, [], 0, false, 0) = runS r (k + s.length) q' (n, s, 0, false, 0) := by
  obtain ⟨h0, hd, hh⟩ := hs
  rcases s with _ | ⟨c, t⟩
  · exact absurd rfl h0
  have hc := hd c (by simp)
  have hc' : isD c = true := isD_iff.2 hc
  have c45 : c ≠ 45 := by omega
  by_cases h48 : c = 48
  · have ht : t = [] := by
      have := hh h48
      rw [List.length_cons] at this
      exact List.eq_nil_of_length_eq_zero (by omega)
    subst ht h48
    have hr0 := hz rfl
    subst hr0
    refine ⟨2, .inl rfl, fun h => absurd rfl h, ?_⟩
    have e : afterS q 48 = 2 := by rcases hq with rfl | rfl <;> rfl
    rw [List.cons_append, run_cons, e, if_neg (by decide)]
    rfl
  · refine ⟨3, .inr rfl, fun _ => rfl, ?_⟩
    have e : afterS q c = 3 := by
      rcases hq with rfl | rfl <;> simp [afterS, afMinus, c45, h48, hc']
    obtain ⟨s1, s2⟩ := span_digs (d := t) (fun x hx => hd x (by simp [hx])) r hr
    rw [List.cons_append, run_cons, e, if_neg (by decide), run_digs (.inl rfl), s1, s2, fold_whole]
    simp [takeS]
    congr 1
    omega
theorem pow_val : ∀ (d : List Int) (m : Nat), Digs d → d.foldl (fun n c => n * 10 + (c - 48).toNat) m ≤ 10000 → powS m d = d.foldl (fun n c => n * 10 + (c - 48).toNat) m
  | [], _, _, _ => rfl
  | c :: d, m, hd, h => by
    rw [List.foldl_cons] at h ⊢
    have h1 : m * 10 + (c - 48).toNat ≤ d.foldl (fun n c => n * 10 + (c - 48).toNat) (m * 10 + (c - 48).toNat) := by
      rw [fold_start]
      have h2 : (m * 10 + (c - 48).toNat) * 1 ≤ (m * 10 + (c - 48).toNat) * 10 ^ d.length := Nat.mul_le_mul_left _ (Nat.pow_pos (by decide))
      omega
    have e : min (m * 10 + (c - 48).toNat) 10000 = m * 10 + (c - 48).toNat := by omega
    have ih := pow_val d (m * 10 + (c - 48).toNat) (fun x hx => hd x (by simp [hx])) h
    unfold powS at ih ⊢
    rw [List.foldl_cons, e]
    exact ih
theorem pow_num {u : Nat} (h : u ≤ 10000) : powS 0 (numL u) = u := by
  rw [pow_val _ _ (num_digs u)]
  · exact val_num u
  · have := val_num u
    unfold valS at this
    omega
/-- The digits of a power, behind the mark or its sign. -/
theorem run_power {u : Nat} (hu : u ≤ 10000) (k q : Nat) (hq : q = 6 ∨ q = 7) (n : Bool) (s : List Int) (l : Bool) :
    runS (numL u) k q (n, s, 0, l, 0) = (none, 8, (n, s, 0, l, u)) := by
  have hd := num_digs u
  have h0 := num_ne u
  have hp := pow_num hu
  rcases hx : numL u with _ | ⟨c, t⟩
  · exact absurd hx h0
  rw [hx] at hd hp
  have hc := hd c (by simp)
  have hc' : isD c = true := isD_iff.2 hc
  have e : afterS q c = 8 := by
    have c1 : c ≠ 43 := by omega
    have c2 : c ≠ 45 := by omega
    rcases hq with rfl | rfl <;> simp [afterS, c1, c2, hc']
  obtain ⟨s1, s2⟩ := span_digs (d := t) (fun x hx => hd x (by simp [hx])) [] (fun c h => by cases h)
  rw [List.append_nil] at s1 s2
  rw [run_cons, e, if_neg (by decide), run_digs (.inr (.inr rfl)), s1, s2, fold_pow]
  have e2 : powS (takeS (n, s, 0, l, 0) 8 c).2.2.2.2 t = u := by
    rw [← hp]
    simp [takeS, powS]
  rw [e2]
  simp [takeS, runS]
theorem run_exp {x : Int} (hx : -2000 ≤ x ∧ x ≤ 2000) (k q : Nat) (hq : q = 3) (n : Bool) (s : List Int) :
    ∃ l u, runS (101 :: itoaL x) k q (n, s, 0, false, 0) = (none, 8, (n, s, 0, l, u)) ∧ expS (n, s, 0, l, u) = x := by
  subst hq
  have e : afterS 3 101 = 6 := by decide
  rw [run_cons, e, if_neg (by decide)]
  have e2 : takeS (n, s, 0, false, 0) 6 101 = (n, s, 0, false, 0) := by simp [takeS]
  rw [e2]
  unfold itoaL
  by_cases h : x < 0
  · rw [if_pos h, run_cons]
    have e3 : afterS 6 45 = 7 := by decide
    have e4 : takeS (n, s, 0, false, 0) 7 45 = (n, s, 0, true, 0) := by simp [takeS]
    rw [e3, if_neg (by decide), e4, run_power (by omega) _ _ (.inr rfl)]
    refine ⟨true, x.natAbs, rfl, ?_⟩
    simp [expS]
    omega
  · rw [if_neg h, run_power (by omega) _ _ (.inl rfl)]
    refine ⟨false, x.toNat, rfl, ?_⟩
    simp [expS]
    omega
theorem itoa_len {x : Int} (hx : -2000 ≤ x ∧ x ≤ 2000) : (itoaL x).length ≤ 20 := by
  have h : ∀ u, u ≤ 2000 → (numL u).length ≤ 5 := fun u hu => (num_len (by decide)).2 (by omega)
  unfold itoaL
  split
  · rw [List.length_cons]
    have := h x.natAbs (by omega)
    omega
  · have := h x.toNat (by omega)
    omega
/-- PARSE OF TEXT IS THE NUMBER. -/
theorem text_back {n : Bool} {s : ByteArray} {x : Int} (h : rtN n s x = true) : parseA (textA n s x) = ((n, s, x), 0, 0) := by
  have hf := (rtN_iff n s x).1 h
  have hx := rtN_exp h
  have hT : textA n s x = strOfNums (textL n (bs s) x) := by unfold textA; rw [h]; rfl
  have hb : ∀ c ∈ textL n (bs s) x, 0 ≤ c ∧ c < 256 := by
    unfold textL
    intro c hc
    rcases List.mem_append.1 hc with hc | hc
    · rcases List.mem_append.1 hc with hc | hc
      · split at hc
        · simp at hc; omega
        · cases hc
      · exact bs_bytes s c hc
    · split at hc
      · cases hc
      · rcases List.mem_cons.1 hc with hc | hc
        · omega
        · exact itoa_bytes x c hc
  have hl : (textL n (bs s) x).length ≤ 900 := by
    have h1 := itoa_len hx
    have h2 := hf.1.2
    unfold textL
    rw [List.length_append, List.length_append]
    split <;> split <;> simp <;> omega
  have hz : bs s = [48] → (if x = 0 then ([] : List Int) else 101 :: itoaL x) = [] := fun h1 => by rw [if_pos (hf.2.1 h1).2]
  have hr : ∀ c, (if x = 0 then ([] : List Int) else 101 :: itoaL x).head? = some c → isD c = false := by
    intro c hc
    split at hc
    · cases hc
    · cases hc; rfl
  -- the run
  have hrun : ∃ q l u, endS q = true ∧ runS (textL n (bs s) x) 0 0 p0 = (none, q, (n, bs s, 0, l, u)) ∧ expS (n, bs s, 0, l, u) = x := by
    have hmid : ∀ k q, q = 0 ∨ q = 1 → ∃ q' l u, endS q' = true ∧ runS (bs s ++ (if x = 0 then [] else 101 :: itoaL x)) k q (n, [], 0, false, 0) = (none, q', (n, bs s, 0, l, u)) ∧ expS (n, bs s, 0, l, u) = x := by
      intro k q hq
      obtain ⟨q', h1, h2, h3⟩ := run_number hf.1.1 _ hr hz k q hq n
      rw [h3]
      by_cases h0 : x = 0
      · rw [if_pos h0]
        refine ⟨q', false, 0, ?_, rfl, ?_⟩
        · rcases h1 with rfl | rfl <;> rfl
        · simp [expS, h0]
      · rw [if_neg h0] at h2 ⊢
        obtain ⟨l, u, h4, h5⟩ := run_exp hx (k + (bs s).length) q' (h2 (by simp)) n (bs s)
        exact ⟨8, l, u, rfl, h4, h5⟩
    unfold textL p0
    cases n with
    | true =>
      rw [if_pos rfl, List.append_assoc, List.singleton_append, run_cons]
      have e : afterS 0 45 = 1 := by decide
      have e2 : takeS (false, [], 0, false, 0) 1 45 = (true, [], 0, false, 0) := by simp [takeS]
      rw [e, if_neg (by decide), e2]
      exact hmid 1 1 (.inr rfl)
    | false =>
      rw [if_neg (by simp), List.nil_append]
      exact hmid 0 0 (.inl rfl)
  obtain ⟨q, l, u, h1, h2, h3⟩ := hrun
  rw [hT]
  unfold parseA
  rw [strOfNums_size, if_neg (by omega), bs_str hb, h2]
  show (if endS q = true then _ else _) = _
  rw [if_pos h1, h3]
  show ((makeA n (strOfNums (bs s)) x).1, (makeA n (strOfNums (bs s)) x).2, 0) = _
  rw [str_bs, make_self h]
end Go.Proofs.YtcnfgmhcbelgoaaDoor
