/-
  Losses in bytes, plainly: what is built is read, what is read is built, and a beginning ends too early.
-/
import Derived.Test.YtgfnohgpmmaocaaDoorLpa
namespace Go.Proofs.YtgfnohgpmmaocaaDoor
open Go.RowKit
set_option linter.unusedVariables false

theorem shortL_pos (m : Nat) : 1 ≤ (shortL m).length := by rw [shortL_length]; exact cg_pos m
theorem pathB_cons (s : Int) (p : List Int) : pathB (s :: p) = shortL s.toNat ++ pathB p := by simp [pathB]
theorem lossB_cons (x : Ls) (l : List Ls) : lossB (x :: l) = oneB x ++ lossB l := by simp [lossB]
theorem drop_len {zs a r : List Int} {p : Nat} (h : zs.drop p = a ++ r) : zs.drop (p + a.length) = r := by rw [← List.drop_drop, h]; simp

/-! ### What is read would be put -/
theorem steps_ok (zs : List Int) (hz : ∀ c ∈ zs, 0 ≤ c ∧ c < 256) : ∀ (k p : Nat), (stepsS zs k (0, 0, p)).2.1 = 0 → ∃ l q, stepsS zs k (0, 0, p) = (l, (0, 0, q)) ∧ l.length = k ∧ (∀ c ∈ l, 0 ≤ c ∧ c ≤ 4095) ∧ zs.drop p = pathB l ++ zs.drop q ∧ (p ≤ zs.length → q ≤ zs.length) ∧ q = p + (pathB l).length := by
  intro k
  induction k with
  | zero => intro p _; exact ⟨[], p, rfl, rfl, by simp, by simp [pathB], id, rfl⟩
  | succ k ih =>
    intro p h
    unfold stepsS at h ⊢
    simp only [ne_eq, not_true_eq_false, if_false] at h ⊢
    by_cases h1 : (numS zs (0, 0, p) 0 4095 5).2.1 = 0
    · obtain ⟨m, q, e, g1, g2, g3, g4, g5, g6, g7⟩ := numS_ok zs hz (0, 0, p) 0 4095 5 rfl h1 (.inl (by decide))
      rw [e] at h ⊢
      obtain ⟨l, q', e', l1, l2, l3, l4, l5⟩ := ih q h
      rw [e']
      have hq : zs.drop p = shortL m ++ zs.drop q := g4
      refine ⟨((m : Nat) : Int) :: l, q', rfl, by simp [l1], ?_, ?_, fun hp => l4 (g6 hp), ?_⟩
      · intro c hc
        rcases List.mem_cons.1 hc with rfl | hc
        · omega
        · exact l2 c hc
      · rw [pathB_cons, Int.toNat_natCast, hq, l3, List.append_assoc]
      · have g5' : q = p + cg m := g5
        rw [pathB_cons, Int.toNat_natCast, List.length_append, shortL_length, l5, g5']; omega
    · rw [stepsS_bad _ _ _ h1] at h
      exact absurd h h1

theorem path_ok (zs : List Int) (hz : ∀ c ∈ zs, 0 ≤ c ∧ c < 256) (p : Nat) (h : (pathS zs (0, 0, p)).2.1 = 0) : ∃ l q, pathS zs (0, 0, p) = (l, (0, 0, q)) ∧ l.length ≤ 64 ∧ (∀ c ∈ l, 0 ≤ c ∧ c ≤ 4095) ∧ zs.drop p = (shortL l.length ++ pathB l) ++ zs.drop q ∧ (p ≤ zs.length → q ≤ zs.length) ∧ q = p + (shortL l.length ++ pathB l).length := by
  unfold pathS at h ⊢
  by_cases h1 : (numS zs (0, 0, p) 0 64 8).2.1 = 0
  · obtain ⟨m, q, e, g1, g2, g3, g4, g5, g6, g7⟩ := numS_ok zs hz (0, 0, p) 0 64 8 rfl h1 (.inl (by decide))
    rw [e] at h ⊢
    obtain ⟨l, q', e', l1, l2, l3, l4, l5⟩ := steps_ok zs hz m q h
    rw [e']
    have hq : zs.drop p = shortL m ++ zs.drop q := g4
    have hq5 : q = p + cg m := g5
    refine ⟨l, q', rfl, by omega, l2, ?_, fun hp => l4 (g6 hp), ?_⟩
    · rw [l1, hq, l3, List.append_assoc]
    · rw [l1, List.length_append, shortL_length, l5, hq5]; omega
  · rw [stepsS_bad _ _ _ h1] at h
    exact absurd h h1

theorem loss_ok (zs : List Int) (hz : ∀ c ∈ zs, 0 ≤ c ∧ c < 256) (p : Nat) (h : (lossS zs (0, 0, p)).2.1 = 0) : ∃ x q, lossS zs (0, 0, p) = (x, (0, 0, q)) ∧ mayL x ∧ x.n < 18446744073709551616 ∧ zs.drop p = oneB x ++ zs.drop q ∧ (p ≤ zs.length → q ≤ zs.length) ∧ q = p + (oneB x).length := by
  unfold lossS at h ⊢
  by_cases h1 : (kindS zs (0, 0, p)).2.1 = 0
  · obtain ⟨m, q, e, g1, g2, g3, g4, g5, g6, g7⟩ := numS_ok zs hz (0, 0, p) 1 6 5 rfl h1 (.inl (by decide))
    have ek : kindS zs (0, 0, p) = (m, (0, 0, q)) := e
    rw [ek] at h ⊢
    by_cases h2 : (wordS zs (0, 0, q)).2.1 = 0
    · obtain ⟨m2, q2, e2, k1, k2, k3, k4, k5, k6, k7⟩ := numS_ok zs hz (0, 0, q) 0 18446744073709551615 0 rfl h2 (.inr ⟨rfl, by decide⟩)
      have ew : wordS zs (0, 0, q) = (m2, (0, 0, q2)) := e2
      simp only at h ⊢
      rw [ew] at h ⊢
      obtain ⟨l, q', e', l1, l2, l3, l4, l5⟩ := path_ok zs hz q2 h
      simp only
      rw [e']
      have hq : zs.drop p = shortL m ++ zs.drop q := g4
      have hq2 : zs.drop q = shortL m2 ++ zs.drop q2 := k4
      have hq5 : q = p + cg m := g5
      have hq6 : q2 = q + cg m2 := k5
      refine ⟨_, q', rfl, ⟨⟨by simp; omega, by simp; omega, l1⟩, l2⟩, k3, ?_, fun hp => l4 (k6 (g6 hp)), ?_⟩
      · show _ = (shortL (((m : Nat) : Int)).toNat ++ (shortL m2 ++ (shortL l.length ++ pathB l))) ++ _
        rw [Int.toNat_natCast, hq, hq2, l3]
        simp only [List.append_assoc]
      · show _ = p + (shortL (((m : Nat) : Int)).toNat ++ (shortL m2 ++ (shortL l.length ++ pathB l))).length
        rw [Int.toNat_natCast, List.length_append, List.length_append, shortL_length, shortL_length, l5, hq6, hq5]; omega
    · simp only at h
      rw [pathS_bad _ _ h2] at h
      exact absurd h h2
  · have h2 : (wordS zs (kindS zs (0, 0, p)).2) = (0, (kindS zs (0, 0, p)).2) := numS_bad _ _ _ _ _ h1
    simp only at h
    rw [h2, pathS_bad _ _ h1] at h
    exact absurd h h1

theorem ls_ok (zs : List Int) (hz : ∀ c ∈ zs, 0 ≤ c ∧ c < 256) : ∀ (k p : Nat), (lsS zs k (0, 0, p)).2.1 = 0 → ∃ l q, lsS zs k (0, 0, p) = (l, (0, 0, q)) ∧ l.length = k ∧ (∀ x ∈ l, mayL x ∧ x.n < 18446744073709551616) ∧ zs.drop p = lossB l ++ zs.drop q ∧ (p ≤ zs.length → q ≤ zs.length) ∧ q = p + (lossB l).length := by
  intro k
  induction k with
  | zero => intro p _; exact ⟨[], p, rfl, rfl, by simp, by simp [lossB], id, rfl⟩
  | succ k ih =>
    intro p h
    unfold lsS at h ⊢
    simp only [ne_eq, not_true_eq_false, if_false] at h ⊢
    by_cases h1 : (lossS zs (0, 0, p)).2.1 = 0
    · obtain ⟨x, q, e, g1, g2, g3, g4, g5⟩ := loss_ok zs hz p h1
      rw [e] at h ⊢
      obtain ⟨l, q', e', l1, l2, l3, l4, l5⟩ := ih q h
      rw [e']
      refine ⟨x :: l, q', rfl, by simp [l1], ?_, ?_, fun hp => l4 (g4 hp), ?_⟩
      · intro c hc
        rcases List.mem_cons.1 hc with rfl | hc
        · exact ⟨g1, g2⟩
        · exact l2 c hc
      · rw [lossB_cons, g3, l3, List.append_assoc]
      · rw [lossB_cons, List.length_append, l5, g5]; omega
    · rw [lsS_bad _ _ _ h1] at h
      exact absurd h h1

theorem all_ok (zs : List Int) (hz : ∀ c ∈ zs, 0 ≤ c ∧ c < 256) (h : (allS zs).2.1 = 0) : ∃ l q, allS zs = (l, (0, 0, q)) ∧ l.length ≤ 2048 ∧ (∀ x ∈ l, mayL x ∧ x.n < 18446744073709551616) ∧ zs = (shortL l.length ++ lossB l) ++ zs.drop q ∧ q ≤ zs.length ∧ q = (shortL l.length ++ lossB l).length := by
  unfold allS at h ⊢
  by_cases h1 : (numS zs (0, 0, 0) 0 2048 8).2.1 = 0
  · obtain ⟨m, q, e, g1, g2, g3, g4, g5, g6, g7⟩ := numS_ok zs hz (0, 0, 0) 0 2048 8 rfl h1 (.inl (by decide))
    rw [e] at h ⊢
    obtain ⟨l, q', e', l1, l2, l3, l4, l5⟩ := ls_ok zs hz m q h
    rw [e']
    have hq : zs = shortL m ++ zs.drop q := g4
    have hq5 : q = 0 + cg m := g5
    refine ⟨l, q', rfl, by omega, l2, ?_, l4 (g6 (by simp)), ?_⟩
    · rw [l1, List.append_assoc, ← l3]; exact hq
    · rw [l1, List.length_append, shortL_length, l5, hq5]; omega
  · rw [lsS_bad _ _ _ h1] at h
    exact absurd h h1

/-- What is parsed is what would be built. -/
theorem par_one (zs : List Int) (hz : ∀ c ∈ zs, 0 ≤ c ∧ c < 256) (h : (parA zs).2.1 = 0) : parA zs = ((allS zs).1, 0, 0) ∧ (∀ x ∈ (allS zs).1, mayL x ∧ x.n < 18446744073709551616) ∧ (allS zs).1.length ≤ 2048 ∧ bldA (allS zs).1 = (zs, 0) := by
  unfold parA at h ⊢
  by_cases h1 : (endS zs (allS zs).2).1 ≠ 0
  · rw [if_pos h1] at h; exact absurd h h1
  · rw [if_neg h1]
    unfold endS at h1
    by_cases h2 : (allS zs).2.1 = 0 ∧ (allS zs).2.2.2 < zs.length
    · rw [if_pos h2] at h1; simp at h1
    · rw [if_neg h2] at h1
      have h3 : (allS zs).2.1 = 0 := by omega
      obtain ⟨l, q, e, g1, g2, g3, g4, g5⟩ := all_ok zs hz h3
      rw [e] at h2 ⊢
      have h4 : ¬ (0 = 0 ∧ q < zs.length) := h2
      refine ⟨rfl, g2, g1, ?_⟩
      unfold bldA
      rw [if_neg (by show ¬ (2048 < l.length); omega), if_pos ((all_may l).2 (fun x hx => (g2 x hx).1))]
      have h5 : q = zs.length := by omega
      rw [h5, List.drop_length, List.append_nil] at g3
      rw [← g3]
theorem par_bad (zs : List Int) (h : (parA zs).2.1 ≠ 0) : (parA zs).1 = [] := by
  unfold parA at h ⊢
  by_cases h1 : (endS zs (allS zs).2).1 ≠ 0
  · rw [if_pos h1]
  · rw [if_neg h1] at h; simp at h

/-! ### What is put is read -/
theorem steps_put (zs : List Int) : ∀ (l : List Int) (p : Nat) (r : List Int), (∀ c ∈ l, 0 ≤ c ∧ c ≤ 4095) → zs.drop p = pathB l ++ r → stepsS zs l.length (0, 0, p) = (l, (0, 0, p + (pathB l).length)) := by
  intro l
  induction l with
  | nil => intro p r _ _; rfl
  | cons c l ih =>
    intro p r hc h
    rw [pathB_cons, List.append_assoc] at h
    have hc0 := hc c (by simp)
    have e := numS_put zs p c.toNat 0 4095 5 _ (by omega) h (by omega) (by omega)
    rw [List.length_cons]
    unfold stepsS
    simp only [ne_eq, not_true_eq_false, if_false]
    rw [e]
    have h' := drop_len h
    rw [shortL_length] at h'
    have := ih (p + cg c.toNat) r (fun x hx => hc x (by simp [hx])) h'
    simp only
    rw [this, pathB_cons, List.length_append, shortL_length, Int.toNat_of_nonneg hc0.1, Nat.add_assoc]

theorem loss_put (zs : List Int) (x : Ls) (p : Nat) (r : List Int) (hx : mayL x) (hn : x.n < 18446744073709551616) (h : zs.drop p = oneB x ++ r) : lossS zs (0, 0, p) = (x, (0, 0, p + (oneB x).length)) := by
  obtain ⟨pa, ki, n⟩ := x
  obtain ⟨⟨h1, h2, h3⟩, h4⟩ := hx
  have h1' : 1 ≤ ki := h1
  have h2' : ki ≤ 6 := h2
  have h3' : pa.length ≤ 64 := h3
  have hn' : n < 18446744073709551616 := hn
  have h0 : zs.drop p = shortL ki.toNat ++ (shortL n ++ (shortL pa.length ++ (pathB pa ++ r))) := by
    rw [h]; show (shortL ki.toNat ++ (shortL n ++ (shortL pa.length ++ pathB pa))) ++ r = _
    simp only [List.append_assoc]
  have ek : kindS zs (0, 0, p) = (ki.toNat, (0, 0, p + cg ki.toNat)) := numS_put zs p ki.toNat 1 6 5 _ (by omega) h0 (by omega) (by omega)
  have d1 := drop_len h0
  rw [shortL_length] at d1
  have ew : wordS zs (0, 0, p + cg ki.toNat) = (n, (0, 0, p + cg ki.toNat + cg n)) := numS_put zs _ n 0 18446744073709551615 0 _ hn' d1 (by omega) (by omega)
  have d2 := drop_len d1
  rw [shortL_length] at d2
  have ep := numS_put zs _ pa.length 0 64 8 _ (by omega) d2 (by omega) (by omega)
  have d3 := drop_len d2
  rw [shortL_length] at d3
  have es := steps_put zs pa _ r h4 d3
  unfold lossS
  rw [ek]
  simp only
  rw [ew]
  simp only
  unfold pathS
  rw [ep]
  simp only
  rw [es]
  simp only [Int.toNat_of_nonneg (show 0 ≤ ki by omega), Prod.mk.injEq, true_and]
  show _ = p + (shortL ki.toNat ++ (shortL n ++ (shortL pa.length ++ pathB pa))).length
  simp only [List.length_append, shortL_length]
  omega

theorem ls_put (zs : List Int) : ∀ (l : List Ls) (p : Nat) (r : List Int), (∀ x ∈ l, mayL x ∧ x.n < 18446744073709551616) → zs.drop p = lossB l ++ r → lsS zs l.length (0, 0, p) = (l, (0, 0, p + (lossB l).length)) := by
  intro l
  induction l with
  | nil => intro p r _ _; rfl
  | cons x l ih =>
    intro p r hc h
    rw [lossB_cons, List.append_assoc] at h
    have hx := hc x (by simp)
    have e := loss_put zs x p _ hx.1 hx.2 h
    rw [List.length_cons]
    unfold lsS
    simp only [ne_eq, not_true_eq_false, if_false]
    rw [e]
    have := ih (p + (oneB x).length) r (fun y hy => hc y (by simp [hy])) (drop_len h)
    simp only
    rw [this, lossB_cons, List.length_append, Nat.add_assoc]

theorem all_put (l : List Ls) (hl : l.length ≤ 2048) (hm : ∀ x ∈ l, mayL x ∧ x.n < 18446744073709551616) : allS (shortL l.length ++ lossB l) = (l, (0, 0, (shortL l.length ++ lossB l).length)) := by
  have e := numS_put (shortL l.length ++ lossB l) 0 l.length 0 2048 8 (lossB l) (by omega) rfl (by omega) hl
  unfold allS
  rw [e]
  have h := drop_len (zs := shortL l.length ++ lossB l) (p := 0) rfl
  rw [shortL_length] at h
  simp only
  rw [ls_put _ l _ [] hm (by rw [List.append_nil]; exact h), List.length_append, shortL_length, Nat.zero_add]

/-- What is built is parsed. -/
theorem par_back (l : List Ls) (hn : ∀ x ∈ l, x.n < 18446744073709551616) (h : (bldA l).2 = 0) : (bldA l).1 = shortL l.length ++ lossB l ∧ parA (bldA l).1 = (l, 0, 0) := by
  unfold bldA at h ⊢
  by_cases h1 : 2048 < l.length
  · rw [if_pos h1] at h; simp at h
  · rw [if_neg h1] at h ⊢
    by_cases h2 : ∀ x ∈ l, mayL x
    · rw [if_pos ((all_may l).2 h2)]
      refine ⟨rfl, ?_⟩
      have e := all_put l (by omega) (fun x hx => ⟨h2 x hx, hn x hx⟩)
      unfold parA
      rw [e]
      have : endS (shortL l.length ++ lossB l) (0, 0, (shortL l.length ++ lossB l).length) = (0, 0, (shortL l.length ++ lossB l).length) := by unfold endS; rw [if_neg (by simp)]
      simp only
      rw [this]
      simp
    · rw [if_neg (fun h9 => h2 ((all_may l).1 h9))] at h; simp at h
theorem bld_bad (l : List Ls) (h : (bldA l).2 ≠ 0) : (bldA l).1 = [] := by
  unfold bldA at h ⊢
  by_cases h1 : 2048 < l.length
  · rw [if_pos h1]
  · rw [if_neg h1] at h ⊢
    by_cases h2 : ∀ x ∈ l, mayL x
    · rw [if_pos ((all_may l).2 h2)] at h; simp at h
    · rw [if_neg (fun h9 => h2 ((all_may l).1 h9))]

/-! ### A beginning ends too early -/
theorem rd_cut : ∀ (l : List Int) (i n m k : Nat), rdS l i n = (0, m, k) → ∀ j, (k ≤ i + j → rdS (l.take j) i n = (0, m, k)) ∧ (i + j < k → (rdS (l.take j) i n).1 = 3) := by
  intro l
  induction l with
  | nil => intro i n m k h; simp [rdS] at h
  | cons x l ih =>
    intro i n m k h j
    cases j with
    | zero =>
      refine ⟨fun hk => ?_, fun _ => rfl⟩
      exfalso
      unfold rdS at h
      by_cases hw : (i = 0 ∧ x = 128) ∨ (i = 9 ∧ (128 ≤ x ∨ 144115188075855872 ≤ n))
      · simp [hw] at h
      · rw [if_neg hw] at h
        by_cases h1 : x < 128
        · rw [if_pos h1] at h
          simp only [Prod.mk.injEq, true_and] at h
          omega
        · rw [if_neg h1] at h
          have hi : ∀ (l : List Int) (i n m k : Nat), rdS l i n = (0, m, k) → i < k := by
            intro l
            induction l with
            | nil => intro i n m k h; simp [rdS] at h
            | cons x l ih =>
              intro i n m k h
              unfold rdS at h
              by_cases hw : (i = 0 ∧ x = 128) ∨ (i = 9 ∧ (128 ≤ x ∨ 144115188075855872 ≤ n))
              · simp [hw] at h
              · rw [if_neg hw] at h
                by_cases h1 : x < 128
                · rw [if_pos h1] at h
                  simp only [Prod.mk.injEq, true_and] at h
                  omega
                · rw [if_neg h1] at h
                  have := ih _ _ _ _ h
                  omega
          have := hi _ _ _ _ _ h
          omega
    | succ j =>
      rw [List.take_succ_cons]
      unfold rdS at h ⊢
      by_cases hw : (i = 0 ∧ x = 128) ∨ (i = 9 ∧ (128 ≤ x ∨ 144115188075855872 ≤ n))
      · simp [hw] at h
      · rw [if_neg hw] at h ⊢
        by_cases h1 : x < 128
        · rw [if_pos h1] at h ⊢
          refine ⟨fun _ => h, fun h2 => ?_⟩
          simp only [Prod.mk.injEq, true_and] at h
          omega
        · rw [if_neg h1] at h ⊢
          have := ih _ _ _ _ h j
          exact ⟨fun h2 => this.1 (by omega), fun h2 => this.2 (by omega)⟩

/-- How a reading fares where the bytes are cut. -/
def Cut {α : Type} (F : List Int → St → α × St) (zs : List Int) (p q : Nat) : Prop :=
  ∀ c, p ≤ c → c ≤ zs.length → (q ≤ c → F (zs.take c) (0, 0, p) = F zs (0, 0, p)) ∧ (c < q → (F (zs.take c) (0, 0, p)).2 = (3, c, 0))

theorem num_cut (zs : List Int) (p m q lo hi why : Nat) (h : numS zs (0, 0, p) lo hi why = (m, (0, 0, q))) (hr : rdS (zs.drop p) 0 0 = (0, m, cg m)) (hq : q = p + cg m) : Cut (fun z s => numS z s lo hi why) zs p q := by
  intro c h1 h2
  have hd : (zs.take c).drop p = (zs.drop p).take (c - p) := List.drop_take
  have hc := rd_cut _ _ _ _ _ hr (c - p)
  refine ⟨fun h3 => ?_, fun h3 => ?_⟩
  · show numS (zs.take c) (0, 0, p) lo hi why = numS zs (0, 0, p) lo hi why
    have h4 := hc.1 (by omega)
    unfold numS
    simp only [hd, hr, h4, ne_eq, not_true_eq_false, if_false, if_true]
  · show (numS (zs.take c) (0, 0, p) lo hi why).2 = _
    have h4 := hc.2 (by omega)
    unfold numS
    simp only [ne_eq, not_true_eq_false, if_false]
    rw [hd, if_neg (by omega), if_pos h4]
    simp only [List.length_take]
    rw [Nat.min_eq_left h2]

theorem steps_cut (zs : List Int) (hz : ∀ c ∈ zs, 0 ≤ c ∧ c < 256) : ∀ (k p q : Nat) (l : List Int), p ≤ zs.length → stepsS zs k (0, 0, p) = (l, (0, 0, q)) → Cut (fun z s => stepsS z k s) zs p q := by
  intro k
  induction k with
  | zero =>
    intro p q l _ h c h1 h2
    have : p = q := by simp [stepsS] at h; exact h.2
    subst this
    exact ⟨fun _ => rfl, fun h3 => by omega⟩
  | succ k ih =>
    intro p q l hp h c h1 h2
    have h' := h
    unfold stepsS at h'
    simp only [ne_eq, not_true_eq_false, if_false, Prod.mk.injEq] at h'
    have hb : (numS zs (0, 0, p) 0 4095 5).2.1 = 0 := by
      by_cases h0 : (numS zs (0, 0, p) 0 4095 5).2.1 = 0
      · exact h0
      · have h3 := h'.2
        rw [stepsS_bad _ _ _ h0] at h3
        rw [show (numS zs (0, 0, p) 0 4095 5).2 = (0, 0, q) from h3] at h0
        exact absurd rfl h0
    obtain ⟨m, q1, e, g1, g2, g3, g4, g5, g6, g7⟩ := numS_ok zs hz (0, 0, p) 0 4095 5 rfl hb (.inl (by decide))
    have g6' := g6 hp
    have hc := num_cut zs p m q1 0 4095 5 e g7 g5 c h1 h2
    have e2 : (stepsS zs k (0, 0, q1)).2 = (0, 0, q) := by have := h'.2; rw [e] at this; exact this
    have hs : stepsS zs k (0, 0, q1) = ((stepsS zs k (0, 0, q1)).1, (0, 0, q)) := by rw [← e2]
    have hle : q1 ≤ q := by
      obtain ⟨_, q', e', _, _, _, _, e5⟩ := steps_ok zs hz k q1 (by rw [hs])
      rw [hs] at e'
      have : q = q' := by injection e' with _ h9; injection h9 with _ h9; injection h9
      omega
    have hi := ih q1 q _ g6' hs c
    refine ⟨fun h3 => ?_, fun h3 => ?_⟩
    · show stepsS (zs.take c) (k + 1) (0, 0, p) = stepsS zs (k + 1) (0, 0, p)
      have hn := hc.1 (by omega)
      simp only at hn
      have hk := (hi (by omega) h2).1 h3
      simp only at hk
      unfold stepsS
      simp only [ne_eq, not_true_eq_false, if_false]
      rw [hn, e]
      simp only
      rw [hk]
    · show (stepsS (zs.take c) (k + 1) (0, 0, p)).2 = _
      unfold stepsS
      simp only [ne_eq, not_true_eq_false, if_false]
      by_cases h4 : q1 ≤ c
      · have hn := hc.1 h4
        simp only at hn
        rw [hn, e]
        exact (hi h4 h2).2 h3
      · have hn := hc.2 (by omega)
        simp only at hn
        rw [stepsS_bad _ _ _ (by rw [hn]; simp)]
        exact hn

theorem path_cut (zs : List Int) (hz : ∀ c ∈ zs, 0 ≤ c ∧ c < 256) (p q : Nat) (l : List Int) (hp : p ≤ zs.length) (h : pathS zs (0, 0, p) = (l, (0, 0, q))) : Cut pathS zs p q := by
  intro c h1 h2
  have h' := h
  unfold pathS at h'
  have hb : (numS zs (0, 0, p) 0 64 8).2.1 = 0 := by
    by_cases h0 : (numS zs (0, 0, p) 0 64 8).2.1 = 0
    · exact h0
    · rw [stepsS_bad _ _ _ h0] at h'
      have h3 : (numS zs (0, 0, p) 0 64 8).2 = (0, 0, q) := by injection h'
      rw [h3] at h0
      exact absurd rfl h0
  obtain ⟨m, q1, e, g1, g2, g3, g4, g5, g6, g7⟩ := numS_ok zs hz (0, 0, p) 0 64 8 rfl hb (.inl (by decide))
  rw [e] at h'
  have hs : stepsS zs m (0, 0, q1) = (l, (0, 0, q)) := h'
  have hc := num_cut zs p m q1 0 64 8 e g7 g5 c h1 h2
  have hle : q1 ≤ q := by
    obtain ⟨_, q', e', _, _, _, _, e5⟩ := steps_ok zs hz m q1 (by rw [hs])
    rw [hs] at e'
    have : q = q' := by injection e' with _ h9; injection h9 with _ h9; injection h9
    omega
  have hi := steps_cut zs hz m q1 q l (g6 hp) hs c
  refine ⟨fun h3 => ?_, fun h3 => ?_⟩
  · have hn := hc.1 (by omega)
    simp only at hn
    unfold pathS
    rw [hn, e]
    exact (hi (by omega) h2).1 h3
  · unfold pathS
    by_cases h4 : q1 ≤ c
    · have hn := hc.1 h4
      simp only at hn
      rw [hn, e]
      exact (hi h4 h2).2 h3
    · have hn := hc.2 (by omega)
      simp only at hn
      rw [stepsS_bad _ _ _ (by rw [hn]; simp)]
      exact hn

theorem lossS_state (zs : List Int) (s : St) : (lossS zs s).2 = (pathS zs (wordS zs (kindS zs s).2).2).2 := rfl
theorem loss_cut (zs : List Int) (hz : ∀ c ∈ zs, 0 ≤ c ∧ c < 256) (p q : Nat) (x : Ls) (hp : p ≤ zs.length) (h : lossS zs (0, 0, p) = (x, (0, 0, q))) : Cut lossS zs p q := by
  intro c h1 h2
  have hst : (pathS zs (wordS zs (kindS zs (0, 0, p)).2).2).2 = (0, 0, q) := by rw [← lossS_state, h]
  have hb2 : (wordS zs (kindS zs (0, 0, p)).2).2.1 = 0 := by
    by_cases h0 : (wordS zs (kindS zs (0, 0, p)).2).2.1 = 0
    · exact h0
    · rw [pathS_bad _ _ h0] at hst
      have h3 : (wordS zs (kindS zs (0, 0, p)).2).2 = (0, 0, q) := hst
      rw [h3] at h0
      exact absurd rfl h0
  have hb1 : (kindS zs (0, 0, p)).2.1 = 0 := by
    by_cases h0 : (kindS zs (0, 0, p)).2.1 = 0
    · exact h0
    · rw [show wordS zs (kindS zs (0, 0, p)).2 = (0, (kindS zs (0, 0, p)).2) from numS_bad _ _ _ _ _ h0] at hb2
      exact absurd hb2 h0
  obtain ⟨m, q1, e, g1, g2, g3, g4, g5, g6, g7⟩ := numS_ok zs hz (0, 0, p) 1 6 5 rfl hb1 (.inl (by decide))
  have ek : kindS zs (0, 0, p) = (m, (0, 0, q1)) := e
  rw [ek] at hb2 hst
  obtain ⟨m2, q2, e2, k1, k2, k3, k4, k5, k6, k7⟩ := numS_ok zs hz (0, 0, q1) 0 18446744073709551615 0 rfl hb2 (.inr ⟨rfl, by decide⟩)
  have ew : wordS zs (0, 0, q1) = (m2, (0, 0, q2)) := e2
  simp only at hst
  rw [ew] at hst
  have hpt : pathS zs (0, 0, q2) = ((pathS zs (0, 0, q2)).1, (0, 0, q)) := by rw [← hst]
  have hle : q2 ≤ q := by
    obtain ⟨_, q', e', _, _, _, _, e5⟩ := path_ok zs hz q2 (by rw [hpt])
    rw [hpt] at e'
    have : q = q' := by injection e' with _ h9; injection h9 with _ h9; injection h9
    omega
  have hq1 : q1 = p + cg m := g5
  have hq2 : q2 = q1 + cg m2 := k5
  have c1 := num_cut zs p m q1 1 6 5 e g7 g5 c h1 h2
  have c2 := num_cut zs q1 m2 q2 0 18446744073709551615 0 e2 k7 k5 c
  have c3 := path_cut zs hz q2 q _ (k6 (g6 hp)) hpt c
  refine ⟨fun h3 => ?_, fun h3 => ?_⟩
  · have n1 : kindS (zs.take c) (0, 0, p) = kindS zs (0, 0, p) := c1.1 (by omega)
    have n2 : wordS (zs.take c) (0, 0, q1) = wordS zs (0, 0, q1) := (c2 (by omega) h2).1 (by omega)
    have n3 := (c3 (by omega) h2).1 h3
    unfold lossS
    rw [n1, ek]
    simp only
    rw [n2, ew]
    simp only
    rw [n3]
  · rw [lossS_state]
    by_cases h4 : q1 ≤ c
    · have n1 : kindS (zs.take c) (0, 0, p) = kindS zs (0, 0, p) := c1.1 h4
      rw [n1, ek]
      simp only
      by_cases h5 : q2 ≤ c
      · have n2 : wordS (zs.take c) (0, 0, q1) = wordS zs (0, 0, q1) := (c2 h4 h2).1 h5
        rw [n2, ew]
        exact (c3 h5 h2).2 h3
      · have n2 : (wordS (zs.take c) (0, 0, q1)).2 = (3, c, 0) := (c2 h4 h2).2 (by omega)
        rw [n2, pathS_bad _ _ (by simp)]
    · have n1 : (kindS (zs.take c) (0, 0, p)).2 = (3, c, 0) := c1.2 (by omega)
      rw [n1, show wordS (zs.take c) (3, c, 0) = (0, (3, c, 0)) from numS_bad _ _ _ _ _ (by simp), pathS_bad _ _ (by simp)]

theorem ls_cut (zs : List Int) (hz : ∀ c ∈ zs, 0 ≤ c ∧ c < 256) : ∀ (k p q : Nat) (l : List Ls), p ≤ zs.length → lsS zs k (0, 0, p) = (l, (0, 0, q)) → Cut (fun z s => lsS z k s) zs p q := by
  intro k
  induction k with
  | zero =>
    intro p q l _ h c h1 h2
    have : p = q := by simp [lsS] at h; exact h.2
    subst this
    exact ⟨fun _ => rfl, fun h3 => by omega⟩
  | succ k ih =>
    intro p q l hp h c h1 h2
    have h' := h
    unfold lsS at h'
    simp only [ne_eq, not_true_eq_false, if_false, Prod.mk.injEq] at h'
    have hb : (lossS zs (0, 0, p)).2.1 = 0 := by
      by_cases h0 : (lossS zs (0, 0, p)).2.1 = 0
      · exact h0
      · have h3 := h'.2
        rw [lsS_bad _ _ _ h0] at h3
        rw [show (lossS zs (0, 0, p)).2 = (0, 0, q) from h3] at h0
        exact absurd rfl h0
    obtain ⟨x, q1, e, g1, g2, g3, g4, g5⟩ := loss_ok zs hz p hb
    have hc := loss_cut zs hz p q1 x hp e c h1 h2
    have e2 : (lsS zs k (0, 0, q1)).2 = (0, 0, q) := by have := h'.2; rw [e] at this; exact this
    have hs : lsS zs k (0, 0, q1) = ((lsS zs k (0, 0, q1)).1, (0, 0, q)) := by rw [← e2]
    have hle : q1 ≤ q := by
      obtain ⟨_, q', e', _, _, _, _, e5⟩ := ls_ok zs hz k q1 (by rw [hs])
      rw [hs] at e'
      have : q = q' := by injection e' with _ h9; injection h9 with _ h9; injection h9
      omega
    have hi := ih q1 q _ (g4 hp) hs c
    refine ⟨fun h3 => ?_, fun h3 => ?_⟩
    · show lsS (zs.take c) (k + 1) (0, 0, p) = lsS zs (k + 1) (0, 0, p)
      have hn := hc.1 (by omega)
      have hk := (hi (by omega) h2).1 h3
      simp only at hk
      unfold lsS
      simp only [ne_eq, not_true_eq_false, if_false]
      rw [hn, e]
      simp only
      rw [hk]
    · show (lsS (zs.take c) (k + 1) (0, 0, p)).2 = _
      unfold lsS
      simp only [ne_eq, not_true_eq_false, if_false]
      by_cases h4 : q1 ≤ c
      · have hn := hc.1 h4
        rw [hn, e]
        exact (hi h4 h2).2 h3
      · have hn := hc.2 (by omega)
        rw [lsS_bad _ _ _ (by rw [hn]; simp)]
        exact hn

/-- No beginning of a list's bytes is one. -/
theorem par_heads (l : List Ls) (hn : ∀ x ∈ l, x.n < 18446744073709551616) (h : (bldA l).2 = 0) (hz : ∀ c ∈ (bldA l).1, 0 ≤ c ∧ c < 256) (c : Nat) (hc : c < (bldA l).1.length) : parA ((bldA l).1.take c) = ([], 3, c) := by
  obtain ⟨e1, e2⟩ := par_back l hn h
  have ha : allS (bldA l).1 = (l, (0, 0, (bldA l).1.length)) := by
    have h2 : l.length ≤ 2048 ∧ ∀ x ∈ l, mayL x := by
      unfold bldA at h
      by_cases h1 : 2048 < l.length
      · rw [if_pos h1] at h; simp at h
      · rw [if_neg h1] at h
        by_cases h2 : ∀ x ∈ l, mayL x
        · exact ⟨by omega, h2⟩
        · rw [if_neg (fun h9 => h2 ((all_may l).1 h9))] at h; simp at h
    rw [e1]
    exact all_put l h2.1 (fun x hx => ⟨h2.2 x hx, hn x hx⟩)
  generalize (bldA l).1 = zs at *
  have hs : (allS (zs.take c)).2 = (3, c, 0) := by
    unfold allS at ha ⊢
    have hb : (numS zs (0, 0, 0) 0 2048 8).2.1 = 0 := by
      by_cases h0 : (numS zs (0, 0, 0) 0 2048 8).2.1 = 0
      · exact h0
      · rw [lsS_bad _ _ _ h0] at ha
        have h3 : (numS zs (0, 0, 0) 0 2048 8).2 = (0, 0, zs.length) := by injection ha
        rw [h3] at h0
        exact absurd rfl h0
    obtain ⟨m, q1, e, g1, g2, g3, g4, g5, g6, g7⟩ := numS_ok zs hz (0, 0, 0) 0 2048 8 rfl hb (.inl (by decide))
    rw [e] at ha
    have hs : lsS zs m (0, 0, q1) = (l, (0, 0, zs.length)) := ha
    have hc1 := num_cut zs 0 m q1 0 2048 8 e g7 g5 c (by omega) (by omega)
    have hi := ls_cut zs hz m q1 zs.length l (g6 (by simp)) hs c
    by_cases h4 : q1 ≤ c
    · have hn := hc1.1 h4
      simp only at hn
      rw [hn, e]
      exact (hi h4 (by omega)).2 hc
    · have hn := hc1.2 (by omega)
      simp only at hn
      rw [lsS_bad _ _ _ (by rw [hn]; simp)]
      exact hn
  unfold parA
  rw [hs]
  have : endS (zs.take c) (3, c, 0) = (3, c, 0) := by unfold endS; rw [if_neg (by simp)]
  rw [this]
  simp
end Go.Proofs.YtgfnohgpmmaocaaDoor
