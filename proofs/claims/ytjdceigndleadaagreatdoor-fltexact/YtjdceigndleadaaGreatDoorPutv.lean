/-
  What a number's digits, put into groups one by one, come to; a number in groups (nat.gather).
-/
import Derived.Test.YtjdceigndleadaaGreatDoorPut
namespace Go.Proofs.YtjdceigndleadaaGreatDoor
open Go.RowKit

theorem wrap_fit {n : Int} (h1 : -9223372036854775808 ≤ n) (h2 : n ≤ 9223372036854775807) : IntKind.i64.wrap n = n := by rw [IntKind.wrap_i64]; omega
theorem upto_val (s : ByteArray) (hp : 0 < s.size) (hd : Digs (bs s)) (k : Nat) (hk : k ≤ s.size) : (upto (digAt s hp hd) k).map Subtype.val = (List.range k).map fun j => (j, (dgs (bs s)).getD j 0) := by
  unfold upto
  rw [List.map_map]
  refine List.map_congr_left fun j hj => ?_
  have hlt : j < s.size := by have := List.mem_range.1 hj; omega
  simp only [Function.comp_apply]
  unfold digAt
  rw [dif_pos hlt]
theorem pow6 (k : Nat) : (10 : Int) ^ (k % 6) = 1 ∨ (10 : Int) ^ (k % 6) = 10 ∨ (10 : Int) ^ (k % 6) = 100 ∨ (10 : Int) ^ (k % 6) = 1000 ∨ (10 : Int) ^ (k % 6) = 10000 ∨ (10 : Int) ^ (k % 6) = 100000 := by
  have h : k % 6 < 6 := Nat.mod_lt _ (by decide)
  generalize k % 6 = m at *
  match m, h with
  | 0, _ => exact .inl rfl
  | 1, _ => exact .inr (.inl rfl)
  | 2, _ => exact .inr (.inr (.inl rfl))
  | 3, _ => exact .inr (.inr (.inr (.inl rfl)))
  | 4, _ => exact .inr (.inr (.inr (.inr (.inl rfl))))
  | 5, _ => exact .inr (.inr (.inr (.inr (.inr rfl))))
theorem pow6_next (k : Nat) : ((10 : Int) ^ (k % 6) = 100000 ∧ (10 : Int) ^ ((k + 1) % 6) = 1) ∨ ((10 : Int) ^ (k % 6) ≤ 10000 ∧ (10 : Int) ^ ((k + 1) % 6) = 10 ^ (k % 6) * 10) := by
  have h : k % 6 < 6 := Nat.mod_lt _ (by decide)
  have e : (k + 1) % 6 = if k % 6 = 5 then 0 else k % 6 + 1 := by split <;> omega
  rw [e]
  generalize k % 6 = m at *
  match m, h with
  | 0, _ => exact .inr (by decide)
  | 1, _ => exact .inr (by decide)
  | 2, _ => exact .inr (by decide)
  | 3, _ => exact .inr (by decide)
  | 4, _ => exact .inr (by decide)
  | 5, _ => exact .inl (by decide)
theorem pow_six (k : Nat) : (1000000 : Int) ^ (k / 6) * 10 ^ (k % 6) = 10 ^ k := by
  have h : (1000000 : Int) = 10 ^ 6 := by decide
  rw [h, ← Int.pow_mul, ← Int.pow_add]
  congr 1
  omega
theorem set_bound {l : List Int} {B C : Int} (h : ∀ g ∈ l, -B ≤ g ∧ g ≤ B) {i : Nat} {u : Int} (hu : -C ≤ u ∧ u ≤ C) (hBC : B ≤ C) : ∀ g ∈ l.set i u, -C ≤ g ∧ g ≤ C := fun g hg => by
  rcases List.mem_or_eq_of_mem_set hg with h1 | h1
  · have := h g h1
    omega
  · rw [h1]; exact hu
/-- The sign is 1 or -1: then a number is added, or taken away. -/
theorem put_value (sign : Int) (hs : sign = 1 ∨ sign = -1) (l : List Int) (B : Int) (hB : 0 ≤ B ∧ B ≤ 1000000000000000) (hl : ∀ g ∈ l, -B ≤ g ∧ g ≤ B) (D : List Int) (hD : Grp 10 D) (hroom : D.length ≤ 6 * l.length) :
    ∀ k, k ≤ D.length → k ≤ 100000 → lv 1000000 (putF sign l ((List.range k).map fun j => (j, D.getD j 0))).1 = lv 1000000 l + sign * lv 10 (D.take k) ∧
      (putF sign l ((List.range k).map fun j => (j, D.getD j 0))).2 = sign * 10 ^ (k % 6) ∧
      (∀ g ∈ (putF sign l ((List.range k).map fun j => (j, D.getD j 0))).1, -(B + 900000 * k) ≤ g ∧ g ≤ B + 900000 * k) := by
  intro k
  induction k with
  | zero =>
    intro _ _
    refine ⟨?_, ?_, ?_⟩
    · show lv 1000000 l = _ + sign * 0
      rw [Int.mul_zero, Int.add_zero]
    · show sign = sign * 1
      rw [Int.mul_one]
    · intro g hg
      have := hl g hg
      omega
  | succ k ih =>
    intro hk hk2
    obtain ⟨h1, h2, h3⟩ := ih (by omega) (by omega)
    have hlen := putF_len sign l ((List.range k).map fun j => (j, D.getD j 0))
    rw [List.range_succ, List.map_append, List.map_cons, List.map_nil, putF_snoc]
    obtain ⟨st, hst⟩ : ∃ st, putF sign l ((List.range k).map fun j => (j, D.getD j 0)) = st := ⟨_, rfl⟩
    rw [hst] at h1 h2 h3 hlen ⊢
    obtain ⟨Gs, T⟩ := st
    dsimp only at h1 h2 h3 hlen
    unfold putStep
    dsimp only
    have hd := hD.at (k := k) (by omega)
    have ht := lv_take 10 D k (by omega)
    have hp := pow_six k
    have hp2 := pow6 k
    have hp3 := pow6_next k
    have hi : k / 6 < Gs.length := by omega
    have hg := h3 _ (getD_mem hi)
    have hset := lv_set 1000000 Gs (k / 6)
    have hTb : -100000 ≤ T ∧ T ≤ 100000 := by rcases hs with rfl | rfl <;> omega
    generalize D.getD k 0 = d at *
    have hdT : -900000 ≤ d * T ∧ d * T ≤ 900000 := by
      have hd9 : d = 0 ∨ d = 1 ∨ d = 2 ∨ d = 3 ∨ d = 4 ∨ d = 5 ∨ d = 6 ∨ d = 7 ∨ d = 8 ∨ d = 9 := by omega
      rcases hd9 with rfl | rfl | rfl | rfl | rfl | rfl | rfl | rfl | rfl | rfl <;> omega
    rw [wrap_fit (n := d * T) (by omega) (by omega), wrap_fit (n := Gs.getD (k / 6) 0 + d * T) (by omega) (by omega), wrap_fit (n := T * 10) (by omega) (by omega), wrap_fit (n := sign * 1000000) (by rcases hs with rfl | rfl <;> omega) (by rcases hs with rfl | rfl <;> omega)]
    refine ⟨?_, ?_, ?_⟩
    · rw [hset _ hi, h1, ht, Int.mul_add, ← Int.add_assoc]
      congr 1
      rw [h2, ← hp, Int.mul_left_comm d, Int.mul_left_comm]
      congr 1
      rw [Int.mul_comm d, Int.mul_assoc]
    · rcases hp3 with ⟨e1, e2⟩ | ⟨e1, e2⟩
      · rw [e2, if_pos (by rw [h2, e1]; rcases hs with rfl | rfl <;> decide), Int.mul_one]
      · rw [e2, if_neg (by rw [h2]; rcases hs with rfl | rfl <;> omega), h2, Int.mul_assoc]
    · refine set_bound (B := B + 900000 * k) h3 ?_ (by omega)
      omega
theorem putF_bound {l : List Int} {i : Nat} (h : ∀ j, j < l.length → 0 ≤ l.getD j 0 ∧ l.getD j 0 < 1000000) : Grp 1000000 l ∧ i = i := by
  refine ⟨fun g hg => ?_, rfl⟩
  obtain ⟨j, hj, rfl⟩ := List.mem_iff_getElem.1 hg
  have := h j hj
  rwa [List.getD_eq_getElem?_getD, List.getElem?_eq_getElem hj] at this
theorem getD_set_eq {l : List Int} {i : Nat} (h : i < l.length) (u : Int) : (l.set i u).getD i 0 = u := by
  rw [List.getD_eq_getElem?_getD, List.getElem?_set_self h]; rfl
theorem getD_set_ne {l : List Int} {i j : Nat} (h : i ≠ j) (u : Int) : (l.set i u).getD j 0 = l.getD j 0 := by
  rw [List.getD_eq_getElem?_getD, List.getElem?_set_ne h, List.getD_eq_getElem?_getD]
theorem pow_mono {a b : Nat} (h : a ≤ b) : (10 : Int) ^ a ≤ 10 ^ b := by
  have := Nat.pow_le_pow_right (n := 10) (by decide) h
  exact_mod_cast this
/-- Put among zeros, each group is one. -/
theorem put_zeros (n : Nat) (D : List Int) (hD : Grp 10 D) (hroom : D.length ≤ 6 * n) :
    ∀ k, k ≤ D.length → k ≤ 100000 → ∀ i, i < n → 0 ≤ (putF 1 (List.replicate n 0) ((List.range k).map fun j => (j, D.getD j 0))).1.getD i 0 ∧ (putF 1 (List.replicate n 0) ((List.range k).map fun j => (j, D.getD j 0))).1.getD i 0 < 10 ^ (min 6 (k - 6 * i)) := by
  intro k
  induction k with
  | zero =>
    intro _ _ i hi
    have e : (putF 1 (List.replicate n 0) ((List.range 0).map fun j => (j, D.getD j 0))).1.getD i 0 = 0 := by
      show (List.replicate n (0 : Int)).getD i 0 = 0
      rw [List.getD_eq_getElem?_getD, List.getElem?_replicate, if_pos hi]; rfl
    rw [e]
    refine ⟨Int.le_refl _, ?_⟩
    exact pow_pos' (by decide) _
  | succ k ih =>
    intro hk hk2 i hi
    have hih := ih (by omega) (by omega)
    obtain ⟨h1, h2, h3⟩ := put_value 1 (.inl rfl) (List.replicate n 0) 0 (by decide) (fun g hg => by rw [(List.mem_replicate.1 hg).2]; decide) D hD (by rw [List.length_replicate]; exact hroom) k (by omega) (by omega)
    have hlen := putF_len 1 (List.replicate n 0) ((List.range k).map fun j => (j, D.getD j 0))
    rw [List.length_replicate] at hlen
    rw [List.range_succ, List.map_append, List.map_cons, List.map_nil, putF_snoc]
    obtain ⟨st, hst⟩ : ∃ st, putF 1 (List.replicate n 0) ((List.range k).map fun j => (j, D.getD j 0)) = st := ⟨_, rfl⟩
    rw [hst] at h1 h2 h3 hlen hih ⊢
    obtain ⟨Gs, T⟩ := st
    dsimp only at h1 h2 h3 hlen hih
    unfold putStep
    dsimp only
    have hd := hD.at (k := k) (by omega)
    have hp2 := pow6 k
    have hi0 : k / 6 < Gs.length := by omega
    have hg := h3 _ (getD_mem hi0)
    generalize D.getD k 0 = d at *
    rw [Int.one_mul] at h2
    by_cases he : k / 6 = i
    · subst he
      rw [getD_set_eq hi0]
      have ha := hih (k / 6) hi
      have e1 : min 6 (k - 6 * (k / 6)) = k % 6 := by omega
      have e2 : min 6 (k + 1 - 6 * (k / 6)) = k % 6 + 1 := by omega
      rw [e1] at ha
      rw [e2, Int.pow_succ, h2]
      have hdT : 0 ≤ d * 10 ^ (k % 6) ∧ d * 10 ^ (k % 6) ≤ 9 * 10 ^ (k % 6) := by
        refine ⟨Int.mul_nonneg hd.1 (by omega), Int.mul_le_mul_of_nonneg_right (by omega) (by omega)⟩
      rw [wrap_fit (n := d * 10 ^ (k % 6)) (by omega) (by omega), wrap_fit (by omega) (by omega)]
      omega
    · rw [getD_set_ne he]
      have ha := hih i hi
      have := pow_mono (a := min 6 (k - 6 * i)) (b := min 6 (k + 1 - 6 * i)) (by omega)
      omega

set_option maxHeartbeats 400000 in
theorem put_any (v : Value) (base : Nat) (l : List Int) (s : ByteArray) (sign : Int) (hs : sign = 1 ∨ sign = -1) (B : Int) (hB : 0 ≤ B ∧ B ≤ 1000000000000000) (hl : ∀ g ∈ l, -B ≤ g ∧ g ≤ B) (w : World) (ho : OwnsI w base v l) (hp : 0 < s.size) (hsz : s.size ≤ 100000) (hd : Digs (bs s)) (hroom : s.size ≤ 6 * l.length) (hbw : base ≤ w.heap.size) :
    Calls Tryz.prog 71 #[v, .string s, .int .i64 sign] w fun e w' => e = .returned (.tuple #[]) ∧ (∃ l', OwnsI w' base v l' ∧ l'.length = l.length ∧ lv 1000000 l' = lv 1000000 l + sign * (val s : Nat) ∧ (∀ g ∈ l', -(B + 900000 * s.size) ≤ g ∧ g ≤ B + 900000 * s.size)) ∧ Below base w w' := by
  obtain ⟨g, n, cap, rfl, hln, hnc, hcm, hbg⟩ := ho.row (by omega)
  have hln' := hln.out
  refine (put_fold g n cap base l s sign w ho hp hd (by omega) (by omega) (by omega) hbw).mono ?_
  rintro e w' ⟨rfl, hO, hb⟩
  refine ⟨rfl, ?_, hb⟩
  rw [upto_val s hp hd s.size (Nat.le_refl _)] at hO
  have hDl : (dgs (bs s)).length = s.size := by rw [dgs_len, bs_len]
  obtain ⟨h1, h2, h3⟩ := put_value sign hs l B hB hl (dgs (bs s)) (dgs_grp hd) (by omega) s.size (by omega) (by omega)
  rw [List.take_of_length_le (by omega), dgs_val hd] at h1
  exact ⟨_, hO, putF_len _ _ _, h1, h3⟩
set_option maxHeartbeats 400000 in
theorem gather_any (s : ByteArray) (w : World) (hp : 0 < s.size) (hsz : s.size ≤ 5000) (hd : Digs (bs s)) :
    Calls Tryz.prog 56 #[.string s] w fun e w' => ∃ v l, e = .returned v ∧ OwnsI w' w.heap.size v l ∧ l.length = (s.size + 5) / 6 ∧ Grp 1000000 l ∧ lv 1000000 l = (val s : Nat) ∧ Below w.heap.size w w' := by
  have hk := room_any s.size (by omega) w
  have hP : Hid (∀ v w1, OwnsI w1 w.heap.size v (List.replicate ((s.size + 5) / 6) 0) → w.heap.size ≤ w1.heap.size → Calls Tryz.prog 71 #[v, .string s, .int .i64 1] w1 fun e w' => e = .returned (.tuple #[]) ∧ (∃ l', OwnsI w' w.heap.size v l' ∧ l'.length = (s.size + 5) / 6 ∧ Grp 1000000 l' ∧ lv 1000000 l' = (val s : Nat)) ∧ Below w.heap.size w1 w') := by
    intro v w1 ho hb
    obtain ⟨g, n, cap, rfl, hln, hnc, hcm, hbg⟩ := ho.row (by rw [List.length_replicate]; omega)
    have hln' := hln.out
    rw [List.length_replicate] at hln'
    refine (put_fold g n cap w.heap.size _ s 1 w1 ho hp hd (by omega) (by omega) (by omega) hb).mono ?_
    rintro e w' ⟨rfl, hO, hb'⟩
    refine ⟨rfl, ?_, hb'⟩
    rw [upto_val s hp hd s.size (Nat.le_refl _)] at hO
    have hDl : (dgs (bs s)).length = s.size := by rw [dgs_len, bs_len]
    obtain ⟨h1, h2, h3⟩ := put_value 1 (.inl rfl) (List.replicate ((s.size + 5) / 6) 0) 0 (by decide) (fun g hg => by rw [(List.mem_replicate.1 hg).2]; decide) (dgs (bs s)) (dgs_grp hd) (by rw [List.length_replicate]; omega) s.size (by omega) (by omega)
    have h4 := put_zeros ((s.size + 5) / 6) (dgs (bs s)) (dgs_grp hd) (by omega) s.size (by omega) (by omega)
    rw [List.take_of_length_le (by omega), dgs_val hd, lv_zeros, Int.one_mul, Int.zero_add] at h1
    have hle := putF_len 1 (List.replicate ((s.size + 5) / 6) 0) ((List.range s.size).map fun j => (j, (dgs (bs s)).getD j 0))
    rw [List.length_replicate] at hle
    refine ⟨_, hO, hle, (putF_bound (i := 0) fun j hj => ?_).1, h1⟩
    have h5 := h4 j (by omega)
    have h6 := pow_mono (a := min 6 (s.size - 6 * j)) (b := 6) (by omega)
    have h7 : (10 : Int) ^ 6 = 1000000 := by decide
    omega
  go_enter Tryz.func56, Tryz.ntmps56
  go_wp2_with (first
    | (go_at_call 70; refine hk.mono ?_; rintro e w1 ⟨v, rfl, ho1, hb1⟩; have k2 := hP.out v w1 ho1 hb1.size)
    | (go_at_call 71; refine k2.mono ?_; rintro e w2 ⟨rfl, ⟨l', ho2, hln, hgr, hlv⟩, hb2⟩))
  go_ret
  exact ⟨v, l', rfl, ho2, hln, hgr, hlv, hb1.trans hb2⟩
end Go.Proofs.YtjdceigndleadaaGreatDoor
