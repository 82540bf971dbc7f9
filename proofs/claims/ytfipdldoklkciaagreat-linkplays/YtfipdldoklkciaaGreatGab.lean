/-
  Texts Store, Look, Loads, Enc.
-/
import Derived.Test.YtfipdldoklkciaaGreatGaa
import Derived.BigRegion
namespace Go.Proofs.YtfipdldoklkciaaGreat
open Go.RowKit

theorem split4 (l : List Int) (t : Nat) (h : t + 4 ≤ l.length) : ∃ p c0 c1 c2 c3 r, l = p ++ ([c0, c1, c2, c3] ++ r) ∧ p.length = t := by
  have hd : (l.drop t).length = l.length - t := List.length_drop
  match hm : l.drop t, hd with
  | c0 :: c1 :: c2 :: c3 :: r, _ => exact ⟨l.take t, c0, c1, c2, c3, r, by rw [show [c0, c1, c2, c3] ++ r = l.drop t from hm.symm]; exact (List.take_append_drop t l).symm, by rw [List.length_take]; omega⟩
  | [], h1 => simp at h1; omega
  | [_], h1 => simp at h1; omega
  | [_, _], h1 => simp at h1; omega
  | [_, _, _], h1 => simp at h1; omega

theorem sealed_run {zs : List Int} (hz : ∀ c ∈ zs, 0 ≤ c ∧ c < 256) (h : Sealed zs) : runL 4294967295 zs = bsN 32 4294967295 := by
  obtain ⟨h4, hd⟩ := h
  have hn := runL_lt (zs.take (zs.length - 4)) 4294967295 (by decide) (take_bytes hz _)
  have hm : moreL 0 (zs.take (zs.length - 4)) = 4294967295 ^^^ runL 4294967295 (zs.take (zs.length - 4)) := rfl
  have hlt := moreL_lt (n := 0) (l := zs.take (zs.length - 4)) (by decide) (take_bytes hz _)
  generalize hp : zs.take (zs.length - 4) = p at *
  have e : zs = p ++ le4 (moreL 0 p) := by rw [← hd, ← hp]; exact (List.take_append_drop _ _).symm
  rw [e, runL_append]
  generalize moreL 0 p = m at *
  have hw : wd ((m % 256 : Nat) : Int) ((m / 256 % 256 : Nat) : Int) ((m / 65536 % 256 : Nat) : Int) ((m / 16777216 % 256 : Nat) : Int) = m := by unfold wd; omega
  rw [le4, run_four _ _ _ _ _ (by omega) (by omega) (by omega) (by omega), hw, hm, Nat.xor_comm, Nat.xor_assoc, Nat.xor_self, Nat.xor_zero]

/-- The byte c turned by the byte e. -/
def tn (c e : Int) : Int := bits .xor .u8 c e

theorem tn_eq {c e : Int} (hc : 0 ≤ c ∧ c < 256) (he : 0 ≤ e ∧ e < 256) : tn c e = ((c.toNat ^^^ e.toNat : Nat) : Int) := u8_xor c e hc.1 hc.2 he.1 he.2

theorem tn_byte {c e : Int} (hc : 0 ≤ c ∧ c < 256) (he : 0 ≤ e ∧ e < 256) : 0 ≤ tn c e ∧ tn c e < 256 := by
  rw [tn_eq hc he]
  have := Nat.xor_lt_two_pow (n := 8) (show c.toNat < 2 ^ 8 by omega) (show e.toNat < 2 ^ 8 by omega)
  omega

theorem tn_same {c e : Int} (hc : 0 ≤ c ∧ c < 256) (he : 0 ≤ e ∧ e < 256) (h : c = tn c e) : e = 0 := by
  rw [tn_eq hc he] at h
  have h1 : c.toNat ^^^ 0 = c.toNat ^^^ e.toNat := by rw [Nat.xor_zero]; omega
  rw [Nat.xor_comm, Nat.xor_comm c.toNat e.toNat] at h1
  have := xor_cancel h1
  omega

/-- FOUR BYTES THAT STAND TOGETHER, TURNED BY A WORD THAT IS NOT 0: not sealed any more. -/
theorem turned_not (p r : List Int) (c0 c1 c2 c3 : Int) (y : Nat) (hy : y < 4294967296) (h0 : y ≠ 0) (hz : ∀ c ∈ p ++ ([c0, c1, c2, c3] ++ r), 0 ≤ c ∧ c < 256)
    (hs : Sealed (p ++ ([c0, c1, c2, c3] ++ r))) :
    ¬ Sealed (p ++ ([tn c0 ((y : Int) % 256), tn c1 ((y : Int) / 256 % 256), tn c2 ((y : Int) / 65536 % 256), tn c3 ((y : Int) / 16777216)] ++ r)) := by
  intro hs'
  have hp : ∀ c ∈ p, 0 ≤ c ∧ c < 256 := fun c hc => hz c (by simp [hc])
  have hr : ∀ c ∈ r, 0 ≤ c ∧ c < 256 := fun c hc => hz c (by simp [hc])
  have k0 := hz c0 (by simp)
  have k1 := hz c1 (by simp)
  have k2 := hz c2 (by simp)
  have k3 := hz c3 (by simp)
  have e0 : 0 ≤ (y : Int) % 256 ∧ (y : Int) % 256 < 256 := by omega
  have e1 : 0 ≤ (y : Int) / 256 % 256 ∧ (y : Int) / 256 % 256 < 256 := by omega
  have e2 : 0 ≤ (y : Int) / 65536 % 256 ∧ (y : Int) / 65536 % 256 < 256 := by omega
  have e3 : 0 ≤ (y : Int) / 16777216 ∧ (y : Int) / 16777216 < 256 := by omega
  have t0 := tn_byte k0 e0
  have t1 := tn_byte k1 e1
  have t2 := tn_byte k2 e2
  have t3 := tn_byte k3 e3
  have hz' : ∀ c ∈ p ++ ([tn c0 ((y : Int) % 256), tn c1 ((y : Int) / 256 % 256), tn c2 ((y : Int) / 65536 % 256), tn c3 ((y : Int) / 16777216)] ++ r), 0 ≤ c ∧ c < 256 := by
    intro c hc
    simp only [List.mem_append, List.mem_cons, List.not_mem_nil, or_false] at hc
    rcases hc with hc | (rfl | rfl | rfl | rfl) | hc
    · exact hp c hc
    · exact t0
    · exact t1
    · exact t2
    · exact t3
    · exact hr c hc
  obtain ⟨b0, b1, b2, b3⟩ := burst 4294967295 p r _ _ _ _ _ _ _ _ (by decide) hp hr k0 k1 k2 k3 t0 t1 t2 t3 ((sealed_run hz hs).trans (sealed_run hz' hs').symm)
  have z0 := tn_same k0 e0 b0
  have z1 := tn_same k1 e1 b1
  have z2 := tn_same k2 e2 b2
  have z3 := tn_same k3 e3 b3
  omega

/-- The four bytes, the first k of them turned. -/
def qs (c0 c1 c2 c3 : Int) (y : Nat) : Nat → List Int
  | 0 => [c0, c1, c2, c3]
  | 1 => [tn c0 ((y : Int) % 256), c1, c2, c3]
  | 2 => [tn c0 ((y : Int) % 256), tn c1 ((y : Int) / 256 % 256), c2, c3]
  | 3 => [tn c0 ((y : Int) % 256), tn c1 ((y : Int) / 256 % 256), tn c2 ((y : Int) / 65536 % 256), c3]
  | _ => [tn c0 ((y : Int) % 256), tn c1 ((y : Int) / 256 % 256), tn c2 ((y : Int) / 65536 % 256), tn c3 ((y : Int) / 16777216)]

theorem getD_mid (p q r : List Int) (j : Nat) (h : j < q.length) : (p ++ (q ++ r)).getD (p.length + j) 0 = q.getD j 0 := by
  rw [List.getD_eq_getElem?_getD, List.getD_eq_getElem?_getD, List.getElem?_append_right (by omega), List.getElem?_append_left (by omega)]
  congr 2
  omega

theorem set_mid (p q r : List Int) (j : Nat) (c : Int) (h : j < q.length) : (p ++ (q ++ r)).set (p.length + j) c = p ++ (q.set j c ++ r) := by
  rw [List.set_append_right _ _ (by omega), List.set_append_left _ _ (by omega), Nat.add_sub_cancel_left]

/-- One of the four bytes is read .. -/
theorem mid_cell {w : World} {base g n cap : Nat} {p q r : List Int} (h : OwnR w base g n cap (p ++ (q ++ r))) (j t : Nat) (c : Int) (hj : j < q.length) (hc : q.getD j 0 = c) (ht : p.length + j = t) :
    w.cell? ⟨g, t, none⟩ = some (.int .u8 c) := by
  have hn := h.2.1
  simp only [List.length_append] at hn
  rw [h.cell t (by omega), ← ht, getD_mid p q r j hj, hc]

/-- .. and turned. -/
theorem turn_row {w : World} {base g n cap : Nat} {p q r : List Int} (h : OwnR w base g n cap (p ++ (q ++ r))) (j t : Nat) (c e : Int) (q' : List Int) (hj : j < q.length) (hc : q.getD j 0 = c) (he : 0 ≤ e ∧ e < 256)
    (hq : q.set j (tn c e) = q') (ht : p.length + j = t) : OwnR (w.setCell ⟨g, t, none⟩ (.int .u8 (bits .xor .u8 c e))) base g n cap (p ++ (q' ++ r)) := by
  have hcb : 0 ≤ c ∧ c < 256 := h.2.2.1 c (by
    rw [← hc, List.getD_eq_getElem?_getD, List.getElem?_eq_getElem hj]
    simp)
  have := h.store t (tn c e) (tn_byte hcb he)
  rw [← ht, set_mid p q r j _ hj, hq, ht] at this
  exact this
end Go.Proofs.YtfipdldoklkciaaGreat
namespace Go.Proofs.YtfipdldoklkciaaGreat

/-- How many bytes a load has, by its head; bytes of the head that are not there are 0. -/
def nAt (b : List Int) : Nat := (b.getD 2 0).toNat * 256 + (b.getD 3 0).toNat
/-- The mark stands there, as far as there are bytes. -/
def Marked (b : List Int) : Prop := b.getD 0 0 = 165 ∧ (b.length < 2 ∨ b.getD 1 0 = 90)
/-- How a frame begins, of a length that may be. -/
def Front (b : List Int) : Prop := Marked b ∧ nAt b ≤ 1200
/-- A whole frame begins there. -/
def Whole (b : List Int) : Prop := Front b ∧ nAt b + 8 ≤ b.length ∧ Sealed ((b.take (nAt b + 8)).drop 2)
/-- There are too few bytes to tell. -/
def Few (b : List Int) : Prop := Front b ∧ b.length < nAt b + 8
/-- The load there. -/
def loadAt (b : List Int) : List Int := (b.drop 4).take (nAt b)
/-- How many bytes the frames of loads have. -/
def sz (L : List (List Int)) : Nat := (L.map fun l => l.length + 8).sum

theorem sz_nil : sz [] = 0 := rfl
theorem sz_cons (l : List Int) (L : List (List Int)) : sz (l :: L) = l.length + 8 + sz L := by simp [sz]
theorem sz_append (L M : List (List Int)) : sz (L ++ M) = sz L + sz M := by simp [sz]
theorem sz_many (L : List (List Int)) : 8 * L.length ≤ sz L := by
  induction L with
  | nil => simp
  | cons l L ih => rw [sz_cons, List.length_cons]; omega

theorem load_len {b : List Int} (h : nAt b + 8 ≤ b.length) : (loadAt b).length = nAt b := by
  unfold loadAt
  rw [List.length_take, List.length_drop]
  omega

/-- Whether the mark stands there; whether a whole frame does; whether there are too few bytes. -/
def markB (b : List Int) : Bool := decide (b.getD 0 0 = 165 ∧ (b.length < 2 ∨ b.getD 1 0 = 90))
def wholeB (b : List Int) : Bool := decide (((b.getD 0 0 = 165 ∧ (b.length < 2 ∨ b.getD 1 0 = 90)) ∧ nAt b ≤ 1200) ∧ nAt b + 8 ≤ b.length ∧ (4 ≤ ((b.take (nAt b + 8)).drop 2).length ∧ ((b.take (nAt b + 8)).drop 2).drop (((b.take (nAt b + 8)).drop 2).length - 4) = le4 (moreL 0 (((b.take (nAt b + 8)).drop 2).take (((b.take (nAt b + 8)).drop 2).length - 4)))))
def fewB (b : List Int) : Bool := decide (((b.getD 0 0 = 165 ∧ (b.length < 2 ∨ b.getD 1 0 = 90)) ∧ nAt b ≤ 1200) ∧ b.length < nAt b + 8)
theorem markB_yes {b : List Int} (h : Marked b) : markB b = true := decide_eq_true h
theorem markB_no {b : List Int} (h : ¬ Marked b) : markB b = false := decide_eq_false h
theorem markB_iff (b : List Int) : markB b = true ↔ Marked b := decide_eq_true_iff
theorem wholeB_yes {b : List Int} (h : Whole b) : wholeB b = true := decide_eq_true h
theorem wholeB_no {b : List Int} (h : ¬ Whole b) : wholeB b = false := decide_eq_false h
theorem fewB_yes {b : List Int} (h : Few b) : fewB b = true := decide_eq_true h
theorem fewB_no {b : List Int} (h : ¬ Few b) : fewB b = false := decide_eq_false h

/-- A look of k steps at most. -/
def scanF : Nat → List Int → List (List Int) × Nat
  | 0, _ => ([], 0)
  | k + 1, b =>
    if b = [] then ([], 0)
    else if wholeB b = true then (loadAt b :: (scanF k (b.drop (nAt b + 8))).1, nAt b + 8 + (scanF k (b.drop (nAt b + 8))).2)
    else if fewB b = true then ([], 0)
    else ((scanF k (b.drop 1)).1, 1 + (scanF k (b.drop 1)).2)
/-- A LOOK THROUGH BYTES: the loads found, and where it ended. -/
def scanL (b : List Int) : List (List Int) × Nat := scanF b.length b

theorem scanF_nil (k : Nat) : scanF k [] = ([], 0) := by
  cases k with
  | zero => rfl
  | succ k => rw [scanF, if_pos rfl]
theorem scanF_more (k : Nat) : ∀ (b : List Int) (m : Nat), b.length ≤ k → k ≤ m → scanF m b = scanF k b := by
  induction k with
  | zero =>
    intro b m h _
    obtain rfl : b = [] := List.eq_nil_of_length_eq_zero (by omega)
    rw [scanF_nil, scanF_nil]
  | succ k ih =>
    intro b m h hm
    obtain ⟨m, rfl⟩ : ∃ m', m = m' + 1 := ⟨m - 1, by omega⟩
    by_cases h0 : b = []
    · subst h0; rw [scanF_nil, scanF_nil]
    · have hp := List.length_pos_iff.2 h0
      rw [scanF, scanF, if_neg h0, if_neg h0, ih (b.drop (nAt b + 8)) m (by rw [List.length_drop]; omega) (by omega), ih (b.drop 1) m (by rw [List.length_drop]; omega) (by omega)]
theorem scan_eq {b : List Int} (h0 : b ≠ []) : scanL b = if wholeB b = true then (loadAt b :: (scanL (b.drop (nAt b + 8))).1, nAt b + 8 + (scanL (b.drop (nAt b + 8))).2) else if fewB b = true then ([], 0) else ((scanL (b.drop 1)).1, 1 + (scanL (b.drop 1)).2) := by
  have hp := List.length_pos_iff.2 h0
  unfold scanL
  obtain ⟨k, hk⟩ : ∃ k, b.length = k + 1 := ⟨b.length - 1, by omega⟩
  rw [hk, scanF, if_neg h0, scanF_more (b.drop (nAt b + 8)).length (b.drop (nAt b + 8)) k (Nat.le_refl _) (by rw [List.length_drop]; omega), scanF_more (b.drop 1).length (b.drop 1) k (Nat.le_refl _) (by rw [List.length_drop]; omega)]

theorem scan_nil : scanL [] = ([], 0) := rfl
theorem whole_ne {b : List Int} (h : Whole b) : b ≠ [] := by
  rintro rfl
  have := h.2.1
  simp at this
theorem scan_whole {b : List Int} (h : Whole b) : scanL b = (loadAt b :: (scanL (b.drop (nAt b + 8))).1, nAt b + 8 + (scanL (b.drop (nAt b + 8))).2) := by
  rw [scan_eq (whole_ne h), wholeB_yes h, if_pos rfl]
theorem few_not {b : List Int} (h : Few b) : ¬ Whole b := fun k => by have := k.2.1; have := h.2; omega
theorem scan_few {b : List Int} (h : Few b) : scanL b = ([], 0) := by
  by_cases h0 : b = []
  · subst h0; exact scan_nil
  · rw [scan_eq h0, wholeB_no (few_not h), if_neg (by simp), fewB_yes h, if_pos rfl]
theorem scan_step {b : List Int} (h0 : b ≠ []) (h1 : ¬ Whole b) (h2 : ¬ Few b) : scanL b = ((scanL (b.drop 1)).1, 1 + (scanL (b.drop 1)).2) := by
  rw [scan_eq h0, wholeB_no h1, if_neg (by simp), fewB_no h2, if_neg (by simp)]

theorem scan_up {M : List Int → Prop} (nil : M []) (whole : ∀ b, Whole b → M (b.drop (nAt b + 8)) → M b) (few : ∀ b, Few b → M b) (step : ∀ b, b ≠ [] → ¬ Whole b → ¬ Few b → M (b.drop 1) → M b) (k : Nat) : ∀ b : List Int, b.length ≤ k → M b := by
  induction k with
  | zero =>
    intro b h
    obtain rfl : b = [] := List.eq_nil_of_length_eq_zero (by omega)
    exact nil
  | succ k ih =>
    intro b h
    by_cases h0 : b = []
    · subst h0; exact nil
    · have hp := List.length_pos_iff.2 h0
      by_cases h1 : Whole b
      · exact whole b h1 (ih _ (by rw [List.length_drop]; omega))
      · by_cases h2 : Few b
        · exact few b h2
        · exact step b h0 h1 h2 (ih _ (by rw [List.length_drop]; omega))
/-- BY LENGTH: what holds of no bytes, goes over a frame, stands where there are too few, and goes over a byte, holds of all bytes. -/
theorem scan_ind {M : List Int → Prop} (nil : M []) (whole : ∀ b, Whole b → M (b.drop (nAt b + 8)) → M b) (few : ∀ b, Few b → M b) (step : ∀ b, b ≠ [] → ¬ Whole b → ¬ Few b → M (b.drop 1) → M b) (b : List Int) : M b := scan_up nil whole few step b.length b (Nat.le_refl _)

theorem scan_le (b : List Int) : (scanL b).2 ≤ b.length ∧ sz (scanL b).1 ≤ (scanL b).2 := by
  induction b using scan_ind with
  | nil => rw [scan_nil]; exact ⟨Nat.le_refl _, Nat.le_refl _⟩
  | whole b h ih =>
    rw [scan_whole h]
    have h1 := h.2.1
    rw [List.length_drop] at ih
    refine ⟨by dsimp only; omega, ?_⟩
    dsimp only
    rw [sz_cons, load_len h1]
    omega
  | few b h => rw [scan_few h]; exact ⟨Nat.zero_le _, Nat.le_refl _⟩
  | step b h0 h1 h2 ih =>
    rw [scan_step h0 h1 h2]
    have := List.length_pos_iff.2 h0
    rw [List.length_drop] at ih
    dsimp only
    omega

theorem scan_rest (b : List Int) : b.drop (scanL b).2 = [] ∨ Few (b.drop (scanL b).2) := by
  induction b using scan_ind with
  | nil => left; simp
  | whole b h ih => rw [scan_whole h]; dsimp only; rw [← List.drop_drop]; exact ih
  | few b h => rw [scan_few h]; right; simpa using h
  | step b h0 h1 h2 ih => rw [scan_step h0 h1 h2]; dsimp only; rw [← List.drop_drop]; exact ih

/-- Less than a frame's bytes wait. -/
theorem rest_lt (b : List Int) : (b.drop (scanL b).2).length < 1208 := by
  rcases scan_rest b with h | h
  · rw [h]; simp
  · have h1 := h.2
    have h2 := h.1.2
    omega

theorem getD_left {a c : List Int} {i : Nat} (h : i < a.length) : (a ++ c).getD i 0 = a.getD i 0 := by
  rw [List.getD_eq_getElem?_getD, List.getD_eq_getElem?_getD, List.getElem?_append_left h]
theorem getD_out {a : List Int} {i : Nat} (h : a.length ≤ i) : a.getD i 0 = 0 := by
  rw [List.getD_eq_getElem?_getD, List.getElem?_eq_none h]; rfl

theorem nAt_left {a : List Int} (c : List Int) (h : 4 ≤ a.length) : nAt (a ++ c) = nAt a := by
  unfold nAt
  rw [getD_left (by omega), getD_left (by omega)]
theorem nAt_more (a c : List Int) : nAt a ≤ nAt (a ++ c) := by
  unfold nAt
  by_cases h3 : 3 < a.length
  · rw [getD_left h3, getD_left (by omega)]; exact Nat.le_refl _
  · rw [getD_out (a := a) (i := 3) (by omega)]
    by_cases h2 : 2 < a.length
    · rw [getD_left h2]; simp
    · rw [getD_out (a := a) (i := 2) (by omega)]; simp
theorem front_left {a : List Int} (c : List Int) (h0 : a ≠ []) (h : Front (a ++ c)) : Front a := by
  obtain ⟨⟨h1, h2⟩, h3⟩ := h
  have hp := List.length_pos_iff.2 h0
  rw [getD_left hp] at h1
  refine ⟨⟨h1, ?_⟩, Nat.le_trans (nAt_more a c) h3⟩
  by_cases h4 : a.length < 2
  · exact .inl h4
  · right
    rcases h2 with h2 | h2
    · rw [List.length_append] at h2; omega
    · rwa [getD_left (by omega)] at h2
theorem whole_right {a : List Int} (c : List Int) (h : Whole a) : Whole (a ++ c) ∧ nAt (a ++ c) = nAt a ∧ loadAt (a ++ c) = loadAt a := by
  obtain ⟨⟨⟨h1, h2⟩, h3⟩, h4, h5⟩ := h
  have hn := nAt_left c (show 4 ≤ a.length by omega)
  refine ⟨⟨⟨⟨?_, .inr ?_⟩, by rw [hn]; exact h3⟩, ?_, ?_⟩, hn, ?_⟩
  · rw [getD_left (by omega)]; exact h1
  · rw [getD_left (by omega)]
    rcases h2 with h2 | h2
    · omega
    · exact h2
  · rw [hn, List.length_append]; omega
  · rw [hn, List.take_append_of_le_length h4]; exact h5
  · unfold loadAt
    rw [hn, List.drop_append_of_le_length (by omega), List.take_append_of_le_length (by rw [List.length_drop]; omega)]
theorem no_right {a : List Int} (c : List Int) (h0 : a ≠ []) (h1 : ¬ Whole a) (h2 : ¬ Few a) : ¬ Whole (a ++ c) ∧ ¬ Few (a ++ c) := by
  by_cases hf : Front a
  · have hl : nAt a + 8 ≤ a.length := by
      rcases Nat.lt_or_ge a.length (nAt a + 8) with h | h
      · exact absurd ⟨hf, h⟩ h2
      · exact h
    have hn := nAt_left c (show 4 ≤ a.length by omega)
    refine ⟨fun h => h1 ⟨hf, hl, ?_⟩, fun h => ?_⟩
    · have h5 := h.2.2
      rwa [hn, List.take_append_of_le_length hl] at h5
    · have h5 := h.2
      rw [hn, List.length_append] at h5
      omega
  · exact ⟨fun h => hf (front_left c h0 h.1), fun h => hf (front_left c h0 h.1)⟩

/-- THE LOOK THROUGH BYTES AND BYTES: that through the first ones, and then that through what is left of them and the others. -/
theorem scan_append (a c : List Int) : scanL (a ++ c) = ((scanL a).1 ++ (scanL (a.drop (scanL a).2 ++ c)).1, (scanL a).2 + (scanL (a.drop (scanL a).2 ++ c)).2) := by
  induction a using scan_ind with
  | nil => rw [scan_nil]; simp
  | whole a h ih =>
    obtain ⟨k1, k2, k3⟩ := whole_right c h
    have hd : (a ++ c).drop (nAt a + 8) = a.drop (nAt a + 8) ++ c := List.drop_append_of_le_length h.2.1
    rw [scan_whole k1, k2, k3, hd, ih, scan_whole h]
    dsimp only
    rw [List.drop_drop, List.cons_append]
    simp only [Nat.add_assoc]
  | few a h => rw [scan_few h]; simp
  | step a h0 h1 h2 ih =>
    obtain ⟨k1, k2⟩ := no_right c h0 h1 h2
    have hp := List.length_pos_iff.2 h0
    have hd : (a ++ c).drop 1 = a.drop 1 ++ c := List.drop_append_of_le_length hp
    rw [scan_step (by simp [h0]) k1 k2, hd, ih, scan_step h0 h1 h2]
    dsimp only
    rw [List.drop_drop, Nat.add_assoc]

/-- What waits, and how many are lost, behind bytes that came. -/
def waitS (b : List Int) : List Int := b.drop (scanL b).2
def lostS (b : List Int) : Nat := (scanL b).2 - sz (scanL b).1

theorem wait_append (a c : List Int) : (waitS a ++ c).drop (scanL (waitS a ++ c)).2 = waitS (a ++ c) := by
  have h := (scan_le a).1
  unfold waitS
  rw [scan_append a c]
  dsimp only
  rw [← List.drop_drop, List.drop_append_of_le_length h]
theorem lost_append (a c : List Int) : lostS a + ((scanL (waitS a ++ c)).2 - sz (scanL (waitS a ++ c)).1) = lostS (a ++ c) := by
  have h := (scan_le a).2
  have h1 := (scan_le (waitS a ++ c)).2
  unfold lostS
  rw [scan_append a c]
  dsimp only
  rw [sz_append]
  show _ = _ + (scanL (waitS a ++ c)).2 - (_ + sz (scanL (waitS a ++ c)).1)
  omega
theorem found_append (a c : List Int) : (scanL (a ++ c)).1 = (scanL a).1 ++ (scanL (waitS a ++ c)).1 := by rw [scan_append]; rfl
theorem wait_all (b : List Int) : (waitS b).length + lostS b + sz (scanL b).1 = b.length := by
  have h := scan_le b
  unfold waitS lostS
  rw [List.length_drop]
  omega

/-- A load's frame. -/
def head2 (l : List Int) : List Int := [((l.length / 256 : Nat) : Int), ((l.length % 256 : Nat) : Int)]
def told (l : List Int) : List Int := head2 l ++ l
def frameL (l : List Int) : List Int := [165, 90] ++ (told l ++ le4 (moreL 0 (told l)))

theorem told_bytes {l : List Int} (hz : ∀ c ∈ l, 0 ≤ c ∧ c < 256) (hl : l.length ≤ 1200) : ∀ c ∈ told l, 0 ≤ c ∧ c < 256 := by
  intro c hc
  rcases List.mem_append.1 hc with h | h
  · simp only [head2, List.mem_cons, List.not_mem_nil, or_false] at h
    rcases h with rfl | rfl <;> omega
  · exact hz c h
theorem frame_len (l : List Int) : (frameL l).length = l.length + 8 := by simp [frameL, told, head2, le4]
theorem frame_cons (l : List Int) : frameL l = 165 :: 90 :: ((l.length / 256 : Nat) : Int) :: ((l.length % 256 : Nat) : Int) :: (l ++ le4 (moreL 0 (told l))) := by
  simp [frameL, told, head2]
theorem frame_nAt (l r : List Int) : nAt (frameL l ++ r) = l.length := by
  rw [frame_cons]
  show Int.toNat (((l.length / 256 : Nat) : Int)) * 256 + Int.toNat (((l.length % 256 : Nat) : Int)) = _
  omega
theorem frame_whole (l r : List Int) (hl : l.length ≤ 1200) : Whole (frameL l ++ r) ∧ loadAt (frameL l ++ r) = l ∧ (frameL l ++ r).drop (nAt (frameL l ++ r) + 8) = r := by
  have hn := frame_nAt l r
  have hlen := frame_len l
  refine ⟨⟨⟨⟨?_, .inr ?_⟩, by rw [hn]; exact hl⟩, ?_, ?_⟩, ?_, ?_⟩
  · rw [frame_cons]; rfl
  · rw [frame_cons]; rfl
  · rw [hn, List.length_append, hlen]; omega
  · rw [hn, ← hlen, List.take_left' rfl]
    show Sealed ((frameL l).drop 2)
    have : (frameL l).drop 2 = told l ++ le4 (moreL 0 (told l)) := by unfold frameL; rfl
    rw [this]
    exact (sealed_seal (told l)).1
  · unfold loadAt
    rw [hn, frame_cons]
    show (l ++ le4 (moreL 0 (told l)) ++ r).take l.length = l
    rw [List.append_assoc]
    exact List.take_left' rfl
  · rw [hn, ← hlen]
    exact List.drop_left' rfl
theorem scan_frame (l r : List Int) (hl : l.length ≤ 1200) : scanL (frameL l ++ r) = (l :: (scanL r).1, l.length + 8 + (scanL r).2) := by
  obtain ⟨h1, h2, h3⟩ := frame_whole l r hl
  rw [scan_whole h1, h2, h3, frame_nAt]
theorem scan_other (c : Int) (r : List Int) (hc : c ≠ 165) : scanL (c :: r) = ((scanL r).1, 1 + (scanL r).2) := by
  have hf : ¬ Front (c :: r) := fun h => hc h.1.1
  rw [scan_step (by simp) (fun h => hf h.1) (fun h => hf h.1)]
  rfl

/-- BYTES THAT A LOOK GOES PAST WHOLE, WHATEVER COMES BEHIND: it finds the loads L in them. -/
def Passed (b : List Int) (L : List (List Int)) : Prop := ∀ r, scanL (b ++ r) = (L ++ (scanL r).1, b.length + (scanL r).2)
theorem passed_nil : Passed [] [] := fun r => by simp
theorem Passed.frame {b : List Int} {L : List (List Int)} (h : Passed b L) (l : List Int) (hl : l.length ≤ 1200) : Passed (b ++ frameL l) (L ++ [l]) := fun r => by
  rw [List.append_assoc, h, scan_frame l r hl, List.length_append, frame_len]
  simp [Nat.add_assoc]
theorem Passed.other {b : List Int} {L : List (List Int)} (h : Passed b L) (c : Int) (hc : c ≠ 165) : Passed (b ++ [c]) L := fun r => by
  rw [List.append_assoc, h]
  show ((L ++ (scanL (c :: r)).1, b.length + (scanL (c :: r)).2) : List (List Int) × Nat) = _
  rw [scan_other c r hc]
  simp [Nat.add_assoc]
theorem Passed.all {b : List Int} {L : List (List Int)} (h : Passed b L) : scanL b = (L, b.length) := by
  have := h []
  rwa [List.append_nil, scan_nil, List.append_nil] at this

/-- A flush of k looks at most. -/
def flushF : Nat → List Int → List (List Int)
  | 0, _ => []
  | k + 1, q => if q = [] then [] else (scanL (q.drop 1)).1 ++ flushF k ((q.drop 1).drop (scanL (q.drop 1)).2)
/-- WHAT A FLUSH FINDS. -/
def flushL (q : List Int) : List (List Int) := flushF q.length q
theorem flushF_nil (k : Nat) : flushF k [] = [] := by
  cases k with
  | zero => rfl
  | succ k => rw [flushF, if_pos rfl]
theorem flushF_more (k : Nat) : ∀ (q : List Int) (m : Nat), q.length ≤ k → k ≤ m → flushF m q = flushF k q := by
  induction k with
  | zero =>
    intro q m h _
    obtain rfl : q = [] := List.eq_nil_of_length_eq_zero (by omega)
    rw [flushF_nil, flushF_nil]
  | succ k ih =>
    intro q m h hm
    obtain ⟨m, rfl⟩ : ∃ m', m = m' + 1 := ⟨m - 1, by omega⟩
    by_cases h0 : q = []
    · subst h0; rw [flushF_nil, flushF_nil]
    · have hp := List.length_pos_iff.2 h0
      rw [flushF, flushF, if_neg h0, if_neg h0, ih _ m (by rw [List.length_drop, List.length_drop]; omega) (by omega)]
theorem flush_nil : flushL [] = [] := rfl
theorem flush_some {q : List Int} (h : q ≠ []) : flushL q = (scanL (q.drop 1)).1 ++ flushL ((q.drop 1).drop (scanL (q.drop 1)).2) := by
  have hp := List.length_pos_iff.2 h
  unfold flushL
  obtain ⟨k, hk⟩ : ∃ k, q.length = k + 1 := ⟨q.length - 1, by omega⟩
  rw [hk, flushF, if_neg h, flushF_more ((q.drop 1).drop (scanL (q.drop 1)).2).length _ k (Nat.le_refl _) (by rw [List.length_drop, List.length_drop]; omega)]

/-- A load that is found in bytes stands at a place of them. -/
def In (b l : List Int) : Prop := ∃ p, Whole (b.drop p) ∧ l = loadAt (b.drop p)
theorem In.later {b l : List Int} {k : Nat} (h : In (b.drop k) l) : In b l := by
  obtain ⟨p, h1, h2⟩ := h
  rw [List.drop_drop] at h1 h2
  exact ⟨k + p, h1, h2⟩
theorem scan_in (b l : List Int) : l ∈ (scanL b).1 → In b l := by
  induction b using scan_ind with
  | nil => rw [scan_nil]; simp
  | whole b h ih =>
    rw [scan_whole h]
    intro hl
    rcases List.mem_cons.1 hl with rfl | hl
    · exact ⟨0, by simpa using h, by simp⟩
    · exact (ih hl).later
  | few b h => rw [scan_few h]; simp
  | step b h0 h1 h2 ih => rw [scan_step h0 h1 h2]; intro hl; exact (ih hl).later
theorem flush_in_up (l : List Int) (k : Nat) : ∀ q : List Int, q.length ≤ k → l ∈ flushL q → In q l := by
  induction k with
  | zero =>
    intro q h
    obtain rfl : q = [] := List.eq_nil_of_length_eq_zero (by omega)
    rw [flush_nil]; simp
  | succ k ih =>
    intro q hk
    by_cases h : q = []
    · subst h; rw [flush_nil]; simp
    · rw [flush_some h]
      intro hl
      have := List.length_pos_iff.2 h
      rcases List.mem_append.1 hl with h1 | h1
      · exact (scan_in _ _ h1).later
      · exact (ih _ (by rw [List.length_drop, List.length_drop]; omega) h1).later.later
theorem flush_in (q l : List Int) : l ∈ flushL q → In q l := flush_in_up l q.length q (Nat.le_refl _)
theorem flush_le_up (k : Nat) : ∀ q : List Int, q.length ≤ k → sz (flushL q) ≤ q.length := by
  induction k with
  | zero =>
    intro q h
    obtain rfl : q = [] := List.eq_nil_of_length_eq_zero (by omega)
    rw [flush_nil]; simp [sz]
  | succ k ih =>
    intro q hk
    by_cases h : q = []
    · subst h; rw [flush_nil]; simp [sz]
    · rw [flush_some h, sz_append]
      have := List.length_pos_iff.2 h
      have h1 := scan_le (q.drop 1)
      have h2 := ih ((q.drop 1).drop (scanL (q.drop 1)).2) (by rw [List.length_drop, List.length_drop]; omega)
      rw [List.length_drop, List.length_drop] at h2
      rw [List.length_drop] at h1
      omega
theorem flush_le (q : List Int) : sz (flushL q) ≤ q.length := flush_le_up q.length q (Nat.le_refl _)

/-- Where as many bytes as a load's frame has hold that load, they are its frame. -/
theorem in_frame {b l : List Int} (hb : ∀ c ∈ b, 0 ≤ c ∧ c < 256) (hlen : b.length = l.length + 8) (h : In b l) : b = frameL l := by
  obtain ⟨p, h1, h2⟩ := h
  have hn := load_len h1.2.1
  rw [← h2] at hn
  have h3 := h1.2.1
  rw [List.length_drop] at h3
  have hp : p = 0 := by omega
  subst hp
  rw [List.drop_zero] at h1 h2 hn
  obtain ⟨⟨⟨m1, m2⟩, m3⟩, m4, m5⟩ := h1
  have m2' : b.getD 1 0 = 90 := by
    rcases m2 with m | m
    · omega
    · exact m
  rw [← hn, ← hlen, List.take_length] at m5
  rcases b with _ | ⟨c0, _ | ⟨c1, _ | ⟨c2, _ | ⟨c3, r⟩⟩⟩⟩
  · simp at hlen
  · simp at hlen
  · simp at hlen
  · simp at hlen
  ·
    have e0 : c0 = 165 := m1
    have e1 : c1 = 90 := m2'
    have z2 := hb c2 (by simp)
    have z3 := hb c3 (by simp)
    have en : l.length = c2.toNat * 256 + c3.toNat := hn
    have el : l = r.take l.length := by
      have h7 : l = r.take (nAt (c0 :: c1 :: c2 :: c3 :: r)) := h2
      rw [← hn] at h7
      exact h7
    have e2 : c2 = ((l.length / 256 : Nat) : Int) := by omega
    have e3 : c3 = ((l.length % 256 : Nat) : Int) := by omega
    have hr : r.length = l.length + 4 := by simp only [List.length_cons] at hlen; omega
    have m5' : Sealed (c2 :: c3 :: r) := m5
    have h6 := m5'.2
    have hk : (c2 :: c3 :: r).length - 4 = l.length + 2 := by simp only [List.length_cons]; omega
    rw [hk] at h6
    have ht : (c2 :: c3 :: r).take (l.length + 2) = told l := by
      show c2 :: c3 :: r.take l.length = _
      rw [← el, e2, e3]
      rfl
    have hd : (c2 :: c3 :: r).drop (l.length + 2) = r.drop l.length := rfl
    rw [ht, hd] at h6
    rw [frame_cons, e0, e1, ← e2, ← e3, ← h6]
    congr 4
    conv => lhs; rw [← List.take_append_drop l.length r, ← el]
end Go.Proofs.YtfipdldoklkciaaGreat
namespace Go.Proofs.YtfipdldoklkciaaGreat
open Go.RowKit

theorem info22 : (Tryz.prog.info? 42).map (fun i => (i.zero, i.size, i.bytes)) = some (some (.slice none 0 0), 1, 24) := by kernel_rfl

/-- A block below, or one of its type. -/
def Safe (w : World) (base : Nat) (e : TypeId) (b : Nat) : Prop := b < base ∨ ∃ cur m, w.heap[b]? = some (.cells cur e m)

/-- A LOAD IN MEMORY. -/
def Load (w : World) (base : Nat) (u : Value) (l : List Int) : Prop :=
  ∃ a cap, u = .slice a l.length cap ∧ Bytes w a l ∧ (a = none → cap = 0) ∧ l.length ≤ cap ∧ cap ≤ maxLen ∧ ∀ x, a = some x → l ≠ [] → Safe w base 5 x.block

/-- All blocks below, and all of bytes, stay. -/
def Keep5 (w w' : World) (base : Nat) : Prop := w.heap.size ≤ w'.heap.size ∧ ∀ b, Safe w base 5 b → b < w.heap.size → w'.heap[b]? = w.heap[b]?

theorem keep5_below {w w' : World} (h : Below w.heap.size w w') (base : Nat) : Keep5 w w' base := ⟨h.size, fun b _ hb => h.block b hb⟩
theorem keep5_but {w w' : World} {g base : Nat} {T : TypeId} {cur : Array Value} {m : Nat × Nat} (h : w.grownBy w' (some g)) (hb : base ≤ g) (hg : w.heap[g]? = some (.cells cur T m)) (hT : T ≠ 5) : Keep5 w w' base := by
  refine ⟨h.size, fun b hs hlt => h.block b hlt fun e => ?_⟩
  cases e
  rcases hs with h1 | ⟨c, m', h1⟩
  · omega
  · rw [hg] at h1
    cases h1
    exact hT rfl
theorem keep5_row {w w' : World} {rb base n : Nat} {v : Value} {vs : List Value} (h : w.grownBy w' v.ownBlock) (ho : w.ownsRow rb 42 1 v n vs) (hrb : base ≤ rb) : Keep5 w w' base := by
  refine ⟨h.size, fun b hs hlt => h.block b hlt fun e => ?_⟩
  rcases ho.2 with ⟨rfl, _⟩ | ⟨g, cap, cur, rfl, hb, hg, _⟩
  · cases e
  · cases e
    rcases hs with h1 | ⟨c, m', h1⟩
    · have h2 : g < base := h1
      omega
    · rw [hg] at h1
      cases h1

theorem Load.mono {w : World} {base base' : Nat} {u : Value} {l : List Int} (h : Load w base u l) (hb : base ≤ base') : Load w base' u l := by
  obtain ⟨a, cap, h1, h2, h3, h4, h5, h6⟩ := h
  refine ⟨a, cap, h1, h2, h3, h4, h5, fun x hx hne => ?_⟩
  rcases h6 x hx hne with h7 | h7
  · exact .inl (by omega)
  · exact .inr h7

theorem Load.keep {w w' : World} {base : Nat} {u : Value} {l : List Int} (h : Load w base u l) (hk : Keep5 w w' base) : Load w' base u l := by
  obtain ⟨a, cap, rfl, hb, h1, h2, h3, h4⟩ := h
  refine ⟨a, cap, rfl, ⟨hb.1, hb.2.1, ?_⟩, h1, h2, h3, ?_⟩
  · rcases hb.2.2 with h0 | ⟨b, off, rfl, hc⟩
    · exact .inl h0
    · by_cases h0 : l = []
      · exact .inl h0
      · refine .inr ⟨b, off, rfl, fun i hi => ?_⟩
        have hlt : b < w.heap.size := Bytes.lt hb h0
        rw [World.cell?_of_block (w := w) (w' := w') (a := ⟨b, off + i, none⟩) (hk.2 b (h4 _ rfl h0) hlt)]
        exact hc i hi
  · intro x hx hne
    rcases h4 x hx hne with h5 | ⟨c, m, h5⟩
    · exact .inl h5
    · exact .inr ⟨c, m, by rw [hk.2 x.block (h4 x hx hne) (Array.getElem?_eq_some_iff.1 h5).1]; exact h5⟩

/-- WHAT A WALK IS TOLD OF A SLICE OF SLICES OF BYTES: its elements are the lists Ls, and lie at a. -/
def Lists (w : World) (base : Nat) (a : Option Addr) (Ls : List (List Int)) : Prop :=
  Ls.length ≤ maxLen ∧ (Ls = [] ∨ ∃ (b off : Nat) (vs : List Value), a = some ⟨b, off, none⟩ ∧ Safe w base 42 b ∧ vs.length = Ls.length ∧ ∀ i u, vs[i]? = some u → w.cell? ⟨b, off + i, none⟩ = some u ∧ Load w base u (Ls.getD i []))

/-- THE SLICE v OF LOADS LIES IN NEW MEMORY (blocks from 'rb' on), AND ITS ELEMENTS ARE THE LOADS Ls (below 'base', or in rows of bytes). -/
def OwnsL (w : World) (rb base : Nat) (v : Value) (Ls : List (List Int)) : Prop :=
  ∃ vs, w.ownsRow rb 42 1 v Ls.length vs ∧ ∀ i u, vs[i]? = some u → Load w base u (Ls.getD i [])

theorem ownsL_nil (w : World) (rb base : Nat) : OwnsL w rb base (.slice none 0 0) [] := ⟨[], World.ownsRow_nil w rb 42 1, by simp⟩

theorem OwnsL.lists {w : World} {rb base : Nat} {v : Value} {Ls : List (List Int)} (h : OwnsL w rb base v Ls) :
    ∃ a n cap, v = .slice a n cap ∧ Hid (Ls.length = n) ∧ Hid (a = none → cap = 0) ∧ n ≤ cap ∧ cap ≤ 9223372036854775807 ∧ Hid (Lists w base a Ls) := by
  obtain ⟨vs, ho, hl⟩ := h
  obtain ⟨h0, hv⟩ := id ho
  rcases hv with ⟨rfl, hn⟩ | ⟨g, cap, cur, rfl, hb, hg, hnc, hcm, hcs, htk⟩
  · have e : Ls = [] := List.eq_nil_of_length_eq_zero hn
    subst e
    exact ⟨none, 0, 0, rfl, rfl, fun _ => rfl, Nat.le_refl _, Nat.zero_le _, ⟨by simp, .inl rfl⟩⟩
  · refine ⟨some ⟨g, 0, none⟩, Ls.length, cap, rfl, rfl, (fun hx => by cases hx), hnc, by simpa [maxLen] using hcm, ⟨by omega, .inr ⟨g, 0, vs, rfl, .inr ⟨cur, _, hg⟩, by omega, fun i u hu => ⟨?_, hl i u hu⟩⟩⟩⟩
    have h1 := ho.cells (g := g) rfl i u hu
    by_cases h2 : i = 0
    · subst h2; simpa [Addr.add] using h1
    · simpa [Addr.add, h2] using h1

theorem Lists.keep {w w' : World} {base : Nat} {a : Option Addr} {Ls : List (List Int)} (h : Lists w base a Ls) (hk : Keep5 w w' base)
    (hr : ∀ b, Safe w base 42 b → b < w.heap.size → w'.heap[b]? = w.heap[b]?) : Lists w' base a Ls := by
  refine ⟨h.1, ?_⟩
  rcases h.2 with h0 | ⟨b, off, vs, rfl, hs, hl, hc⟩
  · exact .inl h0
  · by_cases h0 : Ls = []
    · exact .inl h0
    · have hp := List.length_pos_iff.2 h0
      have hlt : b < w.heap.size := World.block_lt_of_cell? w ⟨b, off + 0, none⟩ (hc 0 vs[0] (by simp)).1
      refine .inr ⟨b, off, vs, rfl, ?_, hl, fun i u hu => ⟨?_, (hc i u hu).2.keep hk⟩⟩
      · rcases id hs with h5 | ⟨c, m, h5⟩
        · exact .inl h5
        · exact .inr ⟨c, m, by rw [hr b hs hlt]; exact h5⟩
      · rw [World.cell?_of_block (w := w) (w' := w') (a := ⟨b, off + i, none⟩) (hr b hs hlt)]
        exact (hc i u hu).1
theorem Lists.kept {w w' : World} {base : Nat} {a : Option Addr} {Ls : List (List Int)} (h : Lists w base a Ls) (hb : Below w.heap.size w w') : Lists w' base a Ls :=
  h.keep (keep5_below hb base) fun b _ hlt => hb.block b hlt
theorem Lists.but {w w' : World} {base g : Nat} {a : Option Addr} {Ls : List (List Int)} {T : TypeId} {cur : Array Value} {m : Nat × Nat} (h : Lists w base a Ls) (hg : w.grownBy w' (some g)) (hb : base ≤ g) (hc : w.heap[g]? = some (.cells cur T m)) (h5 : T ≠ 5) (h22 : T ≠ 42) : Lists w' base a Ls :=
  h.keep (keep5_but hg hb hc h5) fun b hs hlt => hg.block b hlt fun e => by
    cases e
    rcases hs with h1 | ⟨c, m', h1⟩
    · omega
    · rw [hc] at h1
      cases h1
      exact h22 rfl
/-- Seen from a world, all that is there is old. -/
theorem Lists.old {w : World} {base : Nat} {a : Option Addr} {Ls : List (List Int)} (h : Lists w base a Ls) (hB : base ≤ w.heap.size) : Lists w w.heap.size a Ls := by
  refine ⟨h.1, ?_⟩
  rcases h.2 with h0 | ⟨b, off, vs, rfl, hs, hl, hc⟩
  · exact .inl h0
  · refine .inr ⟨b, off, vs, rfl, ?_, hl, fun i u hu => ⟨(hc i u hu).1, ?_⟩⟩
    · rcases hs with h1 | ⟨c, m, h1⟩
      · exact .inl (by omega)
      · exact .inl (Array.getElem?_eq_some_iff.1 h1).1
    · obtain ⟨a', cap, h1, h2, h3, h4, h5, h6⟩ := (hc i u hu).2
      refine ⟨a', cap, h1, h2, h3, h4, h5, fun x hx hne => ?_⟩
      rcases h6 x hx hne with h7 | ⟨c, m, h7⟩
      · exact .inl (by omega)
      · exact .inl (Array.getElem?_eq_some_iff.1 h7).1

theorem OwnsL.below {w w' : World} {rb base : Nat} {v : Value} {Ls : List (List Int)} (h : OwnsL w rb base v Ls) (hb : Below w.heap.size w w') : OwnsL w' rb base v Ls := by
  obtain ⟨vs, ho, hl⟩ := h
  exact ⟨vs, ho.kept (row := none) ⟨hb.os, hb.tape, hb.output, hb.size, fun k hk _ => hb.block k hk⟩ (by cases hv : v.ownBlock <;> simp), fun i u hu => (hl i u hu).keep (keep5_below hb base)⟩
theorem OwnsL.alloc {w : World} {rb base : Nat} {v : Value} {Ls : List (List Int)} (h : OwnsL w rb base v Ls) (o : Obj) : OwnsL (w.alloc o) rb base v Ls :=
  h.below ((Below.refl _ _).alloc (Nat.le_refl _) o)
theorem OwnsL.but {w w' : World} {rb base g : Nat} {v : Value} {Ls : List (List Int)} {T : TypeId} {cur : Array Value} {m : Nat × Nat} (h : OwnsL w rb base v Ls) (hg : w.grownBy w' (some g)) (hb : base ≤ g) (hc : w.heap[g]? = some (.cells cur T m)) (h5 : T ≠ 5) (h22 : T ≠ 42) : OwnsL w' rb base v Ls := by
  obtain ⟨vs, ho, hl⟩ := h
  refine ⟨vs, ho.kept hg ?_, fun i u hu => (hl i u hu).keep (keep5_but hg hb hc h5)⟩
  rcases ho.2 with ⟨rfl, _⟩ | ⟨g', cap, cur', rfl, _, hg', _⟩
  · exact .inl rfl
  · right
    intro e
    cases e
    rw [hc] at hg'
    cases hg'
    exact h22 rfl
theorem Lists.mono {w : World} {base base' : Nat} {a : Option Addr} {Ls : List (List Int)} (h : Lists w base a Ls) (hb : base ≤ base') : Lists w base' a Ls := by
  refine ⟨h.1, ?_⟩
  rcases h.2 with h0 | ⟨b, off, vs, rfl, hs, hl, hc⟩
  · exact .inl h0
  · refine .inr ⟨b, off, vs, rfl, ?_, hl, fun i u hu => ⟨(hc i u hu).1, (hc i u hu).2.mono hb⟩⟩
    rcases hs with h1 | h1
    · exact .inl (by omega)
    · exact .inr h1

theorem one_load {w : World} {base : Nat} {u : Value} {l : List Int} (h : Load w base u l) (m : Nat × Nat) : Lists (w.alloc (.cells #[u] 42 m)) base (some ⟨w.heap.size, 0, none⟩) [l] := by
  have hbel : Below w.heap.size w (w.alloc (.cells #[u] 42 m)) := (Below.refl _ _).alloc (Nat.le_refl _) _
  refine ⟨by simp [maxLen], .inr ⟨w.heap.size, 0, [u], rfl, .inr ⟨_, _, heap_alloc_new w _⟩, rfl, fun i u' hu => ?_⟩⟩
  have hi : i = 0 := by
    have := (List.getElem?_eq_some_iff.1 hu).1
    simp at this
    omega
  subst hi
  simp only [List.getElem?_cons_zero, Option.some.injEq] at hu
  subst hu
  exact ⟨by rw [World.cell?_alloc_mark]; rfl, h.keep (keep5_below hbel base)⟩

theorem load_one {w : World} {base : Nat} {u : Value} {l : List Int} (h : Load w base u l) : u.oneCell' = true := by
  obtain ⟨a, cap, rfl, _⟩ := h
  rfl

/-- 'append(v, x...)', v the call's own list of loads, x any list of loads. -/
theorem wpList_append_loads {w : World} {ops : Array Oper} {rest : List Oper} {o : Oper} {a : Act} {Q : Exit → Act → World → Prop} (hgd : o.guard = none) (s x : Operand)
    (ho : o.op = .call { callee := .builtin .append, args := #[s, x], argTypes := #[159, 159] })
    (rb base : Nat) (hrb : base ≤ rb) (v : Value) (Ls Ms : List (List Int)) (hs : a.eval s = v) (hown : OwnsL w rb base v Ls)
    (ad : Option Addr) (m c : Nat) (hx : a.eval x = .slice ad m c) (hm : Ms.length = m) (hn : ad = none → c = 0) (hb : Lists w base ad Ms)
    (hbytes : (Ls.length + Ms.length) * 24 ≤ 140737488355328) (hbase : rb ≤ w.heap.size)
    (h : ∀ v' w', OwnsL w' rb base v' (Ls ++ Ms) → w.grownBy w' v.ownBlock → wpList Tryz.prog ops Q rest (a.put o.dst v') w') : wpList Tryz.prog ops Q (o :: rest) a w := by
  subst hm
  obtain ⟨i, hi, hz, hsz, hby⟩ := info_parts info22
  obtain ⟨vs, hvs, hl⟩ := hown
  cases ad with
  | none =>
    have h0 : Ms = [] := by
      rcases hb.2 with h0 | ⟨_, _, _, h0, _⟩
      · exact h0
      · cases h0
    subst h0
    rw [hn rfl] at hx
    refine wpList_append_own_none hgd s x 159 ho rb 42 i 1 Tryz.underlying159 hi v Ls.length _ hs hvs hx ?_
    exact h v w ⟨vs, by simpa using hvs, by simpa using hl⟩ (World.grownBy.refl _ _)
  | some ad =>
    obtain ⟨us, hul, huc⟩ : ∃ us : List Value, us.length = Ms.length ∧ ∀ j u, us[j]? = some u → w.cell? (ad.add j) = some u ∧ Load w base u (Ms.getD j []) := by
      rcases hb.2 with rfl | ⟨b, off, us, hx', _, hul, huc⟩
      · exact ⟨[], rfl, by simp⟩
      · cases hx'
        refine ⟨us, hul, fun j u hu => ?_⟩
        have e : (⟨b, off, none⟩ : Addr).add j = ⟨b, off + j, none⟩ := by
          by_cases h0 : j = 0
          · subst h0; simp [Addr.add]
          · simp [Addr.add, h0]
        rw [e]
        exact huc j u hu
    refine wpList_append_own w hgd s x 159 ho rb 42 i (.slice none 0 0) 1 24 Tryz.underlying159 hi hz hsz hby rfl (by decide) v Ls.length _ hs hvs ad Ms.length c us hx (by omega) (fun j u hu => (huc j u hu).1) (fun u hu => ?_) ?_ hbytes hbase ?_
    · obtain ⟨j, hj, rfl⟩ := List.mem_iff_getElem.1 hu
      exact load_one (huc j _ (List.getElem?_eq_getElem hj)).2
    · unfold maxLen; omega
    · intro v' w' ho' hg _
      have hk := keep5_row hg hvs hrb
      refine h v' w' ⟨vs ++ us, by rw [List.length_append]; exact ho', fun j u hu => ?_⟩ hg
      have hvl : vs.length = Ls.length := by have := hvs.1; omega
      by_cases hj : j < vs.length
      · rw [List.getElem?_append_left hj] at hu
        have := (hl j u hu).keep hk
        rwa [List.getD_eq_getElem?_getD, List.getElem?_append_left (by omega), ← List.getD_eq_getElem?_getD]
      · rw [List.getElem?_append_right (by omega)] at hu
        have := (huc _ u hu).2.keep hk
        rwa [List.getD_eq_getElem?_getD, List.getElem?_append_right (by omega), ← hvl, ← List.getD_eq_getElem?_getD]

theorem grownL_below {w w1 w2 : World} {base eb : Nat} {v : Value} {Ls : List (List Int)} (hb : Below base w w1) (h : OwnsL w1 base eb v Ls) (hg : w1.grownBy w2 v.ownBlock) (hB : base ≤ w1.heap.size) : Below base w w2 := by
  obtain ⟨vs, ho, _⟩ := h
  exact hb.grown hg hB fun k hk => (ho.lt k hk).1

/-- THE NEXT LOAD: its cell, and what has been gone over then. -/
theorem next_load {w : World} {base b off : Nat} {vs : List Value} {Ls : List (List Int)} (hl : vs.length = Ls.length)
    (hc : ∀ i u, vs[i]? = some u → w.cell? ⟨b, off + i, none⟩ = some u ∧ Load w base u (Ls.getD i [])) {k : Nat} (hk : k < Ls.length) :
    ∃ (l : List Int) (a : Option Addr) (n cap : Nat), w.cell? ⟨b, off + k, none⟩ = some (.slice a n cap) ∧ Hid (l.length = n) ∧ Hid (Bytes w a l) ∧ Hid (a = none → cap = 0) ∧ n ≤ cap ∧ cap ≤ 9223372036854775807 ∧ Hid (∀ x, a = some x → l ≠ [] → Safe w base 5 x.block) ∧ Hid (Ls.take (k + 1) = Ls.take k ++ [l]) ∧ Hid (Ls[k]? = some l) := by
  obtain ⟨h1, a, cap, h2, h3, h4, h5, h6, h7⟩ := hc k vs[k] (by simp)
  refine ⟨Ls.getD k [], a, (Ls.getD k []).length, cap, by rw [h1, h2], rfl, h3, h4, h5, by simpa [maxLen] using h6, h7, ?_, ?_⟩
  · show _ = _
    rw [List.take_succ_eq_append_getElem hk, List.getD_eq_getElem?_getD, List.getElem?_eq_getElem hk]; rfl
  · show _ = _
    rw [List.getD_eq_getElem?_getD, List.getElem?_eq_getElem hk]; rfl
/-- A slice of bytes that the call made is a load. -/
theorem load_of_owns {w : World} {base base' : Nat} {v : Value} {zs : List Int} (h : OwnsB w base v zs) : Load w base' v zs := by
  obtain ⟨⟨hl, hv⟩, hz⟩ := id h
  obtain ⟨a, cap, e1, e2, ⟨e3, e4⟩, e5, e6⟩ := h.shape
  refine ⟨a, cap, e1, e5, e2, e3, e4, fun x hx _ => .inr ?_⟩
  rcases hv with ⟨rfl, _⟩ | ⟨g, cap', cur, rfl, _, hg, _⟩
  · simp only [Value.slice.injEq] at e1
    rw [← e1.1] at hx
    cases hx
  · simp only [Value.slice.injEq] at e1
    rw [← e1.1] at hx
    cases hx
    exact ⟨cur, _, hg⟩
end Go.Proofs.YtfipdldoklkciaaGreat
namespace Go.Proofs.YtfipdldoklkciaaGreat
open Go.RowKit

theorem owns_two (w : World) (x y : Int) (hx : 0 ≤ x ∧ x < 256) (hy : 0 ≤ y ∧ y < 256) (base : Nat) (hb : base ≤ w.heap.size) :
    OwnsB (w.alloc (.cells #[.int .u8 x, .int .u8 y] 5)) base (.slice (some ⟨w.heap.size, 0, none⟩) 2 2) [x, y] := by
  refine ⟨⟨rfl, .inr ⟨w.heap.size, 2, _, rfl, hb, heap_alloc_new w _, Nat.le_refl _, by decide, rfl, rfl⟩⟩, ?_⟩
  intro c hc
  simp only [List.mem_cons, List.not_mem_nil, or_false] at hc
  rcases hc with rfl | rfl
  · exact hx
  · exact hy

theorem seal_at (a : Option Addr) (m cap : Nat) (zs : List Int) (w : World) (hm : zs.length = m) (hb : Bytes w a zs) (hn : a = none → cap = 0) (hl : m + 4 ≤ 140737488355328) :
    Calls Tryz.prog 122 #[.slice a m cap] w fun e w' => ∃ v, e = .returned v ∧ OwnsB w' w.heap.size v (zs ++ le4 (moreL 0 zs)) ∧ Below w.heap.size w w' := by
  subst hm
  exact seal_any a cap zs w hb hn hl

set_option maxHeartbeats 400000 in
theorem encode_many (a : Option Addr) (n cap : Nat) (w : World) (h : 1200 < n) :
    Calls Tryz.prog 108 #[.slice a n cap] w fun e w' => e = .returned (.tuple #[.slice none 0 0, .int .i64 8]) ∧ w' = w := by
  have hd : decide (1200 < (n : Int)) = true := by simp; omega
  go_enter Tryz.func108, Tryz.ntmps108
  go_wp2
  go_ret2
  exact ⟨rfl, rfl⟩

set_option maxHeartbeats 400000 in
theorem encode_ok (a : Option Addr) (n cap : Nat) (zs : List Int) (w : World) (hl : zs.length = n) (hb : Bytes w a zs) (hn : a = none → cap = 0) (h : n ≤ 1200) :
    Calls Tryz.prog 108 #[.slice a n cap] w fun e w' => ∃ v, e = .returned (.tuple #[v, .int .i64 0]) ∧ OwnsB w' w.heap.size v (frameL zs) ∧ Below w.heap.size w w' := by
  have hd : decide (1200 < (n : Int)) = false := by simp; omega
  have hB : Hid (Bytes w a zs) := hb
  have hL : Hid (zs.length = n) := hl
  have hx : (0 : Int) ≤ (n : Int) / 256 ∧ (n : Int) / 256 < 256 := by omega
  have hy : (0 : Int) ≤ (n : Int) % 256 ∧ (n : Int) % 256 < 256 := by omega
  have hH : Hid ([(n : Int) / 256, (n : Int) % 256] ++ zs = told zs) := by
    show _ = _
    unfold told head2
    rw [hl]
    congr 2
  clear hb hl
  go_enter Tryz.func108, Tryz.ntmps108
  go_wp2_with (first
    | (at_builtin; refine wpList_append_bytes rfl _ (.tmp 17) rfl w.heap.size (.slice (some ⟨w.heap.size, 0, none⟩) 2 2) [(n : Int) / 256, (n : Int) % 256] zs rfl (owns_two w _ _ hx hy _ (Nat.le_refl _)) a n cap rfl hL.out hn (hB.out.kept ((Below.refl _ _).alloc (Nat.le_refl _) _)) (by rw [hL.out]; simp; omega) (by simp) ?_; intro v2 w2 ho2 hg2; have hb2 := grown_below ((Below.refl w.heap.size w).alloc (Nat.le_refl _) _) (owns_two w _ _ hx hy _ (Nat.le_refl _)) hg2 (by simp); rw [hH.out] at ho2; clear hg2; obtain ⟨a2, n2, cap2, rfl, hl2, hn2, hc2, hm2, hB2⟩ := ho2.form; have hs2 := hb2.size)
    | (go_at_call 122; refine (seal_at a2 n2 cap2 (told zs) _ hl2.out (hB2.out.kept ((Below.refl _ _).alloc (Nat.le_refl _) _)) hn2.out (by have := hl2.out; simp [told, head2, hL.out] at this; omega)).mono ?_; rintro e w3 ⟨v3, rfl, ho3, hb3⟩; obtain ⟨a3, n3, cap3, rfl, hl3, hn3, hc3, hm3, hB3⟩ := ho3.form; have ho4 : OwnsB w3 w.heap.size (.slice (some ⟨w2.heap.size, 0, none⟩) 2 2) [165, 90] := (owns_two w2 165 90 (by decide) (by decide) _ hs2).below hb3; have hb4 : Below w.heap.size w w3 := (hb2.alloc hs2 _).trans (hb3.mono (by simp; omega)))
    | (at_builtin; refine wpList_append_bytes rfl _ (.tmp 21) rfl w.heap.size (.slice (some ⟨w2.heap.size, 0, none⟩) 2 2) [165, 90] (told zs ++ le4 (moreL 0 (told zs))) rfl ho4 a3 n3 cap3 rfl hl3.out hn3.out hB3.out (by have := hL.out; simp [told, head2, le4]; omega) hb4.size ?_; intro v5 w5 ho5 hg5; have hb5 := grown_below hb4 ho4 hg5 hb4.size; clear hg5))
  go_ret2
  exact ⟨_, rfl, ho5, hb5⟩

theorem refSeal_at' (a : Option Addr) (m cap : Nat) (zs : List Int) (w : World) (hm : zs.length = m) (hb : Bytes w a zs) (hn : a = none → cap = 0) (hl : m + 4 ≤ 140737488355328) :
    Calls Tryz.prog 124 #[.slice a m cap] w fun e w' => ∃ v, e = .returned v ∧ OwnsB w' w.heap.size v (zs ++ le4 (moreL 0 zs)) ∧ Below w.heap.size w w' := by
  subst hm
  exact refSeal_any a cap zs w hb hn hl

set_option maxHeartbeats 400000 in
theorem refEncode_many (a : Option Addr) (n cap : Nat) (w : World) (h : 1200 < n) :
    Calls Tryz.prog 117 #[.slice a n cap] w fun e w' => e = .returned (.tuple #[.slice none 0 0, .int .i64 8]) ∧ w' = w := by
  have hd : decide (1200 < (n : Int)) = true := by simp; omega
  go_enter Tryz.func117, Tryz.ntmps117
  go_wp2
  go_ret2
  exact ⟨rfl, rfl⟩

set_option maxHeartbeats 400000 in
theorem refEncode_ok (a : Option Addr) (n cap : Nat) (zs : List Int) (w : World) (hl : zs.length = n) (hb : Bytes w a zs) (hn : a = none → cap = 0) (h : n ≤ 1200) :
    Calls Tryz.prog 117 #[.slice a n cap] w fun e w' => ∃ v, e = .returned (.tuple #[v, .int .i64 0]) ∧ OwnsB w' w.heap.size v (frameL zs) ∧ Below w.heap.size w w' := by
  have hd : decide (1200 < (n : Int)) = false := by simp; omega
  have hB : Hid (Bytes w a zs) := hb
  have hL : Hid (zs.length = n) := hl
  have hx : (0 : Int) ≤ (n : Int) / 256 ∧ (n : Int) / 256 < 256 := by omega
  have hy : (0 : Int) ≤ (n : Int) % 256 ∧ (n : Int) % 256 < 256 := by omega
  have hH : Hid ([(n : Int) / 256, (n : Int) % 256] ++ zs = told zs) := by
    show _ = _
    unfold told head2
    rw [hl]
    congr 2
  clear hb hl
  go_enter Tryz.func117, Tryz.ntmps117
  go_wp2_with (first
    | (at_builtin; refine wpList_append_bytes rfl _ (.tmp 17) rfl w.heap.size (.slice (some ⟨w.heap.size, 0, none⟩) 2 2) [(n : Int) / 256, (n : Int) % 256] zs rfl (owns_two w _ _ hx hy _ (Nat.le_refl _)) a n cap rfl hL.out hn (hB.out.kept ((Below.refl _ _).alloc (Nat.le_refl _) _)) (by rw [hL.out]; simp; omega) (by simp) ?_; intro v2 w2 ho2 hg2; have hb2 := grown_below ((Below.refl w.heap.size w).alloc (Nat.le_refl _) _) (owns_two w _ _ hx hy _ (Nat.le_refl _)) hg2 (by simp); rw [hH.out] at ho2; clear hg2; obtain ⟨a2, n2, cap2, rfl, hl2, hn2, hc2, hm2, hB2⟩ := ho2.form; have hs2 := hb2.size)
    | (go_at_call 124; refine (refSeal_at' a2 n2 cap2 (told zs) _ hl2.out (hB2.out.kept ((Below.refl _ _).alloc (Nat.le_refl _) _)) hn2.out (by have := hl2.out; simp [told, head2, hL.out] at this; omega)).mono ?_; rintro e w3 ⟨v3, rfl, ho3, hb3⟩; obtain ⟨a3, n3, cap3, rfl, hl3, hn3, hc3, hm3, hB3⟩ := ho3.form; have ho4 : OwnsB w3 w.heap.size (.slice (some ⟨w2.heap.size, 0, none⟩) 2 2) [165, 90] := (owns_two w2 165 90 (by decide) (by decide) _ hs2).below hb3; have hb4 : Below w.heap.size w w3 := (hb2.alloc hs2 _).trans (hb3.mono (by simp; omega)))
    | (at_builtin; refine wpList_append_bytes rfl _ (.tmp 21) rfl w.heap.size (.slice (some ⟨w2.heap.size, 0, none⟩) 2 2) [165, 90] (told zs ++ le4 (moreL 0 (told zs))) rfl ho4 a3 n3 cap3 rfl hl3.out hn3.out hB3.out (by have := hL.out; simp [told, head2, le4]; omega) hb4.size ?_; intro v5 w5 ho5 hg5; have hb5 := grown_below hb4 ho4 hg5 hb4.size; clear hg5))
  go_ret2
  exact ⟨_, rfl, ho5, hb5⟩
end Go.Proofs.YtfipdldoklkciaaGreat
