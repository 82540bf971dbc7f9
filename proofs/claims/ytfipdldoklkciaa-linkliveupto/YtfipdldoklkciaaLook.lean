/-
  Frames in bytes, as plain lists: what stands at a place, what a look through bytes finds, and how the looks of parts go together. No program is named here.
-/
import Derived.Test.YtfipdldoklkciaaOpen
namespace Go.Proofs.Ytfipdldoklkciaa

/-- How many bytes a load has, by its head; bytes of the head that are not there are 0. -/
def nAt (b : List Int) : Nat := (b.getD 2 0).toNat * 256 + (b.getD 3 0).toNat
/-- The mark stands there, as far as there are bytes. -/
def Marked (b : List Int) : Prop := b.getD 0 0 = 165 ∧ (b.length < 2 ∨ b.getD 1 0 = 90)
/-- How a frame begins, of a length that may be. -/
def Front (b : List Int) : Prop := Marked b ∧ nAt b ≤ 1200
/-- A whole frame begins there. -/
def Whole (b : List Int) : Prop := Front b ∧ nAt b + 8 ≤ b.length ∧ Sealed ((b.take (nAt b + 8)).drop 2)
/-- There are too few bytes to tell. -/
def Few (b : List Int) : Prop := Front b ∧ b.length < nAt b + 8
/-- The load there. -/
def loadAt (b : List Int) : List Int := (b.drop 4).take (nAt b)
/-- How many bytes the frames of loads have. -/
def sz (L : List (List Int)) : Nat := (L.map fun l => l.length + 8).sum

theorem sz_nil : sz [] = 0 := rfl
theorem sz_cons (l : List Int) (L : List (List Int)) : sz (l :: L) = l.length + 8 + sz L := by simp [sz]
theorem sz_append (L M : List (List Int)) : sz (L ++ M) = sz L + sz M := by simp [sz]
theorem sz_many (L : List (List Int)) : 8 * L.length ≤ sz L := by
  induction L with
  | nil => simp
  | cons l L ih => rw [sz_cons, List.length_cons]; omega

theorem load_len {b : List Int} (h : nAt b + 8 ≤ b.length) : (loadAt b).length = nAt b := by
  unfold loadAt
  rw [List.length_take, List.length_drop]
  omega

/-- Whether the mark stands there; whether a whole frame does; whether there are too few bytes. -/
def markB (b : List Int) : Bool := decide (b.getD 0 0 = 165 ∧ (b.length < 2 ∨ b.getD 1 0 = 90))
def wholeB (b : List Int) : Bool := decide (((b.getD 0 0 = 165 ∧ (b.length < 2 ∨ b.getD 1 0 = 90)) ∧ nAt b ≤ 1200) ∧ nAt b + 8 ≤ b.length ∧ (4 ≤ ((b.take (nAt b + 8)).drop 2).length ∧ ((b.take (nAt b + 8)).drop 2).drop (((b.take (nAt b + 8)).drop 2).length - 4) = le4 (moreL 0 (((b.take (nAt b + 8)).drop 2).take (((b.take (nAt b + 8)).drop 2).length - 4)))))
def fewB (b : List Int) : Bool := decide (((b.getD 0 0 = 165 ∧ (b.length < 2 ∨ b.getD 1 0 = 90)) ∧ nAt b ≤ 1200) ∧ b.length < nAt b + 8)
theorem markB_yes {b : List Int} (h : Marked b) : markB b = true := decide_eq_true h
theorem markB_no {b : List Int} (h : ¬ Marked b) : markB b = false := decide_eq_false h
theorem markB_iff (b : List Int) : markB b = true ↔ Marked b := decide_eq_true_iff
theorem wholeB_yes {b : List Int} (h : Whole b) : wholeB b = true := decide_eq_true h
theorem wholeB_no {b : List Int} (h : ¬ Whole b) : wholeB b = false := decide_eq_false h
theorem fewB_yes {b : List Int} (h : Few b) : fewB b = true := decide_eq_true h
theorem fewB_no {b : List Int} (h : ¬ Few b) : fewB b = false := decide_eq_false h

/-- A look of k steps at most. -/
def scanF : Nat → List Int → List (List Int) × Nat
  | 0, _ => ([], 0)
  | k + 1, b =>
    if b = [] then ([], 0)
    else if wholeB b = true then (loadAt b :: (scanF k (b.drop (nAt b + 8))).1, nAt b + 8 + (scanF k (b.drop (nAt b + 8))).2)
    else if fewB b = true then ([], 0)
    else ((scanF k (b.drop 1)).1, 1 + (scanF k (b.drop 1)).2)
/-- A LOOK THROUGH BYTES: the loads found, and where it ended. -/
def scanL (b : List Int) : List (List Int) × Nat := scanF b.length b

theorem scanF_nil (k : Nat) : scanF k [] = ([], 0) := by
  cases k with
  | zero => rfl
  | succ k => rw [scanF, if_pos rfl]
theorem scanF_more (k : Nat) : ∀ (b : List Int) (m : Nat), b.length ≤ k → k ≤ m → scanF m b = scanF k b := by
  induction k with
  | zero =>
    intro b m h _
    obtain rfl : b = [] := List.eq_nil_of_length_eq_zero (by omega)
    rw [scanF_nil, scanF_nil]
  | succ k ih =>
    intro b m h hm
    obtain ⟨m, rfl⟩ : ∃ m', m = m' + 1 := ⟨m - 1, by omega⟩
    by_cases h0 : b = []
    · subst h0; rw [scanF_nil, scanF_nil]
    · have hp := List.length_pos_iff.2 h0
      rw [scanF, scanF, if_neg h0, if_neg h0, ih (b.drop (nAt b + 8)) m (by rw [List.length_drop]; omega) (by omega), ih (b.drop 1) m (by rw [List.length_drop]; omega) (by omega)]
theorem scan_eq {b : List Int} (h0 : b ≠ []) : scanL b = if wholeB b = true then (loadAt b :: (scanL (b.drop (nAt b + 8))).1, nAt b + 8 + (scanL (b.drop (nAt b + 8))).2) else if fewB b = true then ([], 0) else ((scanL (b.drop 1)).1, 1 + (scanL (b.drop 1)).2) := by
  have hp := List.length_pos_iff.2 h0
  unfold scanL
  obtain ⟨k, hk⟩ : ∃ k, b.length = k + 1 := ⟨b.length - 1, by omega⟩
  rw [hk, scanF, if_neg h0, scanF_more (b.drop (nAt b + 8)).length (b.drop (nAt b + 8)) k (Nat.le_refl _) (by rw [List.length_drop]; omega), scanF_more (b.drop 1).length (b.drop 1) k (Nat.le_refl _) (by rw [List.length_drop]; omega)]

theorem scan_nil : scanL [] = ([], 0) := rfl
theorem whole_ne {b : List Int} (h : Whole b) : b ≠ [] := by
  rintro rfl
  have := h.2.1
  simp at this
theorem scan_whole {b : List Int} (h : Whole b) : scanL b = (loadAt b :: (scanL (b.drop (nAt b + 8))).1, nAt b + 8 + (scanL (b.drop (nAt b + 8))).2) := by
  rw [scan_eq (whole_ne h), wholeB_yes h, if_pos rfl]
theorem few_not {b : List Int} (h : Few b) : ¬ Whole b := fun k => by have := k.2.1; have := h.2; omega
theorem scan_few {b : List Int} (h : Few b) : scanL b = ([], 0) := by
  by_cases h0 : b = []
  · subst h0; exact scan_nil
  · rw [scan_eq h0, wholeB_no (few_not h), if_neg (by simp), fewB_yes h, if_pos rfl]
theorem scan_step {b : List Int} (h0 : b ≠ []) (h1 : ¬ Whole b) (h2 : ¬ Few b) : scanL b = ((scanL (b.drop 1)).1, 1 + (scanL (b.drop 1)).2) := by
  rw [scan_eq h0, wholeB_no h1, if_neg (by simp), fewB_no h2, if_neg (by simp)]

theorem scan_up {M : List Int → Prop} (nil : M []) (whole : ∀ b, Whole b → M (b.drop (nAt b + 8)) → M b) (few : ∀ b, Few b → M b) (step : ∀ b, b ≠ [] → ¬ Whole b → ¬ Few b → M (b.drop 1) → M b) (k : Nat) : ∀ b : List Int, b.length ≤ k → M b := by
  induction k with
  | zero =>
    intro b h
    obtain rfl : b = [] := List.eq_nil_of_length_eq_zero (by omega)
    exact nil
  | succ k ih =>
    intro b h
    by_cases h0 : b = []
    · subst h0; exact nil
    · have hp := List.length_pos_iff.2 h0
      by_cases h1 : Whole b
      · exact whole b h1 (ih _ (by rw [List.length_drop]; omega))
      · by_cases h2 : Few b
        · exact few b h2
        · exact step b h0 h1 h2 (ih _ (by rw [List.length_drop]; omega))
/-- BY LENGTH: what holds of no bytes, goes over a frame, stands where there are too few, and goes over a byte, holds of all bytes. -/
theorem scan_ind {M : List Int → Prop} (nil : M []) (whole : ∀ b, Whole b → M (b.drop (nAt b + 8)) → M b) (few : ∀ b, Few b → M b) (step : ∀ b, b ≠ [] → ¬ Whole b → ¬ Few b → M (b.drop 1) → M b) (b : List Int) : M b := scan_up nil whole few step b.length b (Nat.le_refl _)

theorem scan_le (b : List Int) : (scanL b).2 ≤ b.length ∧ sz (scanL b).1 ≤ (scanL b).2 := by
  induction b using scan_ind with
  | nil => rw [scan_nil]; exact ⟨Nat.le_refl _, Nat.le_refl _⟩
  | whole b h ih =>
    rw [scan_whole h]
    have h1 := h.2.1
    rw [List.length_drop] at ih
    refine ⟨by dsimp only; omega, ?_⟩
    dsimp only
    rw [sz_cons, load_len h1]
    omega
  | few b h => rw [scan_few h]; exact ⟨Nat.zero_le _, Nat.le_refl _⟩
  | step b h0 h1 h2 ih =>
    rw [scan_step h0 h1 h2]
    have := List.length_pos_iff.2 h0
    rw [List.length_drop] at ih
    dsimp only
    omega

theorem scan_rest (b : List Int) : b.drop (scanL b).2 = [] ∨ Few (b.drop (scanL b).2) := by
  induction b using scan_ind with
  | nil => left; simp
  | whole b h ih => rw [scan_whole h]; dsimp only; rw [← List.drop_drop]; exact ih
  | few b h => rw [scan_few h]; right; simpa using h
  | step b h0 h1 h2 ih => rw [scan_step h0 h1 h2]; dsimp only; rw [← List.drop_drop]; exact ih

/-- Less than a frame's bytes wait. -/
theorem rest_lt (b : List Int) : (b.drop (scanL b).2).length < 1208 := by
  rcases scan_rest b with h | h
  · rw [h]; simp
  · have h1 := h.2
    have h2 := h.1.2
    omega

theorem getD_left {a c : List Int} {i : Nat} (h : i < a.length) : (a ++ c).getD i 0 = a.getD i 0 := by
  rw [List.getD_eq_getElem?_getD, List.getD_eq_getElem?_getD, List.getElem?_append_left h]
theorem getD_out {a : List Int} {i : Nat} (h : a.length ≤ i) : a.getD i 0 = 0 := by
  rw [List.getD_eq_getElem?_getD, List.getElem?_eq_none h]; rfl

theorem nAt_left {a : List Int} (c : List Int) (h : 4 ≤ a.length) : nAt (a ++ c) = nAt a := by
  unfold nAt
  rw [getD_left (by omega), getD_left (by omega)]
theorem nAt_more (a c : List Int) : nAt a ≤ nAt (a ++ c) := by
  unfold nAt
  by_cases h3 : 3 < a.length
  · rw [getD_left h3, getD_left (by omega)]; exact Nat.le_refl _
  · rw [getD_out (a := a) (i := 3) (by omega)]
    by_cases h2 : 2 < a.length
    · rw [getD_left h2]; simp
    · rw [getD_out (a := a) (i := 2) (by omega)]; simp
theorem front_left {a : List Int} (c : List Int) (h0 : a ≠ []) (h : Front (a ++ c)) : Front a := by
  obtain ⟨⟨h1, h2⟩, h3⟩ := h
  have hp := List.length_pos_iff.2 h0
  rw [getD_left hp] at h1
  refine ⟨⟨h1, ?_⟩, Nat.le_trans (nAt_more a c) h3⟩
  by_cases h4 : a.length < 2
  · exact .inl h4
  · right
    rcases h2 with h2 | h2
    · rw [List.length_append] at h2; omega
    · rwa [getD_left (by omega)] at h2
theorem whole_right {a : List Int} (c : List Int) (h : Whole a) : Whole (a ++ c) ∧ nAt (a ++ c) = nAt a ∧ loadAt (a ++ c) = loadAt a := by
  obtain ⟨⟨⟨h1, h2⟩, h3⟩, h4, h5⟩ := h
  have hn := nAt_left c (show 4 ≤ a.length by omega)
  refine ⟨⟨⟨⟨?_, .inr ?_⟩, by rw [hn]; exact h3⟩, ?_, ?_⟩, hn, ?_⟩
  · rw [getD_left (by omega)]; exact h1
  · rw [getD_left (by omega)]
    rcases h2 with h2 | h2
    · omega
    · exact h2
  · rw [hn, List.length_append]; omega
  · rw [hn, List.take_append_of_le_length h4]; exact h5
  · unfold loadAt
    rw [hn, List.drop_append_of_le_length (by omega), List.take_append_of_le_length (by rw [List.length_drop]; omega)]
theorem no_right {a : List Int} (c : List Int) (h0 : a ≠ []) (h1 : ¬ Whole a) (h2 : ¬ Few a) : ¬ Whole (a ++ c) ∧ ¬ Few (a ++ c) := by
  by_cases hf : Front a
  · have hl : nAt a + 8 ≤ a.length := by
      rcases Nat.lt_or_ge a.length (nAt a + 8) with h | h
      · exact absurd ⟨hf, h⟩ h2
      · exact h
    have hn := nAt_left c (show 4 ≤ a.length by omega)
    refine ⟨fun h => h1 ⟨hf, hl, ?_⟩, fun h => ?_⟩
    · have h5 := h.2.2
      rwa [hn, List.take_append_of_le_length hl] at h5
    · have h5 := h.2
      rw [hn, List.length_append] at h5
      omega
  · exact ⟨fun h => hf (front_left c h0 h.1), fun h => hf (front_left c h0 h.1)⟩

/-- THE LOOK THROUGH BYTES AND BYTES: that through the first ones, and then that through what is left of them and the others. -/
theorem scan_append (a c : List Int) : scanL (a ++ c) = ((scanL a).1 ++ (scanL (a.drop (scanL a).2 ++ c)).1, (scanL a).2 + (scanL (a.drop (scanL a).2 ++ c)).2) := by
  induction a using scan_ind with
  | nil => rw [scan_nil]; simp
  | whole a h ih =>
    obtain ⟨k1, k2, k3⟩ := whole_right c h
    have hd : (a ++ c).drop (nAt a + 8) = a.drop (nAt a + 8) ++ c := List.drop_append_of_le_length h.2.1
    rw [scan_whole k1, k2, k3, hd, ih, scan_whole h]
    dsimp only
    rw [List.drop_drop, List.cons_append]
    simp only [Nat.add_assoc]
  | few a h => rw [scan_few h]; simp
  | step a h0 h1 h2 ih =>
    obtain ⟨k1, k2⟩ := no_right c h0 h1 h2
    have hp := List.length_pos_iff.2 h0
    have hd : (a ++ c).drop 1 = a.drop 1 ++ c := List.drop_append_of_le_length hp
    rw [scan_step (by simp [h0]) k1 k2, hd, ih, scan_step h0 h1 h2]
    dsimp only
    rw [List.drop_drop, Nat.add_assoc]

/-- What waits, and how many are lost, behind bytes that came. -/
def waitS (b : List Int) : List Int := b.drop (scanL b).2
def lostS (b : List Int) : Nat := (scanL b).2 - sz (scanL b).1

theorem wait_append (a c : List Int) : (waitS a ++ c).drop (scanL (waitS a ++ c)).2 = waitS (a ++ c) := by
  have h := (scan_le a).1
  unfold waitS
  rw [scan_append a c]
  dsimp only
  rw [← List.drop_drop, List.drop_append_of_le_length h]
theorem lost_append (a c : List Int) : lostS a + ((scanL (waitS a ++ c)).2 - sz (scanL (waitS a ++ c)).1) = lostS (a ++ c) := by
  have h := (scan_le a).2
  have h1 := (scan_le (waitS a ++ c)).2
  unfold lostS
  rw [scan_append a c]
  dsimp only
  rw [sz_append]
  show _ = _ + (scanL (waitS a ++ c)).2 - (_ + sz (scanL (waitS a ++ c)).1)
  omega
theorem found_append (a c : List Int) : (scanL (a ++ c)).1 = (scanL a).1 ++ (scanL (waitS a ++ c)).1 := by rw [scan_append]; rfl
theorem wait_all (b : List Int) : (waitS b).length + lostS b + sz (scanL b).1 = b.length := by
  have h := scan_le b
  unfold waitS lostS
  rw [List.length_drop]
  omega

/-- A load's frame. -/
def head2 (l : List Int) : List Int := [((l.length / 256 : Nat) : Int), ((l.length % 256 : Nat) : Int)]
def told (l : List Int) : List Int := head2 l ++ l
def frameL (l : List Int) : List Int := [165, 90] ++ (told l ++ le4 (moreL 0 (told l)))

theorem told_bytes {l : List Int} (hz : ∀ c ∈ l, 0 ≤ c ∧ c < 256) (hl : l.length ≤ 1200) : ∀ c ∈ told l, 0 ≤ c ∧ c < 256 := by
  intro c hc
  rcases List.mem_append.1 hc with h | h
  · simp only [head2, List.mem_cons, List.not_mem_nil, or_false] at h
    rcases h with rfl | rfl <;> omega
  · exact hz c h
theorem frame_len (l : List Int) : (frameL l).length = l.length + 8 := by simp [frameL, told, head2, le4]
theorem frame_cons (l : List Int) : frameL l = 165 :: 90 :: ((l.length / 256 : Nat) : Int) :: ((l.length % 256 : Nat) : Int) :: (l ++ le4 (moreL 0 (told l))) := by
  simp [frameL, told, head2]
theorem frame_nAt (l r : List Int) : nAt (frameL l ++ r) = l.length := by
  rw [frame_cons]
  show Int.toNat (((l.length / 256 : Nat) : Int)) * 256 + Int.toNat (((l.length % 256 : Nat) : Int)) = _
  omega
theorem frame_whole (l r : List Int) (hl : l.length ≤ 1200) : Whole (frameL l ++ r) ∧ loadAt (frameL l ++ r) = l ∧ (frameL l ++ r).drop (nAt (frameL l ++ r) + 8) = r := by
  have hn := frame_nAt l r
  have hlen := frame_len l
  refine ⟨⟨⟨⟨?_, .inr ?_⟩, by rw [hn]; exact hl⟩, ?_, ?_⟩, ?_, ?_⟩
  · rw [frame_cons]; rfl
  · rw [frame_cons]; rfl
  · rw [hn, List.length_append, hlen]; omega
  · rw [hn, ← hlen, List.take_left' rfl]
    show Sealed ((frameL l).drop 2)
    have : (frameL l).drop 2 = told l ++ le4 (moreL 0 (told l)) := by unfold frameL; rfl
    rw [this]
    exact (sealed_seal (told l)).1
  · unfold loadAt
    rw [hn, frame_cons]
    show (l ++ le4 (moreL 0 (told l)) ++ r).take l.length = l
    rw [List.append_assoc]
    exact List.take_left' rfl
  · rw [hn, ← hlen]
    exact List.drop_left' rfl
theorem scan_frame (l r : List Int) (hl : l.length ≤ 1200) : scanL (frameL l ++ r) = (l :: (scanL r).1, l.length + 8 + (scanL r).2) := by
  obtain ⟨h1, h2, h3⟩ := frame_whole l r hl
  rw [scan_whole h1, h2, h3, frame_nAt]
theorem scan_other (c : Int) (r : List Int) (hc : c ≠ 165) : scanL (c :: r) = ((scanL r).1, 1 + (scanL r).2) := by
  have hf : ¬ Front (c :: r) := fun h => hc h.1.1
  rw [scan_step (by simp) (fun h => hf h.1) (fun h => hf h.1)]
  rfl

/-- BYTES THAT A LOOK GOES PAST WHOLE, WHATEVER COMES BEHIND: it finds the loads L in them. -/
def Passed (b : List Int) (L : List (List Int)) : Prop := ∀ r, scanL (b ++ r) = (L ++ (scanL r).1, b.length + (scanL r).2)
theorem passed_nil : Passed [] [] := fun r => by simp
theorem Passed.frame {b : List Int} {L : List (List Int)} (h : Passed b L) (l : List Int) (hl : l.length ≤ 1200) : Passed (b ++ frameL l) (L ++ [l]) := fun r => by
  rw [List.append_assoc, h, scan_frame l r hl, List.length_append, frame_len]
  simp [Nat.add_assoc]
theorem Passed.other {b : List Int} {L : List (List Int)} (h : Passed b L) (c : Int) (hc : c ≠ 165) : Passed (b ++ [c]) L := fun r => by
  rw [List.append_assoc, h]
  show ((L ++ (scanL (c :: r)).1, b.length + (scanL (c :: r)).2) : List (List Int) × Nat) = _
  rw [scan_other c r hc]
  simp [Nat.add_assoc]
theorem Passed.all {b : List Int} {L : List (List Int)} (h : Passed b L) : scanL b = (L, b.length) := by
  have := h []
  rwa [List.append_nil, scan_nil, List.append_nil] at this

/-- A flush of k looks at most. -/
def flushF : Nat → List Int → List (List Int)
  | 0, _ => []
  | k + 1, q => if q = [] then [] else (scanL (q.drop 1)).1 ++ flushF k ((q.drop 1).drop (scanL (q.drop 1)).2)
/-- WHAT A FLUSH FINDS. -/
def flushL (q : List Int) : List (List Int) := flushF q.length q
theorem flushF_nil (k : Nat) : flushF k [] = [] := by
  cases k with
  | zero => rfl
  | succ k => rw [flushF, if_pos rfl]
theorem flushF_more (k : Nat) : ∀ (q : List Int) (m : Nat), q.length ≤ k → k ≤ m → flushF m q = flushF k q := by
  induction k with
  | zero =>
    intro q m h _
    obtain rfl : q = [] := List.eq_nil_of_length_eq_zero (by omega)
    rw [flushF_nil, flushF_nil]
  | succ k ih =>
    intro q m h hm
    obtain ⟨m, rfl⟩ : ∃ m', m = m' + 1 := ⟨m - 1, by omega⟩
    by_cases h0 : q = []
    · subst h0; rw [flushF_nil, flushF_nil]
    · have hp := List.length_pos_iff.2 h0
      rw [flushF, flushF, if_neg h0, if_neg h0, ih _ m (by rw [List.length_drop, List.length_drop]; omega) (by omega)]
theorem flush_nil : flushL [] = [] := rfl
theorem flush_some {q : List Int} (h : q ≠ []) : flushL q = (scanL (q.drop 1)).1 ++ flushL ((q.drop 1).drop (scanL (q.drop 1)).2) := by
  have hp := List.length_pos_iff.2 h
  unfold flushL
  obtain ⟨k, hk⟩ : ∃ k, q.length = k + 1 := ⟨q.length - 1, by omega⟩
  rw [hk, flushF, if_neg h, flushF_more ((q.drop 1).drop (scanL (q.drop 1)).2).length _ k (Nat.le_refl _) (by rw [List.length_drop, List.length_drop]; omega)]

/-- A load that is found in bytes stands at a place of them. -/
def In (b l : List Int) : Prop := ∃ p, Whole (b.drop p) ∧ l = loadAt (b.drop p)
theorem In.later {b l : List Int} {k : Nat} (h : In (b.drop k) l) : In b l := by
  obtain ⟨p, h1, h2⟩ := h
  rw [List.drop_drop] at h1 h2
  exact ⟨k + p, h1, h2⟩
theorem scan_in (b l : List Int) : l ∈ (scanL b).1 → In b l := by
  induction b using scan_ind with
  | nil => rw [scan_nil]; simp
  | whole b h ih =>
    rw [scan_whole h]
    intro hl
    rcases List.mem_cons.1 hl with rfl | hl
    · exact ⟨0, by simpa using h, by simp⟩
    · exact (ih hl).later
  | few b h => rw [scan_few h]; simp
  | step b h0 h1 h2 ih => rw [scan_step h0 h1 h2]; intro hl; exact (ih hl).later
theorem flush_in_up (l : List Int) (k : Nat) : ∀ q : List Int, q.length ≤ k → l ∈ flushL q → In q l := by
  induction k with
  | zero =>
    intro q h
    obtain rfl : q = [] := List.eq_nil_of_length_eq_zero (by omega)
    rw [flush_nil]; simp
  | succ k ih =>
    intro q hk
    by_cases h : q = []
    · subst h; rw [flush_nil]; simp
    · rw [flush_some h]
      intro hl
      have := List.length_pos_iff.2 h
      rcases List.mem_append.1 hl with h1 | h1
      · exact (scan_in _ _ h1).later
      · exact (ih _ (by rw [List.length_drop, List.length_drop]; omega) h1).later.later
theorem flush_in (q l : List Int) : l ∈ flushL q → In q l := flush_in_up l q.length q (Nat.le_refl _)
theorem flush_le_up (k : Nat) : ∀ q : List Int, q.length ≤ k → sz (flushL q) ≤ q.length := by
  induction k with
  | zero =>
    intro q h
    obtain rfl : q = [] := List.eq_nil_of_length_eq_zero (by omega)
    rw [flush_nil]; simp [sz]
  | succ k ih =>
    intro q hk
    by_cases h : q = []
    · subst h; rw [flush_nil]; simp [sz]
    · rw [flush_some h, sz_append]
      have := List.length_pos_iff.2 h
      have h1 := scan_le (q.drop 1)
      have h2 := ih ((q.drop 1).drop (scanL (q.drop 1)).2) (by rw [List.length_drop, List.length_drop]; omega)
      rw [List.length_drop, List.length_drop] at h2
      rw [List.length_drop] at h1
      omega
theorem flush_le (q : List Int) : sz (flushL q) ≤ q.length := flush_le_up q.length q (Nat.le_refl _)

/-- Where as many bytes as a load's frame has hold that load, they are its frame. -/
theorem in_frame {b l : List Int} (hb : ∀ c ∈ b, 0 ≤ c ∧ c < 256) (hlen : b.length = l.length + 8) (h : In b l) : b = frameL l := by
  obtain ⟨p, h1, h2⟩ := h
  have hn := load_len h1.2.1
  rw [← h2] at hn
  have h3 := h1.2.1
  rw [List.length_drop] at h3
  have hp : p = 0 := by omega
  subst hp
  rw [List.drop_zero] at h1 h2 hn
  obtain ⟨⟨⟨m1, m2⟩, m3⟩, m4, m5⟩ := h1
  have m2' : b.getD 1 0 = 90 := by
    rcases m2 with m | m
    · omega
    · exact m
  rw [← hn, ← hlen, List.take_length] at m5
  rcases b with _ | ⟨c0, _ | ⟨c1, _ | ⟨c2, _ | ⟨c3, r⟩⟩⟩⟩
  · simp at hlen
  · simp at hlen
  · simp at hlen
  · simp at hlen
  ·
    have e0 : c0 = 165 := m1
    have e1 : c1 = 90 := m2'
    have z2 := hb c2 (by simp)
    have z3 := hb c3 (by simp)
    have en : l.length = c2.toNat * 256 + c3.toNat := hn
    have el : l = r.take l.length := by
      have h7 : l = r.take (nAt (c0 :: c1 :: c2 :: c3 :: r)) := h2
      rw [← hn] at h7
      exact h7
    have e2 : c2 = ((l.length / 256 : Nat) : Int) := by omega
    have e3 : c3 = ((l.length % 256 : Nat) : Int) := by omega
    have hr : r.length = l.length + 4 := by simp only [List.length_cons] at hlen; omega
    have m5' : Sealed (c2 :: c3 :: r) := m5
    have h6 := m5'.2
    have hk : (c2 :: c3 :: r).length - 4 = l.length + 2 := by simp only [List.length_cons]; omega
    rw [hk] at h6
    have ht : (c2 :: c3 :: r).take (l.length + 2) = told l := by
      show c2 :: c3 :: r.take l.length = _
      rw [← el, e2, e3]
      rfl
    have hd : (c2 :: c3 :: r).drop (l.length + 2) = r.drop l.length := rfl
    rw [ht, hd] at h6
    rw [frame_cons, e0, e1, ← e2, ← e3, ← h6]
    congr 4
    conv => lhs; rw [← List.take_append_drop l.length r, ← el]
end Go.Proofs.Ytfipdldoklkciaa
