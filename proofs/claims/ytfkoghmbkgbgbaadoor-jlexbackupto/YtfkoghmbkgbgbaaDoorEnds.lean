/-
  Texts in bytes, as plain lists, for this program: where the whole characters end, how many bytes a character has, and what Go's own conversions make of bytes. No program is named here.
-/
import Derived.Test.YtfkoghmbkgbgbaaDoorUtf
import Derived.Laws.IdiomStrings
namespace Go.Proofs.YtfkoghmbkgbgbaaDoor

/-- How many bytes a character has. -/
def lenR (r : Nat) : Nat := if r < 128 then 1 else if r < 2048 then 2 else if r < 65536 then 3 else 4
theorem enc_lenR (r : Nat) : (encL r).length = lenR r := by
  unfold encL lenR
  repeat' split
  all_goals rfl
theorem val_lenR {b : List Int} (h : Good b) : lenR (valB b) = lenB b := by
  obtain ⟨k0, k1, k2, k3⟩ := h
  have hlo := lo2_cases (nth b 0)
  have hhi := hi2_cases (nth b 0)
  unfold ok1 at k1
  unfold okK at k2 k3
  unfold lenR valB valN lenB
  rcases len_cases (nth b 0) with ⟨e, k⟩ | ⟨e, k⟩ | ⟨e, k⟩ | ⟨e, k⟩ | ⟨e, k⟩ <;> rw [e] at k0 k1 k2 k3 ⊢
  · rw [if_pos k, if_pos k]
  · have q1 := k1 (by omega)
    rw [if_neg (by omega : ¬ nth b 0 < 128), if_pos (by omega : nth b 0 < 224), if_neg (by omega), if_pos (by omega)]
  · have q1 := k1 (by omega)
    have q2 := k2 (by omega)
    rw [if_neg (by omega : ¬ nth b 0 < 128), if_neg (by omega : ¬ nth b 0 < 224), if_pos (by omega : nth b 0 < 240), if_neg (by omega), if_neg (by omega), if_pos (by omega)]
  · have q1 := k1 (by omega)
    have q2 := k2 (by omega)
    have q3 := k3 (by omega)
    rw [if_neg (by omega : ¬ nth b 0 < 128), if_neg (by omega : ¬ nth b 0 < 224), if_neg (by omega : ¬ nth b 0 < 240), if_neg (by omega), if_neg (by omega), if_neg (by omega)]
  · exact absurd rfl k0
/-- The place behind the whole characters that bytes begin with. -/
def endL (b : List Int) : Nat := ((runesL b).1.map lenR).sum
theorem end_nil : endL [] = 0 := rfl
theorem end_good {b : List Int} (h0 : b ≠ []) (h : Good b) : endL b = lenB b + endL (b.drop (lenB b)) := by
  unfold endL
  rw [runes_good h0 h]
  simp only [List.map_cons, List.sum_cons, val_lenR h]
theorem end_bad {b : List Int} (h : ¬ Good b) : endL b = 0 := by
  by_cases h0 : b = []
  · subst h0; rfl
  · unfold endL
    rw [runes_bad h0 h]
    rfl
theorem end_le (b : List Int) : endL b ≤ b.length := by
  induction b using text_ind with
  | nil => rw [end_nil]; simp
  | good b h0 h ih =>
    have := good_ne h h0
    rw [end_good h0 h]
    rw [List.length_drop] at ih
    omega
  | bad b h0 h => rw [end_bad h]; simp
/-- Behind the whole characters there is none. -/
theorem end_stop (b : List Int) : endL b < b.length → ¬ Good (b.drop (endL b)) := by
  induction b using text_ind with
  | nil => intro h; simp at h
  | good b h0 h ih =>
    intro hl
    have hg := good_ne h h0
    rw [end_good h0 h] at hl ⊢
    rw [← List.drop_drop]
    refine ih ?_
    rw [List.length_drop]
    omega
  | bad b h0 h => intro _; rw [end_bad h]; exact h
/-- WHERE BYTES GO WRONG, told by where the whole characters end. -/
theorem fault_end (b : List Int) : (runesL b).2 = if endL b = b.length then none else some (endL b + badB (b.drop (endL b))) := by
  induction b using text_ind with
  | nil => rw [runes_nil, end_nil]; rfl
  | good b h0 h ih =>
    have hg := good_ne h h0
    rw [runes_good h0 h, end_good h0 h]
    dsimp only
    rw [ih, List.length_drop, ← List.drop_drop]
    by_cases e : endL (b.drop (lenB b)) = b.length - lenB b
    · rw [if_pos e, if_pos (by omega)]; rfl
    · rw [if_neg e, if_neg (by omega)]
      simp only [Option.map_some, Option.some.injEq]
      omega
  | bad b h0 h =>
    have hp := List.length_pos_iff.2 h0
    rw [runes_bad h0 h, end_bad h, if_neg (by omega)]
    simp
theorem text_end {b : List Int} (h : (runesL b).2 = none) : endL b = b.length := by
  rw [fault_end] at h
  by_cases e : endL b = b.length
  · exact e
  · rw [if_neg e] at h; cases h
theorem end_text {b : List Int} (h : endL b = b.length) : (runesL b).2 = none := by rw [fault_end, if_pos h]
theorem end_fault {b : List Int} (h : endL b ≠ b.length) : (runesL b).2 = some (endL b + badB (b.drop (endL b))) := by rw [fault_end, if_neg h]

theorem lenR_le (r : Nat) : 1 ≤ lenR r ∧ lenR r ≤ 4 := by
  unfold lenR
  repeat' split
  all_goals omega

/-- A text's runes as cells. -/
def cellsR (l : List Nat) : List Value := l.map fun r => Value.int .i32 (r : Nat)
/-- What Go's '[]rune(s)' makes of a text. -/
theorem runes_from {zs : List Int} (hz : ∀ c ∈ zs, 0 ≤ c ∧ c < 256) (bound : Nat) : ∀ (p : Nat) (acc : Array Value), p ≤ zs.length → zs.length ≤ p + bound → (runesL (zs.drop p)).2 = none →
    Conv.runesFrom (strOfNums zs) bound p acc = acc ++ (cellsR (runesL (zs.drop p)).1).toArray := by
  induction bound with
  | zero =>
    intro p acc hp hb hn
    rw [List.drop_of_length_le (by omega), runes_nil]
    simp [Conv.runesFrom, cellsR]
  | succ bound ih =>
    intro p acc hp hb hn
    unfold Conv.runesFrom
    by_cases hlt : p < zs.length
    · have h0 : zs.drop p ≠ [] := by intro h; have := congrArg List.length h; rw [List.length_drop] at this; simp at this; omega
      by_cases hg : Good (zs.drop p)
      · have hne := good_ne hg h0
        rw [List.length_drop] at hne
        rw [if_pos (by rw [strOfNums_size]; exact hlt), decode_good hz hg]
        rw [runes_good h0 hg] at hn ⊢
        dsimp only at hn ⊢
        rw [List.drop_drop] at hn ⊢
        rw [ih _ _ (by omega) (by omega) (by simpa using hn)]
        simp [cellsR]
      · rw [runes_bad h0 hg] at hn
        cases hn
    · rw [if_neg (by rw [strOfNums_size]; exact hlt), List.drop_of_length_le (by omega), runes_nil]
      simp [cellsR]
theorem runes_of {zs : List Int} (hz : ∀ c ∈ zs, 0 ≤ c ∧ c < 256) (hn : (runesL zs).2 = none) : Conv.runesFrom (strOfNums zs) (strOfNums zs).size 0 #[] = (cellsR (runesL zs).1).toArray := by
  rw [runes_from hz _ 0 #[] (Nat.zero_le _) (by rw [strOfNums_size]; omega) (by simpa using hn)]
  simp

/-- '[]rune(s)', with no bound: the model has none. -/
theorem run_runes_all {P : Program} (w : World) (src dst e : TypeId) (s : ByteArray) (hs : P.underlying src = some .string) (hd : P.underlying dst = some (.slice e)) (he : P.underlying e = some (.int .i32)) :
    (convert src dst (.string s)).run P w = .ok (.slice (some ⟨w.heap.size, 0, none⟩) (Conv.runesFrom s s.size 0 #[]).size (grownCap w (Conv.runesFrom s s.size 0 #[]).size 0 e))
      (w.drew.alloc (.cells (Conv.runesFrom s s.size 0 #[] ++ Array.replicate (grownCap w (Conv.runesFrom s s.size 0 #[]).size 0 e - (Conv.runesFrom s s.size 0 #[]).size) (.int .i32 0)) e)) := by
  simp [convert, run_underlying hs, run_underlying hd, run_underlying he, Conv.stringToRunes, Question.forced, newRow, grownCap]

/-- Of what a character is hangs on four bytes alone. -/
theorem good_four (b : List Int) : Good (b.take 4) ↔ Good b := by
  have n0 : nth (b.take 4) 0 = nth b 0 := nth_take (by omega)
  have n1 : nth (b.take 4) 1 = nth b 1 := nth_take (by omega)
  have n2 : nth (b.take 4) 2 = nth b 2 := nth_take (by omega)
  have n3 : nth (b.take 4) 3 = nth b 3 := nth_take (by omega)
  unfold Good GoodN ok1 okK
  rw [n0, n1, n2, n3, List.length_take]
  have e1 : 1 < min 4 b.length ↔ 1 < b.length := by omega
  have e2 : 2 < min 4 b.length ↔ 2 < b.length := by omega
  have e3 : 3 < min 4 b.length ↔ 3 < b.length := by omega
  rw [e1, e2, e3]
theorem val_four (b : List Int) : valB (b.take 4) = valB b ∧ lenB (b.take 4) = lenB b := by
  unfold valB lenB
  rw [nth_take (by omega), nth_take (by omega), nth_take (by omega), nth_take (by omega)]
  exact ⟨rfl, rfl⟩
/-- The whole characters at the head are a text. -/
theorem take_end (b : List Int) : (runesL (b.take (endL b))) = ((runesL b).1, none) := by
  induction b using text_ind with
  | nil => simp [runes_nil]
  | good b h0 h ih =>
    have hg := good_ne h h0
    obtain ⟨g1, g2, g3⟩ := good_take h0 h
    have hl : (b.take (lenB b)).length = lenB b := by rw [List.length_take]; omega
    have hne : b.take (lenB b) ≠ [] := by intro k; have h9 := congrArg List.length k; rw [hl, List.length_nil] at h9; omega
    obtain ⟨f1, f2, f3⟩ := good_left ((b.drop (lenB b)).take (endL (b.drop (lenB b)))) hne g1
    rw [runes_good h0 h, end_good h0 h, List.take_add, runes_good (by simp [hne]) f1, f2, g2, f3, g3, List.drop_left' hl, ih]
    rfl
  | bad b h0 h => rw [end_bad h, runes_bad h0 h]; simp [runes_nil]
end Go.Proofs.YtfkoghmbkgbgbaaDoor
