/-
  Whether a node's number is right, whether its Kind may have such numbers and counts: tree.isInt, isDec, mayBe.
  Texts in bytes, as plain lists: characters, their bytes, where bytes go wrong; and that Go's own decoding agrees. No program is named here.
  Texts in bytes, as plain lists, for this program: where the whole characters end, how many bytes a character has, and what Go's own conversions make of bytes. No program is named here.
-/
import Derived.Test.YtnjbppfanmmifaaGreatDoorQ5
import Derived.Test.YtnjbppfanmmifaaGreatDoorQ6
import Derived.Lib.DecodeN
import Derived.Laws.BytesArg
import Derived.Laws.IdiomStrings
namespace Go.Proofs.YtnjbppfanmmifaaGreatDoor
open Go.RowKit
set_option linter.unusedVariables false

/-- Is a number right, and not whole? -/
def rdN (n : Bool) (s : ByteArray) (x : Int) : Bool := rtN n s x && !(wholeA n s x).2
end Go.Proofs.YtnjbppfanmmifaaGreatDoor
namespace Go.Proofs.YtnjbppfanmmifaaGreatDoor

/-- How many bytes a character has that begins with c; 0: none does. -/
def lenN (c : Nat) : Nat := if c < 128 then 1 else if 194 ≤ c ∧ c ≤ 223 then 2 else if 224 ≤ c ∧ c ≤ 239 then 3 else if 240 ≤ c ∧ c ≤ 244 then 4 else 0
/-- Which second bytes a first one may have. -/
def lo2 (c : Nat) : Nat := if c = 224 then 160 else if c = 240 then 144 else 128
def hi2 (c : Nat) : Nat := if c = 237 then 159 else if c = 244 then 143 else 191
/-- The second byte is there, and may be; a later one is, and may be (n bytes in all). -/
abbrev ok1 (n c0 c1 : Nat) : Prop := 1 < n ∧ lo2 c0 ≤ c1 ∧ c1 ≤ hi2 c0
abbrev okK (n i c : Nat) : Prop := i < n ∧ 128 ≤ c ∧ c ≤ 191
/-- A character begins there: n bytes, the first four of them (what is not there: 0). -/
def GoodN (n c0 c1 c2 c3 : Nat) : Prop := lenN c0 ≠ 0 ∧ (2 ≤ lenN c0 → ok1 n c0 c1) ∧ (3 ≤ lenN c0 → okK n 2 c2) ∧ (4 ≤ lenN c0 → okK n 3 c3)
/-- The first character. -/
def valN (c0 c1 c2 c3 : Nat) : Nat :=
  if c0 < 128 then c0 else if c0 < 224 then c0 % 32 * 64 + c1 % 64 else if c0 < 240 then c0 % 16 * 4096 + c1 % 64 * 64 + c2 % 64 else c0 % 8 * 262144 + c1 % 64 * 4096 + c2 % 64 * 64 + c3 % 64

theorem len_cases (c : Nat) : (lenN c = 1 ∧ c < 128) ∨ (lenN c = 2 ∧ 194 ≤ c ∧ c ≤ 223) ∨ (lenN c = 3 ∧ 224 ≤ c ∧ c ≤ 239) ∨ (lenN c = 4 ∧ 240 ≤ c ∧ c ≤ 244) ∨ (lenN c = 0 ∧ 128 ≤ c ∧ (c < 194 ∨ 244 < c)) := by
  unfold lenN
  repeat' split
  all_goals omega
theorem lo2_cases (c : Nat) : (c = 224 ∧ lo2 c = 160) ∨ (c = 240 ∧ lo2 c = 144) ∨ (c ≠ 224 ∧ c ≠ 240 ∧ lo2 c = 128) := by
  unfold lo2
  repeat' split
  all_goals omega
theorem hi2_cases (c : Nat) : (c = 237 ∧ hi2 c = 159) ∨ (c = 244 ∧ hi2 c = 143) ∨ (c ≠ 237 ∧ c ≠ 244 ∧ hi2 c = 191) := by
  unfold hi2
  repeat' split
  all_goals omega

/-- Go's own decoding: a character and its length .. -/
theorem decodeN_good {n c0 c1 c2 c3 : Nat} (h : GoodN n c0 c1 c2 c3) : Lib.decodeN n c0 c1 c2 c3 = (valN c0 c1 c2 c3, lenN c0) := by
  obtain ⟨h0, h1, h2, h3⟩ := h
  have hl := lo2_cases c0
  have hh := hi2_cases c0
  unfold ok1 at h1
  unfold okK at h2 h3
  rcases len_cases c0 with ⟨e, h⟩ | ⟨e, h⟩ | ⟨e, h⟩ | ⟨e, h⟩ | ⟨e, h⟩ <;> rw [e] at h0 h1 h2 h3 ⊢
  · unfold Lib.decodeN valN
    rw [if_pos h, if_pos h]
  · obtain ⟨k1, k2, k3⟩ := h1 (by omega)
    unfold Lib.decodeN valN
    rw [if_neg (by omega), if_pos (by omega), if_pos (by omega), if_neg (by omega), if_pos (by omega)]
  · obtain ⟨k1, k2, k3⟩ := h1 (by omega)
    obtain ⟨m1, m2, m3⟩ := h2 (by omega)
    unfold Lib.decodeN valN
    rw [if_neg (by omega), if_neg (by omega), if_pos (by omega), if_pos (by omega), if_neg (by omega), if_neg (by omega), if_pos (by omega)]
  · obtain ⟨k1, k2, k3⟩ := h1 (by omega)
    obtain ⟨m1, m2, m3⟩ := h2 (by omega)
    obtain ⟨n1, n2, n3⟩ := h3 (by omega)
    unfold Lib.decodeN valN
    rw [if_neg (by omega), if_neg (by omega), if_neg (by omega), if_pos (by omega), if_pos (by omega), if_neg (by omega), if_neg (by omega), if_neg (by omega)]
  · exact absurd rfl h0
/-- .. or 65533 and 1. -/
theorem decodeN_bad {n c0 c1 c2 c3 : Nat} (z0 : c0 < 256) (z2 : c2 < 256) (z3 : c3 < 256) (h : ¬ GoodN n c0 c1 c2 c3) : Lib.decodeN n c0 c1 c2 c3 = (65533, 1) := by
  have hl := lo2_cases c0
  have hh := hi2_cases c0
  unfold GoodN ok1 okK at h
  unfold Lib.decodeN
  rcases len_cases c0 with ⟨e, k⟩ | ⟨e, k⟩ | ⟨e, k⟩ | ⟨e, k⟩ | ⟨e, k⟩ <;> rw [e] at h
  all_goals
    repeat' split
    all_goals first | rfl | (exfalso; revert h; simp only [ne_eq, not_not]; omega) | (exfalso; omega)

/-- The byte at a place, as a number; 0 where there is none. -/
def nth (b : List Int) (k : Nat) : Nat := (b.getD k 0).toNat
def Good (b : List Int) : Prop := GoodN b.length (nth b 0) (nth b 1) (nth b 2) (nth b 3)
def lenB (b : List Int) : Nat := lenN (nth b 0)
def valB (b : List Int) : Nat := valN (nth b 0) (nth b 1) (nth b 2) (nth b 3)
/-- Where the first character goes wrong. -/
def badB (b : List Int) : Nat := if lenB b = 0 then 0 else if ¬ ok1 b.length (nth b 0) (nth b 1) then 1 else if ¬ okK b.length 2 (nth b 2) then 2 else 3

theorem nth_lt {b : List Int} (hz : ∀ c ∈ b, 0 ≤ c ∧ c < 256) (i : Nat) : nth b i < 256 := by
  unfold nth
  rw [List.getD_eq_getElem?_getD]
  rcases Nat.lt_or_ge i b.length with h | h
  · rw [List.getElem?_eq_getElem h]
    have := hz _ (List.getElem_mem h)
    show (b[i]).toNat < 256
    omega
  · rw [List.getElem?_eq_none h]; decide
theorem nth_drop (b : List Int) (p k : Nat) : nth (b.drop p) k = nth b (p + k) := by
  unfold nth
  rw [List.getD_eq_getElem?_getD, List.getD_eq_getElem?_getD, List.getElem?_drop]
theorem nth_left {a : List Int} (c : List Int) {i : Nat} (h : i < a.length) : nth (a ++ c) i = nth a i := by
  unfold nth
  rw [List.getD_eq_getElem?_getD, List.getD_eq_getElem?_getD, List.getElem?_append_left h]
/-- A string's byte, where it was made of numbers. -/
theorem get_nth {zs : List Int} (hz : ∀ c ∈ zs, 0 ≤ c ∧ c < 256) (i : Nat) : ((strOfNums zs).get! i).toNat = nth zs i := by
  rw [show (strOfNums zs).get! i = ((zs.map fun n => UInt8.ofNat n.toNat).toArray)[i]! from rfl, List.getElem!_toArray, List.getElem!_eq_getElem?_getD, List.getElem?_map]
  unfold nth
  rw [List.getD_eq_getElem?_getD]
  rcases Nat.lt_or_ge i zs.length with h | h
  · rw [List.getElem?_eq_getElem h]
    have hc := hz _ (List.getElem_mem h)
    show (UInt8.ofNat (zs[i]).toNat).toNat = (zs[i]).toNat
    rw [UInt8.toNat_ofNat']
    exact Nat.mod_eq_of_lt (by omega)
  · rw [List.getElem?_eq_none h]; rfl
theorem decode_good {zs : List Int} (hz : ∀ c ∈ zs, 0 ≤ c ∧ c < 256) {p : Nat} (h : Good (zs.drop p)) : Utf8.decode (strOfNums zs) p = (valB (zs.drop p), lenB (zs.drop p)) := by
  unfold Good at h
  rw [Lib.decode_at, get_nth hz, get_nth hz, get_nth hz, get_nth hz, strOfNums_size]
  rw [List.length_drop] at h
  simp only [nth_drop, Nat.add_zero] at h
  rw [decodeN_good h]
  simp only [valB, lenB, nth_drop, Nat.add_zero]
theorem decode_bad {zs : List Int} (hz : ∀ c ∈ zs, 0 ≤ c ∧ c < 256) {p : Nat} (h : ¬ Good (zs.drop p)) : Utf8.decode (strOfNums zs) p = (65533, 1) := by
  unfold Good at h
  rw [Lib.decode_at, get_nth hz, get_nth hz, get_nth hz, get_nth hz, strOfNums_size]
  rw [List.length_drop] at h
  simp only [nth_drop, Nat.add_zero] at h
  exact decodeN_bad (nth_lt hz _) (nth_lt hz _) (nth_lt hz _) h

theorem good_ne {b : List Int} (h : Good b) (h0 : b = [] → False) : 1 ≤ lenB b ∧ lenB b ≤ b.length ∧ lenB b ≤ 4 := by
  have hp : 0 < b.length := List.length_pos_iff.2 h0
  obtain ⟨k0, k1, k2, k3⟩ := h
  unfold ok1 at k1
  unfold okK at k2 k3
  unfold lenB
  rcases len_cases (nth b 0) with ⟨e, k⟩ | ⟨e, k⟩ | ⟨e, k⟩ | ⟨e, k⟩ | ⟨e, k⟩ <;> rw [e] at k0 k1 k2 k3 ⊢
  · omega
  · have := k1 (by omega); omega
  · have := k2 (by omega); omega
  · have := k3 (by omega); omega
  · exact absurd rfl k0

/-- A number that is a character, and its bytes. -/
def Right (r : Nat) : Prop := r ≤ 1114111 ∧ (r < 55296 ∨ 57343 < r)
/-- What is read is a character. -/
theorem good_right {b : List Int} (h : Good b) : Right (valB b) := by
  obtain ⟨k0, k1, k2, k3⟩ := h
  have hlo := lo2_cases (nth b 0)
  have hhi := hi2_cases (nth b 0)
  unfold ok1 at k1
  unfold okK at k2 k3
  unfold Right valB valN
  rcases len_cases (nth b 0) with ⟨e, k⟩ | ⟨e, k⟩ | ⟨e, k⟩ | ⟨e, k⟩ | ⟨e, k⟩ <;> rw [e] at k0 k1 k2 k3
  · rw [if_pos k]; omega
  · have q1 := k1 (by omega)
    rw [if_neg (by omega), if_pos (by omega)]
    omega
  · have q1 := k1 (by omega)
    have q2 := k2 (by omega)
    rw [if_neg (by omega), if_neg (by omega), if_pos (by omega)]
    omega
  · have q1 := k1 (by omega)
    have q2 := k2 (by omega)
    have q3 := k3 (by omega)
    rw [if_neg (by omega), if_neg (by omega), if_neg (by omega)]
    omega
  · exact absurd rfl k0
/-- Is the first one a character? -/
def goodB (b : List Int) : Bool := decide (lenB b ≠ 0 ∧ (2 ≤ lenB b → ok1 b.length (nth b 0) (nth b 1)) ∧ (3 ≤ lenB b → okK b.length 2 (nth b 2)) ∧ (4 ≤ lenB b → okK b.length 3 (nth b 3)))
theorem goodB_yes {b : List Int} (h : Good b) : goodB b = true := decide_eq_true h
theorem goodB_no {b : List Int} (h : ¬ Good b) : goodB b = false := decide_eq_false h
/-- The characters of bytes, k of them at most. -/
def runesF : Nat → List Int → List Nat × Option Nat
  | 0, _ => ([], none)
  | k + 1, b => if b = [] then ([], none) else if goodB b = true then (valB b :: (runesF k (b.drop (lenB b))).1, (runesF k (b.drop (lenB b))).2.map (lenB b + ·)) else ([], some (badB b))
/-- THE CHARACTERS OF BYTES, and where they go wrong. -/
def runesL (b : List Int) : List Nat × Option Nat := runesF b.length b
theorem runesF_nil (k : Nat) : runesF k [] = ([], none) := by
  cases k with
  | zero => rfl
  | succ k => rw [runesF, if_pos rfl]
theorem runesF_more (k : Nat) : ∀ (b : List Int) (m : Nat), b.length ≤ k → k ≤ m → runesF m b = runesF k b := by
  induction k with
  | zero =>
    intro b m h _
    obtain rfl : b = [] := List.eq_nil_of_length_eq_zero (by omega)
    rw [runesF_nil, runesF_nil]
  | succ k ih =>
    intro b m h hm
    obtain ⟨m, rfl⟩ : ∃ m', m = m' + 1 := ⟨m - 1, by omega⟩
    by_cases h0 : b = []
    · subst h0; rw [runesF_nil, runesF_nil]
    · by_cases hg : Good b
      · have hn := good_ne hg h0
        rw [runesF, runesF, if_neg h0, if_neg h0, goodB_yes hg, if_pos rfl, if_pos rfl, ih (b.drop (lenB b)) m (by rw [List.length_drop]; omega) (by omega)]
      · rw [runesF, runesF, if_neg h0, if_neg h0, goodB_no hg, if_neg (by simp), if_neg (by simp)]
theorem runes_nil : runesL [] = ([], none) := rfl
theorem runes_good {b : List Int} (h0 : b ≠ []) (h : Good b) : runesL b = (valB b :: (runesL (b.drop (lenB b))).1, (runesL (b.drop (lenB b))).2.map (lenB b + ·)) := by
  have hn := good_ne h h0
  unfold runesL
  obtain ⟨k, hk⟩ : ∃ k, b.length = k + 1 := ⟨b.length - 1, by omega⟩
  rw [hk, runesF, if_neg h0, goodB_yes h, if_pos rfl, runesF_more (b.drop (lenB b)).length (b.drop (lenB b)) k (Nat.le_refl _) (by rw [List.length_drop]; omega)]
theorem runes_bad {b : List Int} (h0 : b ≠ []) (h : ¬ Good b) : runesL b = ([], some (badB b)) := by
  have hp := List.length_pos_iff.2 h0
  unfold runesL
  obtain ⟨k, hk⟩ : ∃ k, b.length = k + 1 := ⟨b.length - 1, by omega⟩
  rw [hk, runesF, if_neg h0, goodB_no h, if_neg (by simp)]
theorem text_up {M : List Int → Prop} (nil : M []) (good : ∀ b, b ≠ [] → Good b → M (b.drop (lenB b)) → M b) (bad : ∀ b, b ≠ [] → ¬ Good b → M b) (k : Nat) : ∀ b : List Int, b.length ≤ k → M b := by
  induction k with
  | zero =>
    intro b h
    obtain rfl : b = [] := List.eq_nil_of_length_eq_zero (by omega)
    exact nil
  | succ k ih =>
    intro b h
    by_cases h0 : b = []
    · subst h0; exact nil
    · by_cases hg : Good b
      · have hn := good_ne hg h0
        exact good b h0 hg (ih _ (by rw [List.length_drop]; omega))
      · exact bad b h0 hg
theorem text_ind {M : List Int → Prop} (nil : M []) (good : ∀ b, b ≠ [] → Good b → M (b.drop (lenB b)) → M b) (bad : ∀ b, b ≠ [] → ¬ Good b → M b) (b : List Int) : M b := text_up nil good bad b.length b (Nat.le_refl _)

/-- A character is one with whatever behind it. -/
theorem good_left {a : List Int} (c : List Int) (h0 : a ≠ []) (h : Good a) : Good (a ++ c) ∧ lenB (a ++ c) = lenB a ∧ valB (a ++ c) = valB a := by
  have hp := List.length_pos_iff.2 h0
  obtain ⟨k0, k1, k2, k3⟩ := h
  have e0 : nth (a ++ c) 0 = nth a 0 := nth_left c hp
  have hl : lenB (a ++ c) = lenB a := by unfold lenB; rw [e0]
  unfold ok1 at k1
  unfold okK at k2 k3
  unfold Good GoodN ok1 okK valB valN
  rw [e0, List.length_append]
  refine ⟨?_, hl, ?_⟩
  · rcases len_cases (nth a 0) with ⟨e, k⟩ | ⟨e, k⟩ | ⟨e, k⟩ | ⟨e, k⟩ | ⟨e, k⟩ <;> rw [e] at k0 k1 k2 k3 ⊢
    · exact ⟨by omega, fun h => by omega, fun h => by omega, fun h => by omega⟩
    · have q1 := k1 (by omega)
      rw [nth_left c (i := 1) (by omega)]
      exact ⟨by omega, fun _ => by omega, fun h => by omega, fun h => by omega⟩
    · have q1 := k1 (by omega)
      have q2 := k2 (by omega)
      rw [nth_left c (i := 1) (by omega), nth_left c (i := 2) (by omega)]
      exact ⟨by omega, fun _ => by omega, fun _ => by omega, fun h => by omega⟩
    · have q1 := k1 (by omega)
      have q2 := k2 (by omega)
      have q3 := k3 (by omega)
      rw [nth_left c (i := 1) (by omega), nth_left c (i := 2) (by omega), nth_left c (i := 3) (by omega)]
      exact ⟨by omega, fun _ => by omega, fun _ => by omega, fun _ => by omega⟩
    · exact absurd rfl k0
  · rcases len_cases (nth a 0) with ⟨e, k⟩ | ⟨e, k⟩ | ⟨e, k⟩ | ⟨e, k⟩ | ⟨e, k⟩ <;> rw [e] at k0 k1 k2 k3
    · rw [if_pos k, if_pos k]
    · have q1 := k1 (by omega)
      rw [if_neg (by omega), if_pos (by omega), if_neg (by omega), if_pos (by omega), nth_left c (i := 1) (by omega)]
    · have q1 := k1 (by omega)
      have q2 := k2 (by omega)
      rw [if_neg (by omega), if_neg (by omega), if_pos (by omega), if_neg (by omega), if_neg (by omega), if_pos (by omega), nth_left c (i := 1) (by omega), nth_left c (i := 2) (by omega)]
    · have q1 := k1 (by omega)
      have q2 := k2 (by omega)
      have q3 := k3 (by omega)
      rw [if_neg (by omega), if_neg (by omega), if_neg (by omega), if_neg (by omega), if_neg (by omega), if_neg (by omega), nth_left c (i := 1) (by omega), nth_left c (i := 2) (by omega), nth_left c (i := 3) (by omega)]
    · exact absurd rfl k0

/-- A text and bytes: the text's characters, and then what the bytes are. -/
theorem runes_append (a c : List Int) : (runesL a).2 = none → runesL (a ++ c) = ((runesL a).1 ++ (runesL c).1, (runesL c).2.map (a.length + ·)) := by
  induction a using text_ind with
  | nil => intro _; rw [runes_nil]; simp
  | good a h0 h ih =>
    intro hn
    rw [runes_good h0 h] at hn ⊢
    dsimp only at hn ⊢
    obtain ⟨g1, g2, g3⟩ := good_left c h0 h
    have hg := good_ne h h0
    rw [runes_good (by simp [h0]) g1, g2, g3, List.drop_append_of_le_length hg.2.1, ih (by simpa using hn)]
    simp only [List.cons_append, Option.map_map, Prod.mk.injEq, true_and]
    congr 1
    funext x
    simp only [Function.comp_apply, List.length_drop]
    omega
  | bad a h0 h => intro hn; rw [runes_bad h0 h] at hn; cases hn

/-- Where the first character goes wrong: which of the four it is. -/
theorem bad_cases {b : List Int} (h : ¬ Good b) : (badB b = 0 ∧ lenB b = 0) ∨ (badB b = 1 ∧ 2 ≤ lenB b ∧ ¬ ok1 b.length (nth b 0) (nth b 1)) ∨
    (badB b = 2 ∧ 3 ≤ lenB b ∧ ok1 b.length (nth b 0) (nth b 1) ∧ ¬ okK b.length 2 (nth b 2)) ∨
    (badB b = 3 ∧ 4 ≤ lenB b ∧ ok1 b.length (nth b 0) (nth b 1) ∧ okK b.length 2 (nth b 2) ∧ ¬ okK b.length 3 (nth b 3)) := by
  have hg : ¬ (lenB b ≠ 0 ∧ (2 ≤ lenB b → ok1 b.length (nth b 0) (nth b 1)) ∧ (3 ≤ lenB b → okK b.length 2 (nth b 2)) ∧ (4 ≤ lenB b → okK b.length 3 (nth b 3))) := h
  unfold badB
  by_cases h0 : lenB b = 0
  · left; rw [if_pos h0]; exact ⟨rfl, h0⟩
  · rw [if_neg h0]
    right
    have hc := len_cases (nth b 0)
    have hb : lenB b = lenN (nth b 0) := rfl
    by_cases h1 : ok1 b.length (nth b 0) (nth b 1)
    · rw [if_neg (fun k => k h1)]
      right
      by_cases h2 : okK b.length 2 (nth b 2)
      · rw [if_neg (fun k => k h2)]
        right
        by_cases h3 : 4 ≤ lenB b
        · exact ⟨rfl, h3, h1, h2, fun k => hg ⟨h0, fun _ => h1, fun _ => h2, fun _ => k⟩⟩
        · exact absurd ⟨h0, fun _ => h1, fun _ => h2, fun k => absurd k h3⟩ hg
      · rw [if_pos h2]
        left
        by_cases h3 : 3 ≤ lenB b
        · exact ⟨rfl, h3, h1, h2⟩
        · exact absurd ⟨h0, fun _ => h1, fun k => absurd k h3, fun k => absurd k (by omega)⟩ hg
    · rw [if_pos h1]
      left
      by_cases h2 : 2 ≤ lenB b
      · exact ⟨rfl, h2, h1⟩
      · exact absurd ⟨h0, fun k => absurd k h2, fun k => absurd k (by omega), fun k => absurd k (by omega)⟩ hg
/-- A fault lies among the bytes, or just behind them. -/
theorem bad_le {b : List Int} (h0 : b ≠ []) (h : ¬ Good b) : badB b ≤ b.length := by
  have hp := List.length_pos_iff.2 h0
  rcases bad_cases h with ⟨e, k⟩ | ⟨e, k1, k2⟩ | ⟨e, k1, k2, k3⟩ | ⟨e, k1, k2, k3, k4⟩
  · omega
  · omega
  · have := k2.1; omega
  · have := k3.1; omega
theorem fault_le (b : List Int) : ∀ p, (runesL b).2 = some p → p ≤ b.length := by
  induction b using text_ind with
  | nil => intro p hp; rw [runes_nil] at hp; cases hp
  | good b h0 h ih =>
    intro p hp
    rw [runes_good h0 h] at hp
    dsimp only at hp
    cases hr : (runesL (b.drop (lenB b))).2 with
    | none => rw [hr] at hp; cases hp
    | some p' =>
      rw [hr] at hp
      simp only [Option.map_some, Option.some.injEq] at hp
      have h1 := ih p' hr
      have hg := good_ne h h0
      rw [List.length_drop] at h1
      omega
  | bad b h0 h =>
    intro p hp
    rw [runes_bad h0 h] at hp
    simp only [Option.some.injEq] at hp
    subst hp
    exact bad_le h0 h
end Go.Proofs.YtnjbppfanmmifaaGreatDoor
namespace Go.Proofs.YtnjbppfanmmifaaGreatDoor

/-- How many bytes a character has. -/
def lenR (r : Nat) : Nat := if r < 128 then 1 else if r < 2048 then 2 else if r < 65536 then 3 else 4
theorem val_lenR {b : List Int} (h : Good b) : lenR (valB b) = lenB b := by
  obtain ⟨k0, k1, k2, k3⟩ := h
  have hlo := lo2_cases (nth b 0)
  have hhi := hi2_cases (nth b 0)
  unfold ok1 at k1
  unfold okK at k2 k3
  unfold lenR valB valN lenB
  rcases len_cases (nth b 0) with ⟨e, k⟩ | ⟨e, k⟩ | ⟨e, k⟩ | ⟨e, k⟩ | ⟨e, k⟩ <;> rw [e] at k0 k1 k2 k3 ⊢
  · rw [if_pos k, if_pos k]
  · have q1 := k1 (by omega)
    rw [if_neg (by omega : ¬ nth b 0 < 128), if_pos (by omega : nth b 0 < 224), if_neg (by omega), if_pos (by omega)]
  · have q1 := k1 (by omega)
    have q2 := k2 (by omega)
    rw [if_neg (by omega : ¬ nth b 0 < 128), if_neg (by omega : ¬ nth b 0 < 224), if_pos (by omega : nth b 0 < 240), if_neg (by omega), if_neg (by omega), if_pos (by omega)]
  · have q1 := k1 (by omega)
    have q2 := k2 (by omega)
    have q3 := k3 (by omega)
    rw [if_neg (by omega : ¬ nth b 0 < 128), if_neg (by omega : ¬ nth b 0 < 224), if_neg (by omega : ¬ nth b 0 < 240), if_neg (by omega), if_neg (by omega), if_neg (by omega)]
  · exact absurd rfl k0
/-- The place behind the whole characters that bytes begin with. -/
def endL (b : List Int) : Nat := ((runesL b).1.map lenR).sum
theorem end_nil : endL [] = 0 := rfl
theorem end_good {b : List Int} (h0 : b ≠ []) (h : Good b) : endL b = lenB b + endL (b.drop (lenB b)) := by
  unfold endL
  rw [runes_good h0 h]
  simp only [List.map_cons, List.sum_cons, val_lenR h]
theorem end_bad {b : List Int} (h : ¬ Good b) : endL b = 0 := by
  by_cases h0 : b = []
  · subst h0; rfl
  · unfold endL
    rw [runes_bad h0 h]
    rfl
theorem end_le (b : List Int) : endL b ≤ b.length := by
  induction b using text_ind with
  | nil => rw [end_nil]; simp
  | good b h0 h ih =>
    have := good_ne h h0
    rw [end_good h0 h]
    rw [List.length_drop] at ih
    omega
  | bad b h0 h => rw [end_bad h]; simp
/-- Behind the whole characters there is none. -/
theorem end_stop (b : List Int) : endL b < b.length → ¬ Good (b.drop (endL b)) := by
  induction b using text_ind with
  | nil => intro h; simp at h
  | good b h0 h ih =>
    intro hl
    have hg := good_ne h h0
    rw [end_good h0 h] at hl ⊢
    rw [← List.drop_drop]
    refine ih ?_
    rw [List.length_drop]
    omega
  | bad b h0 h => intro _; rw [end_bad h]; exact h
/-- WHERE BYTES GO WRONG, told by where the whole characters end. -/
theorem fault_end (b : List Int) : (runesL b).2 = if endL b = b.length then none else some (endL b + badB (b.drop (endL b))) := by
  induction b using text_ind with
  | nil => rw [runes_nil, end_nil]; rfl
  | good b h0 h ih =>
    have hg := good_ne h h0
    rw [runes_good h0 h, end_good h0 h]
    dsimp only
    rw [ih, List.length_drop, ← List.drop_drop]
    by_cases e : endL (b.drop (lenB b)) = b.length - lenB b
    · rw [if_pos e, if_pos (by omega)]; rfl
    · rw [if_neg e, if_neg (by omega)]
      simp only [Option.map_some, Option.some.injEq]
      omega
  | bad b h0 h =>
    have hp := List.length_pos_iff.2 h0
    rw [runes_bad h0 h, end_bad h, if_neg (by omega)]
    simp
theorem end_text {b : List Int} (h : endL b = b.length) : (runesL b).2 = none := by rw [fault_end, if_pos h]
theorem end_fault {b : List Int} (h : endL b ≠ b.length) : (runesL b).2 = some (endL b + badB (b.drop (endL b))) := by rw [fault_end, if_neg h]

end Go.Proofs.YtnjbppfanmmifaaGreatDoor
