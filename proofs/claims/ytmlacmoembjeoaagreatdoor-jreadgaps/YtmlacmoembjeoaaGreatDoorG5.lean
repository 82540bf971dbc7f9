/-
  Texts in bytes, as plain lists: characters, their bytes, where bytes go wrong; and that Go's own decoding agrees. No program is named here.
  Texts in bytes, as plain lists, for this program: where the whole characters end, how many bytes a character has, and what Go's own conversions make of bytes. No program is named here.
  strings.Builder, wherever it lies: a block of its own, or a field of a struct: what is written to it, and its string.
-/
import Derived.Test.YtmlacmoembjeoaaGreatDoorG4
import Derived.Lib.DecodeN
import Derived.Laws.BytesArg
import Derived.Laws.IdiomStrings
import Derived.Lib.Builder
import Derived.Lib.UnsafeStr
import Derived.Lib.RuneBytes
import Derived.Laws.Externs
namespace Go.Proofs.YtmlacmoembjeoaaGreatDoor

/-- How many bytes a character has that begins with c; 0: none does. -/
def lenN (c : Nat) : Nat := if c < 128 then 1 else if 194 ≤ c ∧ c ≤ 223 then 2 else if 224 ≤ c ∧ c ≤ 239 then 3 else if 240 ≤ c ∧ c ≤ 244 then 4 else 0
/-- Which second bytes a first one may have. -/
def lo2 (c : Nat) : Nat := if c = 224 then 160 else if c = 240 then 144 else 128
def hi2 (c : Nat) : Nat := if c = 237 then 159 else if c = 244 then 143 else 191
/-- The second byte is there, and may be; a later one is, and may be (n bytes in all). -/
abbrev ok1 (n c0 c1 : Nat) : Prop := 1 < n ∧ lo2 c0 ≤ c1 ∧ c1 ≤ hi2 c0
abbrev okK (n i c : Nat) : Prop := i < n ∧ 128 ≤ c ∧ c ≤ 191
/-- A character begins there: n bytes, the first four of them (what is not there: 0). -/
def GoodN (n c0 c1 c2 c3 : Nat) : Prop := lenN c0 ≠ 0 ∧ (2 ≤ lenN c0 → ok1 n c0 c1) ∧ (3 ≤ lenN c0 → okK n 2 c2) ∧ (4 ≤ lenN c0 → okK n 3 c3)
/-- The first character. -/
def valN (c0 c1 c2 c3 : Nat) : Nat :=
  if c0 < 128 then c0 else if c0 < 224 then c0 % 32 * 64 + c1 % 64 else if c0 < 240 then c0 % 16 * 4096 + c1 % 64 * 64 + c2 % 64 else c0 % 8 * 262144 + c1 % 64 * 4096 + c2 % 64 * 64 + c3 % 64

theorem len_cases (c : Nat) : (lenN c = 1 ∧ c < 128) ∨ (lenN c = 2 ∧ 194 ≤ c ∧ c ≤ 223) ∨ (lenN c = 3 ∧ 224 ≤ c ∧ c ≤ 239) ∨ (lenN c = 4 ∧ 240 ≤ c ∧ c ≤ 244) ∨ (lenN c = 0 ∧ 128 ≤ c ∧ (c < 194 ∨ 244 < c)) := by
  unfold lenN
  repeat' split
  all_goals omega
theorem lo2_cases (c : Nat) : (c = 224 ∧ lo2 c = 160) ∨ (c = 240 ∧ lo2 c = 144) ∨ (c ≠ 224 ∧ c ≠ 240 ∧ lo2 c = 128) := by
  unfold lo2
  repeat' split
  all_goals omega
theorem hi2_cases (c : Nat) : (c = 237 ∧ hi2 c = 159) ∨ (c = 244 ∧ hi2 c = 143) ∨ (c ≠ 237 ∧ c ≠ 244 ∧ hi2 c = 191) := by
  unfold hi2
  repeat' split
  all_goals omega

/-- Go's own decoding: a character and its length .. -/
theorem decodeN_good {n c0 c1 c2 c3 : Nat} (h : GoodN n c0 c1 c2 c3) : Lib.decodeN n c0 c1 c2 c3 = (valN c0 c1 c2 c3, lenN c0) := by
  obtain ⟨h0, h1, h2, h3⟩ := h
  have hl := lo2_cases c0
  have hh := hi2_cases c0
  unfold ok1 at h1
  unfold okK at h2 h3
  rcases len_cases c0 with ⟨e, h⟩ | ⟨e, h⟩ | ⟨e, h⟩ | ⟨e, h⟩ | ⟨e, h⟩ <;> rw [e] at h0 h1 h2 h3 ⊢
  · unfold Lib.decodeN valN
    rw [if_pos h, if_pos h]
  · obtain ⟨k1, k2, k3⟩ := h1 (by omega)
    unfold Lib.decodeN valN
    rw [if_neg (by omega), if_pos (by omega), if_pos (by omega), if_neg (by omega), if_pos (by omega)]
  · obtain ⟨k1, k2, k3⟩ := h1 (by omega)
    obtain ⟨m1, m2, m3⟩ := h2 (by omega)
    unfold Lib.decodeN valN
    rw [if_neg (by omega), if_neg (by omega), if_pos (by omega), if_pos (by omega), if_neg (by omega), if_neg (by omega), if_pos (by omega)]
  · obtain ⟨k1, k2, k3⟩ := h1 (by omega)
    obtain ⟨m1, m2, m3⟩ := h2 (by omega)
    obtain ⟨n1, n2, n3⟩ := h3 (by omega)
    unfold Lib.decodeN valN
    rw [if_neg (by omega), if_neg (by omega), if_neg (by omega), if_pos (by omega), if_pos (by omega), if_neg (by omega), if_neg (by omega), if_neg (by omega)]
  · exact absurd rfl h0
/-- .. or 65533 and 1. -/
theorem decodeN_bad {n c0 c1 c2 c3 : Nat} (z0 : c0 < 256) (z2 : c2 < 256) (z3 : c3 < 256) (h : ¬ GoodN n c0 c1 c2 c3) : Lib.decodeN n c0 c1 c2 c3 = (65533, 1) := by
  have hl := lo2_cases c0
  have hh := hi2_cases c0
  unfold GoodN ok1 okK at h
  unfold Lib.decodeN
  rcases len_cases c0 with ⟨e, k⟩ | ⟨e, k⟩ | ⟨e, k⟩ | ⟨e, k⟩ | ⟨e, k⟩ <;> rw [e] at h
  all_goals
    repeat' split
    all_goals first | rfl | (exfalso; revert h; simp only [ne_eq, not_not]; omega) | (exfalso; omega)

/-- The byte at a place, as a number; 0 where there is none. -/
def nth (b : List Int) (k : Nat) : Nat := (b.getD k 0).toNat
def Good (b : List Int) : Prop := GoodN b.length (nth b 0) (nth b 1) (nth b 2) (nth b 3)
def lenB (b : List Int) : Nat := lenN (nth b 0)
def valB (b : List Int) : Nat := valN (nth b 0) (nth b 1) (nth b 2) (nth b 3)
/-- Where the first character goes wrong. -/
def badB (b : List Int) : Nat := if lenB b = 0 then 0 else if ¬ ok1 b.length (nth b 0) (nth b 1) then 1 else if ¬ okK b.length 2 (nth b 2) then 2 else 3

theorem nth_lt {b : List Int} (hz : ∀ c ∈ b, 0 ≤ c ∧ c < 256) (i : Nat) : nth b i < 256 := by
  unfold nth
  rw [List.getD_eq_getElem?_getD]
  rcases Nat.lt_or_ge i b.length with h | h
  · rw [List.getElem?_eq_getElem h]
    have := hz _ (List.getElem_mem h)
    show (b[i]).toNat < 256
    omega
  · rw [List.getElem?_eq_none h]; decide
theorem nth_drop (b : List Int) (p k : Nat) : nth (b.drop p) k = nth b (p + k) := by
  unfold nth
  rw [List.getD_eq_getElem?_getD, List.getD_eq_getElem?_getD, List.getElem?_drop]
theorem nth_left {a : List Int} (c : List Int) {i : Nat} (h : i < a.length) : nth (a ++ c) i = nth a i := by
  unfold nth
  rw [List.getD_eq_getElem?_getD, List.getD_eq_getElem?_getD, List.getElem?_append_left h]
theorem nth_take {b : List Int} {m i : Nat} (h : i < m) : nth (b.take m) i = nth b i := by
  unfold nth
  rw [List.getD_eq_getElem?_getD, List.getD_eq_getElem?_getD, List.getElem?_take, if_pos h]

/-- A string's byte, where it was made of numbers. -/
theorem get_nth {zs : List Int} (hz : ∀ c ∈ zs, 0 ≤ c ∧ c < 256) (i : Nat) : ((strOfNums zs).get! i).toNat = nth zs i := by
  rw [show (strOfNums zs).get! i = ((zs.map fun n => UInt8.ofNat n.toNat).toArray)[i]! from rfl, List.getElem!_toArray, List.getElem!_eq_getElem?_getD, List.getElem?_map]
  unfold nth
  rw [List.getD_eq_getElem?_getD]
  rcases Nat.lt_or_ge i zs.length with h | h
  · rw [List.getElem?_eq_getElem h]
    have hc := hz _ (List.getElem_mem h)
    show (UInt8.ofNat (zs[i]).toNat).toNat = (zs[i]).toNat
    rw [UInt8.toNat_ofNat']
    exact Nat.mod_eq_of_lt (by omega)
  · rw [List.getElem?_eq_none h]; rfl
theorem decode_good {zs : List Int} (hz : ∀ c ∈ zs, 0 ≤ c ∧ c < 256) {p : Nat} (h : Good (zs.drop p)) : Utf8.decode (strOfNums zs) p = (valB (zs.drop p), lenB (zs.drop p)) := by
  unfold Good at h
  rw [Lib.decode_at, get_nth hz, get_nth hz, get_nth hz, get_nth hz, strOfNums_size]
  rw [List.length_drop] at h
  simp only [nth_drop, Nat.add_zero] at h
  rw [decodeN_good h]
  simp only [valB, lenB, nth_drop, Nat.add_zero]
theorem decode_bad {zs : List Int} (hz : ∀ c ∈ zs, 0 ≤ c ∧ c < 256) {p : Nat} (h : ¬ Good (zs.drop p)) : Utf8.decode (strOfNums zs) p = (65533, 1) := by
  unfold Good at h
  rw [Lib.decode_at, get_nth hz, get_nth hz, get_nth hz, get_nth hz, strOfNums_size]
  rw [List.length_drop] at h
  simp only [nth_drop, Nat.add_zero] at h
  exact decodeN_bad (nth_lt hz _) (nth_lt hz _) (nth_lt hz _) h

theorem good_ne {b : List Int} (h : Good b) (h0 : b = [] → False) : 1 ≤ lenB b ∧ lenB b ≤ b.length ∧ lenB b ≤ 4 := by
  have hp : 0 < b.length := List.length_pos_iff.2 h0
  obtain ⟨k0, k1, k2, k3⟩ := h
  unfold ok1 at k1
  unfold okK at k2 k3
  unfold lenB
  rcases len_cases (nth b 0) with ⟨e, k⟩ | ⟨e, k⟩ | ⟨e, k⟩ | ⟨e, k⟩ | ⟨e, k⟩ <;> rw [e] at k0 k1 k2 k3 ⊢
  · omega
  · have := k1 (by omega); omega
  · have := k2 (by omega); omega
  · have := k3 (by omega); omega
  · exact absurd rfl k0

/-- A number that is a character, and its bytes. -/
def Right (r : Nat) : Prop := r ≤ 1114111 ∧ (r < 55296 ∨ 57343 < r)
def encL (r : Nat) : List Int :=
  if r < 128 then [(r : Int)]
  else if r < 2048 then [((192 + r / 64 : Nat) : Int), ((128 + r % 64 : Nat) : Int)]
  else if r < 65536 then [((224 + r / 4096 : Nat) : Int), ((128 + r / 64 % 64 : Nat) : Int), ((128 + r % 64 : Nat) : Int)]
  else [((240 + r / 262144 : Nat) : Int), ((128 + r / 4096 % 64 : Nat) : Int), ((128 + r / 64 % 64 : Nat) : Int), ((128 + r % 64 : Nat) : Int)]
theorem enc_bytes {r : Nat} (hr : Right r) : ∀ c ∈ encL r, 0 ≤ c ∧ c < 256 := by
  unfold Right at hr
  unfold encL
  intro c hc
  repeat' split at hc
  all_goals
    simp only [List.mem_cons, List.not_mem_nil, or_false] at hc
    omega
theorem enc_len (r : Nat) : 1 ≤ (encL r).length ∧ (encL r).length ≤ 4 := by
  unfold encL
  repeat' split
  all_goals simp
/-- A character's bytes are a character, whatever comes behind. -/
theorem enc_good {r : Nat} (hr : Right r) (t : List Int) : Good (encL r ++ t) ∧ lenB (encL r ++ t) = (encL r).length ∧ valB (encL r ++ t) = r := by
  unfold Right at hr
  unfold Good lenB valB GoodN ok1 okK
  by_cases h1 : r < 128
  · have e : encL r = [(r : Int)] := by unfold encL; rw [if_pos h1]
    have n0 : nth (encL r ++ t) 0 = r := by rw [e]; rfl
    rw [n0]
    have hl : lenN r = 1 := by unfold lenN; rw [if_pos h1]
    rw [hl, e]
    refine ⟨⟨by omega, fun h => by omega, fun h => by omega, fun h => by omega⟩, rfl, ?_⟩
    unfold valN
    rw [if_pos h1]
  · by_cases h2 : r < 2048
    · have e : encL r = [((192 + r / 64 : Nat) : Int), ((128 + r % 64 : Nat) : Int)] := by unfold encL; rw [if_neg h1, if_pos h2]
      have n0 : nth (encL r ++ t) 0 = 192 + r / 64 := by rw [e]; rfl
      have n1 : nth (encL r ++ t) 1 = 128 + r % 64 := by rw [e]; rfl
      have hlen : (encL r ++ t).length = 2 + t.length := by rw [e]; simp; omega
      have hl : lenN (192 + r / 64) = 2 := by unfold lenN; rw [if_neg (by omega), if_pos (by omega)]
      have hlo := lo2_cases (192 + r / 64)
      have hhi := hi2_cases (192 + r / 64)
      rw [n0, n1, hlen, hl]
      refine ⟨⟨by omega, fun _ => by omega, fun h => by omega, fun h => by omega⟩, by rw [e]; rfl, ?_⟩
      unfold valN
      rw [if_neg (by omega), if_pos (by omega)]
      omega
    · by_cases h3 : r < 65536
      · have e : encL r = [((224 + r / 4096 : Nat) : Int), ((128 + r / 64 % 64 : Nat) : Int), ((128 + r % 64 : Nat) : Int)] := by unfold encL; rw [if_neg h1, if_neg h2, if_pos h3]
        have n0 : nth (encL r ++ t) 0 = 224 + r / 4096 := by rw [e]; rfl
        have n1 : nth (encL r ++ t) 1 = 128 + r / 64 % 64 := by rw [e]; rfl
        have n2 : nth (encL r ++ t) 2 = 128 + r % 64 := by rw [e]; rfl
        have hlen : (encL r ++ t).length = 3 + t.length := by rw [e]; simp; omega
        have hl : lenN (224 + r / 4096) = 3 := by unfold lenN; rw [if_neg (by omega), if_neg (by omega), if_pos (by omega)]
        have hlo := lo2_cases (224 + r / 4096)
        have hhi := hi2_cases (224 + r / 4096)
        rw [n0, n1, n2, hlen, hl]
        refine ⟨⟨by omega, fun _ => by omega, fun _ => by omega, fun h => by omega⟩, by rw [e]; rfl, ?_⟩
        unfold valN
        rw [if_neg (by omega), if_neg (by omega), if_pos (by omega)]
        omega
      · have e : encL r = [((240 + r / 262144 : Nat) : Int), ((128 + r / 4096 % 64 : Nat) : Int), ((128 + r / 64 % 64 : Nat) : Int), ((128 + r % 64 : Nat) : Int)] := by unfold encL; rw [if_neg h1, if_neg h2, if_neg h3]
        have n0 : nth (encL r ++ t) 0 = 240 + r / 262144 := by rw [e]; rfl
        have n1 : nth (encL r ++ t) 1 = 128 + r / 4096 % 64 := by rw [e]; rfl
        have n2 : nth (encL r ++ t) 2 = 128 + r / 64 % 64 := by rw [e]; rfl
        have n3 : nth (encL r ++ t) 3 = 128 + r % 64 := by rw [e]; rfl
        have hlen : (encL r ++ t).length = 4 + t.length := by rw [e]; simp; omega
        have hl : lenN (240 + r / 262144) = 4 := by unfold lenN; rw [if_neg (by omega), if_neg (by omega), if_neg (by omega), if_pos (by omega)]
        have hlo := lo2_cases (240 + r / 262144)
        have hhi := hi2_cases (240 + r / 262144)
        rw [n0, n1, n2, n3, hlen, hl]
        refine ⟨⟨by omega, fun _ => by omega, fun _ => by omega, fun _ => by omega⟩, by rw [e]; rfl, ?_⟩
        unfold valN
        rw [if_neg (by omega), if_neg (by omega), if_neg (by omega)]
        omega
/-- What is read is a character. -/
theorem good_right {b : List Int} (h : Good b) : Right (valB b) := by
  obtain ⟨k0, k1, k2, k3⟩ := h
  have hlo := lo2_cases (nth b 0)
  have hhi := hi2_cases (nth b 0)
  unfold ok1 at k1
  unfold okK at k2 k3
  unfold Right valB valN
  rcases len_cases (nth b 0) with ⟨e, k⟩ | ⟨e, k⟩ | ⟨e, k⟩ | ⟨e, k⟩ | ⟨e, k⟩ <;> rw [e] at k0 k1 k2 k3
  · rw [if_pos k]; omega
  · have q1 := k1 (by omega)
    rw [if_neg (by omega), if_pos (by omega)]
    omega
  · have q1 := k1 (by omega)
    have q2 := k2 (by omega)
    rw [if_neg (by omega), if_neg (by omega), if_pos (by omega)]
    omega
  · have q1 := k1 (by omega)
    have q2 := k2 (by omega)
    have q3 := k3 (by omega)
    rw [if_neg (by omega), if_neg (by omega), if_neg (by omega)]
    omega
  · exact absurd rfl k0
/-- 65533 has one form. -/
theorem good_odd {b : List Int} (h : Good b) : valB b = 65533 ↔ (3 ≤ b.length ∧ nth b 0 = 239 ∧ nth b 1 = 191 ∧ nth b 2 = 189) := by
  obtain ⟨k0, k1, k2, k3⟩ := h
  have hlo := lo2_cases (nth b 0)
  have hhi := hi2_cases (nth b 0)
  unfold ok1 at k1
  unfold okK at k2 k3
  unfold valB valN
  rcases len_cases (nth b 0) with ⟨e, k⟩ | ⟨e, k⟩ | ⟨e, k⟩ | ⟨e, k⟩ | ⟨e, k⟩ <;> rw [e] at k0 k1 k2 k3
  · rw [if_pos k]; omega
  · have q1 := k1 (by omega)
    rw [if_neg (by omega), if_pos (by omega)]
    omega
  · have q1 := k1 (by omega)
    have q2 := k2 (by omega)
    rw [if_neg (by omega), if_neg (by omega), if_pos (by omega)]
    omega
  · have q1 := k1 (by omega)
    have q2 := k2 (by omega)
    have q3 := k3 (by omega)
    rw [if_neg (by omega), if_neg (by omega), if_neg (by omega)]
    omega
  · exact absurd rfl k0

/-- Is the first one a character? -/
def goodB (b : List Int) : Bool := decide (lenB b ≠ 0 ∧ (2 ≤ lenB b → ok1 b.length (nth b 0) (nth b 1)) ∧ (3 ≤ lenB b → okK b.length 2 (nth b 2)) ∧ (4 ≤ lenB b → okK b.length 3 (nth b 3)))
theorem goodB_yes {b : List Int} (h : Good b) : goodB b = true := decide_eq_true h
theorem goodB_no {b : List Int} (h : ¬ Good b) : goodB b = false := decide_eq_false h
/-- The characters of bytes, k of them at most. -/
def runesF : Nat → List Int → List Nat × Option Nat
  | 0, _ => ([], none)
  | k + 1, b => if b = [] then ([], none) else if goodB b = true then (valB b :: (runesF k (b.drop (lenB b))).1, (runesF k (b.drop (lenB b))).2.map (lenB b + ·)) else ([], some (badB b))
/-- THE CHARACTERS OF BYTES, and where they go wrong. -/
def runesL (b : List Int) : List Nat × Option Nat := runesF b.length b
theorem runesF_nil (k : Nat) : runesF k [] = ([], none) := by
  cases k with
  | zero => rfl
  | succ k => rw [runesF, if_pos rfl]
theorem runesF_more (k : Nat) : ∀ (b : List Int) (m : Nat), b.length ≤ k → k ≤ m → runesF m b = runesF k b := by
  induction k with
  | zero =>
    intro b m h _
    obtain rfl : b = [] := List.eq_nil_of_length_eq_zero (by omega)
    rw [runesF_nil, runesF_nil]
  | succ k ih =>
    intro b m h hm
    obtain ⟨m, rfl⟩ : ∃ m', m = m' + 1 := ⟨m - 1, by omega⟩
    by_cases h0 : b = []
    · subst h0; rw [runesF_nil, runesF_nil]
    · by_cases hg : Good b
      · have hn := good_ne hg h0
        rw [runesF, runesF, if_neg h0, if_neg h0, goodB_yes hg, if_pos rfl, if_pos rfl, ih (b.drop (lenB b)) m (by rw [List.length_drop]; omega) (by omega)]
      · rw [runesF, runesF, if_neg h0, if_neg h0, goodB_no hg, if_neg (by simp), if_neg (by simp)]
theorem runes_nil : runesL [] = ([], none) := rfl
theorem runes_good {b : List Int} (h0 : b ≠ []) (h : Good b) : runesL b = (valB b :: (runesL (b.drop (lenB b))).1, (runesL (b.drop (lenB b))).2.map (lenB b + ·)) := by
  have hn := good_ne h h0
  unfold runesL
  obtain ⟨k, hk⟩ : ∃ k, b.length = k + 1 := ⟨b.length - 1, by omega⟩
  rw [hk, runesF, if_neg h0, goodB_yes h, if_pos rfl, runesF_more (b.drop (lenB b)).length (b.drop (lenB b)) k (Nat.le_refl _) (by rw [List.length_drop]; omega)]
theorem runes_bad {b : List Int} (h0 : b ≠ []) (h : ¬ Good b) : runesL b = ([], some (badB b)) := by
  have hp := List.length_pos_iff.2 h0
  unfold runesL
  obtain ⟨k, hk⟩ : ∃ k, b.length = k + 1 := ⟨b.length - 1, by omega⟩
  rw [hk, runesF, if_neg h0, goodB_no h, if_neg (by simp)]
theorem text_up {M : List Int → Prop} (nil : M []) (good : ∀ b, b ≠ [] → Good b → M (b.drop (lenB b)) → M b) (bad : ∀ b, b ≠ [] → ¬ Good b → M b) (k : Nat) : ∀ b : List Int, b.length ≤ k → M b := by
  induction k with
  | zero =>
    intro b h
    obtain rfl : b = [] := List.eq_nil_of_length_eq_zero (by omega)
    exact nil
  | succ k ih =>
    intro b h
    by_cases h0 : b = []
    · subst h0; exact nil
    · by_cases hg : Good b
      · have hn := good_ne hg h0
        exact good b h0 hg (ih _ (by rw [List.length_drop]; omega))
      · exact bad b h0 hg
theorem text_ind {M : List Int → Prop} (nil : M []) (good : ∀ b, b ≠ [] → Good b → M (b.drop (lenB b)) → M b) (bad : ∀ b, b ≠ [] → ¬ Good b → M b) (b : List Int) : M b := text_up nil good bad b.length b (Nat.le_refl _)

/-- A character is one with whatever behind it. -/
theorem good_left {a : List Int} (c : List Int) (h0 : a ≠ []) (h : Good a) : Good (a ++ c) ∧ lenB (a ++ c) = lenB a ∧ valB (a ++ c) = valB a := by
  have hp := List.length_pos_iff.2 h0
  obtain ⟨k0, k1, k2, k3⟩ := h
  have e0 : nth (a ++ c) 0 = nth a 0 := nth_left c hp
  have hl : lenB (a ++ c) = lenB a := by unfold lenB; rw [e0]
  unfold ok1 at k1
  unfold okK at k2 k3
  unfold Good GoodN ok1 okK valB valN
  rw [e0, List.length_append]
  refine ⟨?_, hl, ?_⟩
  · rcases len_cases (nth a 0) with ⟨e, k⟩ | ⟨e, k⟩ | ⟨e, k⟩ | ⟨e, k⟩ | ⟨e, k⟩ <;> rw [e] at k0 k1 k2 k3 ⊢
    · exact ⟨by omega, fun h => by omega, fun h => by omega, fun h => by omega⟩
    · have q1 := k1 (by omega)
      rw [nth_left c (i := 1) (by omega)]
      exact ⟨by omega, fun _ => by omega, fun h => by omega, fun h => by omega⟩
    · have q1 := k1 (by omega)
      have q2 := k2 (by omega)
      rw [nth_left c (i := 1) (by omega), nth_left c (i := 2) (by omega)]
      exact ⟨by omega, fun _ => by omega, fun _ => by omega, fun h => by omega⟩
    · have q1 := k1 (by omega)
      have q2 := k2 (by omega)
      have q3 := k3 (by omega)
      rw [nth_left c (i := 1) (by omega), nth_left c (i := 2) (by omega), nth_left c (i := 3) (by omega)]
      exact ⟨by omega, fun _ => by omega, fun _ => by omega, fun _ => by omega⟩
    · exact absurd rfl k0
  · rcases len_cases (nth a 0) with ⟨e, k⟩ | ⟨e, k⟩ | ⟨e, k⟩ | ⟨e, k⟩ | ⟨e, k⟩ <;> rw [e] at k0 k1 k2 k3
    · rw [if_pos k, if_pos k]
    · have q1 := k1 (by omega)
      rw [if_neg (by omega), if_pos (by omega), if_neg (by omega), if_pos (by omega), nth_left c (i := 1) (by omega)]
    · have q1 := k1 (by omega)
      have q2 := k2 (by omega)
      rw [if_neg (by omega), if_neg (by omega), if_pos (by omega), if_neg (by omega), if_neg (by omega), if_pos (by omega), nth_left c (i := 1) (by omega), nth_left c (i := 2) (by omega)]
    · have q1 := k1 (by omega)
      have q2 := k2 (by omega)
      have q3 := k3 (by omega)
      rw [if_neg (by omega), if_neg (by omega), if_neg (by omega), if_neg (by omega), if_neg (by omega), if_neg (by omega), nth_left c (i := 1) (by omega), nth_left c (i := 2) (by omega), nth_left c (i := 3) (by omega)]
    · exact absurd rfl k0

/-- A text and bytes: the text's characters, and then what the bytes are. -/
theorem runes_append (a c : List Int) : (runesL a).2 = none → runesL (a ++ c) = ((runesL a).1 ++ (runesL c).1, (runesL c).2.map (a.length + ·)) := by
  induction a using text_ind with
  | nil => intro _; rw [runes_nil]; simp
  | good a h0 h ih =>
    intro hn
    rw [runes_good h0 h] at hn ⊢
    dsimp only at hn ⊢
    obtain ⟨g1, g2, g3⟩ := good_left c h0 h
    have hg := good_ne h h0
    rw [runes_good (by simp [h0]) g1, g2, g3, List.drop_append_of_le_length hg.2.1, ih (by simpa using hn)]
    simp only [List.cons_append, Option.map_map, Prod.mk.injEq, true_and]
    congr 1
    funext x
    simp only [Function.comp_apply, List.length_drop]
    omega
  | bad a h0 h => intro hn; rw [runes_bad h0 h] at hn; cases hn

theorem runes_enc {r : Nat} (hr : Right r) (t : List Int) : runesL (encL r ++ t) = (r :: (runesL t).1, (runesL t).2.map ((encL r).length + ·)) := by
  obtain ⟨g1, g2, g3⟩ := enc_good hr t
  have hl := enc_len r
  have h0 : encL r ++ t ≠ [] := by intro h; have h9 := congrArg List.length h; rw [List.length_append, List.length_nil] at h9; omega
  rw [runes_good h0 g1, g2, g3, List.drop_left' rfl]
/-- A character's own bytes are one. -/
theorem good_take {b : List Int} (h0 : b ≠ []) (h : Good b) : Good (b.take (lenB b)) ∧ lenB (b.take (lenB b)) = lenB b ∧ valB (b.take (lenB b)) = valB b := by
  have hg := good_ne h h0
  have hlen : (b.take (lenB b)).length = lenB b := by rw [List.length_take]; omega
  obtain ⟨k0, k1, k2, k3⟩ := h
  have e0 : nth (b.take (lenB b)) 0 = nth b 0 := nth_take (by omega)
  have hl : lenB (b.take (lenB b)) = lenB b := by unfold lenB at *; rw [e0]
  unfold ok1 at k1
  unfold okK at k2 k3
  unfold Good GoodN ok1 okK valB valN
  rw [e0, hlen]
  have hb : lenB b = lenN (nth b 0) := rfl
  refine ⟨?_, hl, ?_⟩
  · rcases len_cases (nth b 0) with ⟨e, k⟩ | ⟨e, k⟩ | ⟨e, k⟩ | ⟨e, k⟩ | ⟨e, k⟩ <;> rw [e] at k0 k1 k2 k3 hb ⊢ <;> rw [hb]
    · exact ⟨by omega, fun h => by omega, fun h => by omega, fun h => by omega⟩
    · have q1 := k1 (by omega)
      rw [nth_take (i := 1) (by omega)]
      exact ⟨by omega, fun _ => by omega, fun h => by omega, fun h => by omega⟩
    · have q1 := k1 (by omega)
      have q2 := k2 (by omega)
      rw [nth_take (i := 1) (by omega), nth_take (i := 2) (by omega)]
      exact ⟨by omega, fun _ => by omega, fun _ => by omega, fun h => by omega⟩
    · have q1 := k1 (by omega)
      have q2 := k2 (by omega)
      have q3 := k3 (by omega)
      rw [nth_take (i := 1) (by omega), nth_take (i := 2) (by omega), nth_take (i := 3) (by omega)]
      exact ⟨by omega, fun _ => by omega, fun _ => by omega, fun _ => by omega⟩
    · exact absurd rfl k0
  · rcases len_cases (nth b 0) with ⟨e, k⟩ | ⟨e, k⟩ | ⟨e, k⟩ | ⟨e, k⟩ | ⟨e, k⟩ <;> rw [e] at k0 k1 k2 k3 hb <;> rw [hb]
    · rw [if_pos k, if_pos k]
    · rw [if_neg (by omega), if_pos (by omega), if_neg (by omega), if_pos (by omega), nth_take (i := 1) (by omega)]
    · rw [if_neg (by omega), if_neg (by omega), if_pos (by omega), if_neg (by omega), if_neg (by omega), if_pos (by omega), nth_take (i := 1) (by omega), nth_take (i := 2) (by omega)]
    · rw [if_neg (by omega), if_neg (by omega), if_neg (by omega), if_neg (by omega), if_neg (by omega), if_neg (by omega), nth_take (i := 1) (by omega), nth_take (i := 2) (by omega), nth_take (i := 3) (by omega)]
    · exact absurd rfl k0

/-- Where the first character goes wrong: which of the four it is. -/
theorem bad_cases {b : List Int} (h : ¬ Good b) : (badB b = 0 ∧ lenB b = 0) ∨ (badB b = 1 ∧ 2 ≤ lenB b ∧ ¬ ok1 b.length (nth b 0) (nth b 1)) ∨
    (badB b = 2 ∧ 3 ≤ lenB b ∧ ok1 b.length (nth b 0) (nth b 1) ∧ ¬ okK b.length 2 (nth b 2)) ∨
    (badB b = 3 ∧ 4 ≤ lenB b ∧ ok1 b.length (nth b 0) (nth b 1) ∧ okK b.length 2 (nth b 2) ∧ ¬ okK b.length 3 (nth b 3)) := by
  have hg : ¬ (lenB b ≠ 0 ∧ (2 ≤ lenB b → ok1 b.length (nth b 0) (nth b 1)) ∧ (3 ≤ lenB b → okK b.length 2 (nth b 2)) ∧ (4 ≤ lenB b → okK b.length 3 (nth b 3))) := h
  unfold badB
  by_cases h0 : lenB b = 0
  · left; rw [if_pos h0]; exact ⟨rfl, h0⟩
  · rw [if_neg h0]
    right
    have hc := len_cases (nth b 0)
    have hb : lenB b = lenN (nth b 0) := rfl
    by_cases h1 : ok1 b.length (nth b 0) (nth b 1)
    · rw [if_neg (fun k => k h1)]
      right
      by_cases h2 : okK b.length 2 (nth b 2)
      · rw [if_neg (fun k => k h2)]
        right
        by_cases h3 : 4 ≤ lenB b
        · exact ⟨rfl, h3, h1, h2, fun k => hg ⟨h0, fun _ => h1, fun _ => h2, fun _ => k⟩⟩
        · exact absurd ⟨h0, fun _ => h1, fun _ => h2, fun k => absurd k h3⟩ hg
      · rw [if_pos h2]
        left
        by_cases h3 : 3 ≤ lenB b
        · exact ⟨rfl, h3, h1, h2⟩
        · exact absurd ⟨h0, fun _ => h1, fun k => absurd k h3, fun k => absurd k (by omega)⟩ hg
    · rw [if_pos h1]
      left
      by_cases h2 : 2 ≤ lenB b
      · exact ⟨rfl, h2, h1⟩
      · exact absurd ⟨h0, fun k => absurd k h2, fun k => absurd k (by omega), fun k => absurd k (by omega)⟩ hg
/-- A fault lies among the bytes, or just behind them. -/
theorem bad_le {b : List Int} (h0 : b ≠ []) (h : ¬ Good b) : badB b ≤ b.length := by
  have hp := List.length_pos_iff.2 h0
  rcases bad_cases h with ⟨e, k⟩ | ⟨e, k1, k2⟩ | ⟨e, k1, k2, k3⟩ | ⟨e, k1, k2, k3, k4⟩
  · omega
  · omega
  · have := k2.1; omega
  · have := k3.1; omega
theorem fault_le (b : List Int) : ∀ p, (runesL b).2 = some p → p ≤ b.length := by
  induction b using text_ind with
  | nil => intro p hp; rw [runes_nil] at hp; cases hp
  | good b h0 h ih =>
    intro p hp
    rw [runes_good h0 h] at hp
    dsimp only at hp
    cases hr : (runesL (b.drop (lenB b))).2 with
    | none => rw [hr] at hp; cases hp
    | some p' =>
      rw [hr] at hp
      simp only [Option.map_some, Option.some.injEq] at hp
      have h1 := ih p' hr
      have hg := good_ne h h0
      rw [List.length_drop] at h1
      omega
  | bad b h0 h =>
    intro p hp
    rw [runes_bad h0 h] at hp
    simp only [Option.some.injEq] at hp
    subst hp
    exact bad_le h0 h
/-- A text's characters, put one behind the other, are the text. -/
theorem enc_val {b : List Int} (hz : ∀ c ∈ b, 0 ≤ c ∧ c < 256) (h0 : b ≠ []) (h : Good b) : encL (valB b) = b.take (lenB b) := by
  have hg := good_ne h h0
  obtain ⟨k0, k1, k2, k3⟩ := h
  have hlo := lo2_cases (nth b 0)
  have hhi := hi2_cases (nth b 0)
  unfold ok1 at k1
  unfold okK at k2 k3
  have hb : lenB b = lenN (nth b 0) := rfl
  have cast : ∀ i, i < b.length → b.getD i 0 = ((nth b i : Nat) : Int) := fun i hi => by
    unfold nth
    have : 0 ≤ b.getD i 0 := by
      rw [List.getD_eq_getElem?_getD, List.getElem?_eq_getElem hi]
      exact (hz _ (List.getElem_mem hi)).1
    omega
  have list1 : 1 ≤ b.length → b.take 1 = [b.getD 0 0] := by
    intro h; rcases b with _ | ⟨x, b⟩
    · simp at h
    · rfl
  have list2 : 2 ≤ b.length → b.take 2 = [b.getD 0 0, b.getD 1 0] := by
    intro h; rcases b with _ | ⟨x, _ | ⟨y, b⟩⟩
    · simp at h
    · simp at h
    · rfl
  have list3 : 3 ≤ b.length → b.take 3 = [b.getD 0 0, b.getD 1 0, b.getD 2 0] := by
    intro h; rcases b with _ | ⟨x, _ | ⟨y, _ | ⟨z, b⟩⟩⟩
    · simp at h
    · simp at h
    · simp at h
    · rfl
  have list4 : 4 ≤ b.length → b.take 4 = [b.getD 0 0, b.getD 1 0, b.getD 2 0, b.getD 3 0] := by
    intro h; rcases b with _ | ⟨x, _ | ⟨y, _ | ⟨z, _ | ⟨u, b⟩⟩⟩⟩
    · simp at h
    · simp at h
    · simp at h
    · simp at h
    · rfl
  rcases len_cases (nth b 0) with ⟨e, k⟩ | ⟨e, k⟩ | ⟨e, k⟩ | ⟨e, k⟩ | ⟨e, k⟩ <;> rw [e] at k0 k1 k2 k3 hb
  · have hv : valB b = nth b 0 := by unfold valB valN; rw [if_pos k]
    rw [hv, hb, list1 (by omega), cast 0 (by omega)]
    unfold encL
    rw [if_pos k]
  · have q1 := k1 (by omega)
    have hv : valB b = nth b 0 % 32 * 64 + nth b 1 % 64 := by unfold valB valN; rw [if_neg (by omega), if_pos (by omega)]
    rw [hv, hb, list2 (by omega), cast 0 (by omega), cast 1 (by omega)]
    unfold encL
    rw [if_neg (by omega), if_pos (by omega)]
    simp only [List.cons.injEq, and_true]
    omega
  · have q1 := k1 (by omega)
    have q2 := k2 (by omega)
    have hv : valB b = nth b 0 % 16 * 4096 + nth b 1 % 64 * 64 + nth b 2 % 64 := by unfold valB valN; rw [if_neg (by omega), if_neg (by omega), if_pos (by omega)]
    rw [hv, hb, list3 (by omega), cast 0 (by omega), cast 1 (by omega), cast 2 (by omega)]
    unfold encL
    rw [if_neg (by omega), if_neg (by omega), if_pos (by omega)]
    simp only [List.cons.injEq, and_true]
    omega
  · have q1 := k1 (by omega)
    have q2 := k2 (by omega)
    have q3 := k3 (by omega)
    have hv : valB b = nth b 0 % 8 * 262144 + nth b 1 % 64 * 4096 + nth b 2 % 64 * 64 + nth b 3 % 64 := by unfold valB valN; rw [if_neg (by omega), if_neg (by omega), if_neg (by omega)]
    rw [hv, hb, list4 (by omega), cast 0 (by omega), cast 1 (by omega), cast 2 (by omega), cast 3 (by omega)]
    unfold encL
    rw [if_neg (by omega), if_neg (by omega), if_neg (by omega)]
    simp only [List.cons.injEq, and_true]
    omega
  · exact absurd rfl k0
end Go.Proofs.YtmlacmoembjeoaaGreatDoor
namespace Go.Proofs.YtmlacmoembjeoaaGreatDoor

/-- How many bytes a character has. -/
def lenR (r : Nat) : Nat := if r < 128 then 1 else if r < 2048 then 2 else if r < 65536 then 3 else 4
theorem enc_lenR (r : Nat) : (encL r).length = lenR r := by
  unfold encL lenR
  repeat' split
  all_goals rfl
theorem val_lenR {b : List Int} (h : Good b) : lenR (valB b) = lenB b := by
  obtain ⟨k0, k1, k2, k3⟩ := h
  have hlo := lo2_cases (nth b 0)
  have hhi := hi2_cases (nth b 0)
  unfold ok1 at k1
  unfold okK at k2 k3
  unfold lenR valB valN lenB
  rcases len_cases (nth b 0) with ⟨e, k⟩ | ⟨e, k⟩ | ⟨e, k⟩ | ⟨e, k⟩ | ⟨e, k⟩ <;> rw [e] at k0 k1 k2 k3 ⊢
  · rw [if_pos k, if_pos k]
  · have q1 := k1 (by omega)
    rw [if_neg (by omega : ¬ nth b 0 < 128), if_pos (by omega : nth b 0 < 224), if_neg (by omega), if_pos (by omega)]
  · have q1 := k1 (by omega)
    have q2 := k2 (by omega)
    rw [if_neg (by omega : ¬ nth b 0 < 128), if_neg (by omega : ¬ nth b 0 < 224), if_pos (by omega : nth b 0 < 240), if_neg (by omega), if_neg (by omega), if_pos (by omega)]
  · have q1 := k1 (by omega)
    have q2 := k2 (by omega)
    have q3 := k3 (by omega)
    rw [if_neg (by omega : ¬ nth b 0 < 128), if_neg (by omega : ¬ nth b 0 < 224), if_neg (by omega : ¬ nth b 0 < 240), if_neg (by omega), if_neg (by omega), if_neg (by omega)]
  · exact absurd rfl k0
/-- The place behind the whole characters that bytes begin with. -/
def endL (b : List Int) : Nat := ((runesL b).1.map lenR).sum
theorem end_nil : endL [] = 0 := rfl
theorem end_good {b : List Int} (h0 : b ≠ []) (h : Good b) : endL b = lenB b + endL (b.drop (lenB b)) := by
  unfold endL
  rw [runes_good h0 h]
  simp only [List.map_cons, List.sum_cons, val_lenR h]
theorem end_bad {b : List Int} (h : ¬ Good b) : endL b = 0 := by
  by_cases h0 : b = []
  · subst h0; rfl
  · unfold endL
    rw [runes_bad h0 h]
    rfl
theorem end_le (b : List Int) : endL b ≤ b.length := by
  induction b using text_ind with
  | nil => rw [end_nil]; simp
  | good b h0 h ih =>
    have := good_ne h h0
    rw [end_good h0 h]
    rw [List.length_drop] at ih
    omega
  | bad b h0 h => rw [end_bad h]; simp
/-- Behind the whole characters there is none. -/
theorem end_stop (b : List Int) : endL b < b.length → ¬ Good (b.drop (endL b)) := by
  induction b using text_ind with
  | nil => intro h; simp at h
  | good b h0 h ih =>
    intro hl
    have hg := good_ne h h0
    rw [end_good h0 h] at hl ⊢
    rw [← List.drop_drop]
    refine ih ?_
    rw [List.length_drop]
    omega
  | bad b h0 h => intro _; rw [end_bad h]; exact h
/-- WHERE BYTES GO WRONG, told by where the whole characters end. -/
theorem fault_end (b : List Int) : (runesL b).2 = if endL b = b.length then none else some (endL b + badB (b.drop (endL b))) := by
  induction b using text_ind with
  | nil => rw [runes_nil, end_nil]; rfl
  | good b h0 h ih =>
    have hg := good_ne h h0
    rw [runes_good h0 h, end_good h0 h]
    dsimp only
    rw [ih, List.length_drop, ← List.drop_drop]
    by_cases e : endL (b.drop (lenB b)) = b.length - lenB b
    · rw [if_pos e, if_pos (by omega)]; rfl
    · rw [if_neg e, if_neg (by omega)]
      simp only [Option.map_some, Option.some.injEq]
      omega
  | bad b h0 h =>
    have hp := List.length_pos_iff.2 h0
    rw [runes_bad h0 h, end_bad h, if_neg (by omega)]
    simp
theorem end_text {b : List Int} (h : endL b = b.length) : (runesL b).2 = none := by rw [fault_end, if_pos h]
theorem end_fault {b : List Int} (h : endL b ≠ b.length) : (runesL b).2 = some (endL b + badB (b.drop (endL b))) := by rw [fault_end, if_neg h]

theorem lenR_le (r : Nat) : 1 ≤ lenR r ∧ lenR r ≤ 4 := by
  unfold lenR
  repeat' split
  all_goals omega

end Go.Proofs.YtmlacmoembjeoaaGreatDoor
namespace Go.Proofs.YtmlacmoembjeoaaGreatDoor
open Go.RowKit
set_option linter.unusedVariables false

/-! ### A block, and what stays -/
/-- A block's whole. -/
def Blk (w : World) (g : Nat) (cs : Array Value) (T : TypeId) : Prop := w.heap[g]? = some (.cells cs T (0, 0))
theorem Blk.lt {w : World} {g : Nat} {cs : Array Value} {T : TypeId} (h : Blk w g cs T) : g < w.heap.size := (Array.getElem?_eq_some_iff.1 h).1
theorem Blk.cell {w : World} {g : Nat} {cs : Array Value} {T : TypeId} (h : Blk w g cs T) (j : Nat) : w.cell? ⟨g, j, none⟩ = cs[j]? := cell_row h j
theorem Blk.fz {w : World} {g : Nat} {cs : Array Value} {T : TypeId} (h : Blk w g cs T) (j : Nat) : w.frozen? ⟨g, j, none⟩ = false := by
  unfold Blk at h
  simp [World.frozen?, h]
theorem Blk.shape {w : World} {g : Nat} {cs : Array Value} {T : TypeId} (h : Blk w g cs T) : w.shape? g = some (T, cs.size) := by
  unfold Blk at h
  simp [World.shape?, h]
theorem Blk.set {w : World} {g : Nat} {cs : Array Value} {T : TypeId} (h : Blk w g cs T) (j : Nat) (v : Value) : Blk (w.setCell ⟨g, j, none⟩ v) g (cs.setIfInBounds j v) T := heap_setCell_same w g j cs T v h
theorem blk_new (w : World) (cs : Array Value) (T : TypeId) : Blk (w.alloc (.cells cs T)) w.heap.size cs T := heap_alloc_new w _
/-- ALL BLOCKS BELOW B STAY, g ASIDE. -/
structure Kq (g B : Nat) (w w' : World) : Prop where
  os : w'.os = w.os
  tape : w'.tape = w.tape
  output : w'.output = w.output
  size : w.heap.size ≤ w'.heap.size
  block : ∀ k, k < B → k ≠ g → w'.heap[k]? = w.heap[k]?
theorem Kq.refl (g B : Nat) (w : World) : Kq g B w w := ⟨rfl, rfl, rfl, Nat.le_refl _, fun _ _ _ => rfl⟩
theorem Kq.trans {g B : Nat} {a b c : World} (h : Kq g B a b) (k : Kq g B b c) : Kq g B a c := ⟨k.os.trans h.os, k.tape.trans h.tape, k.output.trans h.output, Nat.le_trans h.size k.size, fun i hi hc => (k.block i hi hc).trans (h.block i hi hc)⟩
theorem Kq.of {g B : Nat} {w w' : World} (h : Below B w w') : Kq g B w w' := ⟨h.os, h.tape, h.output, h.size, fun k hk _ => h.block k hk⟩
theorem Kq.set (g B : Nat) (w : World) (j : Nat) (v : Value) : Kq g B w (w.setCell ⟨g, j, none⟩ v) := by
  have hb : Below g w (w.setCell ⟨g, j, none⟩ v) := (Below.refl g w).setCell (p := ⟨g, j, none⟩) (Nat.le_refl _) v
  refine ⟨hb.os, hb.tape, hb.output, hb.size, fun k hk hg => ?_⟩
  unfold World.setCell
  simp [Array.getElem?_modify, Ne.symm hg]
theorem Kq.below {g B : Nat} {w w' : World} (h : Kq g B w w') (hg : g ≤ B) : Below g w w' := ⟨h.os, h.tape, h.output, h.size, fun k hk => h.block k (by omega) (by omega)⟩
theorem Blk.kq {w w' : World} {g k B : Nat} {cs : Array Value} {T : TypeId} (h : Blk w k cs T) (hq : Kq g B w w') (hk : k < B) (hne : k ≠ g) : Blk w' k cs T := (hq.block k hk hne).trans h
theorem Blk.kept {w w' : World} {k B : Nat} {cs : Array Value} {T : TypeId} (h : Blk w k cs T) (hb : Below B w w') (hk : k < B) : Blk w' k cs T := (hb.block k hk).trans h

/-! ### copyCheck -/
theorem size_sb : (Tryz.prog.info? 111).map (·.size) = some 2 := by kernel_rfl
set_option maxHeartbeats 1000000 in
set_option maxRecDepth 100000 in
theorem cc_used (g o : Nat) (w : World) (h0 : w.cell? ⟨g, o, none⟩ = some (.pointer (some ⟨g, o, none⟩))) :
    Calls Tryz.prog 162 #[.pointer (some ⟨g, o, none⟩)] w fun e w' => e = .returned (.tuple #[]) ∧ w' = w := by
  obtain ⟨j, hj, _⟩ := Option.map_eq_some_iff.1 size_sb
  go_enter Tryz.func162, Tryz.ntmps162
  go_wp2
  rw [Lib.run_neq_ptr_same w _ Tryz.underlying109 hj]
  go_wp2
  go_end0
  exact ⟨rfl, rfl⟩
set_option maxHeartbeats 1000000 in
set_option maxRecDepth 100000 in
theorem cc_fresh (g o : Nat) (w : World) (T cells : Nat) (h0 : w.cell? ⟨g, o, none⟩ = some (.pointer none)) (hfz : w.frozen? ⟨g, o, none⟩ = false) (hsh : w.shape? g = some (T, cells)) (ho : o < cells) (hl : liesAt Tryz.prog Tryz.prog.depth T (cells / Tryz.prog.cellsOf T) o 111 1 = true) :
    Calls Tryz.prog 162 #[.pointer (some ⟨g, o, none⟩)] w fun e w' => e = .returned (.tuple #[]) ∧ w' = w.setCell ⟨g, o, none⟩ (.pointer (some ⟨g, o, none⟩)) := by
  obtain ⟨j, hj, hjs⟩ := Option.map_eq_some_iff.1 size_sb
  go_enter Tryz.func162, Tryz.ntmps162
  go_wp2
  rw [Lib.run_to_unsafe w ⟨g, o, none⟩ Tryz.underlying109 Tryz.underlying166 hj (by rw [hjs]; decide) hsh ho]
  simp only [Result.andThen]
  rw [Oper.upon_value]
  go_wp2
  rw [run_callFunc_extern Tryz.func166 (by kernel_rfl) (by kernel_rfl) (by kernel_rfl) (e := Extern.AbiNoEscape.same) (by kernel_rfl)]
  rw [Lib.run_noEscape]
  simp only [Result.andThen]
  rw [Oper.upon_value]
  go_wp2
  rw [Lib.run_from_unsafe w ⟨g, o, none⟩ Tryz.underlying166 Tryz.underlying109 hj hsh hl]
  simp only [Result.andThen]
  rw [Oper.upon_value]
  go_wp2
  go_end0
  exact ⟨rfl, rfl⟩

/-- A BUILDER at a place of a block: its own address or none, and bytes that lie from B on. -/
structure Bdr (w : World) (g o B : Nat) (cs : Array Value) (T : TypeId) (p : Option Addr) (v : Value) (zs : List Int) : Prop where
  blk : Blk w g cs T
  ptr : cs[o]? = some (.pointer p)
  own : p = none ∨ p = some ⟨g, o, none⟩
  buf : cs[o + 1]? = some v
  lies : liesAt Tryz.prog Tryz.prog.depth T (cs.size / Tryz.prog.cellsOf T) o 111 1 = true
  row : OwnsB w B v zs
  low : g < B
  top : B ≤ w.heap.size
/-- The block behind a write. -/
def wrt (cs : Array Value) (g o : Nat) (v : Value) : Array Value := (cs.setIfInBounds o (.pointer (some ⟨g, o, none⟩))).setIfInBounds (o + 1) v
theorem set_same {cs : Array Value} {o : Nat} {x : Value} (h : cs[o]? = some x) : cs.setIfInBounds o x = cs := by
  apply Array.ext_getElem?
  intro i
  rw [Array.getElem?_setIfInBounds]
  split
  · rename_i e
    subst e
    split
    · exact h.symm
    · rename_i hn
      rw [Array.getElem?_eq_none (by omega)]
  · rfl
theorem cc_any {w : World} {g o B : Nat} {cs : Array Value} {T : TypeId} {p : Option Addr} {v : Value} {zs : List Int} (h : Bdr w g o B cs T p v zs) :
    Calls Tryz.prog 162 #[.pointer (some ⟨g, o, none⟩)] w fun e w' => e = .returned (.tuple #[]) ∧ Bdr w' g o B (cs.setIfInBounds o (.pointer (some ⟨g, o, none⟩))) T (some ⟨g, o, none⟩) v zs ∧ Kq g B w w' := by
  have ho : o < cs.size := by
    have := h.ptr
    rcases Nat.lt_or_ge o cs.size with h1 | h1
    · exact h1
    · rw [Array.getElem?_eq_none h1] at this; cases this
  rcases h.own with hp | hp
  · have h0 := h.blk.cell o
    rw [h.ptr, hp] at h0
    refine (cc_fresh g o w T cs.size h0 (h.blk.fz o) h.blk.shape ho h.lies).mono ?_
    rintro e w' ⟨rfl, rfl⟩
    refine ⟨rfl, ⟨h.blk.set o _, ?_, .inr rfl, ?_, ?_, ⟨ownsRow_setCell_below h.row.1 (a := ⟨g, o, none⟩) h.low _, h.row.2⟩, h.low, Nat.le_trans h.top (Kq.set g B w o _).size⟩, Kq.set g B w o _⟩
    · rw [Array.getElem?_setIfInBounds_self_of_lt ho]
    · rw [Array.getElem?_setIfInBounds_ne (by omega)]; exact h.buf
    · rw [Array.size_setIfInBounds]; exact h.lies
  · have h0 := h.blk.cell o
    rw [h.ptr, hp] at h0
    refine (cc_used g o w h0).mono ?_
    rintro e w' ⟨rfl, rfl⟩
    have e1 : cs.setIfInBounds o (.pointer (some ⟨g, o, none⟩)) = cs := set_same (by rw [h.ptr, hp])
    rw [e1]
    exact ⟨rfl, ⟨h.blk, by rw [h.ptr, hp], .inr rfl, h.buf, h.lies, h.row, h.low, h.top⟩, Kq.refl _ _ _⟩

theorem rune_cells {r : Nat} (hr : Right r) : Lib.runeCells (r : Int) = (encL r).map (Value.int .u8) := by
  unfold Lib.runeCells Lib.encodeRuneZ encL
  unfold Right at hr
  by_cases h1 : r < 128
  · rw [if_pos (by omega), if_pos h1]
  rw [if_neg (by omega), if_neg h1]
  by_cases h2 : r < 2048
  · rw [if_pos (by omega), if_pos h2]; simp
  rw [if_neg (by omega), if_neg h2]
  by_cases h3 : r < 65536
  · rw [if_pos (by omega), if_pos h3]; simp
  rw [if_neg (by omega), if_pos (by omega), if_neg h3]; simp
/-- utf8.AppendRune onto bytes of the call's own. -/
theorem app_rune (B : Nat) (v : Value) (zs : List Int) (r : Nat) (hr : Right r) (w : World) (hO : OwnsB w B v zs) (hlen : zs.length + 4 ≤ 140737488355328) (hB : B ≤ w.heap.size) :
    Calls Tryz.prog 163 #[v, .int .i32 (r : Int)] w fun e w' => ∃ v', e = .returned v' ∧ OwnsB w' B v' (zs ++ encL r) ∧ Below B w w' := by
  have hb : r ≤ 1114111 := hr.1
  have k : Calls Tryz.prog 163 #[v, .int .i32 (r : Int)] w _ := Any.utf8_AppendRune_plain lays242 (by kernel_rfl) B v zs.length (zs.map (Value.int .u8)) (r : Int) (by omega) (by omega) w hO.1 hlen hB
  refine k.mono ?_
  rintro e w' ⟨v', rfl, hO', o, hg⟩
  rw [rune_cells hr, ← List.map_append, List.length_map, ← List.length_append] at hO'
  refine ⟨v', rfl, ⟨hO', fun c hc => ?_⟩, ((Below.refl B w).alloc hB o).grown hg (by simp; omega) (fun k hk => (hO.1.lt k hk).1)⟩
  rcases List.mem_append.1 hc with hc | hc
  · exact hO.2 c hc
  · exact enc_bytes hr c hc

set_option maxHeartbeats 2000000 in
set_option maxRecDepth 100000 in
/-- (*strings.Builder).WriteRune. -/
theorem wrune_any {w : World} {g o B : Nat} {cs : Array Value} {T : TypeId} {p : Option Addr} {v : Value} {zs : List Int} (r : Nat) (hr : Right r) (h : Bdr w g o B cs T p v zs) (hlen : zs.length + 4 ≤ 140737488355328) :
    Calls Tryz.prog 154 #[.pointer (some ⟨g, o, none⟩), .int .i32 (r : Int)] w fun e w' => (∃ n, e = .returned (.tuple #[.int .i64 n, .nilIface])) ∧ (∃ v', Bdr w' g o B (wrt cs g o v') T (some ⟨g, o, none⟩) v' (zs ++ encL r)) ∧ Kq g B w w' := by
  have kC := cc_any h
  have hr' : Hid (Right r) := hr
  have hl' : Hid (zs.length + 4 ≤ 140737488355328) := hlen
  clear h hr hlen
  go_enter Tryz.func154, Tryz.ntmps154
  go_wp2_with (first
    | (go_at_call 162; refine kC.mono ?_; rintro e w1 ⟨rfl, h1, hk1⟩; clear kC; obtain ⟨a1, n1, cap1, hv, hn1, hc1, hle1, hm1, hb1⟩ := h1.row.form; subst hv; have c1 := h1.blk.cell (o + 1); rw [h1.buf] at c1; have kA := app_rune B (.slice a1 n1 cap1) zs r hr'.out w1 h1.row hl'.out h1.top; have H1 : Hid (Bdr w1 g o B (cs.setIfInBounds o (.pointer (some ⟨g, o, none⟩))) T (some ⟨g, o, none⟩) (.slice a1 n1 cap1) zs) := h1; clear h1 hn1 hb1 hc1)
    | (go_at_call 163; refine kA.mono ?_; rintro e w2 ⟨v2, rfl, hO2, hb2⟩; obtain ⟨a2, n2, cap2, hv2, hn2, hc2, hle2, hm2, hB2⟩ := hO2.form; subst hv2; have K2 := H1.out.blk.kept hb2 H1.out.low; have d1 := K2.cell (o + 1); rw [H1.out.buf] at d1; have f1 := K2.fz (o + 1); clear kA c1 hn2 hB2 hc2))
  go_ret2
  refine ⟨⟨_, rfl⟩, ⟨.slice a2 n2 cap2, K2.set (o + 1) _, ?_, .inr rfl, ?_, ?_, ⟨ownsRow_setCell_below hO2.1 (a := ⟨g, o + 1, none⟩) H1.out.low _, hO2.2⟩, H1.out.low, ?_⟩, (hk1.trans (Kq.of hb2)).trans (Kq.set g B w2 (o + 1) _)⟩
  · unfold wrt; rw [Array.getElem?_setIfInBounds_ne (by omega)]; exact H1.out.ptr
  · unfold wrt
    have := H1.out.buf
    rw [Array.getElem?_setIfInBounds_self_of_lt]
    rcases Nat.lt_or_ge (o + 1) (cs.setIfInBounds o (.pointer (some ⟨g, o, none⟩))).size with h1 | h1
    · exact h1
    · rw [Array.getElem?_eq_none h1] at this; cases this
  · unfold wrt; rw [Array.size_setIfInBounds]; exact H1.out.lies
  · exact Nat.le_trans H1.out.top (Nat.le_trans hb2.size (Kq.set g B w2 (o + 1) _).size)
end Go.Proofs.YtmlacmoembjeoaaGreatDoor
