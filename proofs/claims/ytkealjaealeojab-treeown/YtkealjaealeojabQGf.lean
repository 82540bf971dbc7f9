/-
  Texts in bytes, as plain lists: characters, their bytes, where bytes go wrong; and that Go's own decoding agrees. No program is named here.
  Texts in bytes, as plain lists, for this program: where the whole characters end, how many bytes a character has, and what Go's own conversions make of bytes. No program is named here.
  Where the whole characters end, and how far a character is begun, in the program.
  How far a character is begun that is not whole.
  Rows of runes: read, made, appended to, compared; what Go's '[]rune(s)' lays.
  Whether bytes are a text, and a text's characters, in the program.
-/
import Derived.Test.YtkealjaealeojabQGa
import Derived.Lib.DecodeN
import Derived.Laws.BytesArg
import Derived.Laws.IdiomStrings
import Derived.Laws.RangeAny
import Derived.LoopTactic
import Derived.Deep.DeepAppendWide
import Derived.Deep.QuietTactic
import Derived.BigQuiet
import Derived.RegionTactic
import Derived.ChangeAlike
namespace Go.Proofs.Ytkealjaealeojab

/-- How many bytes a character has that begins with c; 0: none does. -/
def lenN (c : Nat) : Nat := if c < 128 then 1 else if 194 ≤ c ∧ c ≤ 223 then 2 else if 224 ≤ c ∧ c ≤ 239 then 3 else if 240 ≤ c ∧ c ≤ 244 then 4 else 0
/-- Which second bytes a first one may have. -/
def lo2 (c : Nat) : Nat := if c = 224 then 160 else if c = 240 then 144 else 128
def hi2 (c : Nat) : Nat := if c = 237 then 159 else if c = 244 then 143 else 191
/-- The second byte is there, and may be; a later one is, and may be (n bytes in all). -/
abbrev ok1 (n c0 c1 : Nat) : Prop := 1 < n ∧ lo2 c0 ≤ c1 ∧ c1 ≤ hi2 c0
abbrev okK (n i c : Nat) : Prop := i < n ∧ 128 ≤ c ∧ c ≤ 191
/-- A character begins there: n bytes, the first four of them (what is not there: 0). -/
def GoodN (n c0 c1 c2 c3 : Nat) : Prop := lenN c0 ≠ 0 ∧ (2 ≤ lenN c0 → ok1 n c0 c1) ∧ (3 ≤ lenN c0 → okK n 2 c2) ∧ (4 ≤ lenN c0 → okK n 3 c3)
/-- The first character. -/
def valN (c0 c1 c2 c3 : Nat) : Nat :=
  if c0 < 128 then c0 else if c0 < 224 then c0 % 32 * 64 + c1 % 64 else if c0 < 240 then c0 % 16 * 4096 + c1 % 64 * 64 + c2 % 64 else c0 % 8 * 262144 + c1 % 64 * 4096 + c2 % 64 * 64 + c3 % 64

theorem len_cases (c : Nat) : (lenN c = 1 ∧ c < 128) ∨ (lenN c = 2 ∧ 194 ≤ c ∧ c ≤ 223) ∨ (lenN c = 3 ∧ 224 ≤ c ∧ c ≤ 239) ∨ (lenN c = 4 ∧ 240 ≤ c ∧ c ≤ 244) ∨ (lenN c = 0 ∧ 128 ≤ c ∧ (c < 194 ∨ 244 < c)) := by
  unfold lenN
  repeat' split
  all_goals omega
theorem lo2_cases (c : Nat) : (c = 224 ∧ lo2 c = 160) ∨ (c = 240 ∧ lo2 c = 144) ∨ (c ≠ 224 ∧ c ≠ 240 ∧ lo2 c = 128) := by
  unfold lo2
  repeat' split
  all_goals omega
theorem hi2_cases (c : Nat) : (c = 237 ∧ hi2 c = 159) ∨ (c = 244 ∧ hi2 c = 143) ∨ (c ≠ 237 ∧ c ≠ 244 ∧ hi2 c = 191) := by
  unfold hi2
  repeat' split
  all_goals omega

/-- Go's own decoding: a character and its length .. -/
theorem decodeN_good {n c0 c1 c2 c3 : Nat} (h : GoodN n c0 c1 c2 c3) : Lib.decodeN n c0 c1 c2 c3 = (valN c0 c1 c2 c3, lenN c0) := by
  obtain ⟨h0, h1, h2, h3⟩ := h
  have hl := lo2_cases c0
  have hh := hi2_cases c0
  unfold ok1 at h1
  unfold okK at h2 h3
  rcases len_cases c0 with ⟨e, h⟩ | ⟨e, h⟩ | ⟨e, h⟩ | ⟨e, h⟩ | ⟨e, h⟩ <;> rw [e] at h0 h1 h2 h3 ⊢
  · unfold Lib.decodeN valN
    rw [if_pos h, if_pos h]
  · obtain ⟨k1, k2, k3⟩ := h1 (by omega)
    unfold Lib.decodeN valN
    rw [if_neg (by omega), if_pos (by omega), if_pos (by omega), if_neg (by omega), if_pos (by omega)]
  · obtain ⟨k1, k2, k3⟩ := h1 (by omega)
    obtain ⟨m1, m2, m3⟩ := h2 (by omega)
    unfold Lib.decodeN valN
    rw [if_neg (by omega), if_neg (by omega), if_pos (by omega), if_pos (by omega), if_neg (by omega), if_neg (by omega), if_pos (by omega)]
  · obtain ⟨k1, k2, k3⟩ := h1 (by omega)
    obtain ⟨m1, m2, m3⟩ := h2 (by omega)
    obtain ⟨n1, n2, n3⟩ := h3 (by omega)
    unfold Lib.decodeN valN
    rw [if_neg (by omega), if_neg (by omega), if_neg (by omega), if_pos (by omega), if_pos (by omega), if_neg (by omega), if_neg (by omega), if_neg (by omega)]
  · exact absurd rfl h0
/-- .. or 65533 and 1. -/
theorem decodeN_bad {n c0 c1 c2 c3 : Nat} (z0 : c0 < 256) (z2 : c2 < 256) (z3 : c3 < 256) (h : ¬ GoodN n c0 c1 c2 c3) : Lib.decodeN n c0 c1 c2 c3 = (65533, 1) := by
  have hl := lo2_cases c0
  have hh := hi2_cases c0
  unfold GoodN ok1 okK at h
  unfold Lib.decodeN
  rcases len_cases c0 with ⟨e, k⟩ | ⟨e, k⟩ | ⟨e, k⟩ | ⟨e, k⟩ | ⟨e, k⟩ <;> rw [e] at h
  all_goals
    repeat' split
    all_goals first | rfl | (exfalso; revert h; simp only [ne_eq, not_not]; omega) | (exfalso; omega)

/-- The byte at a place, as a number; 0 where there is none. -/
def nth (b : List Int) (k : Nat) : Nat := (b.getD k 0).toNat
def Good (b : List Int) : Prop := GoodN b.length (nth b 0) (nth b 1) (nth b 2) (nth b 3)
def lenB (b : List Int) : Nat := lenN (nth b 0)
def valB (b : List Int) : Nat := valN (nth b 0) (nth b 1) (nth b 2) (nth b 3)
/-- Where the first character goes wrong. -/
def badB (b : List Int) : Nat := if lenB b = 0 then 0 else if ¬ ok1 b.length (nth b 0) (nth b 1) then 1 else if ¬ okK b.length 2 (nth b 2) then 2 else 3

theorem nth_lt {b : List Int} (hz : ∀ c ∈ b, 0 ≤ c ∧ c < 256) (i : Nat) : nth b i < 256 := by
  unfold nth
  rw [List.getD_eq_getElem?_getD]
  rcases Nat.lt_or_ge i b.length with h | h
  · rw [List.getElem?_eq_getElem h]
    have := hz _ (List.getElem_mem h)
    show (b[i]).toNat < 256
    omega
  · rw [List.getElem?_eq_none h]; decide
theorem nth_out {b : List Int} {i : Nat} (h : b.length ≤ i) : nth b i = 0 := by
  unfold nth
  rw [List.getD_eq_getElem?_getD, List.getElem?_eq_none h]; rfl
theorem nth_drop (b : List Int) (p k : Nat) : nth (b.drop p) k = nth b (p + k) := by
  unfold nth
  rw [List.getD_eq_getElem?_getD, List.getD_eq_getElem?_getD, List.getElem?_drop]
theorem nth_left {a : List Int} (c : List Int) {i : Nat} (h : i < a.length) : nth (a ++ c) i = nth a i := by
  unfold nth
  rw [List.getD_eq_getElem?_getD, List.getD_eq_getElem?_getD, List.getElem?_append_left h]
theorem nth_take {b : List Int} {m i : Nat} (h : i < m) : nth (b.take m) i = nth b i := by
  unfold nth
  rw [List.getD_eq_getElem?_getD, List.getD_eq_getElem?_getD, List.getElem?_take, if_pos h]

/-- A string's byte, where it was made of numbers. -/
theorem get_nth {zs : List Int} (hz : ∀ c ∈ zs, 0 ≤ c ∧ c < 256) (i : Nat) : ((strOfNums zs).get! i).toNat = nth zs i := by
  rw [show (strOfNums zs).get! i = ((zs.map fun n => UInt8.ofNat n.toNat).toArray)[i]! from rfl, List.getElem!_toArray, List.getElem!_eq_getElem?_getD, List.getElem?_map]
  unfold nth
  rw [List.getD_eq_getElem?_getD]
  rcases Nat.lt_or_ge i zs.length with h | h
  · rw [List.getElem?_eq_getElem h]
    have hc := hz _ (List.getElem_mem h)
    show (UInt8.ofNat (zs[i]).toNat).toNat = (zs[i]).toNat
    rw [UInt8.toNat_ofNat']
    exact Nat.mod_eq_of_lt (by omega)
  · rw [List.getElem?_eq_none h]; rfl
theorem decode_good {zs : List Int} (hz : ∀ c ∈ zs, 0 ≤ c ∧ c < 256) {p : Nat} (h : Good (zs.drop p)) : Utf8.decode (strOfNums zs) p = (valB (zs.drop p), lenB (zs.drop p)) := by
  unfold Good at h
  rw [Lib.decode_at, get_nth hz, get_nth hz, get_nth hz, get_nth hz, strOfNums_size]
  rw [List.length_drop] at h
  simp only [nth_drop, Nat.add_zero] at h
  rw [decodeN_good h]
  simp only [valB, lenB, nth_drop, Nat.add_zero]
theorem decode_bad {zs : List Int} (hz : ∀ c ∈ zs, 0 ≤ c ∧ c < 256) {p : Nat} (h : ¬ Good (zs.drop p)) : Utf8.decode (strOfNums zs) p = (65533, 1) := by
  unfold Good at h
  rw [Lib.decode_at, get_nth hz, get_nth hz, get_nth hz, get_nth hz, strOfNums_size]
  rw [List.length_drop] at h
  simp only [nth_drop, Nat.add_zero] at h
  exact decodeN_bad (nth_lt hz _) (nth_lt hz _) (nth_lt hz _) h

theorem good_ne {b : List Int} (h : Good b) (h0 : b = [] → False) : 1 ≤ lenB b ∧ lenB b ≤ b.length ∧ lenB b ≤ 4 := by
  have hp : 0 < b.length := List.length_pos_iff.2 h0
  obtain ⟨k0, k1, k2, k3⟩ := h
  unfold ok1 at k1
  unfold okK at k2 k3
  unfold lenB
  rcases len_cases (nth b 0) with ⟨e, k⟩ | ⟨e, k⟩ | ⟨e, k⟩ | ⟨e, k⟩ | ⟨e, k⟩ <;> rw [e] at k0 k1 k2 k3 ⊢
  · omega
  · have := k1 (by omega); omega
  · have := k2 (by omega); omega
  · have := k3 (by omega); omega
  · exact absurd rfl k0

/-- A number that is a character, and its bytes. -/
def Right (r : Nat) : Prop := r ≤ 1114111 ∧ (r < 55296 ∨ 57343 < r)
def encL (r : Nat) : List Int :=
  if r < 128 then [(r : Int)]
  else if r < 2048 then [((192 + r / 64 : Nat) : Int), ((128 + r % 64 : Nat) : Int)]
  else if r < 65536 then [((224 + r / 4096 : Nat) : Int), ((128 + r / 64 % 64 : Nat) : Int), ((128 + r % 64 : Nat) : Int)]
  else [((240 + r / 262144 : Nat) : Int), ((128 + r / 4096 % 64 : Nat) : Int), ((128 + r / 64 % 64 : Nat) : Int), ((128 + r % 64 : Nat) : Int)]
theorem enc_bytes {r : Nat} (hr : Right r) : ∀ c ∈ encL r, 0 ≤ c ∧ c < 256 := by
  unfold Right at hr
  unfold encL
  intro c hc
  repeat' split at hc
  all_goals
    simp only [List.mem_cons, List.not_mem_nil, or_false] at hc
    omega
theorem enc_len (r : Nat) : 1 ≤ (encL r).length ∧ (encL r).length ≤ 4 := by
  unfold encL
  repeat' split
  all_goals simp
/-- A character's bytes are a character, whatever comes behind. -/
theorem enc_good {r : Nat} (hr : Right r) (t : List Int) : Good (encL r ++ t) ∧ lenB (encL r ++ t) = (encL r).length ∧ valB (encL r ++ t) = r := by
  unfold Right at hr
  unfold Good lenB valB GoodN ok1 okK
  by_cases h1 : r < 128
  · have e : encL r = [(r : Int)] := by unfold encL; rw [if_pos h1]
    have n0 : nth (encL r ++ t) 0 = r := by rw [e]; rfl
    rw [n0]
    have hl : lenN r = 1 := by unfold lenN; rw [if_pos h1]
    rw [hl, e]
    refine ⟨⟨by omega, fun h => by omega, fun h => by omega, fun h => by omega⟩, rfl, ?_⟩
    unfold valN
    rw [if_pos h1]
  · by_cases h2 : r < 2048
    · have e : encL r = [((192 + r / 64 : Nat) : Int), ((128 + r % 64 : Nat) : Int)] := by unfold encL; rw [if_neg h1, if_pos h2]
      have n0 : nth (encL r ++ t) 0 = 192 + r / 64 := by rw [e]; rfl
      have n1 : nth (encL r ++ t) 1 = 128 + r % 64 := by rw [e]; rfl
      have hlen : (encL r ++ t).length = 2 + t.length := by rw [e]; simp; omega
      have hl : lenN (192 + r / 64) = 2 := by unfold lenN; rw [if_neg (by omega), if_pos (by omega)]
      have hlo := lo2_cases (192 + r / 64)
      have hhi := hi2_cases (192 + r / 64)
      rw [n0, n1, hlen, hl]
      refine ⟨⟨by omega, fun _ => by omega, fun h => by omega, fun h => by omega⟩, by rw [e]; rfl, ?_⟩
      unfold valN
      rw [if_neg (by omega), if_pos (by omega)]
      omega
    · by_cases h3 : r < 65536
      · have e : encL r = [((224 + r / 4096 : Nat) : Int), ((128 + r / 64 % 64 : Nat) : Int), ((128 + r % 64 : Nat) : Int)] := by unfold encL; rw [if_neg h1, if_neg h2, if_pos h3]
        have n0 : nth (encL r ++ t) 0 = 224 + r / 4096 := by rw [e]; rfl
        have n1 : nth (encL r ++ t) 1 = 128 + r / 64 % 64 := by rw [e]; rfl
        have n2 : nth (encL r ++ t) 2 = 128 + r % 64 := by rw [e]; rfl
        have hlen : (encL r ++ t).length = 3 + t.length := by rw [e]; simp; omega
        have hl : lenN (224 + r / 4096) = 3 := by unfold lenN; rw [if_neg (by omega), if_neg (by omega), if_pos (by omega)]
        have hlo := lo2_cases (224 + r / 4096)
        have hhi := hi2_cases (224 + r / 4096)
        rw [n0, n1, n2, hlen, hl]
        refine ⟨⟨by omega, fun _ => by omega, fun _ => by omega, fun h => by omega⟩, by rw [e]; rfl, ?_⟩
        unfold valN
        rw [if_neg (by omega), if_neg (by omega), if_pos (by omega)]
        omega
      · have e : encL r = [((240 + r / 262144 : Nat) : Int), ((128 + r / 4096 % 64 : Nat) : Int), ((128 + r / 64 % 64 : Nat) : Int), ((128 + r % 64 : Nat) : Int)] := by unfold encL; rw [if_neg h1, if_neg h2, if_neg h3]
        have n0 : nth (encL r ++ t) 0 = 240 + r / 262144 := by rw [e]; rfl
        have n1 : nth (encL r ++ t) 1 = 128 + r / 4096 % 64 := by rw [e]; rfl
        have n2 : nth (encL r ++ t) 2 = 128 + r / 64 % 64 := by rw [e]; rfl
        have n3 : nth (encL r ++ t) 3 = 128 + r % 64 := by rw [e]; rfl
        have hlen : (encL r ++ t).length = 4 + t.length := by rw [e]; simp; omega
        have hl : lenN (240 + r / 262144) = 4 := by unfold lenN; rw [if_neg (by omega), if_neg (by omega), if_neg (by omega), if_pos (by omega)]
        have hlo := lo2_cases (240 + r / 262144)
        have hhi := hi2_cases (240 + r / 262144)
        rw [n0, n1, n2, n3, hlen, hl]
        refine ⟨⟨by omega, fun _ => by omega, fun _ => by omega, fun _ => by omega⟩, by rw [e]; rfl, ?_⟩
        unfold valN
        rw [if_neg (by omega), if_neg (by omega), if_neg (by omega)]
        omega
/-- What is read is a character. -/
theorem good_right {b : List Int} (h : Good b) : Right (valB b) := by
  obtain ⟨k0, k1, k2, k3⟩ := h
  have hlo := lo2_cases (nth b 0)
  have hhi := hi2_cases (nth b 0)
  unfold ok1 at k1
  unfold okK at k2 k3
  unfold Right valB valN
  rcases len_cases (nth b 0) with ⟨e, k⟩ | ⟨e, k⟩ | ⟨e, k⟩ | ⟨e, k⟩ | ⟨e, k⟩ <;> rw [e] at k0 k1 k2 k3
  · rw [if_pos k]; omega
  · have q1 := k1 (by omega)
    rw [if_neg (by omega), if_pos (by omega)]
    omega
  · have q1 := k1 (by omega)
    have q2 := k2 (by omega)
    rw [if_neg (by omega), if_neg (by omega), if_pos (by omega)]
    omega
  · have q1 := k1 (by omega)
    have q2 := k2 (by omega)
    have q3 := k3 (by omega)
    rw [if_neg (by omega), if_neg (by omega), if_neg (by omega)]
    omega
  · exact absurd rfl k0
/-- 65533 has one form. -/
theorem good_odd {b : List Int} (h : Good b) : valB b = 65533 ↔ (3 ≤ b.length ∧ nth b 0 = 239 ∧ nth b 1 = 191 ∧ nth b 2 = 189) := by
  obtain ⟨k0, k1, k2, k3⟩ := h
  have hlo := lo2_cases (nth b 0)
  have hhi := hi2_cases (nth b 0)
  unfold ok1 at k1
  unfold okK at k2 k3
  unfold valB valN
  rcases len_cases (nth b 0) with ⟨e, k⟩ | ⟨e, k⟩ | ⟨e, k⟩ | ⟨e, k⟩ | ⟨e, k⟩ <;> rw [e] at k0 k1 k2 k3
  · rw [if_pos k]; omega
  · have q1 := k1 (by omega)
    rw [if_neg (by omega), if_pos (by omega)]
    omega
  · have q1 := k1 (by omega)
    have q2 := k2 (by omega)
    rw [if_neg (by omega), if_neg (by omega), if_pos (by omega)]
    omega
  · have q1 := k1 (by omega)
    have q2 := k2 (by omega)
    have q3 := k3 (by omega)
    rw [if_neg (by omega), if_neg (by omega), if_neg (by omega)]
    omega
  · exact absurd rfl k0

/-- Is the first one a character? -/
def goodB (b : List Int) : Bool := decide (lenB b ≠ 0 ∧ (2 ≤ lenB b → ok1 b.length (nth b 0) (nth b 1)) ∧ (3 ≤ lenB b → okK b.length 2 (nth b 2)) ∧ (4 ≤ lenB b → okK b.length 3 (nth b 3)))
theorem goodB_yes {b : List Int} (h : Good b) : goodB b = true := decide_eq_true h
theorem goodB_no {b : List Int} (h : ¬ Good b) : goodB b = false := decide_eq_false h
/-- The characters of bytes, k of them at most. -/
def runesF : Nat → List Int → List Nat × Option Nat
  | 0, _ => ([], none)
  | k + 1, b => if b = [] then ([], none) else if goodB b = true then (valB b :: (runesF k (b.drop (lenB b))).1, (runesF k (b.drop (lenB b))).2.map (lenB b + ·)) else ([], some (badB b))
/-- THE CHARACTERS OF BYTES, and where they go wrong. -/
def runesL (b : List Int) : List Nat × Option Nat := runesF b.length b
theorem runesF_nil (k : Nat) : runesF k [] = ([], none) := by
  cases k with
  | zero => rfl
  | succ k => rw [runesF, if_pos rfl]
theorem runesF_more (k : Nat) : ∀ (b : List Int) (m : Nat), b.length ≤ k → k ≤ m → runesF m b = runesF k b := by
  induction k with
  | zero =>
    intro b m h _
    obtain rfl : b = [] := List.eq_nil_of_length_eq_zero (by omega)
    rw [runesF_nil, runesF_nil]
  | succ k ih =>
    intro b m h hm
    obtain ⟨m, rfl⟩ : ∃ m', m = m' + 1 := ⟨m - 1, by omega⟩
    by_cases h0 : b = []
    · subst h0; rw [runesF_nil, runesF_nil]
    · by_cases hg : Good b
      · have hn := good_ne hg h0
        rw [runesF, runesF, if_neg h0, if_neg h0, goodB_yes hg, if_pos rfl, if_pos rfl, ih (b.drop (lenB b)) m (by rw [List.length_drop]; omega) (by omega)]
      · rw [runesF, runesF, if_neg h0, if_neg h0, goodB_no hg, if_neg (by simp), if_neg (by simp)]
theorem runes_nil : runesL [] = ([], none) := rfl
theorem runes_good {b : List Int} (h0 : b ≠ []) (h : Good b) : runesL b = (valB b :: (runesL (b.drop (lenB b))).1, (runesL (b.drop (lenB b))).2.map (lenB b + ·)) := by
  have hn := good_ne h h0
  unfold runesL
  obtain ⟨k, hk⟩ : ∃ k, b.length = k + 1 := ⟨b.length - 1, by omega⟩
  rw [hk, runesF, if_neg h0, goodB_yes h, if_pos rfl, runesF_more (b.drop (lenB b)).length (b.drop (lenB b)) k (Nat.le_refl _) (by rw [List.length_drop]; omega)]
theorem runes_bad {b : List Int} (h0 : b ≠ []) (h : ¬ Good b) : runesL b = ([], some (badB b)) := by
  have hp := List.length_pos_iff.2 h0
  unfold runesL
  obtain ⟨k, hk⟩ : ∃ k, b.length = k + 1 := ⟨b.length - 1, by omega⟩
  rw [hk, runesF, if_neg h0, goodB_no h, if_neg (by simp)]
theorem text_up {M : List Int → Prop} (nil : M []) (good : ∀ b, b ≠ [] → Good b → M (b.drop (lenB b)) → M b) (bad : ∀ b, b ≠ [] → ¬ Good b → M b) (k : Nat) : ∀ b : List Int, b.length ≤ k → M b := by
  induction k with
  | zero =>
    intro b h
    obtain rfl : b = [] := List.eq_nil_of_length_eq_zero (by omega)
    exact nil
  | succ k ih =>
    intro b h
    by_cases h0 : b = []
    · subst h0; exact nil
    · by_cases hg : Good b
      · have hn := good_ne hg h0
        exact good b h0 hg (ih _ (by rw [List.length_drop]; omega))
      · exact bad b h0 hg
theorem text_ind {M : List Int → Prop} (nil : M []) (good : ∀ b, b ≠ [] → Good b → M (b.drop (lenB b)) → M b) (bad : ∀ b, b ≠ [] → ¬ Good b → M b) (b : List Int) : M b := text_up nil good bad b.length b (Nat.le_refl _)

/-- A character is one with whatever behind it. -/
theorem good_left {a : List Int} (c : List Int) (h0 : a ≠ []) (h : Good a) : Good (a ++ c) ∧ lenB (a ++ c) = lenB a ∧ valB (a ++ c) = valB a := by
  have hp := List.length_pos_iff.2 h0
  obtain ⟨k0, k1, k2, k3⟩ := h
  have e0 : nth (a ++ c) 0 = nth a 0 := nth_left c hp
  have hl : lenB (a ++ c) = lenB a := by unfold lenB; rw [e0]
  unfold ok1 at k1
  unfold okK at k2 k3
  unfold Good GoodN ok1 okK valB valN
  rw [e0, List.length_append]
  refine ⟨?_, hl, ?_⟩
  · rcases len_cases (nth a 0) with ⟨e, k⟩ | ⟨e, k⟩ | ⟨e, k⟩ | ⟨e, k⟩ | ⟨e, k⟩ <;> rw [e] at k0 k1 k2 k3 ⊢
    · exact ⟨by omega, fun h => by omega, fun h => by omega, fun h => by omega⟩
    · have q1 := k1 (by omega)
      rw [nth_left c (i := 1) (by omega)]
      exact ⟨by omega, fun _ => by omega, fun h => by omega, fun h => by omega⟩
    · have q1 := k1 (by omega)
      have q2 := k2 (by omega)
      rw [nth_left c (i := 1) (by omega), nth_left c (i := 2) (by omega)]
      exact ⟨by omega, fun _ => by omega, fun _ => by omega, fun h => by omega⟩
    · have q1 := k1 (by omega)
      have q2 := k2 (by omega)
      have q3 := k3 (by omega)
      rw [nth_left c (i := 1) (by omega), nth_left c (i := 2) (by omega), nth_left c (i := 3) (by omega)]
      exact ⟨by omega, fun _ => by omega, fun _ => by omega, fun _ => by omega⟩
    · exact absurd rfl k0
  · rcases len_cases (nth a 0) with ⟨e, k⟩ | ⟨e, k⟩ | ⟨e, k⟩ | ⟨e, k⟩ | ⟨e, k⟩ <;> rw [e] at k0 k1 k2 k3
    · rw [if_pos k, if_pos k]
    · have q1 := k1 (by omega)
      rw [if_neg (by omega), if_pos (by omega), if_neg (by omega), if_pos (by omega), nth_left c (i := 1) (by omega)]
    · have q1 := k1 (by omega)
      have q2 := k2 (by omega)
      rw [if_neg (by omega), if_neg (by omega), if_pos (by omega), if_neg (by omega), if_neg (by omega), if_pos (by omega), nth_left c (i := 1) (by omega), nth_left c (i := 2) (by omega)]
    · have q1 := k1 (by omega)
      have q2 := k2 (by omega)
      have q3 := k3 (by omega)
      rw [if_neg (by omega), if_neg (by omega), if_neg (by omega), if_neg (by omega), if_neg (by omega), if_neg (by omega), nth_left c (i := 1) (by omega), nth_left c (i := 2) (by omega), nth_left c (i := 3) (by omega)]
    · exact absurd rfl k0

/-- A text and bytes: the text's characters, and then what the bytes are. -/
theorem runes_append (a c : List Int) : (runesL a).2 = none → runesL (a ++ c) = ((runesL a).1 ++ (runesL c).1, (runesL c).2.map (a.length + ·)) := by
  induction a using text_ind with
  | nil => intro _; rw [runes_nil]; simp
  | good a h0 h ih =>
    intro hn
    rw [runes_good h0 h] at hn ⊢
    dsimp only at hn ⊢
    obtain ⟨g1, g2, g3⟩ := good_left c h0 h
    have hg := good_ne h h0
    rw [runes_good (by simp [h0]) g1, g2, g3, List.drop_append_of_le_length hg.2.1, ih (by simpa using hn)]
    simp only [List.cons_append, Option.map_map, Prod.mk.injEq, true_and]
    congr 1
    funext x
    simp only [Function.comp_apply, List.length_drop]
    omega
  | bad a h0 h => intro hn; rw [runes_bad h0 h] at hn; cases hn

/-- The bytes of characters, one behind the other. -/
def encAll (l : List Nat) : List Int := (l.map encL).flatten
theorem runes_enc {r : Nat} (hr : Right r) (t : List Int) : runesL (encL r ++ t) = (r :: (runesL t).1, (runesL t).2.map ((encL r).length + ·)) := by
  obtain ⟨g1, g2, g3⟩ := enc_good hr t
  have hl := enc_len r
  have h0 : encL r ++ t ≠ [] := by intro h; have h9 := congrArg List.length h; rw [List.length_append, List.length_nil] at h9; omega
  rw [runes_good h0 g1, g2, g3, List.drop_left' rfl]
theorem runes_all (l : List Nat) (h : ∀ r ∈ l, Right r) : runesL (encAll l) = (l, none) := by
  induction l with
  | nil => exact runes_nil
  | cons r l ih =>
    have e : encAll (r :: l) = encL r ++ encAll l := by simp [encAll]
    rw [e, runes_enc (h r (by simp)), ih fun x hx => h x (by simp [hx])]
    rfl

/-- A character's own bytes are one. -/
theorem good_take {b : List Int} (h0 : b ≠ []) (h : Good b) : Good (b.take (lenB b)) ∧ lenB (b.take (lenB b)) = lenB b ∧ valB (b.take (lenB b)) = valB b := by
  have hg := good_ne h h0
  have hlen : (b.take (lenB b)).length = lenB b := by rw [List.length_take]; omega
  obtain ⟨k0, k1, k2, k3⟩ := h
  have e0 : nth (b.take (lenB b)) 0 = nth b 0 := nth_take (by omega)
  have hl : lenB (b.take (lenB b)) = lenB b := by unfold lenB at *; rw [e0]
  unfold ok1 at k1
  unfold okK at k2 k3
  unfold Good GoodN ok1 okK valB valN
  rw [e0, hlen]
  have hb : lenB b = lenN (nth b 0) := rfl
  refine ⟨?_, hl, ?_⟩
  · rcases len_cases (nth b 0) with ⟨e, k⟩ | ⟨e, k⟩ | ⟨e, k⟩ | ⟨e, k⟩ | ⟨e, k⟩ <;> rw [e] at k0 k1 k2 k3 hb ⊢ <;> rw [hb]
    · exact ⟨by omega, fun h => by omega, fun h => by omega, fun h => by omega⟩
    · have q1 := k1 (by omega)
      rw [nth_take (i := 1) (by omega)]
      exact ⟨by omega, fun _ => by omega, fun h => by omega, fun h => by omega⟩
    · have q1 := k1 (by omega)
      have q2 := k2 (by omega)
      rw [nth_take (i := 1) (by omega), nth_take (i := 2) (by omega)]
      exact ⟨by omega, fun _ => by omega, fun _ => by omega, fun h => by omega⟩
    · have q1 := k1 (by omega)
      have q2 := k2 (by omega)
      have q3 := k3 (by omega)
      rw [nth_take (i := 1) (by omega), nth_take (i := 2) (by omega), nth_take (i := 3) (by omega)]
      exact ⟨by omega, fun _ => by omega, fun _ => by omega, fun _ => by omega⟩
    · exact absurd rfl k0
  · rcases len_cases (nth b 0) with ⟨e, k⟩ | ⟨e, k⟩ | ⟨e, k⟩ | ⟨e, k⟩ | ⟨e, k⟩ <;> rw [e] at k0 k1 k2 k3 hb <;> rw [hb]
    · rw [if_pos k, if_pos k]
    · rw [if_neg (by omega), if_pos (by omega), if_neg (by omega), if_pos (by omega), nth_take (i := 1) (by omega)]
    · rw [if_neg (by omega), if_neg (by omega), if_pos (by omega), if_neg (by omega), if_neg (by omega), if_pos (by omega), nth_take (i := 1) (by omega), nth_take (i := 2) (by omega)]
    · rw [if_neg (by omega), if_neg (by omega), if_neg (by omega), if_neg (by omega), if_neg (by omega), if_neg (by omega), nth_take (i := 1) (by omega), nth_take (i := 2) (by omega), nth_take (i := 3) (by omega)]
    · exact absurd rfl k0

/-- Where the first character goes wrong: which of the four it is. -/
theorem bad_cases {b : List Int} (h : ¬ Good b) : (badB b = 0 ∧ lenB b = 0) ∨ (badB b = 1 ∧ 2 ≤ lenB b ∧ ¬ ok1 b.length (nth b 0) (nth b 1)) ∨
    (badB b = 2 ∧ 3 ≤ lenB b ∧ ok1 b.length (nth b 0) (nth b 1) ∧ ¬ okK b.length 2 (nth b 2)) ∨
    (badB b = 3 ∧ 4 ≤ lenB b ∧ ok1 b.length (nth b 0) (nth b 1) ∧ okK b.length 2 (nth b 2) ∧ ¬ okK b.length 3 (nth b 3)) := by
  have hg : ¬ (lenB b ≠ 0 ∧ (2 ≤ lenB b → ok1 b.length (nth b 0) (nth b 1)) ∧ (3 ≤ lenB b → okK b.length 2 (nth b 2)) ∧ (4 ≤ lenB b → okK b.length 3 (nth b 3))) := h
  unfold badB
  by_cases h0 : lenB b = 0
  · left; rw [if_pos h0]; exact ⟨rfl, h0⟩
  · rw [if_neg h0]
    right
    have hc := len_cases (nth b 0)
    have hb : lenB b = lenN (nth b 0) := rfl
    by_cases h1 : ok1 b.length (nth b 0) (nth b 1)
    · rw [if_neg (fun k => k h1)]
      right
      by_cases h2 : okK b.length 2 (nth b 2)
      · rw [if_neg (fun k => k h2)]
        right
        by_cases h3 : 4 ≤ lenB b
        · exact ⟨rfl, h3, h1, h2, fun k => hg ⟨h0, fun _ => h1, fun _ => h2, fun _ => k⟩⟩
        · exact absurd ⟨h0, fun _ => h1, fun _ => h2, fun k => absurd k h3⟩ hg
      · rw [if_pos h2]
        left
        by_cases h3 : 3 ≤ lenB b
        · exact ⟨rfl, h3, h1, h2⟩
        · exact absurd ⟨h0, fun _ => h1, fun k => absurd k h3, fun k => absurd k (by omega)⟩ hg
    · rw [if_pos h1]
      left
      by_cases h2 : 2 ≤ lenB b
      · exact ⟨rfl, h2, h1⟩
      · exact absurd ⟨h0, fun k => absurd k h2, fun k => absurd k (by omega), fun k => absurd k (by omega)⟩ hg
/-- A character that goes wrong goes wrong by the bytes up to there. -/
theorem bad_local {b : List Int} (h : ¬ Good b) (hp : badB b < b.length) (t : List Int) : ¬ Good (b.take (badB b + 1) ++ t) ∧ badB (b.take (badB b + 1) ++ t) = badB b := by
  have hl : (b.take (badB b + 1)).length = badB b + 1 := by rw [List.length_take]; omega
  have hn : ∀ i, i ≤ badB b → nth (b.take (badB b + 1) ++ t) i = nth b i := fun i hi => by rw [nth_left t (by omega), nth_take (by omega)]
  have hL : lenB (b.take (badB b + 1) ++ t) = lenB b := by unfold lenB; rw [hn 0 (by omega)]
  have hlen : badB b + 1 ≤ (b.take (badB b + 1) ++ t).length := by rw [List.length_append]; omega
  have hG : Good (b.take (badB b + 1) ++ t) ↔ (lenB b ≠ 0 ∧ (2 ≤ lenB b → ok1 (b.take (badB b + 1) ++ t).length (nth b 0) (nth (b.take (badB b + 1) ++ t) 1)) ∧ (3 ≤ lenB b → okK (b.take (badB b + 1) ++ t).length 2 (nth (b.take (badB b + 1) ++ t) 2)) ∧ (4 ≤ lenB b → okK (b.take (badB b + 1) ++ t).length 3 (nth (b.take (badB b + 1) ++ t) 3))) := by
    unfold Good GoodN
    rw [hn 0 (by omega)]
    exact Iff.rfl
  rw [hG]
  have hB : ∀ x, badB x = (if lenB x = 0 then 0 else if ¬ ok1 x.length (nth x 0) (nth x 1) then 1 else if ¬ okK x.length 2 (nth x 2) then 2 else 3) := fun x => rfl
  rw [hB (b.take (badB b + 1) ++ t), hL, hn 0 (by omega)]
  generalize (b.take (badB b + 1) ++ t) = x at *
  unfold ok1 okK at *
  rcases bad_cases h with ⟨e, k⟩ | ⟨e, k1, k2⟩ | ⟨e, k1, k2, k3⟩ | ⟨e, k1, k2, k3, k4⟩
  · rw [e, if_pos k]
    exact ⟨fun q => q.1 k, rfl⟩
  · unfold ok1 at k2
    rw [e] at hn hlen hp
    rw [hn 1 (by omega), e, if_neg (by omega), if_pos (by omega)]
    exact ⟨fun q => by have := q.2.1 k1; omega, rfl⟩
  · unfold ok1 at k2
    unfold okK at k3
    rw [e] at hn hlen hp
    rw [hn 1 (by omega), hn 2 (by omega), e, if_neg (by omega), if_neg (by omega), if_pos (by omega)]
    exact ⟨fun q => by have := q.2.2.1 k1; omega, rfl⟩
  · unfold ok1 at k2
    unfold okK at k3 k4
    rw [e] at hn hlen hp
    rw [hn 1 (by omega), hn 2 (by omega), hn 3 (by omega), e, if_neg (by omega), if_neg (by omega), if_neg (by omega)]
    exact ⟨fun q => by have := q.2.2.2 k1; omega, rfl⟩

/-- THE FAULT HANGS ON THE BYTES UP TO IT ALONE. -/
theorem fault_local (b t : List Int) : ∀ p, (runesL b).2 = some p → p < b.length → (runesL (b.take (p + 1) ++ t)).2 = some p := by
  induction b using text_ind with
  | nil => intro p hp; rw [runes_nil] at hp; cases hp
  | good b h0 h ih =>
    intro p hp hlt
    rw [runes_good h0 h] at hp
    dsimp only at hp
    cases hr : (runesL (b.drop (lenB b))).2 with
    | none => rw [hr] at hp; cases hp
    | some p' =>
      rw [hr] at hp
      simp only [Option.map_some, Option.some.injEq] at hp
      subst hp
      have hg := good_ne h h0
      have e : b.take (lenB b + p' + 1) ++ t = b.take (lenB b) ++ ((b.drop (lenB b)).take (p' + 1) ++ t) := by
        rw [show lenB b + p' + 1 = lenB b + (p' + 1) from by omega, List.take_add, List.append_assoc]
      obtain ⟨g1, g2, g3⟩ := good_take h0 h
      have hne : b.take (lenB b) ≠ [] := by intro k; have h9 := congrArg List.length k; rw [List.length_take, List.length_nil] at h9; omega
      obtain ⟨f1, f2, f3⟩ := good_left ((b.drop (lenB b)).take (p' + 1) ++ t) hne g1
      have hl : (b.take (lenB b)).length = lenB b := by rw [List.length_take]; omega
      rw [e, runes_good (by simp [hne]) f1, f2, g2]
      dsimp only
      rw [List.drop_left' hl, ih p' hr (by rw [List.length_drop]; omega)]
      rfl
  | bad b h0 h =>
    intro p hp hlt
    rw [runes_bad h0 h] at hp
    simp only [Option.some.injEq] at hp
    subst hp
    obtain ⟨k1, k2⟩ := bad_local h hlt t
    have hne : b.take (badB b + 1) ++ t ≠ [] := by intro k; have h9 := congrArg List.length k; rw [List.length_append, List.length_take, List.length_nil] at h9; omega
    rw [runes_bad hne k1, k2]
/-- A fault lies among the bytes, or just behind them. -/
theorem bad_le {b : List Int} (h0 : b ≠ []) (h : ¬ Good b) : badB b ≤ b.length := by
  have hp := List.length_pos_iff.2 h0
  rcases bad_cases h with ⟨e, k⟩ | ⟨e, k1, k2⟩ | ⟨e, k1, k2, k3⟩ | ⟨e, k1, k2, k3, k4⟩
  · omega
  · omega
  · have := k2.1; omega
  · have := k3.1; omega
theorem fault_le (b : List Int) : ∀ p, (runesL b).2 = some p → p ≤ b.length := by
  induction b using text_ind with
  | nil => intro p hp; rw [runes_nil] at hp; cases hp
  | good b h0 h ih =>
    intro p hp
    rw [runes_good h0 h] at hp
    dsimp only at hp
    cases hr : (runesL (b.drop (lenB b))).2 with
    | none => rw [hr] at hp; cases hp
    | some p' =>
      rw [hr] at hp
      simp only [Option.map_some, Option.some.injEq] at hp
      have h1 := ih p' hr
      have hg := good_ne h h0
      rw [List.length_drop] at h1
      omega
  | bad b h0 h =>
    intro p hp
    rw [runes_bad h0 h] at hp
    simp only [Option.some.injEq] at hp
    subst hp
    exact bad_le h0 h
/-- As many characters as bytes, at most. -/
theorem runes_many (b : List Int) : (runesL b).1.length ≤ b.length := by
  induction b using text_ind with
  | nil => rw [runes_nil]; simp
  | good b h0 h ih =>
    rw [runes_good h0 h]
    have hg := good_ne h h0
    rw [List.length_drop] at ih
    simp only [List.length_cons]
    omega
  | bad b h0 h => rw [runes_bad h0 h]; simp
/-- A text's characters, put one behind the other, are the text. -/
theorem enc_val {b : List Int} (hz : ∀ c ∈ b, 0 ≤ c ∧ c < 256) (h0 : b ≠ []) (h : Good b) : encL (valB b) = b.take (lenB b) := by
  have hg := good_ne h h0
  obtain ⟨k0, k1, k2, k3⟩ := h
  have hlo := lo2_cases (nth b 0)
  have hhi := hi2_cases (nth b 0)
  unfold ok1 at k1
  unfold okK at k2 k3
  have hb : lenB b = lenN (nth b 0) := rfl
  have cast : ∀ i, i < b.length → b.getD i 0 = ((nth b i : Nat) : Int) := fun i hi => by
    unfold nth
    have : 0 ≤ b.getD i 0 := by
      rw [List.getD_eq_getElem?_getD, List.getElem?_eq_getElem hi]
      exact (hz _ (List.getElem_mem hi)).1
    omega
  have list1 : 1 ≤ b.length → b.take 1 = [b.getD 0 0] := by
    intro h; rcases b with _ | ⟨x, b⟩
    · simp at h
    · rfl
  have list2 : 2 ≤ b.length → b.take 2 = [b.getD 0 0, b.getD 1 0] := by
    intro h; rcases b with _ | ⟨x, _ | ⟨y, b⟩⟩
    · simp at h
    · simp at h
    · rfl
  have list3 : 3 ≤ b.length → b.take 3 = [b.getD 0 0, b.getD 1 0, b.getD 2 0] := by
    intro h; rcases b with _ | ⟨x, _ | ⟨y, _ | ⟨z, b⟩⟩⟩
    · simp at h
    · simp at h
    · simp at h
    · rfl
  have list4 : 4 ≤ b.length → b.take 4 = [b.getD 0 0, b.getD 1 0, b.getD 2 0, b.getD 3 0] := by
    intro h; rcases b with _ | ⟨x, _ | ⟨y, _ | ⟨z, _ | ⟨u, b⟩⟩⟩⟩
    · simp at h
    · simp at h
    · simp at h
    · simp at h
    · rfl
  rcases len_cases (nth b 0) with ⟨e, k⟩ | ⟨e, k⟩ | ⟨e, k⟩ | ⟨e, k⟩ | ⟨e, k⟩ <;> rw [e] at k0 k1 k2 k3 hb
  · have hv : valB b = nth b 0 := by unfold valB valN; rw [if_pos k]
    rw [hv, hb, list1 (by omega), cast 0 (by omega)]
    unfold encL
    rw [if_pos k]
  · have q1 := k1 (by omega)
    have hv : valB b = nth b 0 % 32 * 64 + nth b 1 % 64 := by unfold valB valN; rw [if_neg (by omega), if_pos (by omega)]
    rw [hv, hb, list2 (by omega), cast 0 (by omega), cast 1 (by omega)]
    unfold encL
    rw [if_neg (by omega), if_pos (by omega)]
    simp only [List.cons.injEq, and_true]
    omega
  · have q1 := k1 (by omega)
    have q2 := k2 (by omega)
    have hv : valB b = nth b 0 % 16 * 4096 + nth b 1 % 64 * 64 + nth b 2 % 64 := by unfold valB valN; rw [if_neg (by omega), if_neg (by omega), if_pos (by omega)]
    rw [hv, hb, list3 (by omega), cast 0 (by omega), cast 1 (by omega), cast 2 (by omega)]
    unfold encL
    rw [if_neg (by omega), if_neg (by omega), if_pos (by omega)]
    simp only [List.cons.injEq, and_true]
    omega
  · have q1 := k1 (by omega)
    have q2 := k2 (by omega)
    have q3 := k3 (by omega)
    have hv : valB b = nth b 0 % 8 * 262144 + nth b 1 % 64 * 4096 + nth b 2 % 64 * 64 + nth b 3 % 64 := by unfold valB valN; rw [if_neg (by omega), if_neg (by omega), if_neg (by omega)]
    rw [hv, hb, list4 (by omega), cast 0 (by omega), cast 1 (by omega), cast 2 (by omega), cast 3 (by omega)]
    unfold encL
    rw [if_neg (by omega), if_neg (by omega), if_neg (by omega)]
    simp only [List.cons.injEq, and_true]
    omega
  · exact absurd rfl k0
end Go.Proofs.Ytkealjaealeojab
namespace Go.Proofs.Ytkealjaealeojab

/-- How many bytes a character has. -/
def lenR (r : Nat) : Nat := if r < 128 then 1 else if r < 2048 then 2 else if r < 65536 then 3 else 4
theorem enc_lenR (r : Nat) : (encL r).length = lenR r := by
  unfold encL lenR
  repeat' split
  all_goals rfl
theorem val_lenR {b : List Int} (h : Good b) : lenR (valB b) = lenB b := by
  obtain ⟨k0, k1, k2, k3⟩ := h
  have hlo := lo2_cases (nth b 0)
  have hhi := hi2_cases (nth b 0)
  unfold ok1 at k1
  unfold okK at k2 k3
  unfold lenR valB valN lenB
  rcases len_cases (nth b 0) with ⟨e, k⟩ | ⟨e, k⟩ | ⟨e, k⟩ | ⟨e, k⟩ | ⟨e, k⟩ <;> rw [e] at k0 k1 k2 k3 ⊢
  · rw [if_pos k, if_pos k]
  · have q1 := k1 (by omega)
    rw [if_neg (by omega : ¬ nth b 0 < 128), if_pos (by omega : nth b 0 < 224), if_neg (by omega), if_pos (by omega)]
  · have q1 := k1 (by omega)
    have q2 := k2 (by omega)
    rw [if_neg (by omega : ¬ nth b 0 < 128), if_neg (by omega : ¬ nth b 0 < 224), if_pos (by omega : nth b 0 < 240), if_neg (by omega), if_neg (by omega), if_pos (by omega)]
  · have q1 := k1 (by omega)
    have q2 := k2 (by omega)
    have q3 := k3 (by omega)
    rw [if_neg (by omega : ¬ nth b 0 < 128), if_neg (by omega : ¬ nth b 0 < 224), if_neg (by omega : ¬ nth b 0 < 240), if_neg (by omega), if_neg (by omega), if_neg (by omega)]
  · exact absurd rfl k0
/-- The place behind the whole characters that bytes begin with. -/
def endL (b : List Int) : Nat := ((runesL b).1.map lenR).sum
theorem end_nil : endL [] = 0 := rfl
theorem end_good {b : List Int} (h0 : b ≠ []) (h : Good b) : endL b = lenB b + endL (b.drop (lenB b)) := by
  unfold endL
  rw [runes_good h0 h]
  simp only [List.map_cons, List.sum_cons, val_lenR h]
theorem end_bad {b : List Int} (h : ¬ Good b) : endL b = 0 := by
  by_cases h0 : b = []
  · subst h0; rfl
  · unfold endL
    rw [runes_bad h0 h]
    rfl
theorem end_le (b : List Int) : endL b ≤ b.length := by
  induction b using text_ind with
  | nil => rw [end_nil]; simp
  | good b h0 h ih =>
    have := good_ne h h0
    rw [end_good h0 h]
    rw [List.length_drop] at ih
    omega
  | bad b h0 h => rw [end_bad h]; simp
/-- Behind the whole characters there is none. -/
theorem end_stop (b : List Int) : endL b < b.length → ¬ Good (b.drop (endL b)) := by
  induction b using text_ind with
  | nil => intro h; simp at h
  | good b h0 h ih =>
    intro hl
    have hg := good_ne h h0
    rw [end_good h0 h] at hl ⊢
    rw [← List.drop_drop]
    refine ih ?_
    rw [List.length_drop]
    omega
  | bad b h0 h => intro _; rw [end_bad h]; exact h
/-- WHERE BYTES GO WRONG, told by where the whole characters end. -/
theorem fault_end (b : List Int) : (runesL b).2 = if endL b = b.length then none else some (endL b + badB (b.drop (endL b))) := by
  induction b using text_ind with
  | nil => rw [runes_nil, end_nil]; rfl
  | good b h0 h ih =>
    have hg := good_ne h h0
    rw [runes_good h0 h, end_good h0 h]
    dsimp only
    rw [ih, List.length_drop, ← List.drop_drop]
    by_cases e : endL (b.drop (lenB b)) = b.length - lenB b
    · rw [if_pos e, if_pos (by omega)]; rfl
    · rw [if_neg e, if_neg (by omega)]
      simp only [Option.map_some, Option.some.injEq]
      omega
  | bad b h0 h =>
    have hp := List.length_pos_iff.2 h0
    rw [runes_bad h0 h, end_bad h, if_neg (by omega)]
    simp
theorem text_end {b : List Int} (h : (runesL b).2 = none) : endL b = b.length := by
  rw [fault_end] at h
  by_cases e : endL b = b.length
  · exact e
  · rw [if_neg e] at h; cases h
theorem end_text {b : List Int} (h : endL b = b.length) : (runesL b).2 = none := by rw [fault_end, if_pos h]
theorem end_fault {b : List Int} (h : endL b ≠ b.length) : (runesL b).2 = some (endL b + badB (b.drop (endL b))) := by rw [fault_end, if_neg h]

theorem lenR_le (r : Nat) : 1 ≤ lenR r ∧ lenR r ≤ 4 := by
  unfold lenR
  repeat' split
  all_goals omega

/-- A text's runes as cells. -/
def cellsR (l : List Nat) : List Value := l.map fun r => Value.int .i32 (r : Nat)
/-- What Go's '[]rune(s)' makes of a text. -/
theorem runes_from {zs : List Int} (hz : ∀ c ∈ zs, 0 ≤ c ∧ c < 256) (bound : Nat) : ∀ (p : Nat) (acc : Array Value), p ≤ zs.length → zs.length ≤ p + bound → (runesL (zs.drop p)).2 = none →
    Conv.runesFrom (strOfNums zs) bound p acc = acc ++ (cellsR (runesL (zs.drop p)).1).toArray := by
  induction bound with
  | zero =>
    intro p acc hp hb hn
    rw [List.drop_of_length_le (by omega), runes_nil]
    simp [Conv.runesFrom, cellsR]
  | succ bound ih =>
    intro p acc hp hb hn
    unfold Conv.runesFrom
    by_cases hlt : p < zs.length
    · have h0 : zs.drop p ≠ [] := by intro h; have := congrArg List.length h; rw [List.length_drop] at this; simp at this; omega
      by_cases hg : Good (zs.drop p)
      · have hne := good_ne hg h0
        rw [List.length_drop] at hne
        rw [if_pos (by rw [strOfNums_size]; exact hlt), decode_good hz hg]
        rw [runes_good h0 hg] at hn ⊢
        dsimp only at hn ⊢
        rw [List.drop_drop] at hn ⊢
        rw [ih _ _ (by omega) (by omega) (by simpa using hn)]
        simp [cellsR]
      · rw [runes_bad h0 hg] at hn
        cases hn
    · rw [if_neg (by rw [strOfNums_size]; exact hlt), List.drop_of_length_le (by omega), runes_nil]
      simp [cellsR]
theorem runes_of {zs : List Int} (hz : ∀ c ∈ zs, 0 ≤ c ∧ c < 256) (hn : (runesL zs).2 = none) : Conv.runesFrom (strOfNums zs) (strOfNums zs).size 0 #[] = (cellsR (runesL zs).1).toArray := by
  rw [runes_from hz _ 0 #[] (Nat.zero_le _) (by rw [strOfNums_size]; omega) (by simpa using hn)]
  simp

/-- '[]rune(s)', with no bound: the model has none. -/
theorem run_runes_all {P : Program} (w : World) (src dst e : TypeId) (s : ByteArray) (hs : P.underlying src = some .string) (hd : P.underlying dst = some (.slice e)) (he : P.underlying e = some (.int .i32)) :
    (convert src dst (.string s)).run P w = .ok (.slice (some ⟨w.heap.size, 0, none⟩) (Conv.runesFrom s s.size 0 #[]).size (grownCap w (Conv.runesFrom s s.size 0 #[]).size 0 e))
      (w.drew.alloc (.cells (Conv.runesFrom s s.size 0 #[] ++ Array.replicate (grownCap w (Conv.runesFrom s s.size 0 #[]).size 0 e - (Conv.runesFrom s s.size 0 #[]).size) (.int .i32 0)) e)) := by
  simp [convert, run_underlying hs, run_underlying hd, run_underlying he, Conv.stringToRunes, Question.forced, newRow, grownCap]

/-- Of what a character is hangs on four bytes alone. -/
theorem good_four (b : List Int) : Good (b.take 4) ↔ Good b := by
  have n0 : nth (b.take 4) 0 = nth b 0 := nth_take (by omega)
  have n1 : nth (b.take 4) 1 = nth b 1 := nth_take (by omega)
  have n2 : nth (b.take 4) 2 = nth b 2 := nth_take (by omega)
  have n3 : nth (b.take 4) 3 = nth b 3 := nth_take (by omega)
  unfold Good GoodN ok1 okK
  rw [n0, n1, n2, n3, List.length_take]
  have e1 : 1 < min 4 b.length ↔ 1 < b.length := by omega
  have e2 : 2 < min 4 b.length ↔ 2 < b.length := by omega
  have e3 : 3 < min 4 b.length ↔ 3 < b.length := by omega
  rw [e1, e2, e3]
theorem val_four (b : List Int) : valB (b.take 4) = valB b ∧ lenB (b.take 4) = lenB b := by
  unfold valB lenB
  rw [nth_take (by omega), nth_take (by omega), nth_take (by omega), nth_take (by omega)]
  exact ⟨rfl, rfl⟩
/-- The whole characters at the head are a text. -/
theorem take_end (b : List Int) : (runesL (b.take (endL b))) = ((runesL b).1, none) := by
  induction b using text_ind with
  | nil => simp [runes_nil]
  | good b h0 h ih =>
    have hg := good_ne h h0
    obtain ⟨g1, g2, g3⟩ := good_take h0 h
    have hl : (b.take (lenB b)).length = lenB b := by rw [List.length_take]; omega
    have hne : b.take (lenB b) ≠ [] := by intro k; have h9 := congrArg List.length k; rw [hl, List.length_nil] at h9; omega
    obtain ⟨f1, f2, f3⟩ := good_left ((b.drop (lenB b)).take (endL (b.drop (lenB b)))) hne g1
    rw [runes_good h0 h, end_good h0 h, List.take_add, runes_good (by simp [hne]) f1, f2, g2, f3, g3, List.drop_left' hl, ih]
    rfl
  | bad b h0 h => rw [end_bad h, runes_bad h0 h]; simp [runes_nil]
end Go.Proofs.Ytkealjaealeojab
namespace Go.Proofs.Ytkealjaealeojab
open Go.RowKit

/-- A byte's cell, as a natural number. -/
theorem Bytes.nat {w : World} {b off : Nat} {zs : List Int} (hb : Bytes w (some ⟨b, off, none⟩) zs) {i : Nat} (hi : i < zs.length) : w.cell? ⟨b, off + i, none⟩ = some (.int .u8 (nth zs i : Nat)) := by
  rcases hb.2.2 with h | ⟨b', off', h, hc⟩
  · subst h; simp at hi
  · cases h
    rw [hc i hi]
    have h1 : 0 ≤ zs.getD i 0 := by
      rw [List.getD_eq_getElem?_getD, List.getElem?_eq_getElem hi]
      exact (hb.1 _ (List.getElem_mem hi)).1
    unfold nth
    rw [Int.toNat_of_nonneg h1]

theorem rlen_any (r : Nat) (w : World) (h : Right r) :
    Calls Try.prog 53 #[.int .i32 (r : Nat)] w fun e w' => e = .returned (.int .i64 (lenR r : Nat)) ∧ w' = w := by
  unfold Right at h
  go_enter Try.func53, Try.ntmps53
  go_wp2
  all_goals
    go_ret
    refine ⟨?_, rfl⟩
    first
    | (have e : lenR r = 1 := by (unfold lenR; repeat' split) <;> omega
       rw [e]; rfl)
    | (have e : lenR r = 2 := by (unfold lenR; repeat' split) <;> omega
       rw [e]; rfl)
    | (have e : lenR r = 3 := by (unfold lenR; repeat' split) <;> omega
       rw [e]; rfl)
    | (have e : lenR r = 4 := by (unfold lenR; repeat' split) <;> omega
       rw [e]; rfl)

theorem iter_below (w : World) (s : ByteArray) (p : Nat) : Below w.heap.size w (w.iter s p) := (Below.refl _ _).alloc (Nat.le_refl _) _

set_option maxHeartbeats 1000000 in
theorem uwhole_any (a : Option Addr) (n cap : Nat) (zs : List Int) (w : World) (hl : zs.length = n) (hb : Bytes w a zs) (hn : n ≤ 4611686018427387904) :
    Calls Try.prog 45 #[.slice a n cap] w fun e w' => e = .returned (.int .i64 (endL zs : Nat)) ∧ Below w.heap.size w w' := by
  have hZ : Hid (∀ c ∈ zs, 0 ≤ c ∧ c < 256) := hb.1
  have hL : Hid (zs.length = n) := hl
  obtain ⟨s, hS, ks, hsz⟩ : ∃ s, Hid (s = strOfNums zs) ∧ (convert 23 9 (.slice a n cap)).run Try.prog w = .ok (.string s) w ∧ s.size = n := ⟨_, rfl, conv_str hb n cap hl, by rw [strOfNums_size, hl]⟩
  clear hb hl
  go_enter Try.func45, Try.ntmps45
  go_wp2
  go_loopw [3, 4] (fun f e wr => (∃ pos fr : Nat, wr = w.iter s pos ∧ f = .int .i64 fr ∧ e = .int .i64 pos ∧ pos ≤ n ∧ Hid (endL zs = pos + endL (zs.drop pos))) ∨ (∃ p q fr : Nat, wr = w.iter s p ∧ f = .int .i64 fr ∧ e = .int .i64 q ∧ p ≤ n ∧ Hid (p = fr + 1) ∧ Hid (q = fr + 3) ∧ Hid (endL zs = fr))) (fun _ _ wr => n - wr.iterPos w.heap.size)
  case atStart => exact .inl ⟨0, 0, rfl, rfl, rfl, Nat.zero_le _, (by show _ = _; simp)⟩
  case round =>
    rcases hrel with ⟨pos, fr, rfl, rfl, rfl, hp, hE⟩ | ⟨p, q, fr, rfl, rfl, rfl, hp, hP, hQ, hE⟩
    · by_cases hlt : pos < n
      · have h0 : zs.drop pos ≠ [] := by intro h; have := congrArg List.length h; rw [List.length_drop, hL.out] at this; simp at this; omega
        by_cases hg : Good (zs.drop pos)
        · have hd := decode_good hZ.out hg
          have hne := good_ne hg h0
          rw [List.length_drop, hL.out] at hne
          have hR := good_right hg
          have hlr := val_lenR hg
          have hE2 : Hid (endL zs = (pos + lenB (zs.drop pos)) + endL (zs.drop (pos + lenB (zs.drop pos)))) := by
            show _ = _
            rw [hE.out, end_good h0 hg, List.drop_drop]
            omega
          have hnx : ∀ ty, (Instr.next (.pointer (some ⟨w.heap.size, 0, none⟩)) true ty).run Try.prog (w.iter s pos) = .ok (.tuple #[.bool true, .int .i64 pos, .int .i32 (valB (zs.drop pos) : Nat)]) (w.iter s (pos + lenB (zs.drop pos))) := fun ty => by
            rw [run_next_any w s pos ty (by omega), hS.out, hd]
          clear hd hE h0 hg
          generalize valB (zs.drop pos) = V at *
          generalize lenB (zs.drop pos) = L at *
          have hlr' : Hid (lenR V = L) := hlr
          clear hlr
          have k := fun w' => rlen_any V w' hR
          rw [hlr'.out] at k
          go_wp2_with (go_at_call 53; refine (k _).mono ?_; rintro e w' ⟨rfl, rfl⟩)
          go_roundw
          case rel => exact .inl ⟨pos + L, pos, rfl, rfl, by go_num, by omega, hE2⟩
          case measure => simp; omega
        · have hd := decode_bad hZ.out hg
          have hE2 : Hid (endL zs = pos) := by
            show _ = _
            rw [hE.out, end_bad hg, Nat.add_zero]
          have hnx : ∀ ty, (Instr.next (.pointer (some ⟨w.heap.size, 0, none⟩)) true ty).run Try.prog (w.iter s pos) = .ok (.tuple #[.bool true, .int .i64 pos, .int .i32 (65533 : Nat)]) (w.iter s (pos + 1)) := fun ty => by
            rw [run_next_any w s pos ty (by omega), hS.out, hd]
          clear hd hE h0 hg
          have k := fun w' => rlen_any 65533 w' (by unfold Right; omega)
          rw [show lenR 65533 = 3 from rfl] at k
          go_wp2_with (go_at_call 53; refine (k _).mono ?_; rintro e w' ⟨rfl, rfl⟩)
          go_roundw
          case rel => exact .inr ⟨pos + 1, pos + 3, pos, rfl, rfl, by go_num, by omega, rfl, rfl, hE2⟩
          case measure => simp; omega
      · obtain rfl : pos = n := by omega
        have hE2 : Hid (endL zs = pos) := by
          show _ = _
          rw [hE.out, List.drop_of_length_le (by rw [hL.out]; omega), end_nil]
          rfl
        have hnx : ∀ ty, (Instr.next (.pointer (some ⟨w.heap.size, 0, none⟩)) true ty).run Try.prog (w.iter s pos) = _ := fun ty => run_next_end w s pos ty (by omega)
        clear hE
        go_wp2
        go_ret
        rw [hE2.out]
        exact ⟨rfl, iter_below _ _ _⟩
    · have hne : ((p : Int) != (q : Int)) = true := by have := hP.out; have := hQ.out; simp; omega
      by_cases hlt : p < n
      · have hnx : ∀ ty, (Instr.next (.pointer (some ⟨w.heap.size, 0, none⟩)) true ty).run Try.prog (w.iter s p) = _ := fun ty => run_next_any w s p ty (by omega)
        go_wp2
        go_ret
        rw [hE.out]
        exact ⟨rfl, iter_below _ _ _⟩
      · obtain rfl : p = n := by omega
        have hnx : ∀ ty, (Instr.next (.pointer (some ⟨w.heap.size, 0, none⟩)) true ty).run Try.prog (w.iter s p) = _ := fun ty => run_next_end w s p ty (by omega)
        have hne2 : ((q : Int) != (p : Int)) = true := by have := hP.out; have := hQ.out; simp; omega
        go_wp2
        go_ret
        rw [hE.out]
        exact ⟨rfl, iter_below _ _ _⟩
end Go.Proofs.Ytkealjaealeojab
namespace Go.Proofs.Ytkealjaealeojab
open Go.RowKit

theorem second_none (c : Nat) (w : World) (h : c < 194 ∨ 244 < c) :
    Calls Try.prog 54 #[.int .u8 c] w fun e w' => e = .returned (.tuple #[.int .u8 1, .int .u8 0]) ∧ w' = w := by
  have e1 : ((c : Int) == 224) = false := by simp; omega
  have e2 : ((c : Int) == 237) = false := by simp; omega
  have e3 : ((c : Int) == 240) = false := by simp; omega
  have e4 : ((c : Int) == 244) = false := by simp; omega
  go_enter Try.func54, Try.ntmps54
  go_wp2
  all_goals first | (exfalso; omega) | (go_ret2; exact ⟨rfl, rfl⟩)
theorem second_some (c : Nat) (w : World) (h : 194 ≤ c) (h2 : c ≤ 244) :
    Calls Try.prog 54 #[.int .u8 c] w fun e w' => e = .returned (.tuple #[.int .u8 (lo2 c : Nat), .int .u8 (hi2 c : Nat)]) ∧ w' = w := by
  by_cases c1 : c = 224
  · subst c1
    go_enter Try.func54, Try.ntmps54
    go_wp2
    go_ret2
    exact ⟨rfl, rfl⟩
  by_cases c2 : c = 237
  · subst c2
    go_enter Try.func54, Try.ntmps54
    go_wp2
    go_ret2
    exact ⟨rfl, rfl⟩
  by_cases c3 : c = 240
  · subst c3
    go_enter Try.func54, Try.ntmps54
    go_wp2
    go_ret2
    exact ⟨rfl, rfl⟩
  by_cases c4 : c = 244
  · subst c4
    go_enter Try.func54, Try.ntmps54
    go_wp2
    go_ret2
    exact ⟨rfl, rfl⟩
  have e1 : ((c : Int) == 224) = false := by simp; omega
  have e2 : ((c : Int) == 237) = false := by simp; omega
  have e3 : ((c : Int) == 240) = false := by simp; omega
  have e4 : ((c : Int) == 244) = false := by simp; omega
  have l : Hid (lo2 c = 128) := by show _ = _; unfold lo2; rw [if_neg c1, if_neg c3]
  have u : Hid (hi2 c = 191) := by show _ = _; unfold hi2; rw [if_neg c2, if_neg c4]
  clear c1 c2 c3 c4
  rw [l.out, u.out]
  go_enter Try.func54, Try.ntmps54
  go_wp2
  all_goals first | (exfalso; omega) | (go_ret2; exact ⟨rfl, rfl⟩)

/-- What the loop meets at its k-th byte. -/
theorem begun_step {zs : List Int} (hbad : ¬ Good zs) (h0 : lenB zs ≠ 0) {k lo hi : Nat} (hk : 1 ≤ k) (hle : k ≤ badB zs) (hr : (k = 1 ∧ lo = lo2 (nth zs 0) ∧ hi = hi2 (nth zs 0)) ∨ (2 ≤ k ∧ lo = 128 ∧ hi = 191)) :
    k < badB zs ↔ (k < zs.length ∧ lo ≤ nth zs k ∧ nth zs k ≤ hi) := by
  rcases bad_cases hbad with ⟨e, k0⟩ | ⟨e, k1, k2⟩ | ⟨e, k1, k2, k3⟩ | ⟨e, k1, k2, k3, k4⟩
  · exact absurd k0 h0
  · unfold ok1 at k2
    obtain rfl : k = 1 := by omega
    rcases hr with ⟨_, rfl, rfl⟩ | ⟨h, _⟩
    · omega
    · omega
  · unfold ok1 at k2
    unfold okK at k3
    rcases hr with ⟨rfl, rfl, rfl⟩ | ⟨h, rfl, rfl⟩
    · omega
    · obtain rfl : k = 2 := by omega
      omega
  · unfold ok1 at k2
    unfold okK at k3 k4
    rcases hr with ⟨rfl, rfl, rfl⟩ | ⟨h, rfl, rfl⟩
    · omega
    · have h3 : k = 2 ∨ k = 3 := by omega
      rcases h3 with rfl | rfl
      · omega
      · omega

set_option maxHeartbeats 1000000 in
theorem begun_any (b off n cap : Nat) (zs : List Int) (w : World) (hl : zs.length = n) (h0 : 0 < n) (hb : Bytes w (some ⟨b, off, none⟩) zs) (hbad : ¬ Good zs) (hn : n ≤ 4611686018427387904) :
    Calls Try.prog 46 #[.slice (some ⟨b, off, none⟩) n cap] w fun e w' => e = .returned (.int .i64 (badB zs : Nat)) ∧ w' = w := by
  have hL : Hid (zs.length = n) := hl
  have hB : Hid (Bytes w (some ⟨b, off, none⟩) zs) := hb
  have hbad' : Hid (¬ Good zs) := hbad
  have c0 : w.cell? ⟨b, off, none⟩ = some (.int .u8 (nth zs 0 : Nat)) := hb.nat (i := 0) (by omega)
  have z0 := nth_lt hb.1 0
  have hcs := len_cases (nth zs 0)
  have hlb : lenB zs = lenN (nth zs 0) := rfl
  by_cases hz : lenB zs = 0
  · have k : Calls Try.prog 54 #[.int .u8 (nth zs 0 : Nat)] w fun e w' => e = .returned (.tuple #[.int .u8 1, .int .u8 0]) ∧ w' = w := second_none (nth zs 0) w (by omega)
    have hB0 : Hid (badB zs = 0) := by show _ = _; unfold badB; rw [if_pos hz]
    clear hcs hlb hz hb hl hbad
    generalize nth zs 0 = c at *
    go_enter Try.func46, Try.ntmps46
    go_wp2_with (go_at_call 54; refine k.mono ?_; rintro e w' ⟨rfl, hw⟩; obtain rfl : w = w' := hw.symm)
    go_ret
    rw [hB0.out]
    exact ⟨rfl, rfl⟩
  · have hg1 : lenB zs ≠ 1 := by
      intro h1
      refine hbad ?_
      unfold Good GoodN
      rw [← hlb, h1]
      exact ⟨by omega, fun h => by omega, fun h => by omega, fun h => by omega⟩
    have k : Calls Try.prog 54 #[.int .u8 (nth zs 0 : Nat)] w fun e w' => e = .returned (.tuple #[.int .u8 (lo2 (nth zs 0) : Nat), .int .u8 (hi2 (nth zs 0) : Nat)]) ∧ w' = w := second_some (nth zs 0) w (by omega) (by omega)
    have hlo := lo2_cases (nth zs 0)
    have hhi := hi2_cases (nth zs 0)
    have hle : lo2 (nth zs 0) ≤ hi2 (nth zs 0) := by omega
    have hb1 : 1 ≤ badB zs := by
      rcases bad_cases hbad with ⟨e, k0⟩ | ⟨e, k1, k2⟩ | ⟨e, k1, k2, k3⟩ | ⟨e, k1, k2, k3, k4⟩
      · exact absurd k0 hz
      all_goals omega
    have hstep : Hid (∀ k lo hi : Nat, 1 ≤ k → k ≤ badB zs → ((k = 1 ∧ lo = lo2 (nth zs 0) ∧ hi = hi2 (nth zs 0)) ∨ (2 ≤ k ∧ lo = 128 ∧ hi = 191)) → (k < badB zs ↔ (k < n ∧ lo ≤ nth zs k ∧ nth zs k ≤ hi))) := fun k lo hi h1 h2 h3 => by rw [← hL.out]; exact begun_step hbad hz h1 h2 h3
    clear hcs hlb hz hb hl hbad hlo hhi hg1
    generalize lo2 (nth zs 0) = l0 at *
    generalize hi2 (nth zs 0) = u0 at *
    generalize hB3 : badB zs = B at *
    clear hB3
    generalize nth zs 0 = c at *
    go_enter Try.func46, Try.ntmps46
    go_wp2_with (go_at_call 54; refine k.mono ?_; rintro e w' ⟨rfl, hw⟩; obtain rfl : w = w' := hw.symm)
    go_loop [3, 4, 5] (fun l u i => ∃ k lo hi : Nat, l = .int .u8 lo ∧ u = .int .u8 hi ∧ i = .int .i64 k ∧ 1 ≤ k ∧ k ≤ B ∧ Hid ((k = 1 ∧ lo = l0 ∧ hi = u0) ∨ (2 ≤ k ∧ lo = 128 ∧ hi = 191))) (fun _ _ i => B - (intOf i).toNat)
    case atStart => exact ⟨1, l0, u0, rfl, rfl, rfl, Nat.le_refl _, hb1, .inl ⟨rfl, rfl, rfl⟩⟩
    case round =>
      obtain ⟨k, lo, hi, rfl, rfl, rfl, hk1, hk2, hR⟩ := hrel
      have hs := hstep.out k lo hi hk1 hk2 hR.out
      by_cases hlt : k < B
      · obtain ⟨s1, s2, s3⟩ := hs.1 hlt
        have ck : w.cell? ⟨b, off + k, none⟩ = some (.int .u8 (nth zs k : Nat)) := hB.out.nat (by rw [hL.out]; exact s1)
        clear hs
        generalize nth zs k = d at *
        go_wp2
        go_round
        case rel => exact ⟨k + 1, 128, 191, rfl, rfl, by go_num, by omega, by omega, .inr ⟨by omega, rfl, rfl⟩⟩
        case measure => simp [intOf]; omega
      · have ck : k < n → w.cell? ⟨b, off + k, none⟩ = some (.int .u8 (nth zs k : Nat)) := fun s1 => hB.out.nat (by rw [hL.out]; exact s1)
        have hs' : Hid (¬ (k < n ∧ lo ≤ nth zs k ∧ nth zs k ≤ hi)) := fun h => hlt (hs.2 h)
        obtain rfl : k = B := by omega
        clear hs
        generalize nth zs k = d at *
        go_wp2
        all_goals first | (exfalso; have := hs'.out; omega) | (go_ret; exact ⟨rfl, rfl⟩)
end Go.Proofs.Ytkealjaealeojab
namespace Go.Proofs.Ytkealjaealeojab
open Go.RowKit

/-- The runes l lie at a. -/
def Jnts (w : World) (a : Option Addr) (l : List Int) : Prop :=
  l.length ≤ maxLen ∧ (l = [] ∨ ∃ b off, a = some ⟨b, off, none⟩ ∧ ∀ i, i < l.length → w.cell? ⟨b, off + i, none⟩ = some (.int .i32 (l.getD i 0)))
/-- Runes in new memory. -/
def OwnsJ (w : World) (base : Nat) (v : Value) (l : List Int) : Prop := w.ownsRow base 21 1 v l.length (l.map (Value.int .i32))
def ints (l : List Nat) : List Int := l.map fun r => ((r : Nat) : Int)
theorem cells_ints (l : List Nat) : (ints l).map (Value.int .i32) = cellsR l := by simp [ints, cellsR]
theorem jnts_len (l : List Nat) : (ints l).length = l.length := by simp [ints]
theorem jnts_inj {l m : List Nat} (h : ints l = ints m) : l = m := by
  induction l generalizing m with
  | nil => cases m with
    | nil => rfl
    | cons y m => simp [ints] at h
  | cons x l ih => cases m with
    | nil => simp [ints] at h
    | cons y m =>
      simp only [ints, List.map_cons, List.cons.injEq] at h
      obtain ⟨h1, h2⟩ := h
      rw [ih h2, show x = y from by omega]

theorem info21 : (Try.prog.info? 21).map (fun i => (i.zero, i.size, i.bytes)) = some (some (.int .i32 0), 1, 4) := by kernel_rfl

theorem ownsJ_nil (w : World) (base : Nat) : OwnsJ w base (.slice none 0 0) [] := World.ownsRow_nil w base 21 1
theorem OwnsJ.shape {w : World} {base : Nat} {v : Value} {l : List Int} (h : OwnsJ w base v l) :
    ∃ a cap, v = .slice a l.length cap ∧ (a = none → cap = 0) ∧ (l.length ≤ cap ∧ cap ≤ maxLen) ∧ Jnts w a l ∧ (∀ x, a = some x → base ≤ x.block ∧ x.block < w.heap.size ∧ x.off = 0 ∧ x.spot = none) := by
  obtain ⟨hl, hv⟩ := h
  rcases hv with ⟨rfl, hn⟩ | ⟨g, cap, cur, rfl, hb, hg, hnc, hcm, hcs, htk⟩
  · have h0 : l = [] := List.eq_nil_of_length_eq_zero hn
    subst h0
    exact ⟨none, 0, rfl, fun _ => rfl, by simp, ⟨by simp, .inl rfl⟩, fun x hx => by cases hx⟩
  · refine ⟨some ⟨g, 0, none⟩, cap, rfl, (fun hx => by cases hx), ⟨hnc, hcm⟩, ⟨by omega, .inr ⟨g, 0, rfl, fun i hi => ?_⟩⟩, ?_⟩
    · rw [Nat.zero_add, cell_row hg, ← Array.getElem?_toList]
      have h1 : (cur.toList.take (l.length * 1))[i]? = (l.map (Value.int .i32))[i]? := by rw [htk]
      rw [List.getElem?_take, if_pos (by omega), List.getElem?_map] at h1
      rw [h1, List.getD_eq_getElem?_getD, List.getElem?_eq_getElem hi]; rfl
    · intro x hx
      cases hx
      exact ⟨hb, (Array.getElem?_eq_some_iff.1 hg).1, rfl, rfl⟩
theorem OwnsJ.form {w : World} {base : Nat} {v : Value} {l : List Int} (h : OwnsJ w base v l) :
    ∃ a n cap, v = .slice a n cap ∧ Hid (l.length = n) ∧ Hid (a = none → cap = 0) ∧ n ≤ cap ∧ cap ≤ 9223372036854775807 ∧ Hid (Jnts w a l) := by
  obtain ⟨a, cap, hv, hn, ⟨hl, hm⟩, hb, _⟩ := h.shape
  exact ⟨a, l.length, cap, hv, rfl, hn, hl, by simpa [maxLen] using hm, hb⟩
theorem OwnsJ.below {w w' : World} {base : Nat} {v : Value} {l : List Int} (h : OwnsJ w base v l) (hb : Below w.heap.size w w') : OwnsJ w' base v l :=
  World.ownsRow.kept (row := none) h ⟨hb.os, hb.tape, hb.output, hb.size, fun k hk _ => hb.block k hk⟩ (by cases hv : v.ownBlock <;> simp)
theorem OwnsJ.alloc {w : World} {base : Nat} {v : Value} {l : List Int} (h : OwnsJ w base v l) (o : Obj) : OwnsJ (w.alloc o) base v l := h.below ((Below.refl _ _).alloc (Nat.le_refl _) o)
/-- Where blocks below stay it stays. -/
theorem OwnsJ.low {w : World} {base : Nat} {v : Value} {l : List Int} (h : OwnsJ w base v l) {a : Addr} (ha : a.block < base) (u : Value) : OwnsJ (w.setCell a u) base v l := ownsRow_setCell_below h ha u
theorem OwnsJ.base {w : World} {base base' : Nat} {v : Value} {l : List Int} (h : OwnsJ w base v l) (hB : base' ≤ base) : OwnsJ w base' v l := by
  obtain ⟨hl, hv⟩ := h
  refine ⟨hl, ?_⟩
  rcases hv with ⟨rfl, hn⟩ | ⟨g, cap, cur, rfl, hb, hr⟩
  · exact .inl ⟨rfl, hn⟩
  · exact .inr ⟨g, cap, cur, rfl, by omega, hr⟩
theorem grownJ_below {w w1 w2 : World} {base : Nat} {v : Value} {l : List Int} (hb : Below base w w1) (h : OwnsJ w1 base v l) (hg : w1.grownBy w2 v.ownBlock) (hB : base ≤ w1.heap.size) : Below base w w2 :=
  hb.grown hg hB fun k hk => (World.ownsRow.lt h k hk).1

theorem Jnts.lt {w : World} {x : Addr} {l : List Int} (hb : Jnts w (some x) l) (h0 : l ≠ []) : x.block < w.heap.size := by
  rcases hb.2 with h1 | ⟨b, off, h1, hc⟩
  · exact absurd h1 h0
  · cases h1
    have hp : 0 < l.length := List.length_pos_iff.2 h0
    have := hc 0 hp
    simp only [World.cell?] at this
    show b < w.heap.size
    rcases Nat.lt_or_ge b w.heap.size with h2 | h2
    · exact h2
    · simp [Array.getElem?_eq_none h2] at this
theorem Jnts.kept {w w' : World} {a : Option Addr} {l : List Int} (hb : Jnts w a l) (h : Below w.heap.size w w') : Jnts w' a l := by
  refine ⟨hb.1, ?_⟩
  rcases hb.2 with h0 | ⟨b, off, rfl, hc⟩
  · exact .inl h0
  · by_cases h0 : l = []
    · exact .inl h0
    · refine .inr ⟨b, off, rfl, fun i hi => ?_⟩
      rw [h.cell (p := ⟨b, off + i, none⟩) (hb.lt h0)]
      exact hc i hi
theorem jnts_some {w : World} {a : Option Addr} {l : List Int} (hb : Jnts w a l) (h : 0 < l.length) : ∃ b off, a = some ⟨b, off, none⟩ := by
  rcases hb.2 with rfl | ⟨b, off, h1, _⟩
  · simp at h
  · exact ⟨b, off, h1⟩
theorem Jnts.cell {w : World} {b off : Nat} {l : List Int} (hb : Jnts w (some ⟨b, off, none⟩) l) {i : Nat} (hi : i < l.length) : w.cell? ⟨b, off + i, none⟩ = some (.int .i32 (l.getD i 0)) := by
  rcases hb.2 with h | ⟨b', off', h, hc⟩
  · subst h; simp at hi
  · cases h
    exact hc i hi
theorem jnts_news {w : World} {x : Addr} {l : List Int} (hb : Jnts w (some x) l) : ∀ j u, (l.map (Value.int .i32))[j]? = some u → w.cell? (x.add j) = some u := by
  intro j u hu
  rcases hb.2 with rfl | ⟨b, off, hx, hc⟩
  · simp at hu
  · cases hx
    have hj : j < l.length := by
      have := (List.getElem?_eq_some_iff.1 hu).1
      simpa using this
    have h1 := hc j hj
    rw [List.getElem?_map, List.getElem?_eq_getElem hj] at hu
    simp only [Option.map_some, Option.some.injEq] at hu
    subst hu
    have e : (⟨b, off, none⟩ : Addr).add j = ⟨b, off + j, none⟩ := by
      by_cases h0 : j = 0
      · subst h0; simp [Addr.add]
      · simp [Addr.add, h0]
    rw [e, h1, List.getD_eq_getElem?_getD, List.getElem?_eq_getElem hj]; rfl
theorem jnts_one (l : List Int) : ∀ u ∈ l.map (Value.int .i32), u.oneCell' = true := by
  intro u hu
  obtain ⟨c, _, rfl⟩ := List.mem_map.1 hu
  rfl
theorem one_rune (w : World) (n : Int) : Jnts (w.alloc (.cells #[.int .i32 n] 21)) (some ⟨w.heap.size, 0, none⟩) [n] := by
  refine ⟨by simp [maxLen], .inr ⟨_, _, rfl, ?_⟩⟩
  intro i hi
  rw [World.cell?_alloc_mark]
  match i, hi with
  | 0, _ => rfl
end Go.Proofs.Ytkealjaealeojab
namespace Go.Proofs.Ytkealjaealeojab
open Go.RowKit

/-- The fault of bytes: its number, its place. -/
def whyL (zs : List Int) : Nat := match (runesL zs).2 with | none => 0 | some _ => 6
def atL (zs : List Int) : Nat := match (runesL zs).2 with | none => 0 | some p => p
/-- The characters of a text; none of what is no text. -/
def txtL (zs : List Int) : List Int := match (runesL zs).2 with | none => ints (runesL zs).1 | some _ => []
theorem why_none {zs : List Int} (h : (runesL zs).2 = none) : whyL zs = 0 ∧ atL zs = 0 ∧ txtL zs = ints (runesL zs).1 := by
  unfold whyL atL txtL
  rw [h]
  exact ⟨rfl, rfl, rfl⟩
theorem why_some {zs : List Int} {p : Nat} (h : (runesL zs).2 = some p) : whyL zs = 6 ∧ atL zs = p ∧ txtL zs = [] := by
  unfold whyL atL txtL
  rw [h]
  exact ⟨rfl, rfl, rfl⟩

/-- A fault in block g. -/
def FAt (w : World) (g y f : Nat) : Prop := w.heap[g]? = some (.cells #[.int .i64 y, .int .i64 f] 57 (0, 0))
theorem FAt.lt {w : World} {g y f : Nat} (h : FAt w g y f) : g < w.heap.size := (Array.getElem?_eq_some_iff.1 h).1
theorem FAt.c0 {w : World} {g y f : Nat} (h : FAt w g y f) : w.cell? ⟨g, 0, none⟩ = some (.int .i64 y) := by rw [cell_row h]; rfl
theorem FAt.c1 {w : World} {g y f : Nat} (h : FAt w g y f) : w.cell? ⟨g, 1, none⟩ = some (.int .i64 f) := by rw [cell_row h]; rfl
theorem FAt.fz {w : World} {g y f : Nat} (h : FAt w g y f) (j : Nat) : w.frozen? ⟨g, j, none⟩ = false := by
  unfold FAt at h
  simp [World.frozen?, h]
theorem FAt.kept {w w' : World} {g y f : Nat} (h : FAt w g y f) (hb : Below w.heap.size w w') : FAt w' g y f := by
  unfold FAt
  rw [hb.block g h.lt]
  exact h

set_option maxHeartbeats 1000000 in
theorem check_any (a : Option Addr) (n cap : Nat) (zs : List Int) (w : World) (hl : zs.length = n) (hb : Bytes w a zs) (hc : n ≤ cap) (hn : n ≤ 4611686018427387904) :
    Calls Try.prog 34 #[.slice a n cap] w fun e w' => e = .returned (.agg #[.int .i64 (whyL zs : Nat), .int .i64 (atL zs : Nat)]) ∧ Below w.heap.size w w' := by
  have hL : Hid (zs.length = n) := hl
  have hB0 : Hid (Bytes w a zs) := hb
  have k := uwhole_any a n cap zs (w.alloc (.cells #[.int .i64 0, .int .i64 0] 57)) hl (hb.kept ((Below.refl _ _).alloc (Nat.le_refl _) _)) hn
  have hle := end_le zs
  rw [hl] at hle
  by_cases he : endL zs = n
  · obtain ⟨h1, h2, -⟩ := why_none (end_text (he.trans hl.symm))
    rw [h1, h2]
    rw [he] at k
    clear hb hl he h1 h2 hle
    go_enter Try.func34, Try.ntmps34
    go_wp2_with fail
    refine k.mono ?_
    rintro e w1 ⟨rfl, hb1⟩
    have hF : FAt w1 w.heap.size 0 0 := FAt.kept (w := w.alloc _) (heap_alloc_new w _) hb1
    have c0 := hF.c0
    have c1 := hF.c1
    have f0 := hF.fz 0
    have f1 := hF.fz 1
    have hbw : Below w.heap.size w w1 := ((Below.refl w.heap.size w).alloc (Nat.le_refl _) _).trans (hb1.mono (by simp))
    clear k
    go_wp2
    refine bodyPost_ret (v := .agg #[.int .i64 0, .int .i64 0]) (by simp [results, Try.results34, go_sem, *]) rfl ⟨rfl, ?_⟩
    first | exact hbw | exact (hbw.setCell (Nat.le_refl _) _).setCell (Nat.le_refl _) _
  · have hf := end_fault (b := zs) (by rw [hl]; exact he)
    have hstop := end_stop zs (by rw [hl]; omega)
    obtain ⟨h1, h2, -⟩ := why_some hf
    rw [h1, h2]
    obtain ⟨b, off, rfl⟩ := bytes_some hb (by omega)
    have hE : endL zs < n := by omega
    have k2 := fun w1 (h : Bytes w1 (some ⟨b, off, none⟩) zs) => begun_any b (off + endL zs) (n - endL zs) (cap - endL zs) (zs.drop (endL zs)) w1 (by rw [List.length_drop, hl]) (by omega) (h.drop _) hstop (by omega)
    have i1 : (cap = endL zs) = False := by simp; omega
    have i2 : ((endL zs : Nat) : Int) ≤ (n : Int) := by omega
    have i4 : ((endL zs : Nat) : Int) ≤ (cap : Int) := by omega
    have i3 : (((endL zs : Nat) : Int) == (n : Int)) = false := by simp; omega
    have hbl : endL zs + badB (zs.drop (endL zs)) ≤ n := by
      have := fault_le zs _ hf
      omega
    clear hb hl he h1 h2 hle hf hstop
    generalize endL zs = E at *
    generalize badB (zs.drop E) = B at *
    have k3 : Hid _ := k2
    clear k2
    go_enter Try.func34, Try.ntmps34
    go_wp2_with fail
    refine k.mono ?_
    rintro e w1 ⟨rfl, hb1⟩
    have hbw : Below w.heap.size w w1 := ((Below.refl w.heap.size w).alloc (Nat.le_refl _) _).trans (hb1.mono (by simp))
    have kk := k3.out w1 (hB0.out.kept hbw)
    have hF : FAt w1 w.heap.size 0 0 := FAt.kept (w := w.alloc _) (heap_alloc_new w _) hb1
    have c0 := hF.c0
    have c1 := hF.c1
    have f0 := hF.fz 0
    have f1 := hF.fz 1
    clear k
    go_wp2_with (go_at_call 46; refine kk.mono ?_; rintro e w' ⟨rfl, hw⟩; obtain rfl : w1 = w' := hw.symm)
    have hv : IntKind.i64.wrap ((E : Int) + (B : Int)) = ((E + B : Nat) : Int) := by rw [IntKind.wrap_i64] <;> omega
    refine bodyPost_ret (v := .agg #[.int .i64 6, .int .i64 ((E + B : Nat) : Int)]) (by simp [results, Try.results34, go_sem, *]) rfl ⟨rfl, ?_⟩
    first | exact hbw | exact (hbw.setCell (Nat.le_refl _) _).setCell (Nat.le_refl _) _
end Go.Proofs.Ytkealjaealeojab
