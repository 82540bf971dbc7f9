/-
  Numbers as texts of bytes, and what each call of the document answers, said over the numbers alone.
-/
import Derived.Test.YtgfnohgpmmaocaaDoorGrp
import Derived.Laws.BytesArg
import Derived.Lib.Bytealg
import Derived.Lib.Small
namespace Go.Proofs.YtgfnohgpmmaocaaDoor
open Go

/-- A text's bytes. -/
def bs (s : ByteArray) : List Int := s.data.toList.map fun b => ((b.toNat : Nat) : Int)
theorem bs_bytes (s : ByteArray) : ∀ c ∈ bs s, 0 ≤ c ∧ c < 256 := fun c hc => by
  obtain ⟨b, _, rfl⟩ := List.mem_map.1 hc
  have := b.toNat_lt
  omega
theorem bs_len (s : ByteArray) : (bs s).length = s.size := by unfold bs; rw [List.length_map, Array.length_toList]; rfl
theorem bs_str {l : List Int} (h : ∀ c ∈ l, 0 ≤ c ∧ c < 256) : bs (strOfNums l) = l := by
  unfold bs
  rw [strOfNums_data, List.map_map]
  have e : ∀ c ∈ l, ((fun b : UInt8 => ((b.toNat : Nat) : Int)) ∘ fun n : Int => UInt8.ofNat n.toNat) c = c := fun c hc => by
    have := h c hc
    simp only [Function.comp_apply]
    rw [UInt8.toNat_ofNat', Nat.mod_eq_of_lt (by omega)]
    omega
  rw [List.map_congr_left e, List.map_id']
theorem str_bs (s : ByteArray) : strOfNums (bs s) = s := by
  unfold bs strOfNums
  rw [List.map_map]
  have e : ((fun n : Int => UInt8.ofNat n.toNat) ∘ fun b : UInt8 => ((b.toNat : Nat) : Int)) = id := by
    funext b
    simp
  rw [e, List.map_id]
theorem bs_inj {s t : ByteArray} (h : bs s = bs t) : s = t := by rw [← str_bs s, ← str_bs t, h]
/-- A number's text. -/
def txt (n : Nat) : ByteArray := strOfNums (numL n)
theorem digs_bytes {l : List Int} (h : Digs l) : ∀ c ∈ l, 0 ≤ c ∧ c < 256 := fun c hc => by have := h c hc; omega
theorem bs_txt (n : Nat) : bs (txt n) = numL n := bs_str (digs_bytes (num_digs n))
/-- What a text is worth. -/
def val (s : ByteArray) : Nat := valS (bs s)
theorem val_txt (n : Nat) : val (txt n) = n := by unfold val; rw [bs_txt, val_num]
theorem txt_val {s : ByteArray} (h : Canon (bs s)) : txt (val s) = s := bs_inj (by rw [bs_txt]; exact num_val h)
theorem txt_inj {m n : Nat} (h : txt m = txt n) : m = n := by rw [← val_txt m, ← val_txt n, h]
/-- The greatest number, and one. -/
def top : Nat := 10 ^ 800
/-- Whether a text is a number. -/
def rightT (l : List Int) : Bool := !l.isEmpty && (decide (l.length ≤ 800) && ((l.getD 0 0 != 48 || l.length == 1) && l.all fun c => decide (48 ≤ c) && decide (c ≤ 57)))
theorem right_iff (l : List Int) : rightT l = true ↔ RightS l := by
  unfold rightT RightS Canon Digs
  simp only [Bool.and_eq_true, Bool.or_eq_true, Bool.not_eq_true', List.isEmpty_eq_false_iff, decide_eq_true_eq, bne_iff_ne, beq_iff_eq, List.all_eq_true]
  constructor
  · rintro ⟨h0, h1, h2, h3⟩
    refine ⟨⟨h0, h3, fun h => ?_⟩, h1⟩
    rcases h2 with h2 | h2
    · exact absurd h h2
    · exact h2
  · rintro ⟨⟨h0, h3, h2⟩, h1⟩
    refine ⟨h0, h1, ?_, h3⟩
    by_cases h : l.getD 0 0 = 48
    · exact .inr (h2 h)
    · exact .inl h
/-- A text is a number. -/
def rt (s : ByteArray) : Bool := rightT (bs s)
theorem rt_iff (s : ByteArray) : rt s = true ↔ RightS (bs s) := right_iff _
theorem rt_not {s : ByteArray} (h : ¬ RightS (bs s)) : rt s = false := by
  cases h1 : rt s with
  | false => rfl
  | true => exact absurd ((rt_iff s).1 h1) h
theorem right_lt {s : ByteArray} (h : rt s = true) : val s < top := by
  have h1 := (rt_iff s).1 h
  have h2 := val_lt h1.1.2.1
  unfold top
  have h3 : ∀ m, (bs s).length ≤ m → 10 ^ (bs s).length ≤ 10 ^ m := fun m h => Nat.pow_le_pow_right (by omega) h
  exact Nat.lt_of_lt_of_le h2 (h3 800 h1.2)
theorem rt_txt {n : Nat} (h : n < top) : rt (txt n) = true := by
  rw [rt_iff, bs_txt]
  unfold top at h
  exact right_num.2 h
theorem txt_rt {s : ByteArray} (h : rt s = true) : txt (val s) = s := txt_val ((rt_iff s).1 h).1
theorem txt_size {n : Nat} : (txt n).size = (numL n).length := by unfold txt; rw [strOfNums_size]
theorem txt_long {n : Nat} : 800 < (txt n).size ↔ top ≤ n := by
  rw [txt_size]
  have := num_len (n := n) (k := 800) (by omega)
  unfold top
  omega
/-- No text. -/
def noS : ByteArray := ⟨#[]⟩
/-- A number, if it is not too long. -/
def shortA (n : Nat) : ByteArray × Int := if n < top then (txt n, 0) else (noS, 11)
def addA (a b : ByteArray) : ByteArray × Int := if rt a = true ∧ rt b = true then shortA (val a + val b) else (noS, 1)
def mulA (a b : ByteArray) : ByteArray × Int := if rt a = true ∧ rt b = true then shortA (val a * val b) else (noS, 1)
def subA (a b : ByteArray) : ByteArray × Int := if rt a = true ∧ rt b = true ∧ val b ≤ val a then (txt (val a - val b), 0) else (noS, 1)
def cmpN (m n : Nat) : Int := if m < n then -1 else if n < m then 1 else 0
def ordA (a b : ByteArray) : Int × Int := if rt a = true ∧ rt b = true then (cmpN (val a) (val b), 0) else (0, 1)
def divA (a : ByteArray) (d : Int) : ByteArray × Int × Int := if rt a = true ∧ 1 ≤ d ∧ d ≤ 1000000 then (txt (val a / d.toNat), ((val a % d.toNat : Nat) : Int), 0) else (noS, 0, 1)
def powA (b n : Int) : ByteArray × Int := if (0 ≤ b ∧ b ≤ 1000000) ∧ 0 ≤ n ∧ n ≤ 4000 then shortA (b.toNat ^ n.toNat) else (noS, 1)
def frbA (z : List Int) : ByteArray × Int := if z.length ≤ 400 then shortA (bytV z) else (noS, 11)
def tobA (s : ByteArray) : List Int × Int := if rt s = true then (byL (val s), 0) else ([], 1)
def towA (s : ByteArray) : Int × Bool := if rt s = true ∧ val s < 18446744073709551616 then (((val s : Nat) : Int), true) else (0, false)

/-- How two rows of digits of one length stand. -/
theorem cmp_digs : ∀ (a b : List UInt8), a.length = b.length → Digs (a.map fun c => ((c.toNat : Nat) : Int)) → Digs (b.map fun c => ((c.toNat : Nat) : Int)) →
    Lib.compareBytes a b = cmpN (valS (a.map fun c => ((c.toNat : Nat) : Int))) (valS (b.map fun c => ((c.toNat : Nat) : Int)))
  | [], [], _, _, _ => rfl
  | [], _ :: _, h, _, _ => by simp at h
  | _ :: _, [], h, _, _ => by simp at h
  | x :: a, y :: b, h, ha, hb => by
    have hl : a.length = b.length := by simpa using h
    have hx : 48 ≤ ((x.toNat : Nat) : Int) ∧ ((x.toNat : Nat) : Int) ≤ 57 := ha _ (by simp)
    have hy : 48 ≤ ((y.toNat : Nat) : Int) ∧ ((y.toNat : Nat) : Int) ≤ 57 := hb _ (by simp)
    have ha' : Digs (a.map fun c => ((c.toNat : Nat) : Int)) := fun c hc => ha c (by rw [List.map_cons]; exact List.mem_cons_of_mem _ hc)
    have hb' : Digs (b.map fun c => ((c.toNat : Nat) : Int)) := fun c hc => hb c (by rw [List.map_cons]; exact List.mem_cons_of_mem _ hc)
    have hl' : (a.map fun c => ((c.toNat : Nat) : Int)).length = (b.map fun c => ((c.toNat : Nat) : Int)).length := by rw [List.length_map, List.length_map, hl]
    have ih := cmp_digs a b hl ha' hb'
    rw [List.map_cons, List.map_cons]
    unfold Lib.compareBytes
    generalize (a.map fun c => ((c.toNat : Nat) : Int)) = A at *
    generalize (b.map fun c => ((c.toNat : Nat) : Int)) = B at *
    by_cases h1 : x < y
    · rw [if_pos h1]
      have h2 : x.toNat < y.toNat := h1
      have h3 := head_lt ha' hl' hx hy (by omega)
      unfold cmpN
      rw [if_pos h3]
    · rw [if_neg h1]
      have h1' : ¬ x.toNat < y.toNat := h1
      by_cases h2 : y < x
      · rw [if_pos h2]
        have h3 : y.toNat < x.toNat := h2
        have h4 := head_lt hb' hl'.symm hy hx (by omega)
        unfold cmpN
        rw [if_neg (by omega), if_pos h4]
      · rw [if_neg h2, ih]
        have h2' : ¬ y.toNat < x.toNat := h2
        have e : x.toNat = y.toNat := by omega
        rw [e]
        have h3 := head_same (c := ((y.toNat : Nat) : Int)) hl'
        have h4 := head_same (c := ((y.toNat : Nat) : Int)) hl'.symm
        unfold cmpN
        by_cases h5 : valS A < valS B
        · rw [if_pos h5, if_pos (h3.2 h5)]
        · rw [if_neg h5, if_neg fun h => h5 (h3.1 h)]
          by_cases h6 : valS B < valS A
          · rw [if_pos h6, if_pos (h4.2 h6)]
          · rw [if_neg h6, if_neg fun h => h6 (h4.1 h)]
theorem cmp_same {a b : ByteArray} (ha : rt a = true) (hb : rt b = true) (h : a.size = b.size) : Lib.compareBytes a.data.toList b.data.toList = cmpN (val a) (val b) :=
  cmp_digs a.data.toList b.data.toList (by rw [Array.length_toList, Array.length_toList]; exact h) ((rt_iff a).1 ha).1.2.1 ((rt_iff b).1 hb).1.2.1
theorem cmp_short {a b : ByteArray} (ha : rt a = true) (hb : rt b = true) (h : a.size < b.size) : val a < val b := by
  have h1 := (rt_iff a).1 ha
  have h2 := (rt_iff b).1 hb
  exact len_lt h1.1.1 h1.1.2.1 h2.1 (by rw [bs_len, bs_len]; exact h)
theorem cmp_len {a b : ByteArray} (ha : rt a = true) (hb : rt b = true) (h : a.size ≠ b.size) : Lib.compareInt (a.size : Int) (b.size : Int) = cmpN (val a) (val b) := by
  unfold Lib.compareInt cmpN
  rcases Nat.lt_or_gt_of_ne h with h1 | h1
  · rw [if_pos (by omega), if_pos (cmp_short ha hb h1)]
  · have := cmp_short hb ha h1
    rw [if_neg (by omega), if_pos (by omega), if_neg (by omega), if_pos this]
theorem rt_size {a : ByteArray} (h : rt a = true) : 0 < a.size ∧ a.size ≤ 800 := by
  have h1 := (rt_iff a).1 h
  have h2 := List.length_pos_iff.2 h1.1.1
  rw [← bs_len]
  exact ⟨h2, h1.2⟩
/-- Texts that are worth the same are the same. -/
theorem val_inj {a b : ByteArray} (ha : rt a = true) (hb : rt b = true) (h : val a = val b) : a = b := by rw [← txt_rt ha, ← txt_rt hb, h]
end Go.Proofs.YtgfnohgpmmaocaaDoor
