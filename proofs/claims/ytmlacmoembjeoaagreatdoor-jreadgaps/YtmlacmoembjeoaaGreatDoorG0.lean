/-
  Natural numbers as digits, as plain lists of bytes: which are numbers, what they are worth, the one form of a number, and how two stand. No program is named here.
  Digits and groups of digits, the lowest first, to whatever base: what they are worth, what is added to one of them, what is carried, and what is divided. No program is named here.
  Numbers as texts of bytes, and what each call of the document answers, said over the numbers alone.
-/
import Derived.Laws.BytesArg
import Derived.Lib.Bytealg
import Derived.Lib.Small
namespace Go.Proofs.YtmlacmoembjeoaaGreatDoor

/-- Digits. -/
def Digs (s : List Int) : Prop := ∀ c ∈ s, 48 ≤ c ∧ c ≤ 57
/-- What digits are worth, the highest first. -/
def valS (s : List Int) : Nat := s.foldl (fun n c => n * 10 + (c - 48).toNat) 0
/-- A number's form: a digit at least, and no needless 0 ahead. -/
def Canon (s : List Int) : Prop := s ≠ [] ∧ Digs s ∧ (s.getD 0 0 = 48 → s.length = 1)
/-- A number. -/
def RightS (s : List Int) : Prop := Canon s ∧ s.length ≤ 800
/-- The digits of n, k more at most than one. -/
def numF : Nat → Nat → List Int
  | 0, n => [((48 + n % 10 : Nat) : Int)]
  | k + 1, n => if n < 10 then [((48 + n : Nat) : Int)] else numF k (n / 10) ++ [((48 + n % 10 : Nat) : Int)]
/-- THE ONE FORM OF A NUMBER. -/
def numL (n : Nat) : List Int := numF n n

theorem digs_append {s t : List Int} (h1 : Digs s) (h2 : Digs t) : Digs (s ++ t) := fun c hc => by
  rcases List.mem_append.1 hc with h | h
  · exact h1 c h
  · exact h2 c h
end Go.Proofs.YtmlacmoembjeoaaGreatDoor
namespace Go.Proofs.YtmlacmoembjeoaaGreatDoor

/-! ### Settled: what is carried and borrowed -/

/-! ### Six digits of a group -/

/-! ### Divided, the highest first -/
end Go.Proofs.YtmlacmoembjeoaaGreatDoor
namespace Go.Proofs.YtmlacmoembjeoaaGreatDoor
open Go

/-- A text's bytes. -/
def bs (s : ByteArray) : List Int := s.data.toList.map fun b => ((b.toNat : Nat) : Int)
theorem bs_bytes (s : ByteArray) : ∀ c ∈ bs s, 0 ≤ c ∧ c < 256 := fun c hc => by
  obtain ⟨b, _, rfl⟩ := List.mem_map.1 hc
  have := b.toNat_lt
  omega
theorem bs_len (s : ByteArray) : (bs s).length = s.size := by unfold bs; rw [List.length_map, Array.length_toList]; rfl
theorem bs_str {l : List Int} (h : ∀ c ∈ l, 0 ≤ c ∧ c < 256) : bs (strOfNums l) = l := by
  unfold bs
  rw [strOfNums_data, List.map_map]
  have e : ∀ c ∈ l, ((fun b : UInt8 => ((b.toNat : Nat) : Int)) ∘ fun n : Int => UInt8.ofNat n.toNat) c = c := fun c hc => by
    have := h c hc
    simp only [Function.comp_apply]
    rw [UInt8.toNat_ofNat', Nat.mod_eq_of_lt (by omega)]
    omega
  rw [List.map_congr_left e, List.map_id']
theorem str_bs (s : ByteArray) : strOfNums (bs s) = s := by
  unfold bs strOfNums
  rw [List.map_map]
  have e : ((fun n : Int => UInt8.ofNat n.toNat) ∘ fun b : UInt8 => ((b.toNat : Nat) : Int)) = id := by
    funext b
    simp
  rw [e, List.map_id]
theorem bs_inj {s t : ByteArray} (h : bs s = bs t) : s = t := by rw [← str_bs s, ← str_bs t, h]
/-- A number's text. -/
def txt (n : Nat) : ByteArray := strOfNums (numL n)
theorem digs_bytes {l : List Int} (h : Digs l) : ∀ c ∈ l, 0 ≤ c ∧ c < 256 := fun c hc => by have := h c hc; omega
/-- The greatest number, and one. -/
def top : Nat := 10 ^ 800
/-- Whether a text is a number. -/
def rightT (l : List Int) : Bool := !l.isEmpty && (decide (l.length ≤ 800) && ((l.getD 0 0 != 48 || l.length == 1) && l.all fun c => decide (48 ≤ c) && decide (c ≤ 57)))
theorem right_iff (l : List Int) : rightT l = true ↔ RightS l := by
  unfold rightT RightS Canon Digs
  simp only [Bool.and_eq_true, Bool.or_eq_true, Bool.not_eq_true', List.isEmpty_eq_false_iff, decide_eq_true_eq, bne_iff_ne, beq_iff_eq, List.all_eq_true]
  constructor
  · rintro ⟨h0, h1, h2, h3⟩
    refine ⟨⟨h0, h3, fun h => ?_⟩, h1⟩
    rcases h2 with h2 | h2
    · exact absurd h h2
    · exact h2
  · rintro ⟨⟨h0, h3, h2⟩, h1⟩
    refine ⟨h0, h1, ?_, h3⟩
    by_cases h : l.getD 0 0 = 48
    · exact .inr (h2 h)
    · exact .inl h
/-- A text is a number. -/
def rt (s : ByteArray) : Bool := rightT (bs s)
theorem rt_iff (s : ByteArray) : rt s = true ↔ RightS (bs s) := right_iff _
theorem rt_not {s : ByteArray} (h : ¬ RightS (bs s)) : rt s = false := by
  cases h1 : rt s with
  | false => rfl
  | true => exact absurd ((rt_iff s).1 h1) h
/-- No text. -/
def noS : ByteArray := ⟨#[]⟩
theorem rt_size {a : ByteArray} (h : rt a = true) : 0 < a.size ∧ a.size ≤ 800 := by
  have h1 := (rt_iff a).1 h
  have h2 := List.length_pos_iff.2 h1.1.1
  rw [← bs_len]
  exact ⟨h2, h1.2⟩
end Go.Proofs.YtmlacmoembjeoaaGreatDoor
