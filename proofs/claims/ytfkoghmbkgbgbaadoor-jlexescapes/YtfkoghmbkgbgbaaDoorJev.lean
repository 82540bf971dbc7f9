/-
  A text as a string: the document's Escape.
-/
import Derived.Test.YtfkoghmbkgbgbaaDoorJal
import Derived.Test.YtfkoghmbkgbgbaaDoorUrr
namespace Go.Proofs.YtfkoghmbkgbgbaaDoor
open Go.RowKit
set_option linter.unusedVariables false

/-- Where a byte stands among the seven that have a short form (7: nowhere). -/
def ixN (c : Nat) : Nat := if c = 34 then 0 else if c = 92 then 1 else if c = 8 then 2 else if c = 9 then 3 else if c = 10 then 4 else if c = 12 then 5 else if c = 13 then 6 else 7
def toN (k : Nat) : Nat := if k = 0 then 34 else if k = 1 then 92 else if k = 2 then 98 else if k = 3 then 116 else if k = 4 then 110 else if k = 5 then 102 else 114
/-- How the document writes one byte. -/
def vbR (c : Nat) : List Int := if ixN c < 7 then [92, (toN (ixN c) : Int)] else if c < 32 then [92, 117, 48, 48, (hexN (c / 16) : Int), (hexN (c % 16) : Int)] else [(c : Int)]
def vbAll : List Int → List Int
  | [] => []
  | c :: l => vbR c.toNat ++ vbAll l
theorem vbAll_app (a b : List Int) : vbAll (a ++ b) = vbAll a ++ vbAll b := by
  induction a with
  | nil => rfl
  | cons c a ih => simp [vbAll, ih]
theorem vb_small : ∀ r : Nat, r < 128 → vbR r = escR r := by decide
theorem vb_big {r : Nat} (h : 128 ≤ r) : vbR r = [(r : Int)] := by
  have h1 : ixN r = 7 := by unfold ixN; rw [if_neg (by omega), if_neg (by omega), if_neg (by omega), if_neg (by omega), if_neg (by omega), if_neg (by omega), if_neg (by omega)]
  unfold vbR
  rw [h1, if_neg (by decide), if_neg (by omega)]
theorem vb_enc {r : Nat} (hr : Right r) : vbAll (encL r) = escR r := by
  by_cases h : r < 128
  · rw [← vb_small r h]
    unfold encL
    rw [if_pos h]
    simp [vbAll]
  · have he : escR r = encL r := by
      unfold escR
      rw [if_neg (by rw [mean_big h]; decide), if_neg (by omega)]
    rw [he]
    have key : ∀ l : List Int, (∀ c ∈ l, 128 ≤ c) → vbAll l = l := by
      intro l
      induction l with
      | nil => intro _; rfl
      | cons c l ih =>
        intro hl
        have hc := hl c (by simp)
        unfold vbAll
        rw [ih (fun x hx => hl x (by simp [hx])), vb_big (by omega)]
        simp; omega
    refine key _ ?_
    unfold encL
    unfold Right at hr
    rw [if_neg h]
    intro c hc
    split at hc
    · simp at hc; omega
    · split at hc
      · simp at hc; omega
      · simp at hc; omega
theorem vb_text (b : List Int) (hz : ∀ c ∈ b, 0 ≤ c ∧ c < 256) : (runesL b).2 = none → vbAll b = escAll (runesL b).1 := by
  revert hz
  induction b using text_ind with
  | nil => intro _ _; rfl
  | good b h0 hg ih =>
    intro hz hn
    rw [runes_good h0 hg] at hn ⊢
    have hn2 : (runesL (b.drop (lenB b))).2 = none := by simpa using hn
    rw [escAll_cons, ← ih (fun c hc => hz c (List.mem_of_mem_drop hc)) hn2, ← vb_enc (good_right hg), enc_val hz h0 hg, ← vbAll_app, List.take_append_drop]
  | bad b h0 hg =>
    intro _ hn
    rw [runes_bad h0 hg] at hn
    cases hn
theorem from_byte : ∀ (k : Nat) (h : k < (⟨#[34, 92, 8, 9, 10, 12, 13]⟩ : ByteArray).size), ixN ((⟨#[34, 92, 8, 9, 10, 12, 13]⟩ : ByteArray)[k]'h).toNat = k := by decide
theorem ix_byte (c k : Nat) (h : k < (⟨#[34, 92, 8, 9, 10, 12, 13]⟩ : ByteArray).size) (hk : ixN c = k) : ((⟨#[34, 92, 8, 9, 10, 12, 13]⟩ : ByteArray)[k]'h).toNat = c := by
  subst hk
  have h7 : ixN c < 7 := h
  revert h
  unfold ixN at h7 ⊢
  by_cases h1 : c = 34
  · subst h1; intro h; rfl
  by_cases h2 : c = 92
  · subst h2; intro h; rfl
  by_cases h3 : c = 8
  · subst h3; intro h; rfl
  by_cases h4 : c = 9
  · subst h4; intro h; rfl
  by_cases h5 : c = 10
  · subst h5; intro h; rfl
  by_cases h6 : c = 12
  · subst h6; intro h; rfl
  by_cases h8 : c = 13
  · subst h8; intro h; rfl
  rw [if_neg h1, if_neg h2, if_neg h3, if_neg h4, if_neg h5, if_neg h6, if_neg h8] at h7
  omega
theorem to_ext : ∀ k : Nat, k < 7 → bs ((⟨#[34, 92, 98, 116, 110, 102, 114]⟩ : ByteArray).extract k (k + 1)) = [(toN k : Int)] := by decide
theorem bs_app (a b : ByteArray) : bs (a ++ b) = bs a ++ bs b := by
  unfold bs
  rw [ByteArray.data_append, Array.toList_append, List.map_append]
theorem conv_two (w : World) (a b : UInt8) : (convert 22 9 (.slice (some ⟨w.heap.size, 0, none⟩) 2 2)).run Tryd.prog (w.alloc (.cells #[.int .u8 (a.toNat : Int), .int .u8 (b.toNat : Int)] 5)) = .ok (.string (strOfNums [(a.toNat : Int), (b.toNat : Int)])) (w.alloc (.cells #[.int .u8 (a.toNat : Int), .int .u8 (b.toNat : Int)] 5)) := by
  have hb := bytes_row w [(a.toNat : Int), (b.toNat : Int)] (0, 0) (by intro c hc; simp at hc; have := a.toNat_lt; have := b.toNat_lt; omega) (by simp [maxLen])
  exact conv_str hb 2 2 rfl
theorem conv_twoD (w : World) (a b : UInt8) : (convert 22 9 (.slice (some ⟨w.heap.size, 0, none⟩) 2 2)).run Tryd.prog (w.alloc (.cells #[.int .u8 (a.toNat : Int), .int .u8 (b.toNat : Int)] 5)).drew = .ok (.string (strOfNums [(a.toNat : Int), (b.toNat : Int)])) (w.alloc (.cells #[.int .u8 (a.toNat : Int), .int .u8 (b.toNat : Int)] 5)).drew := by
  have hb := bytes_row w [(a.toNat : Int), (b.toNat : Int)] (0, 0) (by intro c hc; simp at hc; have := a.toNat_lt; have := b.toNat_lt; omega) (by simp [maxLen])
  have hb2 : Bytes (w.alloc (.cells #[.int .u8 (a.toNat : Int), .int .u8 (b.toNat : Int)] 5)).drew (some ⟨w.heap.size, 0, none⟩) [(a.toNat : Int), (b.toNat : Int)] := hb
  exact conv_str hb2 2 2 rfl
theorem conv_one (w : World) (c : Nat) (h : c < 256) : (convert 22 9 (.slice (some ⟨w.heap.size, 0, none⟩) 1 1)).run Tryd.prog (w.alloc (.cells #[.int .u8 (c : Int)] 5)) = .ok (.string (strOfNums [(c : Int)])) (w.alloc (.cells #[.int .u8 (c : Int)] 5)) := by
  have hb := bytes_row w [(c : Int)] (0, 0) (by intro x hc; simp at hc; omega) (by simp [maxLen])
  exact conv_str hb 1 1 rfl
end Go.Proofs.YtfkoghmbkgbgbaaDoor
