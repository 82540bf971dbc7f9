/-
  How two numbers stand: by their first digit's place, then digit by digit.
-/
import Derived.Test.YtjdceigndleadaaDoorDans
namespace Go.Proofs.YtjdceigndleadaaDoor
open Go

/-- The last digit is none of 0. -/
def NZ (l : List Int) : Prop := l.getLast? ≠ some 48
theorem nz_tail {c : Int} {l : List Int} (h : NZ (c :: l)) : NZ l := by
  unfold NZ at *
  cases l with
  | nil => simp
  | cons d l => rwa [List.getLast?_cons_cons] at h
theorem nz_pos {l : List Int} (hd : Digs l) (h : NZ l) (h0 : l ≠ []) : 0 < valS l := by
  obtain ⟨t, c, rfl⟩ : ∃ t c, l = t ++ [c] := ⟨l.dropLast, l.getLast h0, (List.dropLast_concat_getLast h0).symm⟩
  have hc := hd c (by simp)
  have h1 : c ≠ 48 := fun h1 => h (by rw [h1]; simp)
  rw [val_snoc]
  omega
theorem form_nz {n : Bool} {s : List Int} {e : Int} (h : FormD n s e) (h0 : s ≠ [48]) : NZ s := by
  have h1 := (h.2.2 h0).1
  intro h2
  apply h1
  have h3 := h.1.1.1
  rw [List.getD_eq_getElem?_getD, ← List.getLast?_eq_getElem?, h2]
  rfl
theorem cmpN_scale {m n k : Nat} (hk : 0 < k) : cmpN (m * k) (n * k) = cmpN m n := by
  unfold cmpN
  simp only [Nat.mul_lt_mul_right hk]
theorem lex_digs : ∀ (a b : List UInt8), Digs (numsU a) → Digs (numsU b) → NZ (numsU a) → NZ (numsU b) →
    Lib.compareBytes a b = cmpN (valS (numsU a) * 10 ^ b.length) (valS (numsU b) * 10 ^ a.length)
  | [], [], _, _, _, _ => rfl
  | [], y :: b, _, hb, _, nb => by
    have h := nz_pos hb nb (by simp [numsU])
    have e : valS (numsU []) = 0 := rfl
    rw [e]
    show (-1 : Int) = _
    unfold cmpN
    rw [if_pos (by simp; exact h)]
  | x :: a, [], ha, _, na, _ => by
    have h := nz_pos ha na (by simp [numsU])
    have e : valS (numsU []) = 0 := rfl
    rw [e]
    show (1 : Int) = _
    unfold cmpN
    rw [if_neg (by simp), if_pos (by simp; exact h)]
  | x :: a, y :: b, ha, hb, na, nb => by
    have hx : 48 ≤ ((x.toNat : Nat) : Int) ∧ ((x.toNat : Nat) : Int) ≤ 57 := ha _ (by simp [numsU])
    have hy : 48 ≤ ((y.toNat : Nat) : Int) ∧ ((y.toNat : Nat) : Int) ≤ 57 := hb _ (by simp [numsU])
    have ha' : Digs (numsU a) := fun c hc => ha c (List.mem_cons_of_mem _ hc)
    have hb' : Digs (numsU b) := fun c hc => hb c (List.mem_cons_of_mem _ hc)
    have ih := lex_digs a b ha' hb' (nz_tail na) (nz_tail nb)
    have va := val_lt ha'
    have vb := val_lt hb'
    have la : (numsU a).length = a.length := by simp [numsU]
    have lb : (numsU b).length = b.length := by simp [numsU]
    have ea : valS (numsU (x :: a)) = (x.toNat - 48) * 10 ^ a.length + valS (numsU a) := by
      show valS (((x.toNat : Nat) : Int) :: numsU a) = _
      rw [val_cons, la]
      congr 2
      omega
    have eb : valS (numsU (y :: b)) = (y.toNat - 48) * 10 ^ b.length + valS (numsU b) := by
      show valS (((y.toNat : Nat) : Int) :: numsU b) = _
      rw [val_cons, lb]
      congr 2
      omega
    rw [la] at va
    rw [lb] at vb
    rw [ea, eb, List.length_cons, List.length_cons, Nat.pow_succ, Nat.pow_succ]
    unfold Lib.compareBytes
    generalize valS (numsU a) = A at *
    generalize valS (numsU b) = B at *
    have pa : 0 < 10 ^ a.length := Nat.pow_pos (by decide)
    have pb : 0 < 10 ^ b.length := Nat.pow_pos (by decide)
    generalize 10 ^ a.length = P at *
    generalize 10 ^ b.length = Q at *
    obtain ⟨d, hd⟩ : ∃ d, x.toNat - 48 = d := ⟨_, rfl⟩
    obtain ⟨f, hf⟩ : ∃ f, y.toNat - 48 = f := ⟨_, rfl⟩
    rw [hd, hf]
    have e1 : (d * P + A) * (Q * 10) = (d * (P * Q) + A * Q) * 10 := by
      rw [← Nat.mul_assoc, Nat.add_mul, Nat.mul_assoc d P Q]
    have e2 : (f * Q + B) * (P * 10) = (f * (P * Q) + B * P) * 10 := by
      rw [← Nat.mul_assoc, Nat.add_mul, Nat.mul_assoc f Q P, Nat.mul_comm Q P]
    rw [e1, e2, cmpN_scale (by decide)]
    have hA : A * Q < P * Q := (Nat.mul_lt_mul_right pb).2 va
    have hB : B * P < P * Q := by rw [Nat.mul_comm P Q]; exact (Nat.mul_lt_mul_right pa).2 vb
    generalize A * Q = U at *
    generalize B * P = V at *
    generalize P * Q = W at *
    by_cases h1 : x < y
    · rw [if_pos h1]
      have h2 : x.toNat < y.toNat := h1
      have h3 : (d + 1) * W ≤ f * W := Nat.mul_le_mul_right _ (by omega)
      rw [Nat.add_mul, Nat.one_mul] at h3
      unfold cmpN
      rw [if_pos (by omega)]
    · rw [if_neg h1]
      by_cases h2 : y < x
      · rw [if_pos h2]
        have h2' : y.toNat < x.toNat := h2
        have h3 : (f + 1) * W ≤ d * W := Nat.mul_le_mul_right _ (by omega)
        rw [Nat.add_mul, Nat.one_mul] at h3
        unfold cmpN
        rw [if_neg (by omega), if_pos (by omega)]
      · rw [if_neg h2]
        have h1' : ¬ x.toNat < y.toNat := h1
        have h2' : ¬ y.toNat < x.toNat := h2
        have e : d = f := by omega
        rw [ih, e]
        unfold cmpN
        simp only [Nat.add_lt_add_iff_left]
/-- How two stand, their signs aside, as the program tells it. -/
def sizesA (s : ByteArray) (x : Int) (t : ByteArray) (y : Int) : Int :=
  if Lib.compareInt ((s.size : Int) + x) ((t.size : Int) + y) ≠ 0 then Lib.compareInt ((s.size : Int) + x) ((t.size : Int) + y) else Lib.compareBytes s.data.toList t.data.toList
theorem key_low {n m : Bool} {s t : List Int} {e f : Int} (hs : FormD n s e) (ht : FormD m t f) (h0 : t ≠ [48]) (h : (s.length : Int) + e < (t.length : Int) + f) : key s e < key t f := by
  have es := form_exp hs
  have et := form_exp ht
  have v1 := val_lt hs.1.1.2.1
  have v2 := val_ge ht.1.1 (fun h1 => h0 ((form_zero ht).1 h1))
  have lt := List.length_pos_iff.2 ht.1.1.1
  unfold key
  have h1 : valS s * 10 ^ (e + 2000).toNat < 10 ^ s.length * 10 ^ (e + 2000).toNat := (Nat.mul_lt_mul_right (Nat.pow_pos (by decide))).2 v1
  have h2 : 10 ^ (t.length - 1) * 10 ^ (f + 2000).toNat ≤ valS t * 10 ^ (f + 2000).toNat := Nat.mul_le_mul_right _ v2
  rw [← Nat.pow_add] at h1 h2
  have h3 : 10 ^ (s.length + (e + 2000).toNat) ≤ 10 ^ (t.length - 1 + (f + 2000).toNat) := Nat.pow_le_pow_right (by decide) (by omega)
  omega
theorem cmpN_int (m n : Nat) : cmpN m n = cmpI (m : Int) (n : Int) := by
  unfold cmpN cmpI
  simp only [Int.ofNat_lt]
theorem sizes_key {n m : Bool} {s t : ByteArray} {e f : Int} (hs : FormD n (bs s) e) (ht : FormD m (bs t) f) (hs0 : bs s ≠ [48]) (ht0 : bs t ≠ [48]) : sizesA s e t f = cmpI (key (bs s) e : Nat) (key (bs t) f : Nat) := by
  have es := form_exp hs
  have et := form_exp ht
  unfold sizesA
  have cI : ∀ x y : Int, Lib.compareInt x y = cmpI x y := fun x y => by unfold Lib.compareInt cmpI; rfl
  rw [cI]
  by_cases h1 : (s.size : Int) + e < (t.size : Int) + f
  · have h2 := key_low hs ht ht0 (by rw [bs_len, bs_len]; exact h1)
    have h3 : cmpI ((s.size : Int) + e) ((t.size : Int) + f) = -1 := by unfold cmpI; rw [if_pos h1]
    rw [h3, if_pos (by decide)]
    unfold cmpI
    rw [if_pos (by omega)]
  by_cases h2 : (t.size : Int) + f < (s.size : Int) + e
  · have h2' := key_low ht hs hs0 (by rw [bs_len, bs_len]; exact h2)
    have h3 : cmpI ((s.size : Int) + e) ((t.size : Int) + f) = 1 := by unfold cmpI; rw [if_neg h1, if_pos h2]
    rw [h3, if_pos (by decide)]
    unfold cmpI
    rw [if_neg (by omega), if_pos (by omega)]
  · have h3 : cmpI ((s.size : Int) + e) ((t.size : Int) + f) = 0 := by unfold cmpI; rw [if_neg h1, if_neg h2]
    rw [h3, if_neg (by simp)]
    have hl := lex_digs s.data.toList t.data.toList hs.1.1.2.1 ht.1.1.2.1 (form_nz hs hs0) (form_nz ht ht0)
    rw [hl, ← cmpN_int]
    have e1 : s.data.toList.length = s.size := by rw [Array.length_toList]; rfl
    have e2 : t.data.toList.length = t.size := by rw [Array.length_toList]; rfl
    rw [e1, e2]
    unfold key
    have hb1 : numsU s.data.toList = bs s := rfl
    have hb2 : numsU t.data.toList = bs t := rfl
    rw [hb1, hb2]
    generalize valS (bs s) = A
    generalize valS (bs t) = B
    obtain ⟨E, hE⟩ : ∃ E, (e + 2000).toNat = E := ⟨_, rfl⟩
    obtain ⟨F, hF⟩ : ∃ F, (f + 2000).toNat = F := ⟨_, rfl⟩
    rw [hE, hF]
    have hEF : E + s.size = F + t.size := by omega
    rw [← cmpN_scale (m := A * 10 ^ t.size) (k := 10 ^ E) (Nat.pow_pos (by decide)), ← cmpN_scale (m := A * 10 ^ E) (k := 10 ^ t.size) (Nat.pow_pos (by decide))]
    have e3 : A * 10 ^ t.size * 10 ^ E = A * 10 ^ E * 10 ^ t.size := by rw [Nat.mul_assoc, Nat.mul_assoc, Nat.mul_comm (10 ^ t.size)]
    have e4 : B * 10 ^ s.size * 10 ^ E = B * 10 ^ F * 10 ^ t.size := by rw [Nat.mul_assoc, Nat.mul_assoc, ← Nat.pow_add, ← Nat.pow_add, Nat.add_comm s.size, hEF]
    rw [e3, e4]
/-- Where a number stands to 0. -/
def signA (n : Bool) (s : ByteArray) (x : Int) : Int := if n = false ∧ s = zS ∧ x = 0 then 0 else if n = true then -1 else 1
def orderA (a b : Nm) : Int × Int := if rtN a.1 a.2.1 a.2.2 = true ∧ rtN b.1 b.2.1 b.2.2 = true then (cmpI (skey a.1 (bs a.2.1) a.2.2) (skey b.1 (bs b.2.1) b.2.2), 0) else (0, 1)
theorem sign_cases {n : Bool} {s : ByteArray} {x : Int} (h : rtN n s x = true) :
    (signA n s x = 0 ∧ n = false ∧ bs s = [48] ∧ key (bs s) x = 0) ∨ (signA n s x = -1 ∧ n = true ∧ bs s ≠ [48] ∧ 0 < key (bs s) x) ∨ (signA n s x = 1 ∧ n = false ∧ bs s ≠ [48] ∧ 0 < key (bs s) x) := by
  have hf := (rtN_iff n s x).1 h
  have hk := form_key hf
  unfold signA
  by_cases h0 : bs s = [48]
  · obtain ⟨h1, h2⟩ := hf.2.1 h0
    rw [if_pos ⟨h1, (z_iff s).1 h0, h2⟩]
    exact .inl ⟨rfl, h1, h0, hk.2 h0⟩
  · have h1 : ¬ (n = false ∧ s = zS ∧ x = 0) := fun h1 => h0 ((z_iff s).2 h1.2.1)
    have h2 : 0 < key (bs s) x := Nat.pos_of_ne_zero fun h2 => h0 (hk.1 h2)
    rw [if_neg h1]
    cases n with
    | true => exact .inr (.inl ⟨rfl, rfl, h0, h2⟩)
    | false => exact .inr (.inr ⟨rfl, rfl, h0, h2⟩)
theorem order_apart {n m : Bool} {s t : ByteArray} {x y : Int} (hs : rtN n s x = true) (ht : rtN m t y = true) (h : signA n s x ≠ signA m t y) : Lib.compareInt (signA n s x) (signA m t y) = cmpI (skey n (bs s) x) (skey m (bs t) y) := by
  have cI : ∀ x y : Int, Lib.compareInt x y = cmpI x y := fun x y => by unfold Lib.compareInt cmpI; rfl
  rw [cI]
  unfold skey
  rcases sign_cases hs with ⟨a1, a2, -, a4⟩ | ⟨a1, a2, -, a4⟩ | ⟨a1, a2, -, a4⟩ <;> rcases sign_cases ht with ⟨b1, b2, -, b4⟩ | ⟨b1, b2, -, b4⟩ | ⟨b1, b2, -, b4⟩ <;> rw [a1, b1] at h ⊢ <;> rw [a2, b2] <;> first | exact absurd rfl h | (unfold cmpI; simp; try omega)
theorem order_alike {n m : Bool} {s t : ByteArray} {x y : Int} (hs : rtN n s x = true) (ht : rtN m t y = true) (h : signA n s x = signA m t y) : signA n s x * sizesA s x t y = cmpI (skey n (bs s) x) (skey m (bs t) y) := by
  have fs := (rtN_iff n s x).1 hs
  have ft := (rtN_iff m t y).1 ht
  unfold skey
  rcases sign_cases hs with ⟨a1, a2, a3, a4⟩ | ⟨a1, a2, a3, a4⟩ | ⟨a1, a2, a3, a4⟩ <;> rcases sign_cases ht with ⟨b1, b2, b3, b4⟩ | ⟨b1, b2, b3, b4⟩ | ⟨b1, b2, b3, b4⟩ <;> rw [a1, b1] at h <;> first | exact absurd h (by decide) | skip
  · rw [a1, a2, b2, a4, b4]; simp [cmpI]
  · rw [a1, a2, b2, sizes_key fs ft a3 b3, if_pos rfl, if_pos rfl, cmpI_neg]; omega
  · rw [a1, a2, b2, sizes_key fs ft a3 b3, if_neg (by simp), if_neg (by simp), Int.one_mul]
theorem sizes_small (s : ByteArray) (x : Int) (t : ByteArray) (y : Int) : -1 ≤ sizesA s x t y ∧ sizesA s x t y ≤ 1 := by
  have h1 : ∀ a b : List UInt8, -1 ≤ Lib.compareBytes a b ∧ Lib.compareBytes a b ≤ 1 := by
    intro a
    induction a with
    | nil => intro b; cases b <;> simp [Lib.compareBytes]
    | cons c a ih =>
      intro b
      cases b with
      | nil => simp [Lib.compareBytes]
      | cons d b =>
        unfold Lib.compareBytes
        split
        · omega
        · split
          · omega
          · exact ih b
  have h2 := h1 s.data.toList t.data.toList
  unfold sizesA
  split
  · unfold Lib.compareInt; split
    · omega
    · split <;> omega
  · exact h2
end Go.Proofs.YtjdceigndleadaaDoor
