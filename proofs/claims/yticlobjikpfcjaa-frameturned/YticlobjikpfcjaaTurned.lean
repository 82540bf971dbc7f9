/-
  Four bytes that stand together, turned by a word that is not 0: they are others; and what is found in a frame so turned is not its load.
-/
import Derived.Test.YticlobjikpfcjaaFlush
import Derived.Test.YticlobjikpfcjaaAlive
namespace Go.Proofs.Yticlobjikpfcjaa
open Go.RowKit

theorem xor_cancel {a b c : Nat} (h : a ^^^ c = b ^^^ c) : a = b := by
  have := congrArg (· ^^^ c) h
  simpa [Nat.xor_assoc] using this

/-- A turn can be undone. -/

theorem split4 (l : List Int) (t : Nat) (h : t + 4 ≤ l.length) : ∃ p c0 c1 c2 c3 r, l = p ++ ([c0, c1, c2, c3] ++ r) ∧ p.length = t := by
  have hd : (l.drop t).length = l.length - t := List.length_drop
  match hm : l.drop t, hd with
  | c0 :: c1 :: c2 :: c3 :: r, _ => exact ⟨l.take t, c0, c1, c2, c3, r, by rw [show [c0, c1, c2, c3] ++ r = l.drop t from hm.symm]; exact (List.take_append_drop t l).symm, by rw [List.length_take]; omega⟩
  | [], h1 => simp at h1; omega
  | [_], h1 => simp at h1; omega
  | [_, _], h1 => simp at h1; omega
  | [_, _, _], h1 => simp at h1; omega

/-- The byte c turned by the byte e. -/
def tn (c e : Int) : Int := bits .xor .u8 c e

theorem tn_eq {c e : Int} (hc : 0 ≤ c ∧ c < 256) (he : 0 ≤ e ∧ e < 256) : tn c e = ((c.toNat ^^^ e.toNat : Nat) : Int) := u8_xor c e hc.1 hc.2 he.1 he.2

theorem tn_byte {c e : Int} (hc : 0 ≤ c ∧ c < 256) (he : 0 ≤ e ∧ e < 256) : 0 ≤ tn c e ∧ tn c e < 256 := by
  rw [tn_eq hc he]
  have := Nat.xor_lt_two_pow (n := 8) (show c.toNat < 2 ^ 8 by omega) (show e.toNat < 2 ^ 8 by omega)
  omega

theorem tn_same {c e : Int} (hc : 0 ≤ c ∧ c < 256) (he : 0 ≤ e ∧ e < 256) (h : c = tn c e) : e = 0 := by
  rw [tn_eq hc he] at h
  have h1 : c.toNat ^^^ 0 = c.toNat ^^^ e.toNat := by rw [Nat.xor_zero]; omega
  rw [Nat.xor_comm, Nat.xor_comm c.toNat e.toNat] at h1
  have := xor_cancel h1
  omega

/-- The four bytes, the first k of them turned. -/
def qs (c0 c1 c2 c3 : Int) (y : Nat) : Nat → List Int
  | 0 => [c0, c1, c2, c3]
  | 1 => [tn c0 ((y : Int) % 256), c1, c2, c3]
  | 2 => [tn c0 ((y : Int) % 256), tn c1 ((y : Int) / 256 % 256), c2, c3]
  | 3 => [tn c0 ((y : Int) % 256), tn c1 ((y : Int) / 256 % 256), tn c2 ((y : Int) / 65536 % 256), c3]
  | _ => [tn c0 ((y : Int) % 256), tn c1 ((y : Int) / 256 % 256), tn c2 ((y : Int) / 65536 % 256), tn c3 ((y : Int) / 16777216)]

theorem getD_mid (p q r : List Int) (j : Nat) (h : j < q.length) : (p ++ (q ++ r)).getD (p.length + j) 0 = q.getD j 0 := by
  rw [List.getD_eq_getElem?_getD, List.getD_eq_getElem?_getD, List.getElem?_append_right (by omega), List.getElem?_append_left (by omega)]
  congr 2
  omega

theorem set_mid (p q r : List Int) (j : Nat) (c : Int) (h : j < q.length) : (p ++ (q ++ r)).set (p.length + j) c = p ++ (q.set j c ++ r) := by
  rw [List.set_append_right _ _ (by omega), List.set_append_left _ _ (by omega), Nat.add_sub_cancel_left]

/-- One of the four bytes is read .. -/
theorem mid_cell {w : World} {base g n cap : Nat} {p q r : List Int} (h : OwnR w base g n cap (p ++ (q ++ r))) (j t : Nat) (c : Int) (hj : j < q.length) (hc : q.getD j 0 = c) (ht : p.length + j = t) :
    w.cell? ⟨g, t, none⟩ = some (.int .u8 c) := by
  have hn := h.2.1
  simp only [List.length_append] at hn
  rw [h.cell t (by omega), ← ht, getD_mid p q r j hj, hc]

/-- .. and turned. -/
theorem turn_row {w : World} {base g n cap : Nat} {p q r : List Int} (h : OwnR w base g n cap (p ++ (q ++ r))) (j t : Nat) (c e : Int) (q' : List Int) (hj : j < q.length) (hc : q.getD j 0 = c) (he : 0 ≤ e ∧ e < 256)
    (hq : q.set j (tn c e) = q') (ht : p.length + j = t) : OwnR (w.setCell ⟨g, t, none⟩ (.int .u8 (bits .xor .u8 c e))) base g n cap (p ++ (q' ++ r)) := by
  have hcb : 0 ≤ c ∧ c < 256 := h.2.2.1 c (by
    rw [← hc, List.getD_eq_getElem?_getD, List.getElem?_eq_getElem hj]
    simp)
  have := h.store t (tn c e) (tn_byte hcb he)
  rw [← ht, set_mid p q r j _ hj, hq, ht] at this
  exact this

theorem turned_ne (p r : List Int) (c0 c1 c2 c3 : Int) (y : Nat) (hy : y < 4294967296) (h0 : y ≠ 0) (hz : ∀ c ∈ p ++ ([c0, c1, c2, c3] ++ r), 0 ≤ c ∧ c < 256) :
    p ++ (qs c0 c1 c2 c3 y 4 ++ r) ≠ p ++ ([c0, c1, c2, c3] ++ r) := by
  intro h
  have h1 := List.append_cancel_right (List.append_cancel_left h)
  have k0 := hz c0 (by simp)
  have k1 := hz c1 (by simp)
  have k2 := hz c2 (by simp)
  have k3 := hz c3 (by simp)
  simp only [qs, List.cons.injEq, and_true] at h1
  obtain ⟨b0, b1, b2, b3⟩ := h1
  have z0 := tn_same k0 (by omega) b0.symm
  have z1 := tn_same k1 (by omega) b1.symm
  have z2 := tn_same k2 (by omega) b2.symm
  have z3 := tn_same k3 (by omega) b3.symm
  omega

theorem turned_found {b zs l : List Int} (hb : ∀ c ∈ b, 0 ≤ c ∧ c < 256) (hlen : b.length = zs.length + 8) (hne : b ≠ frameL zs) (h : l ∈ (scanL b).1 ++ flushL (b.drop (scanL b).2)) : l ≠ zs := by
  rintro rfl
  refine hne (in_frame hb hlen ?_)
  rcases List.mem_append.1 h with h1 | h1
  · exact scan_in _ _ h1
  · exact (flush_in _ _ h1).later
end Go.Proofs.Yticlobjikpfcjaa
