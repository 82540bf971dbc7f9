/-
  Bytes that a call itself has made, written one by one; sealed bytes of which four that stand together are turned.
-/
import Derived.Test.YtfipdldoklkciaaOpen
import Derived.Test.YtfipdldoklkciaaBurst
import Derived.BigRegion
namespace Go.Proofs.Ytfipdldoklkciaa
open Go.RowKit

theorem split4 (l : List Int) (t : Nat) (h : t + 4 ≤ l.length) : ∃ p c0 c1 c2 c3 r, l = p ++ ([c0, c1, c2, c3] ++ r) ∧ p.length = t := by
  have hd : (l.drop t).length = l.length - t := List.length_drop
  match hm : l.drop t, hd with
  | c0 :: c1 :: c2 :: c3 :: r, _ => exact ⟨l.take t, c0, c1, c2, c3, r, by rw [show [c0, c1, c2, c3] ++ r = l.drop t from hm.symm]; exact (List.take_append_drop t l).symm, by rw [List.length_take]; omega⟩
  | [], h1 => simp at h1; omega
  | [_], h1 => simp at h1; omega
  | [_, _], h1 => simp at h1; omega
  | [_, _, _], h1 => simp at h1; omega

theorem sealed_run {zs : List Int} (hz : ∀ c ∈ zs, 0 ≤ c ∧ c < 256) (h : Sealed zs) : runL 4294967295 zs = bsN 32 4294967295 := by
  obtain ⟨h4, hd⟩ := h
  have hn := runL_lt (zs.take (zs.length - 4)) 4294967295 (by decide) (take_bytes hz _)
  have hm : moreL 0 (zs.take (zs.length - 4)) = 4294967295 ^^^ runL 4294967295 (zs.take (zs.length - 4)) := rfl
  have hlt := moreL_lt (n := 0) (l := zs.take (zs.length - 4)) (by decide) (take_bytes hz _)
  generalize hp : zs.take (zs.length - 4) = p at *
  have e : zs = p ++ le4 (moreL 0 p) := by rw [← hd, ← hp]; exact (List.take_append_drop _ _).symm
  rw [e, runL_append]
  generalize moreL 0 p = m at *
  have hw : wd ((m % 256 : Nat) : Int) ((m / 256 % 256 : Nat) : Int) ((m / 65536 % 256 : Nat) : Int) ((m / 16777216 % 256 : Nat) : Int) = m := by unfold wd; omega
  rw [le4, run_four _ _ _ _ _ (by omega) (by omega) (by omega) (by omega), hw, hm, Nat.xor_comm, Nat.xor_assoc, Nat.xor_self, Nat.xor_zero]

/-- The byte c turned by the byte e. -/
def tn (c e : Int) : Int := bits .xor .u8 c e

theorem tn_eq {c e : Int} (hc : 0 ≤ c ∧ c < 256) (he : 0 ≤ e ∧ e < 256) : tn c e = ((c.toNat ^^^ e.toNat : Nat) : Int) := u8_xor c e hc.1 hc.2 he.1 he.2

theorem tn_byte {c e : Int} (hc : 0 ≤ c ∧ c < 256) (he : 0 ≤ e ∧ e < 256) : 0 ≤ tn c e ∧ tn c e < 256 := by
  rw [tn_eq hc he]
  have := Nat.xor_lt_two_pow (n := 8) (show c.toNat < 2 ^ 8 by omega) (show e.toNat < 2 ^ 8 by omega)
  omega

theorem tn_same {c e : Int} (hc : 0 ≤ c ∧ c < 256) (he : 0 ≤ e ∧ e < 256) (h : c = tn c e) : e = 0 := by
  rw [tn_eq hc he] at h
  have h1 : c.toNat ^^^ 0 = c.toNat ^^^ e.toNat := by rw [Nat.xor_zero]; omega
  rw [Nat.xor_comm, Nat.xor_comm c.toNat e.toNat] at h1
  have := xor_cancel h1
  omega

/-- FOUR BYTES THAT STAND TOGETHER, TURNED BY A WORD THAT IS NOT 0: not sealed any more. -/
theorem turned_not (p r : List Int) (c0 c1 c2 c3 : Int) (y : Nat) (hy : y < 4294967296) (h0 : y ≠ 0) (hz : ∀ c ∈ p ++ ([c0, c1, c2, c3] ++ r), 0 ≤ c ∧ c < 256)
    (hs : Sealed (p ++ ([c0, c1, c2, c3] ++ r))) :
    ¬ Sealed (p ++ ([tn c0 ((y : Int) % 256), tn c1 ((y : Int) / 256 % 256), tn c2 ((y : Int) / 65536 % 256), tn c3 ((y : Int) / 16777216)] ++ r)) := by
  intro hs'
  have hp : ∀ c ∈ p, 0 ≤ c ∧ c < 256 := fun c hc => hz c (by simp [hc])
  have hr : ∀ c ∈ r, 0 ≤ c ∧ c < 256 := fun c hc => hz c (by simp [hc])
  have k0 := hz c0 (by simp)
  have k1 := hz c1 (by simp)
  have k2 := hz c2 (by simp)
  have k3 := hz c3 (by simp)
  have e0 : 0 ≤ (y : Int) % 256 ∧ (y : Int) % 256 < 256 := by omega
  have e1 : 0 ≤ (y : Int) / 256 % 256 ∧ (y : Int) / 256 % 256 < 256 := by omega
  have e2 : 0 ≤ (y : Int) / 65536 % 256 ∧ (y : Int) / 65536 % 256 < 256 := by omega
  have e3 : 0 ≤ (y : Int) / 16777216 ∧ (y : Int) / 16777216 < 256 := by omega
  have t0 := tn_byte k0 e0
  have t1 := tn_byte k1 e1
  have t2 := tn_byte k2 e2
  have t3 := tn_byte k3 e3
  have hz' : ∀ c ∈ p ++ ([tn c0 ((y : Int) % 256), tn c1 ((y : Int) / 256 % 256), tn c2 ((y : Int) / 65536 % 256), tn c3 ((y : Int) / 16777216)] ++ r), 0 ≤ c ∧ c < 256 := by
    intro c hc
    simp only [List.mem_append, List.mem_cons, List.not_mem_nil, or_false] at hc
    rcases hc with hc | (rfl | rfl | rfl | rfl) | hc
    · exact hp c hc
    · exact t0
    · exact t1
    · exact t2
    · exact t3
    · exact hr c hc
  obtain ⟨b0, b1, b2, b3⟩ := burst 4294967295 p r _ _ _ _ _ _ _ _ (by decide) hp hr k0 k1 k2 k3 t0 t1 t2 t3 ((sealed_run hz hs).trans (sealed_run hz' hs').symm)
  have z0 := tn_same k0 e0 b0
  have z1 := tn_same k1 e1 b1
  have z2 := tn_same k2 e2 b2
  have z3 := tn_same k3 e3 b3
  omega

/-- The four bytes, the first k of them turned. -/
def qs (c0 c1 c2 c3 : Int) (y : Nat) : Nat → List Int
  | 0 => [c0, c1, c2, c3]
  | 1 => [tn c0 ((y : Int) % 256), c1, c2, c3]
  | 2 => [tn c0 ((y : Int) % 256), tn c1 ((y : Int) / 256 % 256), c2, c3]
  | 3 => [tn c0 ((y : Int) % 256), tn c1 ((y : Int) / 256 % 256), tn c2 ((y : Int) / 65536 % 256), c3]
  | _ => [tn c0 ((y : Int) % 256), tn c1 ((y : Int) / 256 % 256), tn c2 ((y : Int) / 65536 % 256), tn c3 ((y : Int) / 16777216)]

theorem getD_mid (p q r : List Int) (j : Nat) (h : j < q.length) : (p ++ (q ++ r)).getD (p.length + j) 0 = q.getD j 0 := by
  rw [List.getD_eq_getElem?_getD, List.getD_eq_getElem?_getD, List.getElem?_append_right (by omega), List.getElem?_append_left (by omega)]
  congr 2
  omega

theorem set_mid (p q r : List Int) (j : Nat) (c : Int) (h : j < q.length) : (p ++ (q ++ r)).set (p.length + j) c = p ++ (q.set j c ++ r) := by
  rw [List.set_append_right _ _ (by omega), List.set_append_left _ _ (by omega), Nat.add_sub_cancel_left]

/-- One of the four bytes is read .. -/
theorem mid_cell {w : World} {base g n cap : Nat} {p q r : List Int} (h : OwnR w base g n cap (p ++ (q ++ r))) (j t : Nat) (c : Int) (hj : j < q.length) (hc : q.getD j 0 = c) (ht : p.length + j = t) :
    w.cell? ⟨g, t, none⟩ = some (.int .u8 c) := by
  have hn := h.2.1
  simp only [List.length_append] at hn
  rw [h.cell t (by omega), ← ht, getD_mid p q r j hj, hc]

/-- .. and turned. -/
theorem turn_row {w : World} {base g n cap : Nat} {p q r : List Int} (h : OwnR w base g n cap (p ++ (q ++ r))) (j t : Nat) (c e : Int) (q' : List Int) (hj : j < q.length) (hc : q.getD j 0 = c) (he : 0 ≤ e ∧ e < 256)
    (hq : q.set j (tn c e) = q') (ht : p.length + j = t) : OwnR (w.setCell ⟨g, t, none⟩ (.int .u8 (bits .xor .u8 c e))) base g n cap (p ++ (q' ++ r)) := by
  have hcb : 0 ≤ c ∧ c < 256 := h.2.2.1 c (by
    rw [← hc, List.getD_eq_getElem?_getD, List.getElem?_eq_getElem hj]
    simp)
  have := h.store t (tn c e) (tn_byte hcb he)
  rw [← ht, set_mid p q r j _ hj, hq, ht] at this
  exact this
end Go.Proofs.Ytfipdldoklkciaa
