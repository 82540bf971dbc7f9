/-
  Loads are taken in the order of their numbers, each as it came first.
-/
import Derived.Test.YtajidkgmifcoaaaRck
namespace Go.Proofs.Ytajidkgmifcoaaa
open Go.RowKit
set_option linter.unusedVariables false
theorem At.other {w0 w w' : World} {rb g : Nat} {s : Rc} (h : At w0 w rb s) (k : K2 g g w w') (hg : rb < g) : At w0 w' rb s :=
  ⟨h.rv.but k (by omega), k.below h.bel h.sz (by omega) (by omega), Nat.le_trans h.sz k.size⟩
/-- An old load. -/
def LdO (w : World) (u : Value) (l : List Int) : Prop :=
  ∃ a c, u = .slice a l.length c ∧ Bytes w a l ∧ (a = none → c = 0) ∧ l.length ≤ c ∧ c ≤ 9223372036854775807
/-- THE MAP HOLDS THE LOADS THAT CAME, AND THE RECEIVER THOSE OF THEM THAT WERE NOT TAKEN. -/
structure OI (w wr : World) (rb mb : Nat) (i : Nat) (win : Int) (s : Rc) (f : Int → Option Value) (P : Int → Option (List Int)) (n : Nat) : Prop where
  at_ : At w wr rb s
  mp : MapI wr mb f n
  hm : rb < mb
  few : n ≤ i
  win_ : s.win = win
  tk : s.tk ≤ (i : Int)
  hL : ∀ z, s.tk < z → P z = s.L z
  no : ∀ z, P z = none → f z = none
  yes : ∀ z l, P z = some l → ∃ u, f z = some u ∧ LdO w u l
theorem OI.more {w wr : World} {rb mb i : Nat} {win : Int} {s : Rc} {f : Int → Option Value} {P : Int → Option (List Int)} {n : Nat} (h : OI w wr rb mb i win s f P n) : OI w wr rb mb (i + 1) win s f P n :=
  { h with few := Nat.le_succ_of_le h.few, tk := by have := h.tk; omega }
theorem OI.step {w wr w' : World} {rb mb i : Nat} {win : Int} {s : Rc} {f : Int → Option Value} {P : Int → Option (List Int)} {n : Nat} (h : OI w wr rb mb i win s f P n) (hb : Below wr.heap.size wr w') : OI w w' rb mb i win s f P n :=
  { h with at_ := h.at_.step hb, mp := h.mp.kept hb }
theorem OI.put {w wA w3 w5 : World} {rb mb i : Nat} {win : Int} {s : Rc} {f : Int → Option Value} {P : Int → Option (List Int)} {n n' : Nat} {z : Int} {u : Value} {l : List Int}
    (h : OI w wA rb mb i win s f P n) (he : s.tk < z) (hm : MapI w5 mb (put f z (some u)) n') (hn : n' ≤ n + 1) (hg : w3.grownBy w5 (some mb)) (hS : At w w3 rb (putA s z l)) (hu : LdO w u l) :
    OI w w5 rb mb (i + 1) win (putA s z l) (put f z (some u)) (fun x => if x = z then some l else P x) n' := by
  refine ⟨hS.other (K2.of_g hg) h.hm, hm, h.hm, by have := h.few; omega, h.win_, by show s.tk ≤ _; have := h.tk; omega, fun x hx => ?_, fun x hx => ?_, fun x m hx => ?_⟩
  · show (if x = z then some l else P x) = if x = z then some l else s.L x
    rw [h.hL x hx]
  · have hx : (if x = z then some l else P x) = none := hx
    by_cases e : x = z
    · rw [if_pos e] at hx; cases hx
    · rw [if_neg e] at hx
      unfold Proofs.Ytajidkgmifcoaaa.put
      rw [if_neg e]
      exact h.no x hx
  · have hx : (if x = z then some l else P x) = some m := hx
    unfold Proofs.Ytajidkgmifcoaaa.put
    by_cases e : x = z
    · rw [if_pos e] at hx ⊢
      cases hx
      exact ⟨u, rfl, hu⟩
    · rw [if_neg e] at hx ⊢
      exact h.yes x m hx
theorem OI.take {w wr w' : World} {rb mb i : Nat} {win : Int} {s : Rc} {f : Int → Option Value} {P : Int → Option (List Int)} {n : Nat} (h : OI w wr rb mb i win s f P n) (hr : Rv w' rb (takeA s)) (k : K2 rb rb wr w') :
    OI w w' rb mb (i + 1) win (takeA s) f P n :=
  ⟨h.at_.turn hr k, h.mp.k2 k (by have := h.hm; omega), h.hm, by have := h.few; omega, h.win_, by show s.tk + 1 ≤ _; have := h.tk; omega, fun x hx => by
    have hx : s.tk + 1 < x := hx
    show P x = if x = s.tk + 1 then none else s.L x
    rw [if_neg (by omega)]
    exact h.hL x (by omega), h.no, h.yes⟩
end Go.Proofs.Ytajidkgmifcoaaa
