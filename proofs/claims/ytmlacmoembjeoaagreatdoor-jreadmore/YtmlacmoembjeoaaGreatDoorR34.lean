/-
  The fault of a node, what is in it aside, as the document's call tells it: gantlineref08.alone, of Texts.
  The fault of a node, what is in it aside, as the document's call tells it: gantlineref08.alone, of other Kinds.
  The fault of a node, what is in it aside, as the document's call tells it: gantlineref08.alone.
  The fault of the first node that has one, as the document's call tells it: gantlineref08.forms.
  All nodes of a tree with their depths, in the order in which they are gone over; going over them as long as more is wanted; and what is told so: how many there are, how deep they lie, the first fault, keys that stand twice.
  Going over all nodes of a tree: tree.each, whatever it hands each node to.
  tree.each: the function to which nodes are handed wants no more at once.
  tree.each: it wants more.
  tree.each: it wants more.
  How many nodes a tree has, and how deep it is: tree.each put together, tree.measure, Few, Size, Deep.
  Whether two keys are the same: tree.twice, with slices.ContainsFunc and slices.IndexFunc; tree.Same.
-/
import Derived.Test.YtmlacmoembjeoaaGreatDoorR28
import Derived.Test.YtmlacmoembjeoaaGreatDoorR24
import Derived.Test.YtmlacmoembjeoaaGreatDoorR32
import Derived.Test.YtmlacmoembjeoaaGreatDoorR14
import Derived.Test.YtmlacmoembjeoaaGreatDoorR33
import Derived.Test.YtmlacmoembjeoaaGreatDoorR25
import Derived.Test.YtmlacmoembjeoaaGreatDoorR2
import Derived.Test.YtmlacmoembjeoaaGreatDoorR26
import Derived.Shelf.Abstract
namespace Go.Proofs.YtmlacmoembjeoaaGreatDoor
open Go.RowKit
set_option linter.unusedVariables false

end Go.Proofs.YtmlacmoembjeoaaGreatDoor
namespace Go.Proofs.YtmlacmoembjeoaaGreatDoor
open Go.RowKit
set_option linter.unusedVariables false

end Go.Proofs.YtmlacmoembjeoaaGreatDoor
namespace Go.Proofs.YtmlacmoembjeoaaGreatDoor
open Go.RowKit
set_option linter.unusedVariables false
end Go.Proofs.YtmlacmoembjeoaaGreatDoor
namespace Go.Proofs.YtmlacmoembjeoaaGreatDoor
open Go.RowKit
set_option linter.unusedVariables false

end Go.Proofs.YtmlacmoembjeoaaGreatDoor
namespace Go.Proofs.YtmlacmoembjeoaaGreatDoor
set_option linter.unusedVariables false
namespace Tr

/-- GOING OVER THEM, as long as more is wanted: was all wanted, and what is known behind it. -/
def go {σ : Type} (f : Tr → Nat → σ → Bool × σ) : List (Tr × Nat) → σ → Bool × σ
  | [], s => (true, s)
  | x :: l, s => if (f x.1 x.2 s).1 = true then go f l (f x.1 x.2 s).2 else (false, (f x.1 x.2 s).2)
theorem go_cons {σ : Type} (f : Tr → Nat → σ → Bool × σ) (x : Tr × Nat) (l : List (Tr × Nat)) (s : σ) : go f (x :: l) s = if (f x.1 x.2 s).1 = true then go f l (f x.1 x.2 s).2 else (false, (f x.1 x.2 s).2) := rfl
/-! ### How many, how deep -/

/-! ### The first fault -/

/-- The fault of the node: go on, if there is none. -/
def flt (al : Tr → Int) (t : Tr) (_ : Nat) (_ : Int) : Bool × Int := (decide (al t = 0), al t)
/-! ### Keys twice -/

end Tr
end Go.Proofs.YtmlacmoembjeoaaGreatDoor
namespace Go.Proofs.YtmlacmoembjeoaaGreatDoor
open Go.RowKit
set_option linter.unusedVariables false

/-- WHAT IS ASKED OF THE FUNCTION TO WHICH EACH NODE IS HANDED: f is what it answers, and what is known then; I what is known, in memory; C the blocks that it may turn; J which depths may come. -/
structure Takes (g : Nat) (cap : Array Value) (σ : Type) (f : Tr → Nat → σ → Bool × σ) (I : σ → World → Prop) (J : σ → Nat → Tr → Prop) (C : Nat → Prop) (B : Nat) : Prop where
  call : ∀ (s : σ) (w : World) (b : Nb) (t : Tr) (d D : Nat), I s w → J s d t → NdS (· < B) D w b t → Calls Tryz.prog g (#[.agg b.arr, .int .i64 d] ++ cap) w fun e w' => e = .returned (.bool (f t d s).1) ∧ I (f t d s).2 w' ∧ Kp C w w'
  enter : ∀ args w, (callFunc g args).run Tryz.prog w = .ok (.enter g args) w
  keeps : ∀ s w w', I s w → Below w.heap.size w w' → I s w'
  room : ∀ s w, I s w → B ≤ w.heap.size ∧ ∀ k, C k → B ≤ k ∧ k < w.heap.size
  first : ∀ s d t u, J s d t → (u ∈ t.keys ∨ u ∈ t.kids) → (f t d s).1 = true → J (f t d s).2 (d + 1) u ∧ d < 4611686018427387904
  more : ∀ s d u t' d', J s d u → (f t' d' s).1 = true → J (f t' d' s).2 d u
theorem Takes.goes {g : Nat} {cap : Array Value} {σ : Type} {f : Tr → Nat → σ → Bool × σ} {I : σ → World → Prop} {J : σ → Nat → Tr → Prop} {C : Nat → Prop} {B : Nat} (T : Takes g cap σ f I J C B) {d : Nat} {u : Tr} : ∀ (l : List (Tr × Nat)) (s : σ), J s d u → (Tr.go f l s).1 = true → J (Tr.go f l s).2 d u := by
  intro l
  induction l with
  | nil => intro s h _; exact h
  | cons x l ih =>
    intro s h hr
    rw [Tr.go_cons] at hr ⊢
    by_cases h1 : (f x.1 x.2 s).1 = true
    · rw [if_pos h1] at hr ⊢
      exact ih _ (T.more s d u _ _ h h1) hr
    · rw [if_neg h1] at hr
      cases hr

end Go.Proofs.YtmlacmoembjeoaaGreatDoor
namespace Go.Proofs.YtmlacmoembjeoaaGreatDoor
open Go.RowKit
set_option linter.unusedVariables false

end Go.Proofs.YtmlacmoembjeoaaGreatDoor
namespace Go.Proofs.YtmlacmoembjeoaaGreatDoor
open Go.RowKit
set_option linter.unusedVariables false

end Go.Proofs.YtmlacmoembjeoaaGreatDoor
namespace Go.Proofs.YtmlacmoembjeoaaGreatDoor
open Go.RowKit
set_option linter.unusedVariables false

end Go.Proofs.YtmlacmoembjeoaaGreatDoor
namespace Go.Proofs.YtmlacmoembjeoaaGreatDoor
open Go.RowKit
set_option linter.unusedVariables false

end Go.Proofs.YtmlacmoembjeoaaGreatDoor
namespace Go.Proofs.YtmlacmoembjeoaaGreatDoor
open Go.RowKit
set_option linter.unusedVariables false

theorem RowN.take {Q : Nb → Tr → Prop} {w : World} {a : Option Addr} {len cap : Nat} {l : List Tr} (h : RowN Q w a len cap l) {i : Nat} (hi : i ≤ len) : RowN Q w a i cap (l.take i) := by
  obtain ⟨h0, h1, h2⟩ := h
  refine ⟨by rw [List.length_take]; omega, ⟨Nat.le_trans hi h1.1, h1.2.1, h1.2.2.1, Nat.le_trans (Nat.mul_le_mul_right _ hi) h1.2.2.2⟩, ?_⟩
  rcases h2 with rfl | ⟨b, off, ha, hc⟩
  · exact .inl (by simp)
  · refine .inr ⟨b, off, ha, fun j hj => ?_⟩
    have hj' : j < l.length := by rw [List.length_take] at hj; omega
    obtain ⟨nb, hn, hQ⟩ := hc j hj'
    exact ⟨nb, hn, by rw [List.getElem_take]; exact hQ⟩

end Go.Proofs.YtmlacmoembjeoaaGreatDoor
