/-
  Parts of the proof.
-/
import Derived.Test.YtmlacmoembjeoaaGreatDoorV28
import Derived.Test.YtmlacmoembjeoaaGreatDoorV24
import Derived.Test.YtmlacmoembjeoaaGreatDoorV32
import Derived.Test.YtmlacmoembjeoaaGreatDoorV14
import Derived.Test.YtmlacmoembjeoaaGreatDoorV33
import Derived.Test.YtmlacmoembjeoaaGreatDoorV25
import Derived.Test.YtmlacmoembjeoaaGreatDoorV2
import Derived.Test.YtmlacmoembjeoaaGreatDoorV26
import Derived.Shelf.Abstract
namespace Go.Proofs.YtmlacmoembjeoaaGreatDoor
open Go.RowKit
set_option linter.unusedVariables false

end Go.Proofs.YtmlacmoembjeoaaGreatDoor
namespace Go.Proofs.YtmlacmoembjeoaaGreatDoor
open Go.RowKit
set_option linter.unusedVariables false

end Go.Proofs.YtmlacmoembjeoaaGreatDoor
namespace Go.Proofs.YtmlacmoembjeoaaGreatDoor
open Go.RowKit
set_option linter.unusedVariables false
end Go.Proofs.YtmlacmoembjeoaaGreatDoor
namespace Go.Proofs.YtmlacmoembjeoaaGreatDoor
open Go.RowKit
set_option linter.unusedVariables false

end Go.Proofs.YtmlacmoembjeoaaGreatDoor
namespace Go.Proofs.YtmlacmoembjeoaaGreatDoor
set_option linter.unusedVariables false
namespace Tr

def go {σ : Type} (f : Tr → Nat → σ → Bool × σ) : List (Tr × Nat) → σ → Bool × σ
  | [], s => (true, s)
  | x :: l, s => if (f x.1 x.2 s).1 = true then go f l (f x.1 x.2 s).2 else (false, (f x.1 x.2 s).2)
def flt (al : Tr → Int) (t : Tr) (_ : Nat) (_ : Int) : Bool × Int := (decide (al t = 0), al t)

end Tr
end Go.Proofs.YtmlacmoembjeoaaGreatDoor
namespace Go.Proofs.YtmlacmoembjeoaaGreatDoor
open Go.RowKit
set_option linter.unusedVariables false

structure Takes (g : Nat) (cap : Array Value) (σ : Type) (f : Tr → Nat → σ → Bool × σ) (I : σ → World → Prop) (J : σ → Nat → Tr → Prop) (C : Nat → Prop) (B : Nat) : Prop where
  call : ∀ (s : σ) (w : World) (b : Nb) (t : Tr) (d D : Nat), I s w → J s d t → NdS (· < B) D w b t → Calls Tryz.prog g (#[.agg b.arr, .int .i64 d] ++ cap) w fun e w' => e = .returned (.bool (f t d s).1) ∧ I (f t d s).2 w' ∧ Kp C w w'
  enter : ∀ args w, (callFunc g args).run Tryz.prog w = .ok (.enter g args) w
  keeps : ∀ s w w', I s w → Below w.heap.size w w' → I s w'
  room : ∀ s w, I s w → B ≤ w.heap.size ∧ ∀ k, C k → B ≤ k ∧ k < w.heap.size
  first : ∀ s d t u, J s d t → (u ∈ t.keys ∨ u ∈ t.kids) → (f t d s).1 = true → J (f t d s).2 (d + 1) u ∧ d < 4611686018427387904
  more : ∀ s d u t' d', J s d u → (f t' d' s).1 = true → J (f t' d' s).2 d u
end Go.Proofs.YtmlacmoembjeoaaGreatDoor
namespace Go.Proofs.YtmlacmoembjeoaaGreatDoor
open Go.RowKit
set_option linter.unusedVariables false

end Go.Proofs.YtmlacmoembjeoaaGreatDoor
namespace Go.Proofs.YtmlacmoembjeoaaGreatDoor
open Go.RowKit
set_option linter.unusedVariables false

end Go.Proofs.YtmlacmoembjeoaaGreatDoor
namespace Go.Proofs.YtmlacmoembjeoaaGreatDoor
open Go.RowKit
set_option linter.unusedVariables false

end Go.Proofs.YtmlacmoembjeoaaGreatDoor
namespace Go.Proofs.YtmlacmoembjeoaaGreatDoor
open Go.RowKit
set_option linter.unusedVariables false

def IM (B g2 g3 : Nat) (s : Nat × Nat) (w : World) : Prop := w.heap[g2]? = some (.cells #[.int .i64 (s.1 : Nat)] 3 (0, 0)) ∧ w.heap[g3]? = some (.cells #[.int .i64 (s.2 : Nat)] 3 (0, 0)) ∧ B ≤ w.heap.size
end Go.Proofs.YtmlacmoembjeoaaGreatDoor
namespace Go.Proofs.YtmlacmoembjeoaaGreatDoor
open Go.RowKit
set_option linter.unusedVariables false

end Go.Proofs.YtmlacmoembjeoaaGreatDoor
