/-
  Numbers read off the document's own cursor.
-/
import Derived.Test.YtgfnohgpmmaocaaDoorQrc
import Derived.Test.YtgfnohgpmmaocaaDoorQrp
namespace Go.Proofs.YtgfnohgpmmaocaaDoor
open Go.RowKit

theorem fails_at (r p f : Nat) (y' f' : Nat) (Y F : Int) (v : Value) (w : World) (h : RAt w r v p 0 f) (hY : Y = (y' : Int)) (hF : F = (f' : Int)) :
    Calls Tryd.prog 40 #[.pointer (some ⟨r, 0, none⟩), .int .i64 Y, .int .i64 F] w fun e w' => (∃ u, e = .returned u) ∧ RAt w' r v p y' f' ∧ w.grownBy w' (some r) := by
  subst hY
  subst hF
  exact fails_any r p f y' f' v w h

end Go.Proofs.YtgfnohgpmmaocaaDoor
