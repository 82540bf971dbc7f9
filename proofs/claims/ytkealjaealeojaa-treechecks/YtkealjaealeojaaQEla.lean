/-
  The fault of a node, what is in it aside, as the document's call tells it: gantlineref08.alone.
-/
import Derived.Test.YtkealjaealeojaaQGn
import Derived.Test.YtkealjaealeojaaQGm
import Derived.Test.YtkealjaealeojaaQGo
namespace Go.Proofs.Ytkealjaealeojaa
open Go.RowKit
set_option linter.unusedVariables false
theorem ealone_any {D : Nat} {t : Tr} {b : Nb} {w : World} (hN : Nd D w b t) : Calls Try.prog 50 #[.agg b.arr] w fun e w' => e = .returned (.int .i64 (alF t)) ∧ Below w.heap.size w w' := by
  cases D with
  | zero => exact absurd hN id
  | succ D =>
    by_cases h1 : b.kind = 1
    · exact ealone_k1 hN h1
    by_cases h2 : b.kind = 2
    · exact ealone_k2 hN h2
    by_cases h3 : b.kind = 3
    · exact ealone_k3 hN h3
    by_cases h5 : b.kind = 5
    · exact ealone_k5 hN h5
    by_cases h6 : b.kind = 6
    · exact ealone_k6 hN h6
    by_cases h8 : b.kind = 8
    · exact ealone_k8 hN h8
    by_cases h9 : b.kind = 9
    · exact ealone_k9 hN h9
    by_cases h10 : b.kind = 10
    · exact ealone_k10 hN h10
    exact ealone_ko hN h1 h2 h3 h5 h6 h8 h9 h10
end Go.Proofs.Ytkealjaealeojaa
