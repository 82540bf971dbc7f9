/-
  When the document says that trees are the same: put together.
-/
import Derived.Test.YtkealjaealeojabQGk
import Derived.Test.YtkealjaealeojabQEsl
namespace Go.Proofs.Ytkealjaealeojab
open Go.RowKit
set_option linter.unusedVariables false

theorem es_step {D : Nat} (ih : EsAt D) : EsAt (D + 1) := by
  intro t u a b w v hA hB hv
  by_cases h0 : a.kind = b.kind
  case neg => exact es_no0 t u a b w v hA hB hv h0
  by_cases h1 : a.num = b.num
  case neg => exact es_no1 t u a b w v hA hB hv h0 h1
  by_cases h2 : a.neg = b.neg
  case neg => exact es_no2 t u a b w v hA hB hv h0 h1 h2
  by_cases h3 : a.dig = b.dig
  case neg => exact es_no3 t u a b w v hA hB hv h0 h1 h2 h3
  by_cases h4 : a.exp = b.exp
  case neg => exact es_no4 t u a b w v hA hB hv h0 h1 h2 h3 h4
  by_cases h5 : a.txt = b.txt
  case neg => exact es_no5 t u a b w v hA hB hv h0 h1 h2 h3 h4 h5
  by_cases h6 : t.bytes = u.bytes
  case neg => exact es_no6 t u a b w v hA hB hv h0 h1 h2 h3 h4 h5 h6
  by_cases h7 : a.lk = b.lk
  case neg => exact es_no7 t u a b w v hA hB hv h0 h1 h2 h3 h4 h5 h6 h7
  by_cases h8 : a.li = b.li
  case neg => exact es_no8 t u a b w v hA hB hv h0 h1 h2 h3 h4 h5 h6 h7 h8
  exact es_eq ih t u a b w v hA hB hv h0 h1 h2 h3 h4 h5 h6 h7 h8

theorem es_all : ∀ D, EsAt D := by
  intro D
  induction D with
  | zero => intro t u a b w v h; exact absurd h id
  | succ D ih => exact es_step ih
/-- The document's same. -/
theorem esam_any {D E : Nat} {t u : Tr} {a b : Nb} {w : World} {v : Bool} (hA : Nd D w a t) (hB : Nd E w b u) (hv : v = true ↔ t = u) : Calls Try.prog 43 #[.agg a.arr, .agg b.arr] w fun e w' => e = .returned (.bool v) ∧ Below w.heap.size w w' :=
  es_all (max D E) t u a b w v (hA.le (Nat.le_max_left _ _)) (hB.le (Nat.le_max_right _ _)) hv
end Go.Proofs.Ytkealjaealeojab
