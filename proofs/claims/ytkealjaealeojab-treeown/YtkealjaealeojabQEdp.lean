/-
  (nothing of this text is wanted in this seat)
-/
import Derived.Test.YtkealjaealeojabQElf
import Derived.Test.YtkealjaealeojabQSam
namespace Go.Proofs.Ytkealjaealeojab
end Go.Proofs.Ytkealjaealeojab
