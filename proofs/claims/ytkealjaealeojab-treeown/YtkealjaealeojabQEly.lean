/-
  A tree with a node at a path, as the document says: Lay.
-/
import Derived.Test.YtkealjaealeojabQElya
import Derived.Test.YtkealjaealeojabQElyb
import Derived.Test.YtkealjaealeojabQElyca
import Derived.Test.YtkealjaealeojabQElycb
import Derived.Test.YtkealjaealeojabQElyka
import Derived.Test.YtkealjaealeojabQElykb
namespace Go.Proofs.Ytkealjaealeojab
open Go.RowKit
set_option linter.unusedVariables false
/-- The document's Lay. -/
theorem elay_any {B Dx : Nat} {tx : Tr} {x : Nb} : ∀ (ps : List Int) (D : Nat) (t : Tr) (b : Nb) (w : World) (pa : Option Addr) (np cp : Nat), B ≤ w.heap.size → NdS (· < B) D w b t → NdS (· < B) Dx w x tx → PathOk w pa np cp ps → t.size ≤ 1000000 →
    Calls Try.prog 28 #[.agg b.arr, .slice pa np cp, .agg x.arr] w fun e w' => (∃ b' er, e = .returned (.tuple #[.agg b'.arr, .int .i64 er]) ∧ LayIs B (D + Dx) w w' t tx ps b' er) ∧ Below w.heap.size w w' := by
  intro ps
  induction ps with
  | nil => intro D t b w pa np cp hB hN hX hp hsz; exact lay_end hB hN hX hp hsz
  | cons k p ih =>
    intro D t b w pa np cp hB hN hX hp hsz
    cases D with
    | zero => exact absurd hN id
    | succ D =>
      cases hw : t.way k with
      | none => exact lay_no hB hN hX hp hsz hw
      | some jb =>
        obtain ⟨j, sd⟩ := jb
        by_cases hc : cp = 1
        · cases sd with
          | false => exact lay_kid_last hB hN hX hp hsz hc hw ih
          | true => exact lay_key_last hB hN hX hp hsz hc hw ih
        · cases sd with
          | false => exact lay_kid hB hN hX hp hsz hc hw ih
          | true => exact lay_key hB hN hX hp hsz hc hw ih
end Go.Proofs.Ytkealjaealeojab
