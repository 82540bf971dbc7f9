/-
  DERIVED. GIVEN WITH THE SEED: THE CARDS: each row of YtjdceigndleadaaGreatDoorRows.lean that lists a variable, with what it lists TIED to the program's text (the seventh form; the later family's looks); each row that meets fmt, with fmt's text TOLD by the authors' own Lean function (tested against real Go, not proved from fmt's source: count such statements apart). THE CARD IS WHAT COUNTS. Prove the row's statement (the work); the ties are given (YtjdceigndleadaaGreatDoorTie.lean); close each card by the builder's one call (the guide's Derived/Test/ToyasCard.lean, 'card_holds'). Laid BY PROGRAM, IN A SANDBOX (cutbox-door.mjs). By AI agents, Wed Nov 11 2026. No macro, syntax, notation, axiom, sorry.
-/
import Derived.Test.YtjdceigndleadaaGreatDoorRows
import GoSem.ClaimSeven
namespace Go.Proofs.YtjdceigndleadaaGreatDoor
namespace Rows

/-- THE TIED CARD OF 'gantlinelaw07.FltExact'. -/
def fltExactCard : Claim7 := { stood := { row := fltExactRow, standIns := [], harness := (true, "6aed3b545b7deb36d671c5a61335eceb10fa8b1fbcde41b20ef12c153e08e6be"), looks := false }, kinds := [], alts := [], laidByText := true, laidKinds := [.data, .data, .data, .data, .pinned], laidTests := true, laidLooks := .later }
def FltExactCardSaid : Prop := Claim7.holds Tryz.pinned (.plain (OpenSpec.ofChange fltExactSpec)) fltExactCard

/-- THE SECOND FORM's CARD OF 'gantlinelaw07.FltExact'. -/
def fltExactUptoCard : Claim7 := { stood := { row := fltExactUptoRow, standIns := [], harness := (true, "6aed3b545b7deb36d671c5a61335eceb10fa8b1fbcde41b20ef12c153e08e6be"), looks := false }, kinds := [], alts := [], laidByText := true, laidKinds := [.data, .data, .data, .data, .pinned], laidTests := true, laidLooks := .later }
def FltExactUptoCardSaid : Prop := Claim7.holds Tryz.pinned (.plain (OpenSpec.upto fltExactSpec)) fltExactUptoCard
end Rows
end Go.Proofs.YtjdceigndleadaaGreatDoor
