/-
  DERIVED. GIVEN WITH THE SEED: THE CARDS: each row of YtcnfgmhcbelgoabDoorRows.lean that lists a variable, with what it lists TIED to the program's text (the seventh form; the later family's looks); each row that meets fmt, with fmt's text TOLD by the authors' own Lean function (tested against real Go, not proved from fmt's source: count such statements apart). THE CARD IS WHAT COUNTS. Prove the row's statement (the work); the ties are given (YtcnfgmhcbelgoabDoorTie.lean); close each card by the builder's one call (the guide's Derived/Test/ToyasCard.lean, 'card_holds'). Laid BY PROGRAM, IN A SANDBOX (cutbox-door.mjs). By AI agents, Wed Nov 11 2026. No macro, syntax, notation, axiom, sorry.
-/
import Derived.Test.YtcnfgmhcbelgoabDoorRows
import GoSem.ClaimSeven
namespace Go.Proofs.YtcnfgmhcbelgoabDoor
namespace Rows

/-- THE TIED CARD OF 'gantlinelaw06.DecGoes'. -/
def decGoesCard : Claim7 := { stood := { row := decGoesRow, standIns := [], harness := (true, "cf4c92534ce33d33f2582efb3a9891ae3994f67be90285ebc169ba550abe2798"), looks := false }, kinds := [], alts := [], laidByText := true, laidKinds := [.data, .data, .data, .data, .pinned], laidTests := true, laidLooks := .later }
def DecGoesCardSaid : Prop := Claim7.holds Tryd.pinned (.plain (OpenSpec.ofChange decGoesSpec)) decGoesCard

/-- THE SECOND FORM's CARD OF 'gantlinelaw06.DecGoes'. -/
def decGoesUptoCard : Claim7 := { stood := { row := decGoesUptoRow, standIns := [], harness := (true, "cf4c92534ce33d33f2582efb3a9891ae3994f67be90285ebc169ba550abe2798"), looks := false }, kinds := [], alts := [], laidByText := true, laidKinds := [.data, .data, .data, .data, .pinned], laidTests := true, laidLooks := .later }
def DecGoesUptoCardSaid : Prop := Claim7.holds Tryd.pinned (.plain (OpenSpec.upto decGoesSpec)) decGoesUptoCard
end Rows
end Go.Proofs.YtcnfgmhcbelgoabDoor
