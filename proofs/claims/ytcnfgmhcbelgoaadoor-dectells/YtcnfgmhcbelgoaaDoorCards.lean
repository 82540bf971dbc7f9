/-
  DERIVED. GIVEN WITH THE SEED: THE CARDS: each row of YtcnfgmhcbelgoaaDoorRows.lean that lists a variable, with what it lists TIED to the program's text (the seventh form; the later family's looks); each row that meets fmt, with fmt's text TOLD by the authors' own Lean function (tested against real Go, not proved from fmt's source: count such statements apart). THE CARD IS WHAT COUNTS. Prove the row's statement (the work); the ties are given (YtcnfgmhcbelgoaaDoorTie.lean); close each card by the builder's one call (the guide's Derived/Test/ToyasCard.lean, 'card_holds'). Laid BY PROGRAM, IN A SANDBOX (cutbox-door.mjs). By AI agents, Wed Nov 11 2026. No macro, syntax, notation, axiom, sorry.
-/
import Derived.Test.YtcnfgmhcbelgoaaDoorRows
import GoSem.ClaimSeven
namespace Go.Proofs.YtcnfgmhcbelgoaaDoor
namespace Rows

/-- THE TIED CARD OF 'gantlinelaw06.DecMakes'. -/
def decMakesCard : Claim7 := { stood := { row := decMakesRow, standIns := [], harness := (true, "c9ba189e4fbfcab0d6459c5155be4fbfcc07bb386b5380dc4fdb1d4b0ec9cf06"), looks := false }, kinds := [], alts := [], laidByText := true, laidKinds := [.data, .data, .data, .data, .pinned], laidTests := true, laidLooks := .later }
def DecMakesCardSaid : Prop := Claim7.holds Tryd.pinned (.plain (OpenSpec.ofChange decMakesSpec)) decMakesCard

/-- THE TIED CARD OF 'gantlinelaw06.DecReads'. -/
def decReadsCard : Claim7 := { stood := { row := decReadsRow, standIns := [], harness := (true, "c9ba189e4fbfcab0d6459c5155be4fbfcc07bb386b5380dc4fdb1d4b0ec9cf06"), looks := false }, kinds := [], alts := [], laidByText := true, laidKinds := [.data, .data, .data, .data, .pinned], laidTests := true, laidLooks := .later }
def DecReadsCardSaid : Prop := Claim7.holds Tryd.pinned (.plain (OpenSpec.ofChange decReadsSpec)) decReadsCard

/-- THE TIED CARD OF 'gantlinelaw06.DecTells'. -/
def decTellsCard : Claim7 := { stood := { row := decTellsRow, standIns := [], harness := (true, "c9ba189e4fbfcab0d6459c5155be4fbfcc07bb386b5380dc4fdb1d4b0ec9cf06"), looks := false }, kinds := [], alts := [], laidByText := true, laidKinds := [.data, .data, .data, .data, .pinned], laidTests := true, laidLooks := .later }
def DecTellsCardSaid : Prop := Claim7.holds Tryd.pinned (.plain (OpenSpec.ofChange decTellsSpec)) decTellsCard

/-- THE TIED CARD OF 'gantlinelaw06.DecOrders'. -/
def decOrdersCard : Claim7 := { stood := { row := decOrdersRow, standIns := [], harness := (true, "c9ba189e4fbfcab0d6459c5155be4fbfcc07bb386b5380dc4fdb1d4b0ec9cf06"), looks := false }, kinds := [], alts := [], laidByText := true, laidKinds := [.data, .data, .data, .data, .pinned], laidTests := true, laidLooks := .later }
def DecOrdersCardSaid : Prop := Claim7.holds Tryd.pinned (.plain (OpenSpec.ofChange decOrdersSpec)) decOrdersCard

/-- THE TIED CARD OF 'gantlinelaw06.DecBack'. -/
def decBackCard : Claim7 := { stood := { row := decBackRow, standIns := [], harness := (true, "c9ba189e4fbfcab0d6459c5155be4fbfcc07bb386b5380dc4fdb1d4b0ec9cf06"), looks := false }, kinds := [], alts := [], laidByText := true, laidKinds := [.data, .data, .data, .data, .pinned], laidTests := true, laidLooks := .later }
def DecBackCardSaid : Prop := Claim7.holds Tryd.pinned (.plain (OpenSpec.ofChange decBackSpec)) decBackCard

/-- THE TIED CARD OF 'gantlinelaw06.DecSame'. -/
def decSameCard : Claim7 := { stood := { row := decSameRow, standIns := [], harness := (true, "c9ba189e4fbfcab0d6459c5155be4fbfcc07bb386b5380dc4fdb1d4b0ec9cf06"), looks := false }, kinds := [], alts := [], laidByText := true, laidKinds := [.data, .data, .data, .data, .pinned], laidTests := true, laidLooks := .later }
def DecSameCardSaid : Prop := Claim7.holds Tryd.pinned (.plain (OpenSpec.ofChange decSameSpec)) decSameCard

/-- THE SECOND FORM's CARD OF 'gantlinelaw06.DecMakes'. -/
def decMakesUptoCard : Claim7 := { stood := { row := decMakesUptoRow, standIns := [], harness := (true, "c9ba189e4fbfcab0d6459c5155be4fbfcc07bb386b5380dc4fdb1d4b0ec9cf06"), looks := false }, kinds := [], alts := [], laidByText := true, laidKinds := [.data, .data, .data, .data, .pinned], laidTests := true, laidLooks := .later }
def DecMakesUptoCardSaid : Prop := Claim7.holds Tryd.pinned (.plain (OpenSpec.upto decMakesSpec)) decMakesUptoCard

/-- THE SECOND FORM's CARD OF 'gantlinelaw06.DecReads'. -/
def decReadsUptoCard : Claim7 := { stood := { row := decReadsUptoRow, standIns := [], harness := (true, "c9ba189e4fbfcab0d6459c5155be4fbfcc07bb386b5380dc4fdb1d4b0ec9cf06"), looks := false }, kinds := [], alts := [], laidByText := true, laidKinds := [.data, .data, .data, .data, .pinned], laidTests := true, laidLooks := .later }
def DecReadsUptoCardSaid : Prop := Claim7.holds Tryd.pinned (.plain (OpenSpec.upto decReadsSpec)) decReadsUptoCard

/-- THE SECOND FORM's CARD OF 'gantlinelaw06.DecTells'. -/
def decTellsUptoCard : Claim7 := { stood := { row := decTellsUptoRow, standIns := [], harness := (true, "c9ba189e4fbfcab0d6459c5155be4fbfcc07bb386b5380dc4fdb1d4b0ec9cf06"), looks := false }, kinds := [], alts := [], laidByText := true, laidKinds := [.data, .data, .data, .data, .pinned], laidTests := true, laidLooks := .later }
def DecTellsUptoCardSaid : Prop := Claim7.holds Tryd.pinned (.plain (OpenSpec.upto decTellsSpec)) decTellsUptoCard

/-- THE SECOND FORM's CARD OF 'gantlinelaw06.DecOrders'. -/
def decOrdersUptoCard : Claim7 := { stood := { row := decOrdersUptoRow, standIns := [], harness := (true, "c9ba189e4fbfcab0d6459c5155be4fbfcc07bb386b5380dc4fdb1d4b0ec9cf06"), looks := false }, kinds := [], alts := [], laidByText := true, laidKinds := [.data, .data, .data, .data, .pinned], laidTests := true, laidLooks := .later }
def DecOrdersUptoCardSaid : Prop := Claim7.holds Tryd.pinned (.plain (OpenSpec.upto decOrdersSpec)) decOrdersUptoCard

/-- THE SECOND FORM's CARD OF 'gantlinelaw06.DecBack'. -/
def decBackUptoCard : Claim7 := { stood := { row := decBackUptoRow, standIns := [], harness := (true, "c9ba189e4fbfcab0d6459c5155be4fbfcc07bb386b5380dc4fdb1d4b0ec9cf06"), looks := false }, kinds := [], alts := [], laidByText := true, laidKinds := [.data, .data, .data, .data, .pinned], laidTests := true, laidLooks := .later }
def DecBackUptoCardSaid : Prop := Claim7.holds Tryd.pinned (.plain (OpenSpec.upto decBackSpec)) decBackUptoCard

/-- THE SECOND FORM's CARD OF 'gantlinelaw06.DecSame'. -/
def decSameUptoCard : Claim7 := { stood := { row := decSameUptoRow, standIns := [], harness := (true, "c9ba189e4fbfcab0d6459c5155be4fbfcc07bb386b5380dc4fdb1d4b0ec9cf06"), looks := false }, kinds := [], alts := [], laidByText := true, laidKinds := [.data, .data, .data, .data, .pinned], laidTests := true, laidLooks := .later }
def DecSameUptoCardSaid : Prop := Claim7.holds Tryd.pinned (.plain (OpenSpec.upto decSameSpec)) decSameUptoCard
end Rows
end Go.Proofs.YtcnfgmhcbelgoaaDoor
