/-
  DERIVED. GIVEN WITH THE SEED: THE CARDS: each row of YtjdceigndleadaaDoorRows.lean that lists a variable, with what it lists TIED to the program's text (the seventh form; the later family's looks); each row that meets fmt, with fmt's text TOLD by the authors' own Lean function (tested against real Go, not proved from fmt's source: count such statements apart). THE CARD IS WHAT COUNTS. Prove the row's statement (the work); the ties are given (YtjdceigndleadaaDoorTie.lean); close each card by the builder's one call (the guide's Derived/Test/ToyasCard.lean, 'card_holds'). Laid BY PROGRAM, IN A SANDBOX (cutbox-door.mjs). By AI agents, Wed Nov 11 2026. No macro, syntax, notation, axiom, sorry.
-/
import Derived.Test.YtjdceigndleadaaDoorRows
import GoSem.ClaimSeven
namespace Go.Proofs.YtjdceigndleadaaDoor
namespace Rows

/-- THE TIED CARD OF 'gantlinelaw07.FltWidens'. -/
def fltWidensCard : Claim7 := { stood := { row := fltWidensRow, standIns := [], harness := (true, "e0a54645fc59091a7f8b99062e912a849103fc86ac876f66c6b0c953c9d077d4"), looks := false }, kinds := [], alts := [], laidByText := true, laidKinds := [.data, .data, .data, .data, .pinned], laidTests := true, laidLooks := .later }
def FltWidensCardSaid : Prop := Claim7.holds Tryd.pinned (.plain (OpenSpec.ofChange fltWidensSpec)) fltWidensCard

/-- THE TIED CARD OF 'gantlinelaw07.FltNarrows'. -/
def fltNarrowsCard : Claim7 := { stood := { row := fltNarrowsRow, standIns := [], harness := (true, "e0a54645fc59091a7f8b99062e912a849103fc86ac876f66c6b0c953c9d077d4"), looks := false }, kinds := [], alts := [], laidByText := true, laidKinds := [.data, .data, .data, .data, .pinned], laidTests := true, laidLooks := .later }
def FltNarrowsCardSaid : Prop := Claim7.holds Tryd.pinned (.plain (OpenSpec.ofChange fltNarrowsSpec)) fltNarrowsCard

/-- THE TIED CARD OF 'gantlinelaw07.FltBack'. -/
def fltBackCard : Claim7 := { stood := { row := fltBackRow, standIns := [], harness := (true, "e0a54645fc59091a7f8b99062e912a849103fc86ac876f66c6b0c953c9d077d4"), looks := false }, kinds := [], alts := [], laidByText := true, laidKinds := [.data, .data, .data, .data, .pinned], laidTests := true, laidLooks := .later }
def FltBackCardSaid : Prop := Claim7.holds Tryd.pinned (.plain (OpenSpec.ofChange fltBackSpec)) fltBackCard

/-- THE TIED CARD OF 'gantlinelaw07.FltOrders'. -/
def fltOrdersCard : Claim7 := { stood := { row := fltOrdersRow, standIns := [], harness := (true, "e0a54645fc59091a7f8b99062e912a849103fc86ac876f66c6b0c953c9d077d4"), looks := false }, kinds := [], alts := [], laidByText := true, laidKinds := [.data, .data, .data, .data, .pinned], laidTests := true, laidLooks := .later }
def FltOrdersCardSaid : Prop := Claim7.holds Tryd.pinned (.plain (OpenSpec.ofChange fltOrdersSpec)) fltOrdersCard

/-- THE TIED CARD OF 'gantlinelaw07.FltSigns'. -/
def fltSignsCard : Claim7 := { stood := { row := fltSignsRow, standIns := [], harness := (true, "e0a54645fc59091a7f8b99062e912a849103fc86ac876f66c6b0c953c9d077d4"), looks := false }, kinds := [], alts := [], laidByText := true, laidKinds := [.data, .data, .data, .data, .pinned], laidTests := true, laidLooks := .later }
def FltSignsCardSaid : Prop := Claim7.holds Tryd.pinned (.plain (OpenSpec.ofChange fltSignsSpec)) fltSignsCard

/-- THE SECOND FORM's CARD OF 'gantlinelaw07.FltWidens'. -/
def fltWidensUptoCard : Claim7 := { stood := { row := fltWidensUptoRow, standIns := [], harness := (true, "e0a54645fc59091a7f8b99062e912a849103fc86ac876f66c6b0c953c9d077d4"), looks := false }, kinds := [], alts := [], laidByText := true, laidKinds := [.data, .data, .data, .data, .pinned], laidTests := true, laidLooks := .later }
def FltWidensUptoCardSaid : Prop := Claim7.holds Tryd.pinned (.plain (OpenSpec.upto fltWidensSpec)) fltWidensUptoCard

/-- THE SECOND FORM's CARD OF 'gantlinelaw07.FltNarrows'. -/
def fltNarrowsUptoCard : Claim7 := { stood := { row := fltNarrowsUptoRow, standIns := [], harness := (true, "e0a54645fc59091a7f8b99062e912a849103fc86ac876f66c6b0c953c9d077d4"), looks := false }, kinds := [], alts := [], laidByText := true, laidKinds := [.data, .data, .data, .data, .pinned], laidTests := true, laidLooks := .later }
def FltNarrowsUptoCardSaid : Prop := Claim7.holds Tryd.pinned (.plain (OpenSpec.upto fltNarrowsSpec)) fltNarrowsUptoCard

/-- THE SECOND FORM's CARD OF 'gantlinelaw07.FltBack'. -/
def fltBackUptoCard : Claim7 := { stood := { row := fltBackUptoRow, standIns := [], harness := (true, "e0a54645fc59091a7f8b99062e912a849103fc86ac876f66c6b0c953c9d077d4"), looks := false }, kinds := [], alts := [], laidByText := true, laidKinds := [.data, .data, .data, .data, .pinned], laidTests := true, laidLooks := .later }
def FltBackUptoCardSaid : Prop := Claim7.holds Tryd.pinned (.plain (OpenSpec.upto fltBackSpec)) fltBackUptoCard

/-- THE SECOND FORM's CARD OF 'gantlinelaw07.FltOrders'. -/
def fltOrdersUptoCard : Claim7 := { stood := { row := fltOrdersUptoRow, standIns := [], harness := (true, "e0a54645fc59091a7f8b99062e912a849103fc86ac876f66c6b0c953c9d077d4"), looks := false }, kinds := [], alts := [], laidByText := true, laidKinds := [.data, .data, .data, .data, .pinned], laidTests := true, laidLooks := .later }
def FltOrdersUptoCardSaid : Prop := Claim7.holds Tryd.pinned (.plain (OpenSpec.upto fltOrdersSpec)) fltOrdersUptoCard

/-- THE SECOND FORM's CARD OF 'gantlinelaw07.FltSigns'. -/
def fltSignsUptoCard : Claim7 := { stood := { row := fltSignsUptoRow, standIns := [], harness := (true, "e0a54645fc59091a7f8b99062e912a849103fc86ac876f66c6b0c953c9d077d4"), looks := false }, kinds := [], alts := [], laidByText := true, laidKinds := [.data, .data, .data, .data, .pinned], laidTests := true, laidLooks := .later }
def FltSignsUptoCardSaid : Prop := Claim7.holds Tryd.pinned (.plain (OpenSpec.upto fltSignsSpec)) fltSignsUptoCard
end Rows
end Go.Proofs.YtjdceigndleadaaDoor
