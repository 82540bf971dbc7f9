/-
  DERIVED. GIVEN WITH THE SEED: THE CARDS: each row of YtelabgonpmafpaaGreatDoorRows.lean that lists a variable, with what it lists TIED to the program's text (the seventh form; the later family's looks); each row that meets fmt, with fmt's text TOLD by the authors' own Lean function (tested against real Go, not proved from fmt's source: count such statements apart). THE CARD IS WHAT COUNTS. Prove the row's statement (the work); the ties are given (YtelabgonpmafpaaGreatDoorTie.lean); close each card by the builder's one call (the guide's Derived/Test/ToyasCard.lean, 'card_holds'). Laid BY PROGRAM, IN A SANDBOX (cutbox-door.mjs). By AI agents, Wed Nov 11 2026. No macro, syntax, notation, axiom, sorry.
-/
import Derived.Test.YtelabgonpmafpaaGreatDoorRows
import GoSem.ClaimSeven
namespace Go.Proofs.YtelabgonpmafpaaGreatDoor
namespace Rows

/-- THE TIED CARD OF 'gantlinelaw11.JsayPrints'. -/
def jsayPrintsCard : Claim7 := { stood := { row := jsayPrintsRow, standIns := [], harness := (true, "eaee60d3e8739b49fccfca194b859667bb831138206d8f6ee31760245314499e"), looks := false }, kinds := [], alts := [], laidByText := true, laidKinds := [.data, .data, .data], laidTests := true, laidLooks := .later }
def JsayPrintsCardSaid : Prop := Claim7.holds Tryz.pinned (.plain (OpenSpec.ofChange jsayPrintsSpec)) jsayPrintsCard

/-- THE TIED CARD OF 'gantlinelaw11.JsayForms'. -/
def jsayFormsCard : Claim7 := { stood := { row := jsayFormsRow, standIns := [], harness := (true, "eaee60d3e8739b49fccfca194b859667bb831138206d8f6ee31760245314499e"), looks := false }, kinds := [], alts := [], laidByText := true, laidKinds := [.data, .data, .data, .data, .pinned], laidTests := true, laidLooks := .later }
def JsayFormsCardSaid : Prop := Claim7.holds Tryz.pinned (.plain (OpenSpec.ofChange jsayFormsSpec)) jsayFormsCard

/-- THE TIED CARD OF 'gantlinelaw11.JsayBack'. -/
def jsayBackCard : Claim7 := { stood := { row := jsayBackRow, standIns := [], harness := (true, "eaee60d3e8739b49fccfca194b859667bb831138206d8f6ee31760245314499e"), looks := false }, kinds := [], alts := [], laidByText := true, laidKinds := [.data, .data, .data], laidTests := true, laidLooks := .later }
def JsayBackCardSaid : Prop := Claim7.holds Tryz.pinned (.plain (OpenSpec.ofChange jsayBackSpec)) jsayBackCard

/-- THE TIED CARD OF 'gantlinelaw11.JsayTwice'. -/
def jsayTwiceCard : Claim7 := { stood := { row := jsayTwiceRow, standIns := [], harness := (true, "eaee60d3e8739b49fccfca194b859667bb831138206d8f6ee31760245314499e"), looks := false }, kinds := [], alts := [], laidByText := true, laidKinds := [.data, .data, .data, .data, .pinned], laidTests := true, laidLooks := .later }
def JsayTwiceCardSaid : Prop := Claim7.holds Tryz.pinned (.plain (OpenSpec.ofChange jsayTwiceSpec)) jsayTwiceCard

/-- THE SECOND FORM's CARD OF 'gantlinelaw11.JsayPrints'. -/
def jsayPrintsUptoCard : Claim7 := { stood := { row := jsayPrintsUptoRow, standIns := [], harness := (true, "eaee60d3e8739b49fccfca194b859667bb831138206d8f6ee31760245314499e"), looks := false }, kinds := [], alts := [], laidByText := true, laidKinds := [.data, .data, .data], laidTests := true, laidLooks := .later }
def JsayPrintsUptoCardSaid : Prop := Claim7.holds Tryz.pinned (.plain (OpenSpec.upto jsayPrintsSpec)) jsayPrintsUptoCard

/-- THE SECOND FORM's CARD OF 'gantlinelaw11.JsayForms'. -/
def jsayFormsUptoCard : Claim7 := { stood := { row := jsayFormsUptoRow, standIns := [], harness := (true, "eaee60d3e8739b49fccfca194b859667bb831138206d8f6ee31760245314499e"), looks := false }, kinds := [], alts := [], laidByText := true, laidKinds := [.data, .data, .data, .data, .pinned], laidTests := true, laidLooks := .later }
def JsayFormsUptoCardSaid : Prop := Claim7.holds Tryz.pinned (.plain (OpenSpec.upto jsayFormsSpec)) jsayFormsUptoCard

/-- THE SECOND FORM's CARD OF 'gantlinelaw11.JsayBack'. -/
def jsayBackUptoCard : Claim7 := { stood := { row := jsayBackUptoRow, standIns := [], harness := (true, "eaee60d3e8739b49fccfca194b859667bb831138206d8f6ee31760245314499e"), looks := false }, kinds := [], alts := [], laidByText := true, laidKinds := [.data, .data, .data], laidTests := true, laidLooks := .later }
def JsayBackUptoCardSaid : Prop := Claim7.holds Tryz.pinned (.plain (OpenSpec.upto jsayBackSpec)) jsayBackUptoCard

/-- THE SECOND FORM's CARD OF 'gantlinelaw11.JsayTwice'. -/
def jsayTwiceUptoCard : Claim7 := { stood := { row := jsayTwiceUptoRow, standIns := [], harness := (true, "eaee60d3e8739b49fccfca194b859667bb831138206d8f6ee31760245314499e"), looks := false }, kinds := [], alts := [], laidByText := true, laidKinds := [.data, .data, .data, .data, .pinned], laidTests := true, laidLooks := .later }
def JsayTwiceUptoCardSaid : Prop := Claim7.holds Tryz.pinned (.plain (OpenSpec.upto jsayTwiceSpec)) jsayTwiceUptoCard
end Rows
end Go.Proofs.YtelabgonpmafpaaGreatDoor
