/-
  DERIVED. GIVEN WITH THE SEED: THE CARDS: each row of YtmlacmoembjeoaaGreatDoorRows.lean that lists a variable, with what it lists TIED to the program's text (the seventh form; the later family's looks); each row that meets fmt, with fmt's text TOLD by the authors' own Lean function (tested against real Go, not proved from fmt's source: count such statements apart). THE CARD IS WHAT COUNTS. Prove the row's statement (the work); the ties are given (YtmlacmoembjeoaaGreatDoorTie.lean); close each card by the builder's one call (the guide's Derived/Test/ToyasCard.lean, 'card_holds'). Laid BY PROGRAM, IN A SANDBOX (cutbox-door.mjs). By AI agents, Wed Nov 11 2026. No macro, syntax, notation, axiom, sorry.
-/
import Derived.Test.YtmlacmoembjeoaaGreatDoorRows
import GoSem.ClaimSeven
namespace Go.Proofs.YtmlacmoembjeoaaGreatDoor
namespace Rows

/-- THE TIED CARD OF 'gantlinelaw10.JreadReads'. -/
def jreadReadsCard : Claim7 := { stood := { row := jreadReadsRow, standIns := [], harness := (true, "1e7705e381e2aad8fc92b6594ea55ccdd1c347f9c5fe572782dc1087f0066b09"), looks := false }, kinds := [], alts := [], laidByText := true, laidKinds := [.data, .pinned], laidTests := true, laidLooks := .later }
def JreadReadsCardSaid : Prop := Claim7.holds Tryz.pinned (.plain (OpenSpec.ofChange jreadReadsSpec)) jreadReadsCard

/-- THE TIED CARD OF 'gantlinelaw10.JreadValid'. -/
def jreadValidCard : Claim7 := { stood := { row := jreadValidRow, standIns := [], harness := (true, "1e7705e381e2aad8fc92b6594ea55ccdd1c347f9c5fe572782dc1087f0066b09"), looks := false }, kinds := [], alts := [], laidByText := true, laidKinds := [.data, .pinned], laidTests := true, laidLooks := .later }
def JreadValidCardSaid : Prop := Claim7.holds Tryz.pinned (.plain (OpenSpec.ofChange jreadValidSpec)) jreadValidCard

/-- THE TIED CARD OF 'gantlinelaw10.JreadRight'. -/
def jreadRightCard : Claim7 := { stood := { row := jreadRightRow, standIns := [], harness := (true, "1e7705e381e2aad8fc92b6594ea55ccdd1c347f9c5fe572782dc1087f0066b09"), looks := false }, kinds := [], alts := [], laidByText := true, laidKinds := [.data, .pinned], laidTests := true, laidLooks := .later }
def JreadRightCardSaid : Prop := Claim7.holds Tryz.pinned (.plain (OpenSpec.ofChange jreadRightSpec)) jreadRightCard

/-- THE TIED CARD OF 'gantlinelaw10.JreadGaps'. -/
def jreadGapsCard : Claim7 := { stood := { row := jreadGapsRow, standIns := [], harness := (true, "1e7705e381e2aad8fc92b6594ea55ccdd1c347f9c5fe572782dc1087f0066b09"), looks := false }, kinds := [], alts := [], laidByText := true, laidKinds := [.data, .pinned], laidTests := true, laidLooks := .later }
def JreadGapsCardSaid : Prop := Claim7.holds Tryz.pinned (.plain (OpenSpec.ofChange jreadGapsSpec)) jreadGapsCard

/-- THE TIED CARD OF 'gantlinelaw10.JreadBoth'. -/
def jreadBothCard : Claim7 := { stood := { row := jreadBothRow, standIns := [], harness := (true, "1e7705e381e2aad8fc92b6594ea55ccdd1c347f9c5fe572782dc1087f0066b09"), looks := false }, kinds := [], alts := [], laidByText := true, laidKinds := [.data, .pinned], laidTests := true, laidLooks := .later }
def JreadBothCardSaid : Prop := Claim7.holds Tryz.pinned (.plain (OpenSpec.ofChange jreadBothSpec)) jreadBothCard

/-- THE TIED CARD OF 'gantlinelaw10.JreadMore'. -/
def jreadMoreCard : Claim7 := { stood := { row := jreadMoreRow, standIns := [], harness := (true, "1e7705e381e2aad8fc92b6594ea55ccdd1c347f9c5fe572782dc1087f0066b09"), looks := false }, kinds := [], alts := [], laidByText := true, laidKinds := [.data, .pinned], laidTests := true, laidLooks := .later }
def JreadMoreCardSaid : Prop := Claim7.holds Tryz.pinned (.plain (OpenSpec.ofChange jreadMoreSpec)) jreadMoreCard

/-- THE SECOND FORM's CARD OF 'gantlinelaw10.JreadReads'. -/
def jreadReadsUptoCard : Claim7 := { stood := { row := jreadReadsUptoRow, standIns := [], harness := (true, "1e7705e381e2aad8fc92b6594ea55ccdd1c347f9c5fe572782dc1087f0066b09"), looks := false }, kinds := [], alts := [], laidByText := true, laidKinds := [.data, .pinned], laidTests := true, laidLooks := .later }
def JreadReadsUptoCardSaid : Prop := Claim7.holds Tryz.pinned (.plain (OpenSpec.upto jreadReadsSpec)) jreadReadsUptoCard

/-- THE SECOND FORM's CARD OF 'gantlinelaw10.JreadValid'. -/
def jreadValidUptoCard : Claim7 := { stood := { row := jreadValidUptoRow, standIns := [], harness := (true, "1e7705e381e2aad8fc92b6594ea55ccdd1c347f9c5fe572782dc1087f0066b09"), looks := false }, kinds := [], alts := [], laidByText := true, laidKinds := [.data, .pinned], laidTests := true, laidLooks := .later }
def JreadValidUptoCardSaid : Prop := Claim7.holds Tryz.pinned (.plain (OpenSpec.upto jreadValidSpec)) jreadValidUptoCard

/-- THE SECOND FORM's CARD OF 'gantlinelaw10.JreadRight'. -/
def jreadRightUptoCard : Claim7 := { stood := { row := jreadRightUptoRow, standIns := [], harness := (true, "1e7705e381e2aad8fc92b6594ea55ccdd1c347f9c5fe572782dc1087f0066b09"), looks := false }, kinds := [], alts := [], laidByText := true, laidKinds := [.data, .pinned], laidTests := true, laidLooks := .later }
def JreadRightUptoCardSaid : Prop := Claim7.holds Tryz.pinned (.plain (OpenSpec.upto jreadRightSpec)) jreadRightUptoCard

/-- THE SECOND FORM's CARD OF 'gantlinelaw10.JreadGaps'. -/
def jreadGapsUptoCard : Claim7 := { stood := { row := jreadGapsUptoRow, standIns := [], harness := (true, "1e7705e381e2aad8fc92b6594ea55ccdd1c347f9c5fe572782dc1087f0066b09"), looks := false }, kinds := [], alts := [], laidByText := true, laidKinds := [.data, .pinned], laidTests := true, laidLooks := .later }
def JreadGapsUptoCardSaid : Prop := Claim7.holds Tryz.pinned (.plain (OpenSpec.upto jreadGapsSpec)) jreadGapsUptoCard

/-- THE SECOND FORM's CARD OF 'gantlinelaw10.JreadBoth'. -/
def jreadBothUptoCard : Claim7 := { stood := { row := jreadBothUptoRow, standIns := [], harness := (true, "1e7705e381e2aad8fc92b6594ea55ccdd1c347f9c5fe572782dc1087f0066b09"), looks := false }, kinds := [], alts := [], laidByText := true, laidKinds := [.data, .pinned], laidTests := true, laidLooks := .later }
def JreadBothUptoCardSaid : Prop := Claim7.holds Tryz.pinned (.plain (OpenSpec.upto jreadBothSpec)) jreadBothUptoCard

/-- THE SECOND FORM's CARD OF 'gantlinelaw10.JreadMore'. -/
def jreadMoreUptoCard : Claim7 := { stood := { row := jreadMoreUptoRow, standIns := [], harness := (true, "1e7705e381e2aad8fc92b6594ea55ccdd1c347f9c5fe572782dc1087f0066b09"), looks := false }, kinds := [], alts := [], laidByText := true, laidKinds := [.data, .pinned], laidTests := true, laidLooks := .later }
def JreadMoreUptoCardSaid : Prop := Claim7.holds Tryz.pinned (.plain (OpenSpec.upto jreadMoreSpec)) jreadMoreUptoCard
end Rows
end Go.Proofs.YtmlacmoembjeoaaGreatDoor
