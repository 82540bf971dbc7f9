/-
  DERIVED. GIVEN WITH THE SEED: THE CARDS: each row of YtnjbppfanmmifaaGreatDoorRows.lean that lists a variable, with what it lists TIED to the program's text (the seventh form; the later family's looks); each row that meets fmt, with fmt's text TOLD by the authors' own Lean function (tested against real Go, not proved from fmt's source: count such statements apart). THE CARD IS WHAT COUNTS. Prove the row's statement (the work); the ties are given (YtnjbppfanmmifaaGreatDoorTie.lean); close each card by the builder's one call (the guide's Derived/Test/ToyasCard.lean, 'card_holds'). Laid BY PROGRAM, IN A SANDBOX (cutbox-door.mjs). By AI agents, Wed Nov 11 2026. No macro, syntax, notation, axiom, sorry.
-/
import Derived.Test.YtnjbppfanmmifaaGreatDoorRows
import GoSem.ClaimSeven
namespace Go.Proofs.YtnjbppfanmmifaaGreatDoor
namespace Rows

/-- THE TIED CARD OF 'gantlinelaw12.CreadReads'. -/
def creadReadsCard : Claim7 := { stood := { row := creadReadsRow, standIns := [], harness := (true, "83ccfe7675ebb5a1c841eede1a9bf964db5a671464124c5e32a33d566e118a19"), looks := true }, kinds := [], alts := [], laidByText := true, laidKinds := [.data, .data, .data, .data, .sentinel, .sentinel, .pinned], laidTests := true, laidLooks := .later }
def CreadReadsCardSaid : Prop := Claim7.holds Tryz.pinned (.plain (OpenSpec.ofChange creadReadsSpec)) creadReadsCard

/-- THE TIED CARD OF 'gantlinelaw12.CreadItems'. -/
def creadItemsCard : Claim7 := { stood := { row := creadItemsRow, standIns := [], harness := (true, "83ccfe7675ebb5a1c841eede1a9bf964db5a671464124c5e32a33d566e118a19"), looks := true }, kinds := [], alts := [], laidByText := true, laidKinds := [.data, .data, .data, .data, .sentinel, .sentinel, .pinned], laidTests := true, laidLooks := .later }
def CreadItemsCardSaid : Prop := Claim7.holds Tryz.pinned (.plain (OpenSpec.ofChange creadItemsSpec)) creadItemsCard

/-- THE TIED CARD OF 'gantlinelaw12.CreadRight'. -/
def creadRightCard : Claim7 := { stood := { row := creadRightRow, standIns := [], harness := (true, "83ccfe7675ebb5a1c841eede1a9bf964db5a671464124c5e32a33d566e118a19"), looks := true }, kinds := [], alts := [], laidByText := true, laidKinds := [.data, .data, .data, .data, .sentinel, .sentinel, .pinned], laidTests := true, laidLooks := .later }
def CreadRightCardSaid : Prop := Claim7.holds Tryz.pinned (.plain (OpenSpec.ofChange creadRightSpec)) creadRightCard

/-- THE TIED CARD OF 'gantlinelaw12.CreadBehind'. -/
def creadBehindCard : Claim7 := { stood := { row := creadBehindRow, standIns := [], harness := (true, "83ccfe7675ebb5a1c841eede1a9bf964db5a671464124c5e32a33d566e118a19"), looks := true }, kinds := [], alts := [], laidByText := true, laidKinds := [.data, .data, .data, .data, .sentinel, .sentinel, .pinned], laidTests := true, laidLooks := .later }
def CreadBehindCardSaid : Prop := Claim7.holds Tryz.pinned (.plain (OpenSpec.ofChange creadBehindSpec)) creadBehindCard

/-- THE TIED CARD OF 'gantlinelaw12.CreadHeads'. -/
def creadHeadsCard : Claim7 := { stood := { row := creadHeadsRow, standIns := [], harness := (true, "83ccfe7675ebb5a1c841eede1a9bf964db5a671464124c5e32a33d566e118a19"), looks := true }, kinds := [], alts := [], laidByText := true, laidKinds := [.data, .data, .data, .data, .sentinel, .sentinel, .pinned], laidTests := true, laidLooks := .later }
def CreadHeadsCardSaid : Prop := Claim7.holds Tryz.pinned (.plain (OpenSpec.ofChange creadHeadsSpec)) creadHeadsCard

/-- THE TIED CARD OF 'gantlinelaw12.CreadList'. -/
def creadListCard : Claim7 := { stood := { row := creadListRow, standIns := [], harness := (true, "83ccfe7675ebb5a1c841eede1a9bf964db5a671464124c5e32a33d566e118a19"), looks := true }, kinds := [], alts := [], laidByText := true, laidKinds := [.data, .data, .data, .data, .sentinel, .sentinel, .pinned], laidTests := true, laidLooks := .later }
def CreadListCardSaid : Prop := Claim7.holds Tryz.pinned (.plain (OpenSpec.ofChange creadListSpec)) creadListCard

/-- THE TIED CARD OF 'gantlinelaw12.CreadOwn'. -/
def creadOwnCard : Claim7 := { stood := { row := creadOwnRow, standIns := [], harness := (true, "83ccfe7675ebb5a1c841eede1a9bf964db5a671464124c5e32a33d566e118a19"), looks := true }, kinds := [], alts := [], laidByText := true, laidKinds := [.data, .data, .data, .data, .sentinel, .sentinel, .pinned], laidTests := true, laidLooks := .later }
def CreadOwnCardSaid : Prop := Claim7.holds Tryz.pinned (.plain (OpenSpec.ofChange creadOwnSpec)) creadOwnCard

/-- THE TIED CARD OF 'gantlinelaw13.CsayWrites'. -/
def csayWritesCard : Claim7 := { stood := { row := csayWritesRow, standIns := [], harness := (true, "83ccfe7675ebb5a1c841eede1a9bf964db5a671464124c5e32a33d566e118a19"), looks := true }, kinds := [], alts := [], laidByText := true, laidKinds := [.data, .data, .data, .data, .sentinel, .sentinel, .pinned], laidTests := true, laidLooks := .later }
def CsayWritesCardSaid : Prop := Claim7.holds Tryz.pinned (.plain (OpenSpec.ofChange csayWritesSpec)) csayWritesCard

/-- THE TIED CARD OF 'gantlinelaw13.CsayHeads'. -/
def csayHeadsCard : Claim7 := { stood := { row := csayHeadsRow, standIns := [], harness := (true, "83ccfe7675ebb5a1c841eede1a9bf964db5a671464124c5e32a33d566e118a19"), looks := true }, kinds := [], alts := [], laidByText := true, laidKinds := [.data, .data, .data, .data, .sentinel, .sentinel, .pinned], laidTests := true, laidLooks := .later }
def CsayHeadsCardSaid : Prop := Claim7.holds Tryz.pinned (.plain (OpenSpec.ofChange csayHeadsSpec)) csayHeadsCard

/-- THE TIED CARD OF 'gantlinelaw13.CsayForms'. -/
def csayFormsCard : Claim7 := { stood := { row := csayFormsRow, standIns := [], harness := (true, "83ccfe7675ebb5a1c841eede1a9bf964db5a671464124c5e32a33d566e118a19"), looks := true }, kinds := [], alts := [], laidByText := true, laidKinds := [.data, .data, .data, .data, .sentinel, .sentinel, .pinned], laidTests := true, laidLooks := .later }
def CsayFormsCardSaid : Prop := Claim7.holds Tryz.pinned (.plain (OpenSpec.ofChange csayFormsSpec)) csayFormsCard

/-- THE TIED CARD OF 'gantlinelaw13.CsayBack'. -/
def csayBackCard : Claim7 := { stood := { row := csayBackRow, standIns := [], harness := (true, "83ccfe7675ebb5a1c841eede1a9bf964db5a671464124c5e32a33d566e118a19"), looks := true }, kinds := [], alts := [], laidByText := true, laidKinds := [.data, .data, .data, .data, .sentinel, .sentinel, .pinned], laidTests := true, laidLooks := .later }
def CsayBackCardSaid : Prop := Claim7.holds Tryz.pinned (.plain (OpenSpec.ofChange csayBackSpec)) csayBackCard

/-- THE TIED CARD OF 'gantlinelaw13.CsayTwice'. -/
def csayTwiceCard : Claim7 := { stood := { row := csayTwiceRow, standIns := [], harness := (true, "83ccfe7675ebb5a1c841eede1a9bf964db5a671464124c5e32a33d566e118a19"), looks := true }, kinds := [], alts := [], laidByText := true, laidKinds := [.data, .data, .data, .data, .sentinel, .sentinel, .pinned], laidTests := true, laidLooks := .later }
def CsayTwiceCardSaid : Prop := Claim7.holds Tryz.pinned (.plain (OpenSpec.ofChange csayTwiceSpec)) csayTwiceCard

/-- THE TIED CARD OF 'gantlinelaw13.CsayUnlike'. -/
def csayUnlikeCard : Claim7 := { stood := { row := csayUnlikeRow, standIns := [], harness := (true, "83ccfe7675ebb5a1c841eede1a9bf964db5a671464124c5e32a33d566e118a19"), looks := true }, kinds := [], alts := [], laidByText := true, laidKinds := [.data, .data, .data, .data, .sentinel, .sentinel, .pinned], laidTests := true, laidLooks := .later }
def CsayUnlikeCardSaid : Prop := Claim7.holds Tryz.pinned (.plain (OpenSpec.ofChange csayUnlikeSpec)) csayUnlikeCard

/-- THE TIED CARD OF 'gantlinelaw13.CsayPrefix'. -/
def csayPrefixCard : Claim7 := { stood := { row := csayPrefixRow, standIns := [], harness := (true, "83ccfe7675ebb5a1c841eede1a9bf964db5a671464124c5e32a33d566e118a19"), looks := true }, kinds := [], alts := [], laidByText := true, laidKinds := [.data, .data, .data, .data, .sentinel, .sentinel, .pinned], laidTests := true, laidLooks := .later }
def CsayPrefixCardSaid : Prop := Claim7.holds Tryz.pinned (.plain (OpenSpec.ofChange csayPrefixSpec)) csayPrefixCard

/-- THE SECOND FORM's CARD OF 'gantlinelaw12.CreadReads'. -/
def creadReadsUptoCard : Claim7 := { stood := { row := creadReadsUptoRow, standIns := [], harness := (true, "83ccfe7675ebb5a1c841eede1a9bf964db5a671464124c5e32a33d566e118a19"), looks := true }, kinds := [], alts := [], laidByText := true, laidKinds := [.data, .data, .data, .data, .sentinel, .sentinel, .pinned], laidTests := true, laidLooks := .later }
def CreadReadsUptoCardSaid : Prop := Claim7.holds Tryz.pinned (.plain (OpenSpec.upto creadReadsSpec)) creadReadsUptoCard

/-- THE SECOND FORM's CARD OF 'gantlinelaw12.CreadItems'. -/
def creadItemsUptoCard : Claim7 := { stood := { row := creadItemsUptoRow, standIns := [], harness := (true, "83ccfe7675ebb5a1c841eede1a9bf964db5a671464124c5e32a33d566e118a19"), looks := true }, kinds := [], alts := [], laidByText := true, laidKinds := [.data, .data, .data, .data, .sentinel, .sentinel, .pinned], laidTests := true, laidLooks := .later }
def CreadItemsUptoCardSaid : Prop := Claim7.holds Tryz.pinned (.plain (OpenSpec.upto creadItemsSpec)) creadItemsUptoCard

/-- THE SECOND FORM's CARD OF 'gantlinelaw12.CreadRight'. -/
def creadRightUptoCard : Claim7 := { stood := { row := creadRightUptoRow, standIns := [], harness := (true, "83ccfe7675ebb5a1c841eede1a9bf964db5a671464124c5e32a33d566e118a19"), looks := true }, kinds := [], alts := [], laidByText := true, laidKinds := [.data, .data, .data, .data, .sentinel, .sentinel, .pinned], laidTests := true, laidLooks := .later }
def CreadRightUptoCardSaid : Prop := Claim7.holds Tryz.pinned (.plain (OpenSpec.upto creadRightSpec)) creadRightUptoCard

/-- THE SECOND FORM's CARD OF 'gantlinelaw12.CreadBehind'. -/
def creadBehindUptoCard : Claim7 := { stood := { row := creadBehindUptoRow, standIns := [], harness := (true, "83ccfe7675ebb5a1c841eede1a9bf964db5a671464124c5e32a33d566e118a19"), looks := true }, kinds := [], alts := [], laidByText := true, laidKinds := [.data, .data, .data, .data, .sentinel, .sentinel, .pinned], laidTests := true, laidLooks := .later }
def CreadBehindUptoCardSaid : Prop := Claim7.holds Tryz.pinned (.plain (OpenSpec.upto creadBehindSpec)) creadBehindUptoCard

/-- THE SECOND FORM's CARD OF 'gantlinelaw12.CreadHeads'. -/
def creadHeadsUptoCard : Claim7 := { stood := { row := creadHeadsUptoRow, standIns := [], harness := (true, "83ccfe7675ebb5a1c841eede1a9bf964db5a671464124c5e32a33d566e118a19"), looks := true }, kinds := [], alts := [], laidByText := true, laidKinds := [.data, .data, .data, .data, .sentinel, .sentinel, .pinned], laidTests := true, laidLooks := .later }
def CreadHeadsUptoCardSaid : Prop := Claim7.holds Tryz.pinned (.plain (OpenSpec.upto creadHeadsSpec)) creadHeadsUptoCard

/-- THE SECOND FORM's CARD OF 'gantlinelaw12.CreadList'. -/
def creadListUptoCard : Claim7 := { stood := { row := creadListUptoRow, standIns := [], harness := (true, "83ccfe7675ebb5a1c841eede1a9bf964db5a671464124c5e32a33d566e118a19"), looks := true }, kinds := [], alts := [], laidByText := true, laidKinds := [.data, .data, .data, .data, .sentinel, .sentinel, .pinned], laidTests := true, laidLooks := .later }
def CreadListUptoCardSaid : Prop := Claim7.holds Tryz.pinned (.plain (OpenSpec.upto creadListSpec)) creadListUptoCard

/-- THE SECOND FORM's CARD OF 'gantlinelaw12.CreadOwn'. -/
def creadOwnUptoCard : Claim7 := { stood := { row := creadOwnUptoRow, standIns := [], harness := (true, "83ccfe7675ebb5a1c841eede1a9bf964db5a671464124c5e32a33d566e118a19"), looks := true }, kinds := [], alts := [], laidByText := true, laidKinds := [.data, .data, .data, .data, .sentinel, .sentinel, .pinned], laidTests := true, laidLooks := .later }
def CreadOwnUptoCardSaid : Prop := Claim7.holds Tryz.pinned (.plain (OpenSpec.upto creadOwnSpec)) creadOwnUptoCard

/-- THE SECOND FORM's CARD OF 'gantlinelaw13.CsayWrites'. -/
def csayWritesUptoCard : Claim7 := { stood := { row := csayWritesUptoRow, standIns := [], harness := (true, "83ccfe7675ebb5a1c841eede1a9bf964db5a671464124c5e32a33d566e118a19"), looks := true }, kinds := [], alts := [], laidByText := true, laidKinds := [.data, .data, .data, .data, .sentinel, .sentinel, .pinned], laidTests := true, laidLooks := .later }
def CsayWritesUptoCardSaid : Prop := Claim7.holds Tryz.pinned (.plain (OpenSpec.upto csayWritesSpec)) csayWritesUptoCard

/-- THE SECOND FORM's CARD OF 'gantlinelaw13.CsayHeads'. -/
def csayHeadsUptoCard : Claim7 := { stood := { row := csayHeadsUptoRow, standIns := [], harness := (true, "83ccfe7675ebb5a1c841eede1a9bf964db5a671464124c5e32a33d566e118a19"), looks := true }, kinds := [], alts := [], laidByText := true, laidKinds := [.data, .data, .data, .data, .sentinel, .sentinel, .pinned], laidTests := true, laidLooks := .later }
def CsayHeadsUptoCardSaid : Prop := Claim7.holds Tryz.pinned (.plain (OpenSpec.upto csayHeadsSpec)) csayHeadsUptoCard

/-- THE SECOND FORM's CARD OF 'gantlinelaw13.CsayForms'. -/
def csayFormsUptoCard : Claim7 := { stood := { row := csayFormsUptoRow, standIns := [], harness := (true, "83ccfe7675ebb5a1c841eede1a9bf964db5a671464124c5e32a33d566e118a19"), looks := true }, kinds := [], alts := [], laidByText := true, laidKinds := [.data, .data, .data, .data, .sentinel, .sentinel, .pinned], laidTests := true, laidLooks := .later }
def CsayFormsUptoCardSaid : Prop := Claim7.holds Tryz.pinned (.plain (OpenSpec.upto csayFormsSpec)) csayFormsUptoCard

/-- THE SECOND FORM's CARD OF 'gantlinelaw13.CsayBack'. -/
def csayBackUptoCard : Claim7 := { stood := { row := csayBackUptoRow, standIns := [], harness := (true, "83ccfe7675ebb5a1c841eede1a9bf964db5a671464124c5e32a33d566e118a19"), looks := true }, kinds := [], alts := [], laidByText := true, laidKinds := [.data, .data, .data, .data, .sentinel, .sentinel, .pinned], laidTests := true, laidLooks := .later }
def CsayBackUptoCardSaid : Prop := Claim7.holds Tryz.pinned (.plain (OpenSpec.upto csayBackSpec)) csayBackUptoCard

/-- THE SECOND FORM's CARD OF 'gantlinelaw13.CsayTwice'. -/
def csayTwiceUptoCard : Claim7 := { stood := { row := csayTwiceUptoRow, standIns := [], harness := (true, "83ccfe7675ebb5a1c841eede1a9bf964db5a671464124c5e32a33d566e118a19"), looks := true }, kinds := [], alts := [], laidByText := true, laidKinds := [.data, .data, .data, .data, .sentinel, .sentinel, .pinned], laidTests := true, laidLooks := .later }
def CsayTwiceUptoCardSaid : Prop := Claim7.holds Tryz.pinned (.plain (OpenSpec.upto csayTwiceSpec)) csayTwiceUptoCard

/-- THE SECOND FORM's CARD OF 'gantlinelaw13.CsayUnlike'. -/
def csayUnlikeUptoCard : Claim7 := { stood := { row := csayUnlikeUptoRow, standIns := [], harness := (true, "83ccfe7675ebb5a1c841eede1a9bf964db5a671464124c5e32a33d566e118a19"), looks := true }, kinds := [], alts := [], laidByText := true, laidKinds := [.data, .data, .data, .data, .sentinel, .sentinel, .pinned], laidTests := true, laidLooks := .later }
def CsayUnlikeUptoCardSaid : Prop := Claim7.holds Tryz.pinned (.plain (OpenSpec.upto csayUnlikeSpec)) csayUnlikeUptoCard

/-- THE SECOND FORM's CARD OF 'gantlinelaw13.CsayPrefix'. -/
def csayPrefixUptoCard : Claim7 := { stood := { row := csayPrefixUptoRow, standIns := [], harness := (true, "83ccfe7675ebb5a1c841eede1a9bf964db5a671464124c5e32a33d566e118a19"), looks := true }, kinds := [], alts := [], laidByText := true, laidKinds := [.data, .data, .data, .data, .sentinel, .sentinel, .pinned], laidTests := true, laidLooks := .later }
def CsayPrefixUptoCardSaid : Prop := Claim7.holds Tryz.pinned (.plain (OpenSpec.upto csayPrefixSpec)) csayPrefixUptoCard
end Rows
end Go.Proofs.YtnjbppfanmmifaaGreatDoor
