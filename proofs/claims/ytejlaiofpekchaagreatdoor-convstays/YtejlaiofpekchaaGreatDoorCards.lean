/-
  DERIVED. GIVEN WITH THE SEED: THE CARDS: each row of YtejlaiofpekchaaGreatDoorRows.lean that lists a variable, with what it lists TIED to the program's text (the seventh form; the later family's looks); each row that meets fmt, with fmt's text TOLD by the authors' own Lean function (tested against real Go, not proved from fmt's source: count such statements apart). THE CARD IS WHAT COUNTS. Prove the row's statement (the work); the ties are given (YtejlaiofpekchaaGreatDoorTie.lean); close each card by the builder's one call (the guide's Derived/Test/ToyasCard.lean, 'card_holds'). Laid BY PROGRAM, IN A SANDBOX (cutbox-door.mjs). By AI agents, Wed Nov 11 2026. No macro, syntax, notation, axiom, sorry.
-/
import Derived.Test.YtejlaiofpekchaaGreatDoorRows
import GoSem.ClaimSeven
namespace Go.Proofs.YtejlaiofpekchaaGreatDoor
namespace Rows

/-- THE TIED CARD OF 'gantlinelaw14.ConvTells'. -/
def convTellsCard : Claim7 := { stood := { row := convTellsRow, standIns := [], harness := (true, "46c052d548f70c487b2469008c3389ba141a37919a1cfa3b3f6e4b82a9365d6c"), looks := false }, kinds := [], alts := [], laidByText := true, laidKinds := [.data, .data, .data, .data, .pinned], laidTests := true, laidLooks := .later }
def ConvTellsCardSaid : Prop := Claim7.holds Tryz.pinned (.plain (OpenSpec.ofChange convTellsSpec)) convTellsCard

/-- THE TIED CARD OF 'gantlinelaw14.ConvGives'. -/
def convGivesCard : Claim7 := { stood := { row := convGivesRow, standIns := [], harness := (true, "46c052d548f70c487b2469008c3389ba141a37919a1cfa3b3f6e4b82a9365d6c"), looks := false }, kinds := [], alts := [], laidByText := true, laidKinds := [.data, .data, .data, .data, .pinned], laidTests := true, laidLooks := .later }
def ConvGivesCardSaid : Prop := Claim7.holds Tryz.pinned (.plain (OpenSpec.ofChange convGivesSpec)) convGivesCard

/-- THE TIED CARD OF 'gantlinelaw14.ConvCan'. -/
def convCanCard : Claim7 := { stood := { row := convCanRow, standIns := [], harness := (true, "46c052d548f70c487b2469008c3389ba141a37919a1cfa3b3f6e4b82a9365d6c"), looks := false }, kinds := [], alts := [], laidByText := true, laidKinds := [.data, .data, .data, .data, .pinned], laidTests := true, laidLooks := .later }
def ConvCanCardSaid : Prop := Claim7.holds Tryz.pinned (.plain (OpenSpec.ofChange convCanSpec)) convCanCard

/-- THE TIED CARD OF 'gantlinelaw14.ConvStays'. -/
def convStaysCard : Claim7 := { stood := { row := convStaysRow, standIns := [], harness := (true, "46c052d548f70c487b2469008c3389ba141a37919a1cfa3b3f6e4b82a9365d6c"), looks := false }, kinds := [], alts := [], laidByText := true, laidKinds := [.data, .data, .data, .data, .pinned], laidTests := true, laidLooks := .later }
def ConvStaysCardSaid : Prop := Claim7.holds Tryz.pinned (.plain (OpenSpec.ofChange convStaysSpec)) convStaysCard

/-- THE TIED CARD OF 'gantlinelaw14.ConvOwn'. -/
def convOwnCard : Claim7 := { stood := { row := convOwnRow, standIns := [], harness := (true, "46c052d548f70c487b2469008c3389ba141a37919a1cfa3b3f6e4b82a9365d6c"), looks := false }, kinds := [], alts := [], laidByText := true, laidKinds := [.data, .data, .data, .data, .pinned], laidTests := true, laidLooks := .later }
def ConvOwnCardSaid : Prop := Claim7.holds Tryz.pinned (.plain (OpenSpec.ofChange convOwnSpec)) convOwnCard

/-- THE SECOND FORM's CARD OF 'gantlinelaw14.ConvTells'. -/
def convTellsUptoCard : Claim7 := { stood := { row := convTellsUptoRow, standIns := [], harness := (true, "46c052d548f70c487b2469008c3389ba141a37919a1cfa3b3f6e4b82a9365d6c"), looks := false }, kinds := [], alts := [], laidByText := true, laidKinds := [.data, .data, .data, .data, .pinned], laidTests := true, laidLooks := .later }
def ConvTellsUptoCardSaid : Prop := Claim7.holds Tryz.pinned (.plain (OpenSpec.upto convTellsSpec)) convTellsUptoCard

/-- THE SECOND FORM's CARD OF 'gantlinelaw14.ConvGives'. -/
def convGivesUptoCard : Claim7 := { stood := { row := convGivesUptoRow, standIns := [], harness := (true, "46c052d548f70c487b2469008c3389ba141a37919a1cfa3b3f6e4b82a9365d6c"), looks := false }, kinds := [], alts := [], laidByText := true, laidKinds := [.data, .data, .data, .data, .pinned], laidTests := true, laidLooks := .later }
def ConvGivesUptoCardSaid : Prop := Claim7.holds Tryz.pinned (.plain (OpenSpec.upto convGivesSpec)) convGivesUptoCard

/-- THE SECOND FORM's CARD OF 'gantlinelaw14.ConvCan'. -/
def convCanUptoCard : Claim7 := { stood := { row := convCanUptoRow, standIns := [], harness := (true, "46c052d548f70c487b2469008c3389ba141a37919a1cfa3b3f6e4b82a9365d6c"), looks := false }, kinds := [], alts := [], laidByText := true, laidKinds := [.data, .data, .data, .data, .pinned], laidTests := true, laidLooks := .later }
def ConvCanUptoCardSaid : Prop := Claim7.holds Tryz.pinned (.plain (OpenSpec.upto convCanSpec)) convCanUptoCard

/-- THE SECOND FORM's CARD OF 'gantlinelaw14.ConvStays'. -/
def convStaysUptoCard : Claim7 := { stood := { row := convStaysUptoRow, standIns := [], harness := (true, "46c052d548f70c487b2469008c3389ba141a37919a1cfa3b3f6e4b82a9365d6c"), looks := false }, kinds := [], alts := [], laidByText := true, laidKinds := [.data, .data, .data, .data, .pinned], laidTests := true, laidLooks := .later }
def ConvStaysUptoCardSaid : Prop := Claim7.holds Tryz.pinned (.plain (OpenSpec.upto convStaysSpec)) convStaysUptoCard

/-- THE SECOND FORM's CARD OF 'gantlinelaw14.ConvOwn'. -/
def convOwnUptoCard : Claim7 := { stood := { row := convOwnUptoRow, standIns := [], harness := (true, "46c052d548f70c487b2469008c3389ba141a37919a1cfa3b3f6e4b82a9365d6c"), looks := false }, kinds := [], alts := [], laidByText := true, laidKinds := [.data, .data, .data, .data, .pinned], laidTests := true, laidLooks := .later }
def ConvOwnUptoCardSaid : Prop := Claim7.holds Tryz.pinned (.plain (OpenSpec.upto convOwnSpec)) convOwnUptoCard
end Rows
end Go.Proofs.YtejlaiofpekchaaGreatDoor
