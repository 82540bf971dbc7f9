/-
  DERIVED. GIVEN WITH THE SEED: THE CARDS: each row of YtgfnohgpmmaocaaDoorRows.lean that lists a variable, with what it lists TIED to the program's text (the seventh form; the later family's looks); each row that meets fmt, with fmt's text TOLD by the authors' own Lean function (tested against real Go, not proved from fmt's source: count such statements apart). THE CARD IS WHAT COUNTS. Prove the row's statement (the work); the ties are given (YtgfnohgpmmaocaaDoorTie.lean); close each card by the builder's one call (the guide's Derived/Test/ToyasCard.lean, 'card_holds'). Laid BY PROGRAM, IN A SANDBOX (cutbox-door.mjs). By AI agents, Wed Nov 11 2026. No macro, syntax, notation, axiom, sorry.
-/
import Derived.Test.YtgfnohgpmmaocaaDoorRows
import GoSem.ClaimSeven
namespace Go.Proofs.YtgfnohgpmmaocaaDoor
namespace Rows

/-- THE TIED CARD OF 'gantlinelaw15.LossBuilds'. -/
def lossBuildsCard : Claim7 := { stood := { row := lossBuildsRow, standIns := [], harness := (true, "d6a994490b3fd275c7993c3f740dd24037e52ab9493de26aea9f7a6063c5b3c0"), looks := false }, kinds := [], alts := [], laidByText := true, laidKinds := [.data, .data, .data], laidTests := true, laidLooks := .later }
def LossBuildsCardSaid : Prop := Claim7.holds Tryd.pinned (.plain (OpenSpec.ofChange lossBuildsSpec)) lossBuildsCard

/-- THE TIED CARD OF 'gantlinelaw15.LossParses'. -/
def lossParsesCard : Claim7 := { stood := { row := lossParsesRow, standIns := [], harness := (true, "d6a994490b3fd275c7993c3f740dd24037e52ab9493de26aea9f7a6063c5b3c0"), looks := false }, kinds := [], alts := [], laidByText := true, laidKinds := [.data, .data, .data], laidTests := true, laidLooks := .later }
def LossParsesCardSaid : Prop := Claim7.holds Tryd.pinned (.plain (OpenSpec.ofChange lossParsesSpec)) lossParsesCard

/-- THE TIED CARD OF 'gantlinelaw15.LossSays'. -/
def lossSaysCard : Claim7 := { stood := { row := lossSaysRow, standIns := [], harness := (true, "d6a994490b3fd275c7993c3f740dd24037e52ab9493de26aea9f7a6063c5b3c0"), looks := false }, kinds := [], alts := [], laidByText := true, laidKinds := [.data, .data, .data], laidTests := true, laidLooks := .later }
def LossSaysCardSaid : Prop := Claim7.holds Tryd.pinned (.plain (OpenSpec.ofChange lossSaysSpec)) lossSaysCard

/-- THE TIED CARD OF 'gantlinelaw15.LossBack'. -/
def lossBackCard : Claim7 := { stood := { row := lossBackRow, standIns := [], harness := (true, "d6a994490b3fd275c7993c3f740dd24037e52ab9493de26aea9f7a6063c5b3c0"), looks := false }, kinds := [], alts := [], laidByText := true, laidKinds := [.data, .data, .data], laidTests := true, laidLooks := .later }
def LossBackCardSaid : Prop := Claim7.holds Tryd.pinned (.plain (OpenSpec.ofChange lossBackSpec)) lossBackCard

/-- THE TIED CARD OF 'gantlinelaw15.LossOne'. -/
def lossOneCard : Claim7 := { stood := { row := lossOneRow, standIns := [], harness := (true, "d6a994490b3fd275c7993c3f740dd24037e52ab9493de26aea9f7a6063c5b3c0"), looks := false }, kinds := [], alts := [], laidByText := true, laidKinds := [.data, .data, .data], laidTests := true, laidLooks := .later }
def LossOneCardSaid : Prop := Claim7.holds Tryd.pinned (.plain (OpenSpec.ofChange lossOneSpec)) lossOneCard

/-- THE TIED CARD OF 'gantlinelaw15.LossHeads'. -/
def lossHeadsCard : Claim7 := { stood := { row := lossHeadsRow, standIns := [], harness := (true, "d6a994490b3fd275c7993c3f740dd24037e52ab9493de26aea9f7a6063c5b3c0"), looks := false }, kinds := [], alts := [], laidByText := true, laidKinds := [.data, .data, .data], laidTests := true, laidLooks := .later }
def LossHeadsCardSaid : Prop := Claim7.holds Tryd.pinned (.plain (OpenSpec.ofChange lossHeadsSpec)) lossHeadsCard

/-- THE SECOND FORM's CARD OF 'gantlinelaw15.LossBuilds'. -/
def lossBuildsUptoCard : Claim7 := { stood := { row := lossBuildsUptoRow, standIns := [], harness := (true, "d6a994490b3fd275c7993c3f740dd24037e52ab9493de26aea9f7a6063c5b3c0"), looks := false }, kinds := [], alts := [], laidByText := true, laidKinds := [.data, .data, .data], laidTests := true, laidLooks := .later }
def LossBuildsUptoCardSaid : Prop := Claim7.holds Tryd.pinned (.plain (OpenSpec.upto lossBuildsSpec)) lossBuildsUptoCard

/-- THE SECOND FORM's CARD OF 'gantlinelaw15.LossParses'. -/
def lossParsesUptoCard : Claim7 := { stood := { row := lossParsesUptoRow, standIns := [], harness := (true, "d6a994490b3fd275c7993c3f740dd24037e52ab9493de26aea9f7a6063c5b3c0"), looks := false }, kinds := [], alts := [], laidByText := true, laidKinds := [.data, .data, .data], laidTests := true, laidLooks := .later }
def LossParsesUptoCardSaid : Prop := Claim7.holds Tryd.pinned (.plain (OpenSpec.upto lossParsesSpec)) lossParsesUptoCard

/-- THE SECOND FORM's CARD OF 'gantlinelaw15.LossSays'. -/
def lossSaysUptoCard : Claim7 := { stood := { row := lossSaysUptoRow, standIns := [], harness := (true, "d6a994490b3fd275c7993c3f740dd24037e52ab9493de26aea9f7a6063c5b3c0"), looks := false }, kinds := [], alts := [], laidByText := true, laidKinds := [.data, .data, .data], laidTests := true, laidLooks := .later }
def LossSaysUptoCardSaid : Prop := Claim7.holds Tryd.pinned (.plain (OpenSpec.upto lossSaysSpec)) lossSaysUptoCard

/-- THE SECOND FORM's CARD OF 'gantlinelaw15.LossBack'. -/
def lossBackUptoCard : Claim7 := { stood := { row := lossBackUptoRow, standIns := [], harness := (true, "d6a994490b3fd275c7993c3f740dd24037e52ab9493de26aea9f7a6063c5b3c0"), looks := false }, kinds := [], alts := [], laidByText := true, laidKinds := [.data, .data, .data], laidTests := true, laidLooks := .later }
def LossBackUptoCardSaid : Prop := Claim7.holds Tryd.pinned (.plain (OpenSpec.upto lossBackSpec)) lossBackUptoCard

/-- THE SECOND FORM's CARD OF 'gantlinelaw15.LossOne'. -/
def lossOneUptoCard : Claim7 := { stood := { row := lossOneUptoRow, standIns := [], harness := (true, "d6a994490b3fd275c7993c3f740dd24037e52ab9493de26aea9f7a6063c5b3c0"), looks := false }, kinds := [], alts := [], laidByText := true, laidKinds := [.data, .data, .data], laidTests := true, laidLooks := .later }
def LossOneUptoCardSaid : Prop := Claim7.holds Tryd.pinned (.plain (OpenSpec.upto lossOneSpec)) lossOneUptoCard

/-- THE SECOND FORM's CARD OF 'gantlinelaw15.LossHeads'. -/
def lossHeadsUptoCard : Claim7 := { stood := { row := lossHeadsUptoRow, standIns := [], harness := (true, "d6a994490b3fd275c7993c3f740dd24037e52ab9493de26aea9f7a6063c5b3c0"), looks := false }, kinds := [], alts := [], laidByText := true, laidKinds := [.data, .data, .data], laidTests := true, laidLooks := .later }
def LossHeadsUptoCardSaid : Prop := Claim7.holds Tryd.pinned (.plain (OpenSpec.upto lossHeadsSpec)) lossHeadsUptoCard
end Rows
end Go.Proofs.YtgfnohgpmmaocaaDoor
