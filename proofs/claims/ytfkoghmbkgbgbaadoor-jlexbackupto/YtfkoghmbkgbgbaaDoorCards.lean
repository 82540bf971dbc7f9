/-
  DERIVED. GIVEN WITH THE SEED: THE CARDS: each row of YtfkoghmbkgbgbaaDoorRows.lean that lists a variable, with what it lists TIED to the program's text (the seventh form; the later family's looks); each row that meets fmt, with fmt's text TOLD by the authors' own Lean function (tested against real Go, not proved from fmt's source: count such statements apart). THE CARD IS WHAT COUNTS. Prove the row's statement (the work); the ties are given (YtfkoghmbkgbgbaaDoorTie.lean); close each card by the builder's one call (the guide's Derived/Test/ToyasCard.lean, 'card_holds'). Laid BY PROGRAM, IN A SANDBOX (cutbox-door.mjs). By AI agents, Wed Nov 11 2026. No macro, syntax, notation, axiom, sorry.
-/
import Derived.Test.YtfkoghmbkgbgbaaDoorRows
import GoSem.ClaimSeven
namespace Go.Proofs.YtfkoghmbkgbgbaaDoor
namespace Rows

/-- THE TIED CARD OF 'gantlinelaw09.JlexReads'. -/
def jlexReadsCard : Claim7 := { stood := { row := jlexReadsRow, standIns := [], harness := (true, "4868ef28c74a60bc04aca163e675bde49757427843939f6122fe6582858a940d"), looks := false }, kinds := [], alts := [], laidByText := true, laidKinds := [.data, .pinned], laidTests := true, laidLooks := .later }
def JlexReadsCardSaid : Prop := Claim7.holds Tryd.pinned (.plain (OpenSpec.ofChange jlexReadsSpec)) jlexReadsCard

/-- THE TIED CARD OF 'gantlinelaw09.JlexStrings'. -/
def jlexStringsCard : Claim7 := { stood := { row := jlexStringsRow, standIns := [], harness := (true, "4868ef28c74a60bc04aca163e675bde49757427843939f6122fe6582858a940d"), looks := false }, kinds := [], alts := [], laidByText := true, laidKinds := [.data, .pinned], laidTests := true, laidLooks := .later }
def JlexStringsCardSaid : Prop := Claim7.holds Tryd.pinned (.plain (OpenSpec.ofChange jlexStringsSpec)) jlexStringsCard

/-- THE TIED CARD OF 'gantlinelaw09.JlexEscapes'. -/
def jlexEscapesCard : Claim7 := { stood := { row := jlexEscapesRow, standIns := [], harness := (true, "4868ef28c74a60bc04aca163e675bde49757427843939f6122fe6582858a940d"), looks := false }, kinds := [], alts := [], laidByText := true, laidKinds := [.data, .pinned], laidTests := true, laidLooks := .later }
def JlexEscapesCardSaid : Prop := Claim7.holds Tryd.pinned (.plain (OpenSpec.ofChange jlexEscapesSpec)) jlexEscapesCard

/-- THE TIED CARD OF 'gantlinelaw09.JlexBack'. -/
def jlexBackCard : Claim7 := { stood := { row := jlexBackRow, standIns := [], harness := (true, "4868ef28c74a60bc04aca163e675bde49757427843939f6122fe6582858a940d"), looks := false }, kinds := [], alts := [], laidByText := true, laidKinds := [.data, .pinned], laidTests := true, laidLooks := .later }
def JlexBackCardSaid : Prop := Claim7.holds Tryd.pinned (.plain (OpenSpec.ofChange jlexBackSpec)) jlexBackCard

/-- THE TIED CARD OF 'gantlinelaw09.JlexGaps'. -/
def jlexGapsCard : Claim7 := { stood := { row := jlexGapsRow, standIns := [], harness := (true, "4868ef28c74a60bc04aca163e675bde49757427843939f6122fe6582858a940d"), looks := false }, kinds := [], alts := [], laidByText := true, laidKinds := [.data, .pinned], laidTests := true, laidLooks := .later }
def JlexGapsCardSaid : Prop := Claim7.holds Tryd.pinned (.plain (OpenSpec.ofChange jlexGapsSpec)) jlexGapsCard

/-- THE TIED CARD OF 'gantlinelaw09.JlexFirst'. -/
def jlexFirstCard : Claim7 := { stood := { row := jlexFirstRow, standIns := [], harness := (true, "4868ef28c74a60bc04aca163e675bde49757427843939f6122fe6582858a940d"), looks := false }, kinds := [], alts := [], laidByText := true, laidKinds := [.data, .pinned], laidTests := true, laidLooks := .later }
def JlexFirstCardSaid : Prop := Claim7.holds Tryd.pinned (.plain (OpenSpec.ofChange jlexFirstSpec)) jlexFirstCard

/-- THE SECOND FORM's CARD OF 'gantlinelaw09.JlexReads'. -/
def jlexReadsUptoCard : Claim7 := { stood := { row := jlexReadsUptoRow, standIns := [], harness := (true, "4868ef28c74a60bc04aca163e675bde49757427843939f6122fe6582858a940d"), looks := false }, kinds := [], alts := [], laidByText := true, laidKinds := [.data, .pinned], laidTests := true, laidLooks := .later }
def JlexReadsUptoCardSaid : Prop := Claim7.holds Tryd.pinned (.plain (OpenSpec.upto jlexReadsSpec)) jlexReadsUptoCard

/-- THE SECOND FORM's CARD OF 'gantlinelaw09.JlexStrings'. -/
def jlexStringsUptoCard : Claim7 := { stood := { row := jlexStringsUptoRow, standIns := [], harness := (true, "4868ef28c74a60bc04aca163e675bde49757427843939f6122fe6582858a940d"), looks := false }, kinds := [], alts := [], laidByText := true, laidKinds := [.data, .pinned], laidTests := true, laidLooks := .later }
def JlexStringsUptoCardSaid : Prop := Claim7.holds Tryd.pinned (.plain (OpenSpec.upto jlexStringsSpec)) jlexStringsUptoCard

/-- THE SECOND FORM's CARD OF 'gantlinelaw09.JlexEscapes'. -/
def jlexEscapesUptoCard : Claim7 := { stood := { row := jlexEscapesUptoRow, standIns := [], harness := (true, "4868ef28c74a60bc04aca163e675bde49757427843939f6122fe6582858a940d"), looks := false }, kinds := [], alts := [], laidByText := true, laidKinds := [.data, .pinned], laidTests := true, laidLooks := .later }
def JlexEscapesUptoCardSaid : Prop := Claim7.holds Tryd.pinned (.plain (OpenSpec.upto jlexEscapesSpec)) jlexEscapesUptoCard

/-- THE SECOND FORM's CARD OF 'gantlinelaw09.JlexBack'. -/
def jlexBackUptoCard : Claim7 := { stood := { row := jlexBackUptoRow, standIns := [], harness := (true, "4868ef28c74a60bc04aca163e675bde49757427843939f6122fe6582858a940d"), looks := false }, kinds := [], alts := [], laidByText := true, laidKinds := [.data, .pinned], laidTests := true, laidLooks := .later }
def JlexBackUptoCardSaid : Prop := Claim7.holds Tryd.pinned (.plain (OpenSpec.upto jlexBackSpec)) jlexBackUptoCard

/-- THE SECOND FORM's CARD OF 'gantlinelaw09.JlexGaps'. -/
def jlexGapsUptoCard : Claim7 := { stood := { row := jlexGapsUptoRow, standIns := [], harness := (true, "4868ef28c74a60bc04aca163e675bde49757427843939f6122fe6582858a940d"), looks := false }, kinds := [], alts := [], laidByText := true, laidKinds := [.data, .pinned], laidTests := true, laidLooks := .later }
def JlexGapsUptoCardSaid : Prop := Claim7.holds Tryd.pinned (.plain (OpenSpec.upto jlexGapsSpec)) jlexGapsUptoCard

/-- THE SECOND FORM's CARD OF 'gantlinelaw09.JlexFirst'. -/
def jlexFirstUptoCard : Claim7 := { stood := { row := jlexFirstUptoRow, standIns := [], harness := (true, "4868ef28c74a60bc04aca163e675bde49757427843939f6122fe6582858a940d"), looks := false }, kinds := [], alts := [], laidByText := true, laidKinds := [.data, .pinned], laidTests := true, laidLooks := .later }
def JlexFirstUptoCardSaid : Prop := Claim7.holds Tryd.pinned (.plain (OpenSpec.upto jlexFirstSpec)) jlexFirstUptoCard
end Rows
end Go.Proofs.YtfkoghmbkgbgbaaDoor
