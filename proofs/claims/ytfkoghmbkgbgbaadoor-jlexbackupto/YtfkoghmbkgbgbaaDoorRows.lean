/-
  NARROWER THAN 'FOR EVERY INPUT', by the rows' own cells (each row's printed sentence says how): JlexReads: laid · JlexStrings: laid · JlexEscapes: laid · JlexBack: laid · JlexGaps: laid · JlexFirst: laid.
  DERIVED. THE GIVEN ROWS OF THIS SEAT. 6 by the template 'for every input the law returns true; each argument reads behind the call as it read before'; 0 by the template 'total and deterministic' (their statements: YtfkoghmbkgbgbaaDoorTotals.lean).
  GIVEN WITH THE SEED: the statements are not yours to turn. If you find one false, say at which input.
  Laid BY PROGRAM, IN A SANDBOX (cutbox-rows.mjs): the forced cells as the released guide's own fill.sh prints them over the translation 79be251c65bf3086… (all of the seat's roots in one cut). By AI agents, Wed Nov 11 2026. No macro, syntax, notation, axiom, sorry.
-/
import Derived.Test.YtfkoghmbkgbgbaaDoorChecked
import GoSem.PinnedTables
import GoSem.Claim
import GoSem.ClaimJoined
import GoSem.ClaimMapViews
import Derived.JoinedTies
import Derived.KernelRfl
namespace Go.Proofs.YtfkoghmbkgbgbaaDoor
/- THE CELL 'sum', in the pinned program and in every row, IS THE sha256 OF THE DUMP (.gsa) THAT YtfkoghmbkgbgbaaDoorProg.lean LOADS. Nothing in Lean hashes anything: it is a label: what it is worth is what the hold of that sum in a sandbox is worth. -/
noncomputable def Tryd.pinned : Pinned := { name := "ytfkoghmbkgbgbaadoor", sum := "79be251c65bf308635755a1c33abf320b90df16ef5875500f5e86f1f23b13a32", checked := Tryd.checked }
namespace Rows
def none {H : Type} : Left H := { results := [], args := [] }

/- WHAT THE LISTED PACKAGE-LEVEL VARIABLES READ AS WHEN THE CALL BEGINS. Each datum BY PROGRAM (the guide's laid-datum.mjs) off the statement by which the dump's own 'gosem.cut.vars' lays the variable. In a bare row this is a premise. The card (YtfkoghmbkgbgbaaDoorCards.lean) ties it to the program's text. -/
def laid_unicode_utf8_acceptRanges {H : Type} : DataW H := .agg [.agg [.lit (.int .u8 128), .lit (.int .u8 191)], .agg [.lit (.int .u8 160), .lit (.int .u8 191)], .agg [.lit (.int .u8 128), .lit (.int .u8 159)], .agg [.lit (.int .u8 144), .lit (.int .u8 191)], .agg [.lit (.int .u8 128), .lit (.int .u8 143)], .agg [.lit (.int .u8 0), .lit (.int .u8 0)], .agg [.lit (.int .u8 0), .lit (.int .u8 0)], .agg [.lit (.int .u8 0), .lit (.int .u8 0)], .agg [.lit (.int .u8 0), .lit (.int .u8 0)], .agg [.lit (.int .u8 0), .lit (.int .u8 0)], .agg [.lit (.int .u8 0), .lit (.int .u8 0)], .agg [.lit (.int .u8 0), .lit (.int .u8 0)], .agg [.lit (.int .u8 0), .lit (.int .u8 0)], .agg [.lit (.int .u8 0), .lit (.int .u8 0)], .agg [.lit (.int .u8 0), .lit (.int .u8 0)], .agg [.lit (.int .u8 0), .lit (.int .u8 0)]]
/-- One of Go's own tables, pinned by name: the form's constant. -/
def laid_unicode_utf8_first : DataW Unit := Go.Pinned.utf8First

/-- 'gantlinelaw09.JlexReads': WHATEVER THE INPUT: true; the input reads as it did. -/
def jlexReadsSpec : ChangeSpec := { name := "jlexReads", fn := fun _ => fun
  | [d] => { results := [.lit (.bool true)], args := [d] }
  | _ => none }
def jlexReadsRow : OpenClaim := { program := "ytfkoghmbkgbgbaadoor", sum := "79be251c65bf308635755a1c33abf320b90df16ef5875500f5e86f1f23b13a32", func := "gantline/gantlinelaw09.JlexReads", spec := "jlexReads", inPlace := ["internal/bytealg.IndexByteString", "internal/abi.NoEscape", "internal/bytealg.IndexString"], named := ["unicode/utf8.first", "unicode/utf8.acceptRanges", "internal/bytealg.MaxLen"], apart := false, laid := [("unicode/utf8.acceptRanges", laid_unicode_utf8_acceptRanges), ("unicode/utf8.first", laid_unicode_utf8_first)] }
def JlexReadsSaid : Prop := jlexReadsRow.holds Tryd.pinned (OpenSpec.ofChange jlexReadsSpec)

/-- ITS FALSE NEIGHBOUR: 'it returns false'. Refute it at one input. -/
def jlexReadsWrong : ChangeSpec := { name := "jlexReads", fn := fun _ => fun
  | [d] => { results := [.lit (.bool false)], args := [d] }
  | _ => none }
def JlexReadsWrongFalsely : Prop := jlexReadsRow.holds Tryd.pinned (OpenSpec.ofChange jlexReadsWrong)

/-- 'gantlinelaw09.JlexStrings': WHATEVER THE INPUT: true; the input reads as it did. -/
def jlexStringsSpec : ChangeSpec := { name := "jlexStrings", fn := fun _ => fun
  | [d1, d2] => { results := [.lit (.bool true)], args := [d1, d2] }
  | _ => none }
def jlexStringsRow : OpenClaim := { program := "ytfkoghmbkgbgbaadoor", sum := "79be251c65bf308635755a1c33abf320b90df16ef5875500f5e86f1f23b13a32", func := "gantline/gantlinelaw09.JlexStrings", spec := "jlexStrings", inPlace := ["internal/abi.NoEscape", "internal/bytealg.IndexByteString", "internal/bytealg.IndexString"], named := ["unicode/utf8.first", "unicode/utf8.acceptRanges", "internal/bytealg.MaxLen"], apart := false, laid := [("unicode/utf8.acceptRanges", laid_unicode_utf8_acceptRanges), ("unicode/utf8.first", laid_unicode_utf8_first)] }
def JlexStringsSaid : Prop := jlexStringsRow.holds Tryd.pinned (OpenSpec.ofChange jlexStringsSpec)

/-- ITS FALSE NEIGHBOUR: 'it returns false'. Refute it at one input. -/
def jlexStringsWrong : ChangeSpec := { name := "jlexStrings", fn := fun _ => fun
  | [d1, d2] => { results := [.lit (.bool false)], args := [d1, d2] }
  | _ => none }
def JlexStringsWrongFalsely : Prop := jlexStringsRow.holds Tryd.pinned (OpenSpec.ofChange jlexStringsWrong)

/-- 'gantlinelaw09.JlexEscapes': WHATEVER THE INPUT: true; the input reads as it did. -/
def jlexEscapesSpec : ChangeSpec := { name := "jlexEscapes", fn := fun _ => fun
  | [d] => { results := [.lit (.bool true)], args := [d] }
  | _ => none }
def jlexEscapesRow : OpenClaim := { program := "ytfkoghmbkgbgbaadoor", sum := "79be251c65bf308635755a1c33abf320b90df16ef5875500f5e86f1f23b13a32", func := "gantline/gantlinelaw09.JlexEscapes", spec := "jlexEscapes", inPlace := ["internal/abi.NoEscape", "internal/bytealg.IndexByteString", "internal/bytealg.IndexString"], named := ["unicode/utf8.first", "unicode/utf8.acceptRanges", "internal/bytealg.MaxLen"], apart := false, laid := [("unicode/utf8.acceptRanges", laid_unicode_utf8_acceptRanges), ("unicode/utf8.first", laid_unicode_utf8_first)] }
def JlexEscapesSaid : Prop := jlexEscapesRow.holds Tryd.pinned (OpenSpec.ofChange jlexEscapesSpec)

/-- ITS FALSE NEIGHBOUR: 'it returns false'. Refute it at one input. -/
def jlexEscapesWrong : ChangeSpec := { name := "jlexEscapes", fn := fun _ => fun
  | [d] => { results := [.lit (.bool false)], args := [d] }
  | _ => none }
def JlexEscapesWrongFalsely : Prop := jlexEscapesRow.holds Tryd.pinned (OpenSpec.ofChange jlexEscapesWrong)

/-- 'gantlinelaw09.JlexBack': WHATEVER THE INPUT: true; the input reads as it did. -/
def jlexBackSpec : ChangeSpec := { name := "jlexBack", fn := fun _ => fun
  | [d] => { results := [.lit (.bool true)], args := [d] }
  | _ => none }
def jlexBackRow : OpenClaim := { program := "ytfkoghmbkgbgbaadoor", sum := "79be251c65bf308635755a1c33abf320b90df16ef5875500f5e86f1f23b13a32", func := "gantline/gantlinelaw09.JlexBack", spec := "jlexBack", inPlace := ["internal/abi.NoEscape", "internal/bytealg.IndexByteString", "internal/bytealg.IndexString"], named := ["unicode/utf8.first", "unicode/utf8.acceptRanges", "internal/bytealg.MaxLen"], apart := false, laid := [("unicode/utf8.acceptRanges", laid_unicode_utf8_acceptRanges), ("unicode/utf8.first", laid_unicode_utf8_first)] }
def JlexBackSaid : Prop := jlexBackRow.holds Tryd.pinned (OpenSpec.ofChange jlexBackSpec)

/-- ITS FALSE NEIGHBOUR: 'it returns false'. Refute it at one input. -/
def jlexBackWrong : ChangeSpec := { name := "jlexBack", fn := fun _ => fun
  | [d] => { results := [.lit (.bool false)], args := [d] }
  | _ => none }
def JlexBackWrongFalsely : Prop := jlexBackRow.holds Tryd.pinned (OpenSpec.ofChange jlexBackWrong)

/-- 'gantlinelaw09.JlexGaps': WHATEVER THE INPUT: true; the input reads as it did. -/
def jlexGapsSpec : ChangeSpec := { name := "jlexGaps", fn := fun _ => fun
  | [d] => { results := [.lit (.bool true)], args := [d] }
  | _ => none }
def jlexGapsRow : OpenClaim := { program := "ytfkoghmbkgbgbaadoor", sum := "79be251c65bf308635755a1c33abf320b90df16ef5875500f5e86f1f23b13a32", func := "gantline/gantlinelaw09.JlexGaps", spec := "jlexGaps", inPlace := ["internal/bytealg.IndexByteString", "internal/abi.NoEscape", "internal/bytealg.IndexString"], named := ["unicode/utf8.first", "unicode/utf8.acceptRanges", "internal/bytealg.MaxLen"], apart := false, laid := [("unicode/utf8.acceptRanges", laid_unicode_utf8_acceptRanges), ("unicode/utf8.first", laid_unicode_utf8_first)] }
def JlexGapsSaid : Prop := jlexGapsRow.holds Tryd.pinned (OpenSpec.ofChange jlexGapsSpec)

/-- ITS FALSE NEIGHBOUR: 'it returns false'. Refute it at one input. -/
def jlexGapsWrong : ChangeSpec := { name := "jlexGaps", fn := fun _ => fun
  | [d] => { results := [.lit (.bool false)], args := [d] }
  | _ => none }
def JlexGapsWrongFalsely : Prop := jlexGapsRow.holds Tryd.pinned (OpenSpec.ofChange jlexGapsWrong)

/-- 'gantlinelaw09.JlexFirst': WHATEVER THE INPUT: true; the input reads as it did. -/
def jlexFirstSpec : ChangeSpec := { name := "jlexFirst", fn := fun _ => fun
  | [d1, d2] => { results := [.lit (.bool true)], args := [d1, d2] }
  | _ => none }
def jlexFirstRow : OpenClaim := { program := "ytfkoghmbkgbgbaadoor", sum := "79be251c65bf308635755a1c33abf320b90df16ef5875500f5e86f1f23b13a32", func := "gantline/gantlinelaw09.JlexFirst", spec := "jlexFirst", inPlace := ["internal/bytealg.IndexByteString", "internal/abi.NoEscape", "internal/bytealg.IndexString"], named := ["unicode/utf8.first", "unicode/utf8.acceptRanges", "internal/bytealg.MaxLen"], apart := false, laid := [("unicode/utf8.acceptRanges", laid_unicode_utf8_acceptRanges), ("unicode/utf8.first", laid_unicode_utf8_first)] }
def JlexFirstSaid : Prop := jlexFirstRow.holds Tryd.pinned (OpenSpec.ofChange jlexFirstSpec)

/-- ITS FALSE NEIGHBOUR: 'it returns false'. Refute it at one input. -/
def jlexFirstWrong : ChangeSpec := { name := "jlexFirst", fn := fun _ => fun
  | [d1, d2] => { results := [.lit (.bool false)], args := [d1, d2] }
  | _ => none }
def JlexFirstWrongFalsely : Prop := jlexFirstRow.holds Tryd.pinned (OpenSpec.ofChange jlexFirstWrong)

/- THE SECOND FORM. 'bulk': how many values and letters a reading holds, each counted each time it is reached (what is shared counts as often as it is met; a slice's spare places count too). A statement '..UptoSaid' is the law's where the arguments, and the package variables that the reading takes, are together of bulk at most 1048576: NARROWER than '..Said'. Prove '..Said' where nothing that the law and all that it calls make is longer than what came in: it says more and counts as full. Else prove '..UptoSaid'. A law counts once. -/
mutual
def uptoBulk {H : Type} : DataW H → Nat
  | .lit (.string bytes) => bytes.length + 1
  | .lit _ => 1
  | .nil => 1
  | .ptr d => uptoBulk d + 1
  | .slice elems spare => uptoBulkAll elems + uptoBulkAll spare + 1
  | .agg parts => uptoBulkAll parts + 1
  | .iface _ d => uptoBulk d + 1
  | .map entries => uptoBulkEntries entries + 1
  | .held _ => 1
def uptoBulkAll {H : Type} : List (DataW H) → Nat
  | [] => 0
  | d :: r => uptoBulk d + uptoBulkAll r
def uptoBulkEntries {H : Type} : List (Lit × DataW H) → Nat
  | [] => 0
  | x :: r => uptoBulkEntry x + uptoBulkEntries r
def uptoBulkEntry {H : Type} : Lit × DataW H → Nat
  | (.string bytes, d) => bytes.length + uptoBulk d + 1
  | (_, d) => uptoBulk d + 1
 end
def uptoSmall : (H : Type) → List (DataW H) → Bool := fun _ ds => decide (uptoBulkAll ds ≤ 1048576)
def OpenSpec.upto (s : _root_.Go.ChangeSpec) : _root_.Go.OpenSpec := { _root_.Go.OpenSpec.ofChange s with cond := some uptoSmall }

/-- 'gantlinelaw09.JlexReads', WHERE WHAT IT READS IS OF BULK AT MOST 1048576: true; the input reads as it did. -/
def jlexReadsUptoRow : OpenClaim := { program := "ytfkoghmbkgbgbaadoor", sum := "79be251c65bf308635755a1c33abf320b90df16ef5875500f5e86f1f23b13a32", func := "gantline/gantlinelaw09.JlexReads", spec := "jlexReads", inPlace := ["internal/bytealg.IndexByteString", "internal/abi.NoEscape", "internal/bytealg.IndexString"], named := ["unicode/utf8.first", "unicode/utf8.acceptRanges", "internal/bytealg.MaxLen"], apart := false, laid := [("unicode/utf8.acceptRanges", laid_unicode_utf8_acceptRanges), ("unicode/utf8.first", laid_unicode_utf8_first)], narrowed := true }
def JlexReadsUptoSaid : Prop := jlexReadsUptoRow.holds Tryd.pinned (OpenSpec.upto jlexReadsSpec)

/-- 'gantlinelaw09.JlexStrings', WHERE WHAT IT READS IS OF BULK AT MOST 1048576: true; the input reads as it did. -/
def jlexStringsUptoRow : OpenClaim := { program := "ytfkoghmbkgbgbaadoor", sum := "79be251c65bf308635755a1c33abf320b90df16ef5875500f5e86f1f23b13a32", func := "gantline/gantlinelaw09.JlexStrings", spec := "jlexStrings", inPlace := ["internal/abi.NoEscape", "internal/bytealg.IndexByteString", "internal/bytealg.IndexString"], named := ["unicode/utf8.first", "unicode/utf8.acceptRanges", "internal/bytealg.MaxLen"], apart := false, laid := [("unicode/utf8.acceptRanges", laid_unicode_utf8_acceptRanges), ("unicode/utf8.first", laid_unicode_utf8_first)], narrowed := true }
def JlexStringsUptoSaid : Prop := jlexStringsUptoRow.holds Tryd.pinned (OpenSpec.upto jlexStringsSpec)

/-- 'gantlinelaw09.JlexEscapes', WHERE WHAT IT READS IS OF BULK AT MOST 1048576: true; the input reads as it did. -/
def jlexEscapesUptoRow : OpenClaim := { program := "ytfkoghmbkgbgbaadoor", sum := "79be251c65bf308635755a1c33abf320b90df16ef5875500f5e86f1f23b13a32", func := "gantline/gantlinelaw09.JlexEscapes", spec := "jlexEscapes", inPlace := ["internal/abi.NoEscape", "internal/bytealg.IndexByteString", "internal/bytealg.IndexString"], named := ["unicode/utf8.first", "unicode/utf8.acceptRanges", "internal/bytealg.MaxLen"], apart := false, laid := [("unicode/utf8.acceptRanges", laid_unicode_utf8_acceptRanges), ("unicode/utf8.first", laid_unicode_utf8_first)], narrowed := true }
def JlexEscapesUptoSaid : Prop := jlexEscapesUptoRow.holds Tryd.pinned (OpenSpec.upto jlexEscapesSpec)

/-- 'gantlinelaw09.JlexBack', WHERE WHAT IT READS IS OF BULK AT MOST 1048576: true; the input reads as it did. -/
def jlexBackUptoRow : OpenClaim := { program := "ytfkoghmbkgbgbaadoor", sum := "79be251c65bf308635755a1c33abf320b90df16ef5875500f5e86f1f23b13a32", func := "gantline/gantlinelaw09.JlexBack", spec := "jlexBack", inPlace := ["internal/abi.NoEscape", "internal/bytealg.IndexByteString", "internal/bytealg.IndexString"], named := ["unicode/utf8.first", "unicode/utf8.acceptRanges", "internal/bytealg.MaxLen"], apart := false, laid := [("unicode/utf8.acceptRanges", laid_unicode_utf8_acceptRanges), ("unicode/utf8.first", laid_unicode_utf8_first)], narrowed := true }
def JlexBackUptoSaid : Prop := jlexBackUptoRow.holds Tryd.pinned (OpenSpec.upto jlexBackSpec)

/-- 'gantlinelaw09.JlexGaps', WHERE WHAT IT READS IS OF BULK AT MOST 1048576: true; the input reads as it did. -/
def jlexGapsUptoRow : OpenClaim := { program := "ytfkoghmbkgbgbaadoor", sum := "79be251c65bf308635755a1c33abf320b90df16ef5875500f5e86f1f23b13a32", func := "gantline/gantlinelaw09.JlexGaps", spec := "jlexGaps", inPlace := ["internal/bytealg.IndexByteString", "internal/abi.NoEscape", "internal/bytealg.IndexString"], named := ["unicode/utf8.first", "unicode/utf8.acceptRanges", "internal/bytealg.MaxLen"], apart := false, laid := [("unicode/utf8.acceptRanges", laid_unicode_utf8_acceptRanges), ("unicode/utf8.first", laid_unicode_utf8_first)], narrowed := true }
def JlexGapsUptoSaid : Prop := jlexGapsUptoRow.holds Tryd.pinned (OpenSpec.upto jlexGapsSpec)

/-- 'gantlinelaw09.JlexFirst', WHERE WHAT IT READS IS OF BULK AT MOST 1048576: true; the input reads as it did. -/
def jlexFirstUptoRow : OpenClaim := { program := "ytfkoghmbkgbgbaadoor", sum := "79be251c65bf308635755a1c33abf320b90df16ef5875500f5e86f1f23b13a32", func := "gantline/gantlinelaw09.JlexFirst", spec := "jlexFirst", inPlace := ["internal/bytealg.IndexByteString", "internal/abi.NoEscape", "internal/bytealg.IndexString"], named := ["unicode/utf8.first", "unicode/utf8.acceptRanges", "internal/bytealg.MaxLen"], apart := false, laid := [("unicode/utf8.acceptRanges", laid_unicode_utf8_acceptRanges), ("unicode/utf8.first", laid_unicode_utf8_first)], narrowed := true }
def JlexFirstUptoSaid : Prop := jlexFirstUptoRow.holds Tryd.pinned (OpenSpec.upto jlexFirstSpec)

end Rows
end Go.Proofs.YtfkoghmbkgbgbaaDoor
