/-
  NARROWER THAN 'FOR EVERY INPUT', by the rows' own cells (each row's printed sentence says how): JreadReads: laid · JreadValid: laid · JreadRight: laid · JreadGaps: laid · JreadBoth: laid · JreadMore: laid.
  DERIVED. THE GIVEN ROWS OF THIS SEAT. 6 by the template 'for every input the law returns true; each argument reads behind the call as it read before'; 0 by the template 'total and deterministic' (their statements: YtmlacmoembjeoaaGreatDoorTotals.lean).
  GIVEN WITH THE SEED: the statements are not yours to turn. If you find one false, say at which input.
  Laid BY PROGRAM, IN A SANDBOX (cutbox-rows.mjs): the forced cells as the released guide's own fill.sh prints them over the translation 871b0cba7813d064… (all of the seat's roots in one cut). By AI agents, Wed Nov 11 2026. No macro, syntax, notation, axiom, sorry.
-/
import Derived.Test.YtmlacmoembjeoaaGreatDoorChecked
import GoSem.PinnedTables
import GoSem.Claim
import GoSem.ClaimJoined
import GoSem.ClaimMapViews
import Derived.JoinedTies
import Derived.KernelRfl
namespace Go.Proofs.YtmlacmoembjeoaaGreatDoor
/- THE CELL 'sum', in the pinned program and in every row, IS THE sha256 OF THE DUMP (.gsa) THAT YtmlacmoembjeoaaGreatDoorProg.lean LOADS. Nothing in Lean hashes anything: it is a label: what it is worth is what the hold of that sum in a sandbox is worth. -/
noncomputable def Tryz.pinned : Pinned := { name := "ytmlacmoembjeoaagreatdoor", sum := "871b0cba7813d0644ba9bdb12bb83cf73b840e49718513c165920cea50423330", checked := Tryz.checked }
namespace Rows
def none {H : Type} : Left H := { results := [], args := [] }

/- WHAT THE LISTED PACKAGE-LEVEL VARIABLES READ AS WHEN THE CALL BEGINS. Each datum BY PROGRAM (the guide's laid-datum.mjs) off the statement by which the dump's own 'gosem.cut.vars' lays the variable. In a bare row this is a premise. The card (YtmlacmoembjeoaaGreatDoorCards.lean) ties it to the program's text. -/
def laid_unicode_utf8_acceptRanges {H : Type} : DataW H := .agg [.agg [.lit (.int .u8 128), .lit (.int .u8 191)], .agg [.lit (.int .u8 160), .lit (.int .u8 191)], .agg [.lit (.int .u8 128), .lit (.int .u8 159)], .agg [.lit (.int .u8 144), .lit (.int .u8 191)], .agg [.lit (.int .u8 128), .lit (.int .u8 143)], .agg [.lit (.int .u8 0), .lit (.int .u8 0)], .agg [.lit (.int .u8 0), .lit (.int .u8 0)], .agg [.lit (.int .u8 0), .lit (.int .u8 0)], .agg [.lit (.int .u8 0), .lit (.int .u8 0)], .agg [.lit (.int .u8 0), .lit (.int .u8 0)], .agg [.lit (.int .u8 0), .lit (.int .u8 0)], .agg [.lit (.int .u8 0), .lit (.int .u8 0)], .agg [.lit (.int .u8 0), .lit (.int .u8 0)], .agg [.lit (.int .u8 0), .lit (.int .u8 0)], .agg [.lit (.int .u8 0), .lit (.int .u8 0)], .agg [.lit (.int .u8 0), .lit (.int .u8 0)]]
/-- One of Go's own tables, pinned by name: the form's constant. -/
def laid_unicode_utf8_first : DataW Unit := Go.Pinned.utf8First

/-- 'gantlinelaw10.JreadReads': WHATEVER THE INPUT: true; the input reads as it did. -/
def jreadReadsSpec : ChangeSpec := { name := "jreadReads", fn := fun _ => fun
  | [d] => { results := [.lit (.bool true)], args := [d] }
  | _ => none }
def jreadReadsRow : OpenClaim := { program := "ytmlacmoembjeoaagreatdoor", sum := "871b0cba7813d0644ba9bdb12bb83cf73b840e49718513c165920cea50423330", func := "gantline/gantlinelaw10.JreadReads", spec := "jreadReads", inPlace := ["internal/bytealg.IndexByteString", "internal/bytealg.IndexString", "internal/abi.NoEscape"], unfollowed := true, recurses := true, named := ["unicode/utf8.first", "unicode/utf8.acceptRanges", "internal/bytealg.MaxLen"], apart := false, laid := [("unicode/utf8.acceptRanges", laid_unicode_utf8_acceptRanges), ("unicode/utf8.first", laid_unicode_utf8_first)] }
def JreadReadsSaid : Prop := jreadReadsRow.holds Tryz.pinned (OpenSpec.ofChange jreadReadsSpec)

/-- ITS FALSE NEIGHBOUR: 'it returns false'. Refute it at one input. -/
def jreadReadsWrong : ChangeSpec := { name := "jreadReads", fn := fun _ => fun
  | [d] => { results := [.lit (.bool false)], args := [d] }
  | _ => none }
def JreadReadsWrongFalsely : Prop := jreadReadsRow.holds Tryz.pinned (OpenSpec.ofChange jreadReadsWrong)

/-- 'gantlinelaw10.JreadValid': WHATEVER THE INPUT: true; the input reads as it did. -/
def jreadValidSpec : ChangeSpec := { name := "jreadValid", fn := fun _ => fun
  | [d] => { results := [.lit (.bool true)], args := [d] }
  | _ => none }
def jreadValidRow : OpenClaim := { program := "ytmlacmoembjeoaagreatdoor", sum := "871b0cba7813d0644ba9bdb12bb83cf73b840e49718513c165920cea50423330", func := "gantline/gantlinelaw10.JreadValid", spec := "jreadValid", inPlace := ["internal/bytealg.IndexByteString", "internal/bytealg.IndexString", "internal/abi.NoEscape"], unfollowed := true, recurses := true, named := ["unicode/utf8.first", "unicode/utf8.acceptRanges", "internal/bytealg.MaxLen"], apart := false, laid := [("unicode/utf8.acceptRanges", laid_unicode_utf8_acceptRanges), ("unicode/utf8.first", laid_unicode_utf8_first)] }
def JreadValidSaid : Prop := jreadValidRow.holds Tryz.pinned (OpenSpec.ofChange jreadValidSpec)

/-- ITS FALSE NEIGHBOUR: 'it returns false'. Refute it at one input. -/
def jreadValidWrong : ChangeSpec := { name := "jreadValid", fn := fun _ => fun
  | [d] => { results := [.lit (.bool false)], args := [d] }
  | _ => none }
def JreadValidWrongFalsely : Prop := jreadValidRow.holds Tryz.pinned (OpenSpec.ofChange jreadValidWrong)

/-- 'gantlinelaw10.JreadRight': WHATEVER THE INPUT: true; the input reads as it did. -/
def jreadRightSpec : ChangeSpec := { name := "jreadRight", fn := fun _ => fun
  | [d] => { results := [.lit (.bool true)], args := [d] }
  | _ => none }
def jreadRightRow : OpenClaim := { program := "ytmlacmoembjeoaagreatdoor", sum := "871b0cba7813d0644ba9bdb12bb83cf73b840e49718513c165920cea50423330", func := "gantline/gantlinelaw10.JreadRight", spec := "jreadRight", inPlace := ["internal/bytealg.IndexByteString", "internal/bytealg.IndexString", "internal/abi.NoEscape"], unfollowed := true, recurses := true, named := ["unicode/utf8.first", "unicode/utf8.acceptRanges", "internal/bytealg.MaxLen"], apart := false, laid := [("unicode/utf8.acceptRanges", laid_unicode_utf8_acceptRanges), ("unicode/utf8.first", laid_unicode_utf8_first)] }
def JreadRightSaid : Prop := jreadRightRow.holds Tryz.pinned (OpenSpec.ofChange jreadRightSpec)

/-- ITS FALSE NEIGHBOUR: 'it returns false'. Refute it at one input. -/
def jreadRightWrong : ChangeSpec := { name := "jreadRight", fn := fun _ => fun
  | [d] => { results := [.lit (.bool false)], args := [d] }
  | _ => none }
def JreadRightWrongFalsely : Prop := jreadRightRow.holds Tryz.pinned (OpenSpec.ofChange jreadRightWrong)

/-- 'gantlinelaw10.JreadGaps': WHATEVER THE INPUT: true; the input reads as it did. -/
def jreadGapsSpec : ChangeSpec := { name := "jreadGaps", fn := fun _ => fun
  | [d1, d2, d3] => { results := [.lit (.bool true)], args := [d1, d2, d3] }
  | _ => none }
def jreadGapsRow : OpenClaim := { program := "ytmlacmoembjeoaagreatdoor", sum := "871b0cba7813d0644ba9bdb12bb83cf73b840e49718513c165920cea50423330", func := "gantline/gantlinelaw10.JreadGaps", spec := "jreadGaps", inPlace := ["internal/bytealg.IndexByteString", "internal/bytealg.IndexString", "internal/abi.NoEscape"], unfollowed := true, recurses := true, named := ["unicode/utf8.first", "unicode/utf8.acceptRanges", "internal/bytealg.MaxLen"], apart := false, laid := [("unicode/utf8.acceptRanges", laid_unicode_utf8_acceptRanges), ("unicode/utf8.first", laid_unicode_utf8_first)] }
def JreadGapsSaid : Prop := jreadGapsRow.holds Tryz.pinned (OpenSpec.ofChange jreadGapsSpec)

/-- ITS FALSE NEIGHBOUR: 'it returns false'. Refute it at one input. -/
def jreadGapsWrong : ChangeSpec := { name := "jreadGaps", fn := fun _ => fun
  | [d1, d2, d3] => { results := [.lit (.bool false)], args := [d1, d2, d3] }
  | _ => none }
def JreadGapsWrongFalsely : Prop := jreadGapsRow.holds Tryz.pinned (OpenSpec.ofChange jreadGapsWrong)

/-- 'gantlinelaw10.JreadBoth': WHATEVER THE INPUT: true; the input reads as it did. -/
def jreadBothSpec : ChangeSpec := { name := "jreadBoth", fn := fun _ => fun
  | [d1, d2] => { results := [.lit (.bool true)], args := [d1, d2] }
  | _ => none }
def jreadBothRow : OpenClaim := { program := "ytmlacmoembjeoaagreatdoor", sum := "871b0cba7813d0644ba9bdb12bb83cf73b840e49718513c165920cea50423330", func := "gantline/gantlinelaw10.JreadBoth", spec := "jreadBoth", inPlace := ["internal/bytealg.IndexByteString", "internal/bytealg.IndexString", "internal/abi.NoEscape"], unfollowed := true, recurses := true, named := ["unicode/utf8.first", "unicode/utf8.acceptRanges", "internal/bytealg.MaxLen"], apart := false, laid := [("unicode/utf8.acceptRanges", laid_unicode_utf8_acceptRanges), ("unicode/utf8.first", laid_unicode_utf8_first)] }
def JreadBothSaid : Prop := jreadBothRow.holds Tryz.pinned (OpenSpec.ofChange jreadBothSpec)

/-- ITS FALSE NEIGHBOUR: 'it returns false'. Refute it at one input. -/
def jreadBothWrong : ChangeSpec := { name := "jreadBoth", fn := fun _ => fun
  | [d1, d2] => { results := [.lit (.bool false)], args := [d1, d2] }
  | _ => none }
def JreadBothWrongFalsely : Prop := jreadBothRow.holds Tryz.pinned (OpenSpec.ofChange jreadBothWrong)

/-- 'gantlinelaw10.JreadMore': WHATEVER THE INPUT: true; the input reads as it did. -/
def jreadMoreSpec : ChangeSpec := { name := "jreadMore", fn := fun _ => fun
  | [d1, d2] => { results := [.lit (.bool true)], args := [d1, d2] }
  | _ => none }
def jreadMoreRow : OpenClaim := { program := "ytmlacmoembjeoaagreatdoor", sum := "871b0cba7813d0644ba9bdb12bb83cf73b840e49718513c165920cea50423330", func := "gantline/gantlinelaw10.JreadMore", spec := "jreadMore", inPlace := ["internal/bytealg.IndexByteString", "internal/bytealg.IndexString", "internal/abi.NoEscape"], unfollowed := true, recurses := true, named := ["unicode/utf8.first", "unicode/utf8.acceptRanges", "internal/bytealg.MaxLen"], apart := false, laid := [("unicode/utf8.acceptRanges", laid_unicode_utf8_acceptRanges), ("unicode/utf8.first", laid_unicode_utf8_first)] }
def JreadMoreSaid : Prop := jreadMoreRow.holds Tryz.pinned (OpenSpec.ofChange jreadMoreSpec)

/-- ITS FALSE NEIGHBOUR: 'it returns false'. Refute it at one input. -/
def jreadMoreWrong : ChangeSpec := { name := "jreadMore", fn := fun _ => fun
  | [d1, d2] => { results := [.lit (.bool false)], args := [d1, d2] }
  | _ => none }
def JreadMoreWrongFalsely : Prop := jreadMoreRow.holds Tryz.pinned (OpenSpec.ofChange jreadMoreWrong)

/- THE SECOND FORM. 'bulk': how many values and letters a reading holds, each counted each time it is reached (what is shared counts as often as it is met; a slice's spare places count too). A statement '..UptoSaid' is the law's where the arguments, and the package variables that the reading takes, are together of bulk at most 1048576: NARROWER than '..Said'. Prove '..Said' where nothing that the law and all that it calls make is longer than what came in: it says more and counts as full. Else prove '..UptoSaid'. A law counts once. -/
mutual
def uptoBulk {H : Type} : DataW H → Nat
  | .lit (.string bytes) => bytes.length + 1
  | .lit _ => 1
  | .nil => 1
  | .ptr d => uptoBulk d + 1
  | .slice elems spare => uptoBulkAll elems + uptoBulkAll spare + 1
  | .agg parts => uptoBulkAll parts + 1
  | .iface _ d => uptoBulk d + 1
  | .map entries => uptoBulkEntries entries + 1
  | .held _ => 1
def uptoBulkAll {H : Type} : List (DataW H) → Nat
  | [] => 0
  | d :: r => uptoBulk d + uptoBulkAll r
def uptoBulkEntries {H : Type} : List (Lit × DataW H) → Nat
  | [] => 0
  | x :: r => uptoBulkEntry x + uptoBulkEntries r
def uptoBulkEntry {H : Type} : Lit × DataW H → Nat
  | (.string bytes, d) => bytes.length + uptoBulk d + 1
  | (_, d) => uptoBulk d + 1
 end
def uptoSmall : (H : Type) → List (DataW H) → Bool := fun _ ds => decide (uptoBulkAll ds ≤ 1048576)
def OpenSpec.upto (s : _root_.Go.ChangeSpec) : _root_.Go.OpenSpec := { _root_.Go.OpenSpec.ofChange s with cond := some uptoSmall }

/-- 'gantlinelaw10.JreadReads', WHERE WHAT IT READS IS OF BULK AT MOST 1048576: true; the input reads as it did. -/
def jreadReadsUptoRow : OpenClaim := { program := "ytmlacmoembjeoaagreatdoor", sum := "871b0cba7813d0644ba9bdb12bb83cf73b840e49718513c165920cea50423330", func := "gantline/gantlinelaw10.JreadReads", spec := "jreadReads", inPlace := ["internal/bytealg.IndexByteString", "internal/bytealg.IndexString", "internal/abi.NoEscape"], unfollowed := true, recurses := true, named := ["unicode/utf8.first", "unicode/utf8.acceptRanges", "internal/bytealg.MaxLen"], apart := false, laid := [("unicode/utf8.acceptRanges", laid_unicode_utf8_acceptRanges), ("unicode/utf8.first", laid_unicode_utf8_first)], narrowed := true }
def JreadReadsUptoSaid : Prop := jreadReadsUptoRow.holds Tryz.pinned (OpenSpec.upto jreadReadsSpec)

/-- 'gantlinelaw10.JreadValid', WHERE WHAT IT READS IS OF BULK AT MOST 1048576: true; the input reads as it did. -/
def jreadValidUptoRow : OpenClaim := { program := "ytmlacmoembjeoaagreatdoor", sum := "871b0cba7813d0644ba9bdb12bb83cf73b840e49718513c165920cea50423330", func := "gantline/gantlinelaw10.JreadValid", spec := "jreadValid", inPlace := ["internal/bytealg.IndexByteString", "internal/bytealg.IndexString", "internal/abi.NoEscape"], unfollowed := true, recurses := true, named := ["unicode/utf8.first", "unicode/utf8.acceptRanges", "internal/bytealg.MaxLen"], apart := false, laid := [("unicode/utf8.acceptRanges", laid_unicode_utf8_acceptRanges), ("unicode/utf8.first", laid_unicode_utf8_first)], narrowed := true }
def JreadValidUptoSaid : Prop := jreadValidUptoRow.holds Tryz.pinned (OpenSpec.upto jreadValidSpec)

/-- 'gantlinelaw10.JreadRight', WHERE WHAT IT READS IS OF BULK AT MOST 1048576: true; the input reads as it did. -/
def jreadRightUptoRow : OpenClaim := { program := "ytmlacmoembjeoaagreatdoor", sum := "871b0cba7813d0644ba9bdb12bb83cf73b840e49718513c165920cea50423330", func := "gantline/gantlinelaw10.JreadRight", spec := "jreadRight", inPlace := ["internal/bytealg.IndexByteString", "internal/bytealg.IndexString", "internal/abi.NoEscape"], unfollowed := true, recurses := true, named := ["unicode/utf8.first", "unicode/utf8.acceptRanges", "internal/bytealg.MaxLen"], apart := false, laid := [("unicode/utf8.acceptRanges", laid_unicode_utf8_acceptRanges), ("unicode/utf8.first", laid_unicode_utf8_first)], narrowed := true }
def JreadRightUptoSaid : Prop := jreadRightUptoRow.holds Tryz.pinned (OpenSpec.upto jreadRightSpec)

/-- 'gantlinelaw10.JreadGaps', WHERE WHAT IT READS IS OF BULK AT MOST 1048576: true; the input reads as it did. -/
def jreadGapsUptoRow : OpenClaim := { program := "ytmlacmoembjeoaagreatdoor", sum := "871b0cba7813d0644ba9bdb12bb83cf73b840e49718513c165920cea50423330", func := "gantline/gantlinelaw10.JreadGaps", spec := "jreadGaps", inPlace := ["internal/bytealg.IndexByteString", "internal/bytealg.IndexString", "internal/abi.NoEscape"], unfollowed := true, recurses := true, named := ["unicode/utf8.first", "unicode/utf8.acceptRanges", "internal/bytealg.MaxLen"], apart := false, laid := [("unicode/utf8.acceptRanges", laid_unicode_utf8_acceptRanges), ("unicode/utf8.first", laid_unicode_utf8_first)], narrowed := true }
def JreadGapsUptoSaid : Prop := jreadGapsUptoRow.holds Tryz.pinned (OpenSpec.upto jreadGapsSpec)

/-- 'gantlinelaw10.JreadBoth', WHERE WHAT IT READS IS OF BULK AT MOST 1048576: true; the input reads as it did. -/
def jreadBothUptoRow : OpenClaim := { program := "ytmlacmoembjeoaagreatdoor", sum := "871b0cba7813d0644ba9bdb12bb83cf73b840e49718513c165920cea50423330", func := "gantline/gantlinelaw10.JreadBoth", spec := "jreadBoth", inPlace := ["internal/bytealg.IndexByteString", "internal/bytealg.IndexString", "internal/abi.NoEscape"], unfollowed := true, recurses := true, named := ["unicode/utf8.first", "unicode/utf8.acceptRanges", "internal/bytealg.MaxLen"], apart := false, laid := [("unicode/utf8.acceptRanges", laid_unicode_utf8_acceptRanges), ("unicode/utf8.first", laid_unicode_utf8_first)], narrowed := true }
def JreadBothUptoSaid : Prop := jreadBothUptoRow.holds Tryz.pinned (OpenSpec.upto jreadBothSpec)

/-- 'gantlinelaw10.JreadMore', WHERE WHAT IT READS IS OF BULK AT MOST 1048576: true; the input reads as it did. -/
def jreadMoreUptoRow : OpenClaim := { program := "ytmlacmoembjeoaagreatdoor", sum := "871b0cba7813d0644ba9bdb12bb83cf73b840e49718513c165920cea50423330", func := "gantline/gantlinelaw10.JreadMore", spec := "jreadMore", inPlace := ["internal/bytealg.IndexByteString", "internal/bytealg.IndexString", "internal/abi.NoEscape"], unfollowed := true, recurses := true, named := ["unicode/utf8.first", "unicode/utf8.acceptRanges", "internal/bytealg.MaxLen"], apart := false, laid := [("unicode/utf8.acceptRanges", laid_unicode_utf8_acceptRanges), ("unicode/utf8.first", laid_unicode_utf8_first)], narrowed := true }
def JreadMoreUptoSaid : Prop := jreadMoreUptoRow.holds Tryz.pinned (OpenSpec.upto jreadMoreSpec)

end Rows
end Go.Proofs.YtmlacmoembjeoaaGreatDoor
