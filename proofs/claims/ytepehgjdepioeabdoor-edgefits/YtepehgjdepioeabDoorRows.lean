/-
  NARROWER THAN 'FOR EVERY INPUT', by the rows' own cells (each row's printed sentence says how): OpBad: laid · TextLong: laid · LengthsFit: laid · TransformLengths: laid · TransformTwo: laid · EdgeChecks: laid · EdgeSends: laid · EdgeHears: laid · EdgeMeets: laid · EdgeKnown: laid · EdgeAlone: laid · EdgeFits: laid.
  DERIVED. THE GIVEN ROWS OF THIS SEAT. 12 by the template 'for every input the law returns true; each argument reads behind the call as it read before'; 0 by the template 'total and deterministic' (their statements: YtepehgjdepioeabDoorTotals.lean).
  GIVEN WITH THE SEED: the statements are not yours to turn. If you find one false, say at which input.
  Laid BY PROGRAM, IN A SANDBOX (cutbox-rows.mjs): the forced cells as the released guide's own fill.sh prints them over the translation fcf0de0e0bb702fa… (all of the seat's roots in one cut). By AI agents, Wed Nov 11 2026. No macro, syntax, notation, axiom, sorry.
-/
import Derived.Test.YtepehgjdepioeabDoorChecked
import GoSem.PinnedTables
import GoSem.Claim
import GoSem.ClaimJoined
import GoSem.ClaimMapViews
import Derived.JoinedTies
import Derived.KernelRfl
namespace Go.Proofs.YtepehgjdepioeabDoor
/- THE CELL 'sum', in the pinned program and in every row, IS THE sha256 OF THE DUMP (.gsa) THAT YtepehgjdepioeabDoorProg.lean LOADS. Nothing in Lean hashes anything: it is a label: what it is worth is what the hold of that sum in a sandbox is worth. -/
noncomputable def Tryd.pinned : Pinned := { name := "ytepehgjdepioeabdoor", sum := "fcf0de0e0bb702fa33b0dd2c3dc63bd401942d753795482d622354ad6a3ae7ec", checked := Tryd.checked }
namespace Rows
def none {H : Type} : Left H := { results := [], args := [] }

/- WHAT THE LISTED PACKAGE-LEVEL VARIABLES READ AS WHEN THE CALL BEGINS. Each datum BY PROGRAM (the guide's laid-datum.mjs) off the statement by which the dump's own 'gosem.cut.vars' lays the variable. In a bare row this is a premise. The card (YtepehgjdepioeabDoorCards.lean) ties it to the program's text. -/
def laid_unicode_utf8_acceptRanges {H : Type} : DataW H := .agg [.agg [.lit (.int .u8 128), .lit (.int .u8 191)], .agg [.lit (.int .u8 160), .lit (.int .u8 191)], .agg [.lit (.int .u8 128), .lit (.int .u8 159)], .agg [.lit (.int .u8 144), .lit (.int .u8 191)], .agg [.lit (.int .u8 128), .lit (.int .u8 143)], .agg [.lit (.int .u8 0), .lit (.int .u8 0)], .agg [.lit (.int .u8 0), .lit (.int .u8 0)], .agg [.lit (.int .u8 0), .lit (.int .u8 0)], .agg [.lit (.int .u8 0), .lit (.int .u8 0)], .agg [.lit (.int .u8 0), .lit (.int .u8 0)], .agg [.lit (.int .u8 0), .lit (.int .u8 0)], .agg [.lit (.int .u8 0), .lit (.int .u8 0)], .agg [.lit (.int .u8 0), .lit (.int .u8 0)], .agg [.lit (.int .u8 0), .lit (.int .u8 0)], .agg [.lit (.int .u8 0), .lit (.int .u8 0)], .agg [.lit (.int .u8 0), .lit (.int .u8 0)]]
/-- One of Go's own tables, pinned by name: the form's constant. -/
def laid_unicode_utf8_first : DataW Unit := Go.Pinned.utf8First

/-- 'wherrykeep.OpBad': WHATEVER THE INPUT: true; the input reads as it did. -/
def opBadSpec : ChangeSpec := { name := "opBad", fn := fun _ => fun
  | [d1, d2] => { results := [.lit (.bool true)], args := [d1, d2] }
  | _ => none }
def opBadRow : OpenClaim := { program := "ytepehgjdepioeabdoor", sum := "fcf0de0e0bb702fa33b0dd2c3dc63bd401942d753795482d622354ad6a3ae7ec", func := "wherry/wherrykeep.OpBad", spec := "opBad", named := ["unicode/utf8.first", "unicode/utf8.acceptRanges"], apart := false, laid := [("unicode/utf8.acceptRanges", laid_unicode_utf8_acceptRanges), ("unicode/utf8.first", laid_unicode_utf8_first)] }
def OpBadSaid : Prop := opBadRow.holds Tryd.pinned (OpenSpec.ofChange opBadSpec)

/-- ITS FALSE NEIGHBOUR: 'it returns false'. Refute it at one input. -/
def opBadWrong : ChangeSpec := { name := "opBad", fn := fun _ => fun
  | [d1, d2] => { results := [.lit (.bool false)], args := [d1, d2] }
  | _ => none }
def OpBadWrongFalsely : Prop := opBadRow.holds Tryd.pinned (OpenSpec.ofChange opBadWrong)

/-- 'wherrykeep.TextLong': WHATEVER THE INPUT: true; the input reads as it did. -/
def textLongSpec : ChangeSpec := { name := "textLong", fn := fun _ => fun
  | [d1, d2] => { results := [.lit (.bool true)], args := [d1, d2] }
  | _ => none }
def textLongRow : OpenClaim := { program := "ytepehgjdepioeabdoor", sum := "fcf0de0e0bb702fa33b0dd2c3dc63bd401942d753795482d622354ad6a3ae7ec", func := "wherry/wherrykeep.TextLong", spec := "textLong", named := ["unicode/utf8.first", "unicode/utf8.acceptRanges"], apart := false, laid := [("unicode/utf8.acceptRanges", laid_unicode_utf8_acceptRanges), ("unicode/utf8.first", laid_unicode_utf8_first)] }
def TextLongSaid : Prop := textLongRow.holds Tryd.pinned (OpenSpec.ofChange textLongSpec)

/-- ITS FALSE NEIGHBOUR: 'it returns false'. Refute it at one input. -/
def textLongWrong : ChangeSpec := { name := "textLong", fn := fun _ => fun
  | [d1, d2] => { results := [.lit (.bool false)], args := [d1, d2] }
  | _ => none }
def TextLongWrongFalsely : Prop := textLongRow.holds Tryd.pinned (OpenSpec.ofChange textLongWrong)

/-- 'wherrykeep.LengthsFit': WHATEVER THE INPUT: true; the input reads as it did. -/
def lengthsFitSpec : ChangeSpec := { name := "lengthsFit", fn := fun _ => fun
  | [d1, d2, d3] => { results := [.lit (.bool true)], args := [d1, d2, d3] }
  | _ => none }
def lengthsFitRow : OpenClaim := { program := "ytepehgjdepioeabdoor", sum := "fcf0de0e0bb702fa33b0dd2c3dc63bd401942d753795482d622354ad6a3ae7ec", func := "wherry/wherrykeep.LengthsFit", spec := "lengthsFit", unfollowed := true, recurses := true, named := ["unicode/utf8.first", "unicode/utf8.acceptRanges"], apart := false, laid := [("unicode/utf8.acceptRanges", laid_unicode_utf8_acceptRanges), ("unicode/utf8.first", laid_unicode_utf8_first)] }
def LengthsFitSaid : Prop := lengthsFitRow.holds Tryd.pinned (OpenSpec.ofChange lengthsFitSpec)

/-- ITS FALSE NEIGHBOUR: 'it returns false'. Refute it at one input. -/
def lengthsFitWrong : ChangeSpec := { name := "lengthsFit", fn := fun _ => fun
  | [d1, d2, d3] => { results := [.lit (.bool false)], args := [d1, d2, d3] }
  | _ => none }
def LengthsFitWrongFalsely : Prop := lengthsFitRow.holds Tryd.pinned (OpenSpec.ofChange lengthsFitWrong)

/-- 'wherrykeep.TransformLengths': WHATEVER THE INPUT: true; the input reads as it did. -/
def transformLengthsSpec : ChangeSpec := { name := "transformLengths", fn := fun _ => fun
  | [d1, d2, d3] => { results := [.lit (.bool true)], args := [d1, d2, d3] }
  | _ => none }
def transformLengthsRow : OpenClaim := { program := "ytepehgjdepioeabdoor", sum := "fcf0de0e0bb702fa33b0dd2c3dc63bd401942d753795482d622354ad6a3ae7ec", func := "wherry/wherrykeep.TransformLengths", spec := "transformLengths", unfollowed := true, recurses := true, named := ["unicode/utf8.first", "unicode/utf8.acceptRanges"], apart := false, laid := [("unicode/utf8.acceptRanges", laid_unicode_utf8_acceptRanges), ("unicode/utf8.first", laid_unicode_utf8_first)] }
def TransformLengthsSaid : Prop := transformLengthsRow.holds Tryd.pinned (OpenSpec.ofChange transformLengthsSpec)

/-- ITS FALSE NEIGHBOUR: 'it returns false'. Refute it at one input. -/
def transformLengthsWrong : ChangeSpec := { name := "transformLengths", fn := fun _ => fun
  | [d1, d2, d3] => { results := [.lit (.bool false)], args := [d1, d2, d3] }
  | _ => none }
def TransformLengthsWrongFalsely : Prop := transformLengthsRow.holds Tryd.pinned (OpenSpec.ofChange transformLengthsWrong)

/-- 'wherrykeep.TransformTwo': WHATEVER THE INPUT: true; the input reads as it did. -/
def transformTwoSpec : ChangeSpec := { name := "transformTwo", fn := fun _ => fun
  | [d1, d2, d3, d4] => { results := [.lit (.bool true)], args := [d1, d2, d3, d4] }
  | _ => none }
def transformTwoRow : OpenClaim := { program := "ytepehgjdepioeabdoor", sum := "fcf0de0e0bb702fa33b0dd2c3dc63bd401942d753795482d622354ad6a3ae7ec", func := "wherry/wherrykeep.TransformTwo", spec := "transformTwo", inPlace := ["internal/abi.NoEscape"], unfollowed := true, recurses := true, named := ["unicode/utf8.first", "unicode/utf8.acceptRanges"], apart := false, laid := [("unicode/utf8.acceptRanges", laid_unicode_utf8_acceptRanges), ("unicode/utf8.first", laid_unicode_utf8_first)] }
def TransformTwoSaid : Prop := transformTwoRow.holds Tryd.pinned (OpenSpec.ofChange transformTwoSpec)

/-- ITS FALSE NEIGHBOUR: 'it returns false'. Refute it at one input. -/
def transformTwoWrong : ChangeSpec := { name := "transformTwo", fn := fun _ => fun
  | [d1, d2, d3, d4] => { results := [.lit (.bool false)], args := [d1, d2, d3, d4] }
  | _ => none }
def TransformTwoWrongFalsely : Prop := transformTwoRow.holds Tryd.pinned (OpenSpec.ofChange transformTwoWrong)

/-- 'wherrylaw.EdgeChecks': WHATEVER THE INPUT: true; the input reads as it did. -/
def edgeChecksSpec : ChangeSpec := { name := "edgeChecks", fn := fun _ => fun
  | [d] => { results := [.lit (.bool true)], args := [d] }
  | _ => none }
def edgeChecksRow : OpenClaim := { program := "ytepehgjdepioeabdoor", sum := "fcf0de0e0bb702fa33b0dd2c3dc63bd401942d753795482d622354ad6a3ae7ec", func := "wherry/wherrylaw.EdgeChecks", spec := "edgeChecks", named := ["unicode/utf8.first", "unicode/utf8.acceptRanges"], apart := false, laid := [("unicode/utf8.acceptRanges", laid_unicode_utf8_acceptRanges), ("unicode/utf8.first", laid_unicode_utf8_first)] }
def EdgeChecksSaid : Prop := edgeChecksRow.holds Tryd.pinned (OpenSpec.ofChange edgeChecksSpec)

/-- ITS FALSE NEIGHBOUR: 'it returns false'. Refute it at one input. -/
def edgeChecksWrong : ChangeSpec := { name := "edgeChecks", fn := fun _ => fun
  | [d] => { results := [.lit (.bool false)], args := [d] }
  | _ => none }
def EdgeChecksWrongFalsely : Prop := edgeChecksRow.holds Tryd.pinned (OpenSpec.ofChange edgeChecksWrong)

/-- 'wherrylaw.EdgeSends': WHATEVER THE INPUT: true; the input reads as it did. -/
def edgeSendsSpec : ChangeSpec := { name := "edgeSends", fn := fun _ => fun
  | [d1, d2] => { results := [.lit (.bool true)], args := [d1, d2] }
  | _ => none }
def edgeSendsRow : OpenClaim := { program := "ytepehgjdepioeabdoor", sum := "fcf0de0e0bb702fa33b0dd2c3dc63bd401942d753795482d622354ad6a3ae7ec", func := "wherry/wherrylaw.EdgeSends", spec := "edgeSends", named := ["unicode/utf8.first", "unicode/utf8.acceptRanges"], apart := false, laid := [("unicode/utf8.acceptRanges", laid_unicode_utf8_acceptRanges), ("unicode/utf8.first", laid_unicode_utf8_first)] }
def EdgeSendsSaid : Prop := edgeSendsRow.holds Tryd.pinned (OpenSpec.ofChange edgeSendsSpec)

/-- ITS FALSE NEIGHBOUR: 'it returns false'. Refute it at one input. -/
def edgeSendsWrong : ChangeSpec := { name := "edgeSends", fn := fun _ => fun
  | [d1, d2] => { results := [.lit (.bool false)], args := [d1, d2] }
  | _ => none }
def EdgeSendsWrongFalsely : Prop := edgeSendsRow.holds Tryd.pinned (OpenSpec.ofChange edgeSendsWrong)

/-- 'wherrylaw.EdgeHears': WHATEVER THE INPUT: true; the input reads as it did. -/
def edgeHearsSpec : ChangeSpec := { name := "edgeHears", fn := fun _ => fun
  | [d1, d2, d3, d4] => { results := [.lit (.bool true)], args := [d1, d2, d3, d4] }
  | _ => none }
def edgeHearsRow : OpenClaim := { program := "ytepehgjdepioeabdoor", sum := "fcf0de0e0bb702fa33b0dd2c3dc63bd401942d753795482d622354ad6a3ae7ec", func := "wherry/wherrylaw.EdgeHears", spec := "edgeHears", named := ["unicode/utf8.first", "unicode/utf8.acceptRanges"], apart := false, laid := [("unicode/utf8.acceptRanges", laid_unicode_utf8_acceptRanges), ("unicode/utf8.first", laid_unicode_utf8_first)] }
def EdgeHearsSaid : Prop := edgeHearsRow.holds Tryd.pinned (OpenSpec.ofChange edgeHearsSpec)

/-- ITS FALSE NEIGHBOUR: 'it returns false'. Refute it at one input. -/
def edgeHearsWrong : ChangeSpec := { name := "edgeHears", fn := fun _ => fun
  | [d1, d2, d3, d4] => { results := [.lit (.bool false)], args := [d1, d2, d3, d4] }
  | _ => none }
def EdgeHearsWrongFalsely : Prop := edgeHearsRow.holds Tryd.pinned (OpenSpec.ofChange edgeHearsWrong)

/-- 'wherrykeep.EdgeMeets': WHATEVER THE INPUT: true; the input reads as it did. -/
def edgeMeetsSpec : ChangeSpec := { name := "edgeMeets", fn := fun _ => fun
  | [d1, d2] => { results := [.lit (.bool true)], args := [d1, d2] }
  | _ => none }
def edgeMeetsRow : OpenClaim := { program := "ytepehgjdepioeabdoor", sum := "fcf0de0e0bb702fa33b0dd2c3dc63bd401942d753795482d622354ad6a3ae7ec", func := "wherry/wherrykeep.EdgeMeets", spec := "edgeMeets", inPlace := ["internal/abi.NoEscape"], unfollowed := true, recurses := true, named := ["unicode/utf8.first", "unicode/utf8.acceptRanges"], apart := false, laid := [("unicode/utf8.acceptRanges", laid_unicode_utf8_acceptRanges), ("unicode/utf8.first", laid_unicode_utf8_first)] }
def EdgeMeetsSaid : Prop := edgeMeetsRow.holds Tryd.pinned (OpenSpec.ofChange edgeMeetsSpec)

/-- ITS FALSE NEIGHBOUR: 'it returns false'. Refute it at one input. -/
def edgeMeetsWrong : ChangeSpec := { name := "edgeMeets", fn := fun _ => fun
  | [d1, d2] => { results := [.lit (.bool false)], args := [d1, d2] }
  | _ => none }
def EdgeMeetsWrongFalsely : Prop := edgeMeetsRow.holds Tryd.pinned (OpenSpec.ofChange edgeMeetsWrong)

/-- 'wherrykeep.EdgeKnown': WHATEVER THE INPUT: true; the input reads as it did. -/
def edgeKnownSpec : ChangeSpec := { name := "edgeKnown", fn := fun _ => fun
  | [d1, d2, d3] => { results := [.lit (.bool true)], args := [d1, d2, d3] }
  | _ => none }
def edgeKnownRow : OpenClaim := { program := "ytepehgjdepioeabdoor", sum := "fcf0de0e0bb702fa33b0dd2c3dc63bd401942d753795482d622354ad6a3ae7ec", func := "wherry/wherrykeep.EdgeKnown", spec := "edgeKnown", recurses := true, named := ["unicode/utf8.first", "unicode/utf8.acceptRanges"], apart := false, laid := [("unicode/utf8.acceptRanges", laid_unicode_utf8_acceptRanges), ("unicode/utf8.first", laid_unicode_utf8_first)] }
def EdgeKnownSaid : Prop := edgeKnownRow.holds Tryd.pinned (OpenSpec.ofChange edgeKnownSpec)

/-- ITS FALSE NEIGHBOUR: 'it returns false'. Refute it at one input. -/
def edgeKnownWrong : ChangeSpec := { name := "edgeKnown", fn := fun _ => fun
  | [d1, d2, d3] => { results := [.lit (.bool false)], args := [d1, d2, d3] }
  | _ => none }
def EdgeKnownWrongFalsely : Prop := edgeKnownRow.holds Tryd.pinned (OpenSpec.ofChange edgeKnownWrong)

/-- 'wherrykeep.EdgeAlone': WHATEVER THE INPUT: true; the input reads as it did. -/
def edgeAloneSpec : ChangeSpec := { name := "edgeAlone", fn := fun _ => fun
  | [d1, d2, d3] => { results := [.lit (.bool true)], args := [d1, d2, d3] }
  | _ => none }
def edgeAloneRow : OpenClaim := { program := "ytepehgjdepioeabdoor", sum := "fcf0de0e0bb702fa33b0dd2c3dc63bd401942d753795482d622354ad6a3ae7ec", func := "wherry/wherrykeep.EdgeAlone", spec := "edgeAlone", unfollowed := true, recurses := true, named := ["unicode/utf8.first", "unicode/utf8.acceptRanges"], apart := false, laid := [("unicode/utf8.acceptRanges", laid_unicode_utf8_acceptRanges), ("unicode/utf8.first", laid_unicode_utf8_first)] }
def EdgeAloneSaid : Prop := edgeAloneRow.holds Tryd.pinned (OpenSpec.ofChange edgeAloneSpec)

/-- ITS FALSE NEIGHBOUR: 'it returns false'. Refute it at one input. -/
def edgeAloneWrong : ChangeSpec := { name := "edgeAlone", fn := fun _ => fun
  | [d1, d2, d3] => { results := [.lit (.bool false)], args := [d1, d2, d3] }
  | _ => none }
def EdgeAloneWrongFalsely : Prop := edgeAloneRow.holds Tryd.pinned (OpenSpec.ofChange edgeAloneWrong)

/-- 'wherrykeep.EdgeFits': WHATEVER THE INPUT: true; the input reads as it did. -/
def edgeFitsSpec : ChangeSpec := { name := "edgeFits", fn := fun _ => fun
  | [d1, d2, d3] => { results := [.lit (.bool true)], args := [d1, d2, d3] }
  | _ => none }
def edgeFitsRow : OpenClaim := { program := "ytepehgjdepioeabdoor", sum := "fcf0de0e0bb702fa33b0dd2c3dc63bd401942d753795482d622354ad6a3ae7ec", func := "wherry/wherrykeep.EdgeFits", spec := "edgeFits", unfollowed := true, recurses := true, named := ["unicode/utf8.first", "unicode/utf8.acceptRanges"], apart := false, laid := [("unicode/utf8.acceptRanges", laid_unicode_utf8_acceptRanges), ("unicode/utf8.first", laid_unicode_utf8_first)] }
def EdgeFitsSaid : Prop := edgeFitsRow.holds Tryd.pinned (OpenSpec.ofChange edgeFitsSpec)

/-- ITS FALSE NEIGHBOUR: 'it returns false'. Refute it at one input. -/
def edgeFitsWrong : ChangeSpec := { name := "edgeFits", fn := fun _ => fun
  | [d1, d2, d3] => { results := [.lit (.bool false)], args := [d1, d2, d3] }
  | _ => none }
def EdgeFitsWrongFalsely : Prop := edgeFitsRow.holds Tryd.pinned (OpenSpec.ofChange edgeFitsWrong)

/- THE SECOND FORM. 'bulk': how many values and letters a reading holds, each counted each time it is reached (what is shared counts as often as it is met; a slice's spare places count too). A statement '..UptoSaid' is the law's where the arguments, and the package variables that the reading takes, are together of bulk at most 1048576: NARROWER than '..Said'. Prove '..Said' where nothing that the law and all that it calls make is longer than what came in: it says more and counts as full. Else prove '..UptoSaid'. A law counts once. -/
mutual
def uptoBulk {H : Type} : DataW H → Nat
  | .lit (.string bytes) => bytes.length + 1
  | .lit _ => 1
  | .nil => 1
  | .ptr d => uptoBulk d + 1
  | .slice elems spare => uptoBulkAll elems + uptoBulkAll spare + 1
  | .agg parts => uptoBulkAll parts + 1
  | .iface _ d => uptoBulk d + 1
  | .map entries => uptoBulkEntries entries + 1
  | .held _ => 1
def uptoBulkAll {H : Type} : List (DataW H) → Nat
  | [] => 0
  | d :: r => uptoBulk d + uptoBulkAll r
def uptoBulkEntries {H : Type} : List (Lit × DataW H) → Nat
  | [] => 0
  | x :: r => uptoBulkEntry x + uptoBulkEntries r
def uptoBulkEntry {H : Type} : Lit × DataW H → Nat
  | (.string bytes, d) => bytes.length + uptoBulk d + 1
  | (_, d) => uptoBulk d + 1
 end
def uptoSmall : (H : Type) → List (DataW H) → Bool := fun _ ds => decide (uptoBulkAll ds ≤ 1048576)
def OpenSpec.upto (s : _root_.Go.ChangeSpec) : _root_.Go.OpenSpec := { _root_.Go.OpenSpec.ofChange s with cond := some uptoSmall }

/-- 'wherrykeep.OpBad', WHERE WHAT IT READS IS OF BULK AT MOST 1048576: true; the input reads as it did. -/
def opBadUptoRow : OpenClaim := { program := "ytepehgjdepioeabdoor", sum := "fcf0de0e0bb702fa33b0dd2c3dc63bd401942d753795482d622354ad6a3ae7ec", func := "wherry/wherrykeep.OpBad", spec := "opBad", named := ["unicode/utf8.first", "unicode/utf8.acceptRanges"], apart := false, laid := [("unicode/utf8.acceptRanges", laid_unicode_utf8_acceptRanges), ("unicode/utf8.first", laid_unicode_utf8_first)], narrowed := true }
def OpBadUptoSaid : Prop := opBadUptoRow.holds Tryd.pinned (OpenSpec.upto opBadSpec)

/-- 'wherrykeep.TextLong', WHERE WHAT IT READS IS OF BULK AT MOST 1048576: true; the input reads as it did. -/
def textLongUptoRow : OpenClaim := { program := "ytepehgjdepioeabdoor", sum := "fcf0de0e0bb702fa33b0dd2c3dc63bd401942d753795482d622354ad6a3ae7ec", func := "wherry/wherrykeep.TextLong", spec := "textLong", named := ["unicode/utf8.first", "unicode/utf8.acceptRanges"], apart := false, laid := [("unicode/utf8.acceptRanges", laid_unicode_utf8_acceptRanges), ("unicode/utf8.first", laid_unicode_utf8_first)], narrowed := true }
def TextLongUptoSaid : Prop := textLongUptoRow.holds Tryd.pinned (OpenSpec.upto textLongSpec)

/-- 'wherrykeep.LengthsFit', WHERE WHAT IT READS IS OF BULK AT MOST 1048576: true; the input reads as it did. -/
def lengthsFitUptoRow : OpenClaim := { program := "ytepehgjdepioeabdoor", sum := "fcf0de0e0bb702fa33b0dd2c3dc63bd401942d753795482d622354ad6a3ae7ec", func := "wherry/wherrykeep.LengthsFit", spec := "lengthsFit", unfollowed := true, recurses := true, named := ["unicode/utf8.first", "unicode/utf8.acceptRanges"], apart := false, laid := [("unicode/utf8.acceptRanges", laid_unicode_utf8_acceptRanges), ("unicode/utf8.first", laid_unicode_utf8_first)], narrowed := true }
def LengthsFitUptoSaid : Prop := lengthsFitUptoRow.holds Tryd.pinned (OpenSpec.upto lengthsFitSpec)

/-- 'wherrykeep.TransformLengths', WHERE WHAT IT READS IS OF BULK AT MOST 1048576: true; the input reads as it did. -/
def transformLengthsUptoRow : OpenClaim := { program := "ytepehgjdepioeabdoor", sum := "fcf0de0e0bb702fa33b0dd2c3dc63bd401942d753795482d622354ad6a3ae7ec", func := "wherry/wherrykeep.TransformLengths", spec := "transformLengths", unfollowed := true, recurses := true, named := ["unicode/utf8.first", "unicode/utf8.acceptRanges"], apart := false, laid := [("unicode/utf8.acceptRanges", laid_unicode_utf8_acceptRanges), ("unicode/utf8.first", laid_unicode_utf8_first)], narrowed := true }
def TransformLengthsUptoSaid : Prop := transformLengthsUptoRow.holds Tryd.pinned (OpenSpec.upto transformLengthsSpec)

/-- 'wherrykeep.TransformTwo', WHERE WHAT IT READS IS OF BULK AT MOST 1048576: true; the input reads as it did. -/
def transformTwoUptoRow : OpenClaim := { program := "ytepehgjdepioeabdoor", sum := "fcf0de0e0bb702fa33b0dd2c3dc63bd401942d753795482d622354ad6a3ae7ec", func := "wherry/wherrykeep.TransformTwo", spec := "transformTwo", inPlace := ["internal/abi.NoEscape"], unfollowed := true, recurses := true, named := ["unicode/utf8.first", "unicode/utf8.acceptRanges"], apart := false, laid := [("unicode/utf8.acceptRanges", laid_unicode_utf8_acceptRanges), ("unicode/utf8.first", laid_unicode_utf8_first)], narrowed := true }
def TransformTwoUptoSaid : Prop := transformTwoUptoRow.holds Tryd.pinned (OpenSpec.upto transformTwoSpec)

/-- 'wherrylaw.EdgeChecks', WHERE WHAT IT READS IS OF BULK AT MOST 1048576: true; the input reads as it did. -/
def edgeChecksUptoRow : OpenClaim := { program := "ytepehgjdepioeabdoor", sum := "fcf0de0e0bb702fa33b0dd2c3dc63bd401942d753795482d622354ad6a3ae7ec", func := "wherry/wherrylaw.EdgeChecks", spec := "edgeChecks", named := ["unicode/utf8.first", "unicode/utf8.acceptRanges"], apart := false, laid := [("unicode/utf8.acceptRanges", laid_unicode_utf8_acceptRanges), ("unicode/utf8.first", laid_unicode_utf8_first)], narrowed := true }
def EdgeChecksUptoSaid : Prop := edgeChecksUptoRow.holds Tryd.pinned (OpenSpec.upto edgeChecksSpec)

/-- 'wherrylaw.EdgeSends', WHERE WHAT IT READS IS OF BULK AT MOST 1048576: true; the input reads as it did. -/
def edgeSendsUptoRow : OpenClaim := { program := "ytepehgjdepioeabdoor", sum := "fcf0de0e0bb702fa33b0dd2c3dc63bd401942d753795482d622354ad6a3ae7ec", func := "wherry/wherrylaw.EdgeSends", spec := "edgeSends", named := ["unicode/utf8.first", "unicode/utf8.acceptRanges"], apart := false, laid := [("unicode/utf8.acceptRanges", laid_unicode_utf8_acceptRanges), ("unicode/utf8.first", laid_unicode_utf8_first)], narrowed := true }
def EdgeSendsUptoSaid : Prop := edgeSendsUptoRow.holds Tryd.pinned (OpenSpec.upto edgeSendsSpec)

/-- 'wherrylaw.EdgeHears', WHERE WHAT IT READS IS OF BULK AT MOST 1048576: true; the input reads as it did. -/
def edgeHearsUptoRow : OpenClaim := { program := "ytepehgjdepioeabdoor", sum := "fcf0de0e0bb702fa33b0dd2c3dc63bd401942d753795482d622354ad6a3ae7ec", func := "wherry/wherrylaw.EdgeHears", spec := "edgeHears", named := ["unicode/utf8.first", "unicode/utf8.acceptRanges"], apart := false, laid := [("unicode/utf8.acceptRanges", laid_unicode_utf8_acceptRanges), ("unicode/utf8.first", laid_unicode_utf8_first)], narrowed := true }
def EdgeHearsUptoSaid : Prop := edgeHearsUptoRow.holds Tryd.pinned (OpenSpec.upto edgeHearsSpec)

/-- 'wherrykeep.EdgeMeets', WHERE WHAT IT READS IS OF BULK AT MOST 1048576: true; the input reads as it did. -/
def edgeMeetsUptoRow : OpenClaim := { program := "ytepehgjdepioeabdoor", sum := "fcf0de0e0bb702fa33b0dd2c3dc63bd401942d753795482d622354ad6a3ae7ec", func := "wherry/wherrykeep.EdgeMeets", spec := "edgeMeets", inPlace := ["internal/abi.NoEscape"], unfollowed := true, recurses := true, named := ["unicode/utf8.first", "unicode/utf8.acceptRanges"], apart := false, laid := [("unicode/utf8.acceptRanges", laid_unicode_utf8_acceptRanges), ("unicode/utf8.first", laid_unicode_utf8_first)], narrowed := true }
def EdgeMeetsUptoSaid : Prop := edgeMeetsUptoRow.holds Tryd.pinned (OpenSpec.upto edgeMeetsSpec)

/-- 'wherrykeep.EdgeKnown', WHERE WHAT IT READS IS OF BULK AT MOST 1048576: true; the input reads as it did. -/
def edgeKnownUptoRow : OpenClaim := { program := "ytepehgjdepioeabdoor", sum := "fcf0de0e0bb702fa33b0dd2c3dc63bd401942d753795482d622354ad6a3ae7ec", func := "wherry/wherrykeep.EdgeKnown", spec := "edgeKnown", recurses := true, named := ["unicode/utf8.first", "unicode/utf8.acceptRanges"], apart := false, laid := [("unicode/utf8.acceptRanges", laid_unicode_utf8_acceptRanges), ("unicode/utf8.first", laid_unicode_utf8_first)], narrowed := true }
def EdgeKnownUptoSaid : Prop := edgeKnownUptoRow.holds Tryd.pinned (OpenSpec.upto edgeKnownSpec)

/-- 'wherrykeep.EdgeAlone', WHERE WHAT IT READS IS OF BULK AT MOST 1048576: true; the input reads as it did. -/
def edgeAloneUptoRow : OpenClaim := { program := "ytepehgjdepioeabdoor", sum := "fcf0de0e0bb702fa33b0dd2c3dc63bd401942d753795482d622354ad6a3ae7ec", func := "wherry/wherrykeep.EdgeAlone", spec := "edgeAlone", unfollowed := true, recurses := true, named := ["unicode/utf8.first", "unicode/utf8.acceptRanges"], apart := false, laid := [("unicode/utf8.acceptRanges", laid_unicode_utf8_acceptRanges), ("unicode/utf8.first", laid_unicode_utf8_first)], narrowed := true }
def EdgeAloneUptoSaid : Prop := edgeAloneUptoRow.holds Tryd.pinned (OpenSpec.upto edgeAloneSpec)

/-- 'wherrykeep.EdgeFits', WHERE WHAT IT READS IS OF BULK AT MOST 1048576: true; the input reads as it did. -/
def edgeFitsUptoRow : OpenClaim := { program := "ytepehgjdepioeabdoor", sum := "fcf0de0e0bb702fa33b0dd2c3dc63bd401942d753795482d622354ad6a3ae7ec", func := "wherry/wherrykeep.EdgeFits", spec := "edgeFits", unfollowed := true, recurses := true, named := ["unicode/utf8.first", "unicode/utf8.acceptRanges"], apart := false, laid := [("unicode/utf8.acceptRanges", laid_unicode_utf8_acceptRanges), ("unicode/utf8.first", laid_unicode_utf8_first)], narrowed := true }
def EdgeFitsUptoSaid : Prop := edgeFitsUptoRow.holds Tryd.pinned (OpenSpec.upto edgeFitsSpec)

end Rows
end Go.Proofs.YtepehgjdepioeabDoor
