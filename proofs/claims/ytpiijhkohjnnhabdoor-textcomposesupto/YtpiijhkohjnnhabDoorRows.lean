/-
  NARROWER THAN 'FOR EVERY INPUT', by the rows' own cells (each row's printed sentence says how): TextComposes: laid · TextMoves: laid · TextWholes: laid · OpGood: laid · InvertBack: laid · TransformMeets: laid.
  DERIVED. THE GIVEN ROWS OF THIS SEAT. 6 by the template 'for every input the law returns true; each argument reads behind the call as it read before'; 0 by the template 'total and deterministic' (their statements: YtpiijhkohjnnhabDoorTotals.lean).
  GIVEN WITH THE SEED: the statements are not yours to turn. If you find one false, say at which input.
  Laid BY PROGRAM, IN A SANDBOX (cutbox-rows.mjs): the forced cells as the released guide's own fill.sh prints them over the translation 28c8d6b60ae697fd… (all of the seat's roots in one cut). By AI agents, Wed Nov 11 2026. No macro, syntax, notation, axiom, sorry.
-/
import Derived.Test.YtpiijhkohjnnhabDoorChecked
import GoSem.PinnedTables
import GoSem.Claim
import GoSem.ClaimJoined
import GoSem.ClaimMapViews
import Derived.JoinedTies
import Derived.KernelRfl
namespace Go.Proofs.YtpiijhkohjnnhabDoor
/- THE CELL 'sum', in the pinned program and in every row, IS THE sha256 OF THE DUMP (.gsa) THAT YtpiijhkohjnnhabDoorProg.lean LOADS. Nothing in Lean hashes anything: it is a label: what it is worth is what the hold of that sum in a sandbox is worth. -/
noncomputable def Tryd.pinned : Pinned := { name := "ytpiijhkohjnnhabdoor", sum := "28c8d6b60ae697fd55768f94c837202dea4fecae73ee43b47cad39ec63725888", checked := Tryd.checked }
namespace Rows
def none {H : Type} : Left H := { results := [], args := [] }

/- WHAT THE LISTED PACKAGE-LEVEL VARIABLES READ AS WHEN THE CALL BEGINS. Each datum BY PROGRAM (the guide's laid-datum.mjs) off the statement by which the dump's own 'gosem.cut.vars' lays the variable. In a bare row this is a premise. The card (YtpiijhkohjnnhabDoorCards.lean) ties it to the program's text. -/
def laid_unicode_utf8_acceptRanges {H : Type} : DataW H := .agg [.agg [.lit (.int .u8 128), .lit (.int .u8 191)], .agg [.lit (.int .u8 160), .lit (.int .u8 191)], .agg [.lit (.int .u8 128), .lit (.int .u8 159)], .agg [.lit (.int .u8 144), .lit (.int .u8 191)], .agg [.lit (.int .u8 128), .lit (.int .u8 143)], .agg [.lit (.int .u8 0), .lit (.int .u8 0)], .agg [.lit (.int .u8 0), .lit (.int .u8 0)], .agg [.lit (.int .u8 0), .lit (.int .u8 0)], .agg [.lit (.int .u8 0), .lit (.int .u8 0)], .agg [.lit (.int .u8 0), .lit (.int .u8 0)], .agg [.lit (.int .u8 0), .lit (.int .u8 0)], .agg [.lit (.int .u8 0), .lit (.int .u8 0)], .agg [.lit (.int .u8 0), .lit (.int .u8 0)], .agg [.lit (.int .u8 0), .lit (.int .u8 0)], .agg [.lit (.int .u8 0), .lit (.int .u8 0)], .agg [.lit (.int .u8 0), .lit (.int .u8 0)]]
/-- One of Go's own tables, pinned by name: the form's constant. -/
def laid_unicode_utf8_first : DataW Unit := Go.Pinned.utf8First

/-- 'wherrylaw.TextComposes': WHATEVER THE INPUT: true; the input reads as it did. -/
def textComposesSpec : ChangeSpec := { name := "textComposes", fn := fun _ => fun
  | [d1, d2] => { results := [.lit (.bool true)], args := [d1, d2] }
  | _ => none }
def textComposesRow : OpenClaim := { program := "ytpiijhkohjnnhabdoor", sum := "28c8d6b60ae697fd55768f94c837202dea4fecae73ee43b47cad39ec63725888", func := "wherry/wherrylaw.TextComposes", spec := "textComposes", named := ["unicode/utf8.first", "unicode/utf8.acceptRanges"], apart := false, laid := [("unicode/utf8.acceptRanges", laid_unicode_utf8_acceptRanges), ("unicode/utf8.first", laid_unicode_utf8_first)] }
def TextComposesSaid : Prop := textComposesRow.holds Tryd.pinned (OpenSpec.ofChange textComposesSpec)

/-- ITS FALSE NEIGHBOUR: 'it returns false'. Refute it at one input. -/
def textComposesWrong : ChangeSpec := { name := "textComposes", fn := fun _ => fun
  | [d1, d2] => { results := [.lit (.bool false)], args := [d1, d2] }
  | _ => none }
def TextComposesWrongFalsely : Prop := textComposesRow.holds Tryd.pinned (OpenSpec.ofChange textComposesWrong)

/-- 'wherrylaw.TextMoves': WHATEVER THE INPUT: true; the input reads as it did. -/
def textMovesSpec : ChangeSpec := { name := "textMoves", fn := fun _ => fun
  | [d1, d2, d3] => { results := [.lit (.bool true)], args := [d1, d2, d3] }
  | _ => none }
def textMovesRow : OpenClaim := { program := "ytpiijhkohjnnhabdoor", sum := "28c8d6b60ae697fd55768f94c837202dea4fecae73ee43b47cad39ec63725888", func := "wherry/wherrylaw.TextMoves", spec := "textMoves", named := ["unicode/utf8.first", "unicode/utf8.acceptRanges"], apart := false, laid := [("unicode/utf8.acceptRanges", laid_unicode_utf8_acceptRanges), ("unicode/utf8.first", laid_unicode_utf8_first)] }
def TextMovesSaid : Prop := textMovesRow.holds Tryd.pinned (OpenSpec.ofChange textMovesSpec)

/-- ITS FALSE NEIGHBOUR: 'it returns false'. Refute it at one input. -/
def textMovesWrong : ChangeSpec := { name := "textMoves", fn := fun _ => fun
  | [d1, d2, d3] => { results := [.lit (.bool false)], args := [d1, d2, d3] }
  | _ => none }
def TextMovesWrongFalsely : Prop := textMovesRow.holds Tryd.pinned (OpenSpec.ofChange textMovesWrong)

/-- 'wherrylaw.TextWholes': WHATEVER THE INPUT: true; the input reads as it did. -/
def textWholesSpec : ChangeSpec := { name := "textWholes", fn := fun _ => fun
  | [d1, d2] => { results := [.lit (.bool true)], args := [d1, d2] }
  | _ => none }
def textWholesRow : OpenClaim := { program := "ytpiijhkohjnnhabdoor", sum := "28c8d6b60ae697fd55768f94c837202dea4fecae73ee43b47cad39ec63725888", func := "wherry/wherrylaw.TextWholes", spec := "textWholes", named := ["unicode/utf8.first", "unicode/utf8.acceptRanges"], apart := false, laid := [("unicode/utf8.acceptRanges", laid_unicode_utf8_acceptRanges), ("unicode/utf8.first", laid_unicode_utf8_first)] }
def TextWholesSaid : Prop := textWholesRow.holds Tryd.pinned (OpenSpec.ofChange textWholesSpec)

/-- ITS FALSE NEIGHBOUR: 'it returns false'. Refute it at one input. -/
def textWholesWrong : ChangeSpec := { name := "textWholes", fn := fun _ => fun
  | [d1, d2] => { results := [.lit (.bool false)], args := [d1, d2] }
  | _ => none }
def TextWholesWrongFalsely : Prop := textWholesRow.holds Tryd.pinned (OpenSpec.ofChange textWholesWrong)

/-- 'wherrykeep.OpGood': WHATEVER THE INPUT: true; the input reads as it did. -/
def opGoodSpec : ChangeSpec := { name := "opGood", fn := fun _ => fun
  | [d1, d2] => { results := [.lit (.bool true)], args := [d1, d2] }
  | _ => none }
def opGoodRow : OpenClaim := { program := "ytpiijhkohjnnhabdoor", sum := "28c8d6b60ae697fd55768f94c837202dea4fecae73ee43b47cad39ec63725888", func := "wherry/wherrykeep.OpGood", spec := "opGood", inPlace := ["internal/abi.NoEscape"], unfollowed := true, recurses := true, named := ["unicode/utf8.first", "unicode/utf8.acceptRanges"], apart := false, laid := [("unicode/utf8.acceptRanges", laid_unicode_utf8_acceptRanges), ("unicode/utf8.first", laid_unicode_utf8_first)] }
def OpGoodSaid : Prop := opGoodRow.holds Tryd.pinned (OpenSpec.ofChange opGoodSpec)

/-- ITS FALSE NEIGHBOUR: 'it returns false'. Refute it at one input. -/
def opGoodWrong : ChangeSpec := { name := "opGood", fn := fun _ => fun
  | [d1, d2] => { results := [.lit (.bool false)], args := [d1, d2] }
  | _ => none }
def OpGoodWrongFalsely : Prop := opGoodRow.holds Tryd.pinned (OpenSpec.ofChange opGoodWrong)

/-- 'wherrykeep.InvertBack': WHATEVER THE INPUT: true; the input reads as it did. -/
def invertBackSpec : ChangeSpec := { name := "invertBack", fn := fun _ => fun
  | [d1, d2] => { results := [.lit (.bool true)], args := [d1, d2] }
  | _ => none }
def invertBackRow : OpenClaim := { program := "ytpiijhkohjnnhabdoor", sum := "28c8d6b60ae697fd55768f94c837202dea4fecae73ee43b47cad39ec63725888", func := "wherry/wherrykeep.InvertBack", spec := "invertBack", inPlace := ["internal/abi.NoEscape"], unfollowed := true, recurses := true, named := ["unicode/utf8.first", "unicode/utf8.acceptRanges"], apart := false, laid := [("unicode/utf8.acceptRanges", laid_unicode_utf8_acceptRanges), ("unicode/utf8.first", laid_unicode_utf8_first)] }
def InvertBackSaid : Prop := invertBackRow.holds Tryd.pinned (OpenSpec.ofChange invertBackSpec)

/-- ITS FALSE NEIGHBOUR: 'it returns false'. Refute it at one input. -/
def invertBackWrong : ChangeSpec := { name := "invertBack", fn := fun _ => fun
  | [d1, d2] => { results := [.lit (.bool false)], args := [d1, d2] }
  | _ => none }
def InvertBackWrongFalsely : Prop := invertBackRow.holds Tryd.pinned (OpenSpec.ofChange invertBackWrong)

/-- 'wherrykeep.TransformMeets': WHATEVER THE INPUT: true; the input reads as it did. -/
def transformMeetsSpec : ChangeSpec := { name := "transformMeets", fn := fun _ => fun
  | [d1, d2, d3] => { results := [.lit (.bool true)], args := [d1, d2, d3] }
  | _ => none }
def transformMeetsRow : OpenClaim := { program := "ytpiijhkohjnnhabdoor", sum := "28c8d6b60ae697fd55768f94c837202dea4fecae73ee43b47cad39ec63725888", func := "wherry/wherrykeep.TransformMeets", spec := "transformMeets", inPlace := ["internal/abi.NoEscape"], unfollowed := true, recurses := true, named := ["unicode/utf8.first", "unicode/utf8.acceptRanges"], apart := false, laid := [("unicode/utf8.acceptRanges", laid_unicode_utf8_acceptRanges), ("unicode/utf8.first", laid_unicode_utf8_first)] }
def TransformMeetsSaid : Prop := transformMeetsRow.holds Tryd.pinned (OpenSpec.ofChange transformMeetsSpec)

/-- ITS FALSE NEIGHBOUR: 'it returns false'. Refute it at one input. -/
def transformMeetsWrong : ChangeSpec := { name := "transformMeets", fn := fun _ => fun
  | [d1, d2, d3] => { results := [.lit (.bool false)], args := [d1, d2, d3] }
  | _ => none }
def TransformMeetsWrongFalsely : Prop := transformMeetsRow.holds Tryd.pinned (OpenSpec.ofChange transformMeetsWrong)

/- THE SECOND FORM. 'bulk': how many values and letters a reading holds, each counted each time it is reached (what is shared counts as often as it is met; a slice's spare places count too). A statement '..UptoSaid' is the law's where the arguments, and the package variables that the reading takes, are together of bulk at most 1048576: NARROWER than '..Said'. Prove '..Said' where nothing that the law and all that it calls make is longer than what came in: it says more and counts as full. Else prove '..UptoSaid'. A law counts once. -/
mutual
def uptoBulk {H : Type} : DataW H → Nat
  | .lit (.string bytes) => bytes.length + 1
  | .lit _ => 1
  | .nil => 1
  | .ptr d => uptoBulk d + 1
  | .slice elems spare => uptoBulkAll elems + uptoBulkAll spare + 1
  | .agg parts => uptoBulkAll parts + 1
  | .iface _ d => uptoBulk d + 1
  | .map entries => uptoBulkEntries entries + 1
  | .held _ => 1
def uptoBulkAll {H : Type} : List (DataW H) → Nat
  | [] => 0
  | d :: r => uptoBulk d + uptoBulkAll r
def uptoBulkEntries {H : Type} : List (Lit × DataW H) → Nat
  | [] => 0
  | x :: r => uptoBulkEntry x + uptoBulkEntries r
def uptoBulkEntry {H : Type} : Lit × DataW H → Nat
  | (.string bytes, d) => bytes.length + uptoBulk d + 1
  | (_, d) => uptoBulk d + 1
 end
def uptoSmall : (H : Type) → List (DataW H) → Bool := fun _ ds => decide (uptoBulkAll ds ≤ 1048576)
def OpenSpec.upto (s : _root_.Go.ChangeSpec) : _root_.Go.OpenSpec := { _root_.Go.OpenSpec.ofChange s with cond := some uptoSmall }

/-- 'wherrylaw.TextComposes', WHERE WHAT IT READS IS OF BULK AT MOST 1048576: true; the input reads as it did. -/
def textComposesUptoRow : OpenClaim := { program := "ytpiijhkohjnnhabdoor", sum := "28c8d6b60ae697fd55768f94c837202dea4fecae73ee43b47cad39ec63725888", func := "wherry/wherrylaw.TextComposes", spec := "textComposes", named := ["unicode/utf8.first", "unicode/utf8.acceptRanges"], apart := false, laid := [("unicode/utf8.acceptRanges", laid_unicode_utf8_acceptRanges), ("unicode/utf8.first", laid_unicode_utf8_first)], narrowed := true }
def TextComposesUptoSaid : Prop := textComposesUptoRow.holds Tryd.pinned (OpenSpec.upto textComposesSpec)

/-- 'wherrylaw.TextMoves', WHERE WHAT IT READS IS OF BULK AT MOST 1048576: true; the input reads as it did. -/
def textMovesUptoRow : OpenClaim := { program := "ytpiijhkohjnnhabdoor", sum := "28c8d6b60ae697fd55768f94c837202dea4fecae73ee43b47cad39ec63725888", func := "wherry/wherrylaw.TextMoves", spec := "textMoves", named := ["unicode/utf8.first", "unicode/utf8.acceptRanges"], apart := false, laid := [("unicode/utf8.acceptRanges", laid_unicode_utf8_acceptRanges), ("unicode/utf8.first", laid_unicode_utf8_first)], narrowed := true }
def TextMovesUptoSaid : Prop := textMovesUptoRow.holds Tryd.pinned (OpenSpec.upto textMovesSpec)

/-- 'wherrylaw.TextWholes', WHERE WHAT IT READS IS OF BULK AT MOST 1048576: true; the input reads as it did. -/
def textWholesUptoRow : OpenClaim := { program := "ytpiijhkohjnnhabdoor", sum := "28c8d6b60ae697fd55768f94c837202dea4fecae73ee43b47cad39ec63725888", func := "wherry/wherrylaw.TextWholes", spec := "textWholes", named := ["unicode/utf8.first", "unicode/utf8.acceptRanges"], apart := false, laid := [("unicode/utf8.acceptRanges", laid_unicode_utf8_acceptRanges), ("unicode/utf8.first", laid_unicode_utf8_first)], narrowed := true }
def TextWholesUptoSaid : Prop := textWholesUptoRow.holds Tryd.pinned (OpenSpec.upto textWholesSpec)

/-- 'wherrykeep.OpGood', WHERE WHAT IT READS IS OF BULK AT MOST 1048576: true; the input reads as it did. -/
def opGoodUptoRow : OpenClaim := { program := "ytpiijhkohjnnhabdoor", sum := "28c8d6b60ae697fd55768f94c837202dea4fecae73ee43b47cad39ec63725888", func := "wherry/wherrykeep.OpGood", spec := "opGood", inPlace := ["internal/abi.NoEscape"], unfollowed := true, recurses := true, named := ["unicode/utf8.first", "unicode/utf8.acceptRanges"], apart := false, laid := [("unicode/utf8.acceptRanges", laid_unicode_utf8_acceptRanges), ("unicode/utf8.first", laid_unicode_utf8_first)], narrowed := true }
def OpGoodUptoSaid : Prop := opGoodUptoRow.holds Tryd.pinned (OpenSpec.upto opGoodSpec)

/-- 'wherrykeep.InvertBack', WHERE WHAT IT READS IS OF BULK AT MOST 1048576: true; the input reads as it did. -/
def invertBackUptoRow : OpenClaim := { program := "ytpiijhkohjnnhabdoor", sum := "28c8d6b60ae697fd55768f94c837202dea4fecae73ee43b47cad39ec63725888", func := "wherry/wherrykeep.InvertBack", spec := "invertBack", inPlace := ["internal/abi.NoEscape"], unfollowed := true, recurses := true, named := ["unicode/utf8.first", "unicode/utf8.acceptRanges"], apart := false, laid := [("unicode/utf8.acceptRanges", laid_unicode_utf8_acceptRanges), ("unicode/utf8.first", laid_unicode_utf8_first)], narrowed := true }
def InvertBackUptoSaid : Prop := invertBackUptoRow.holds Tryd.pinned (OpenSpec.upto invertBackSpec)

/-- 'wherrykeep.TransformMeets', WHERE WHAT IT READS IS OF BULK AT MOST 1048576: true; the input reads as it did. -/
def transformMeetsUptoRow : OpenClaim := { program := "ytpiijhkohjnnhabdoor", sum := "28c8d6b60ae697fd55768f94c837202dea4fecae73ee43b47cad39ec63725888", func := "wherry/wherrykeep.TransformMeets", spec := "transformMeets", inPlace := ["internal/abi.NoEscape"], unfollowed := true, recurses := true, named := ["unicode/utf8.first", "unicode/utf8.acceptRanges"], apart := false, laid := [("unicode/utf8.acceptRanges", laid_unicode_utf8_acceptRanges), ("unicode/utf8.first", laid_unicode_utf8_first)], narrowed := true }
def TransformMeetsUptoSaid : Prop := transformMeetsUptoRow.holds Tryd.pinned (OpenSpec.upto transformMeetsSpec)

end Rows
end Go.Proofs.YtpiijhkohjnnhabDoor
