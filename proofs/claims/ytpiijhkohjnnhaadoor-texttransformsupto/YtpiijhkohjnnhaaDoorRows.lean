/-
  NARROWER THAN 'FOR EVERY INPUT', by the rows' own cells (each row's printed sentence says how): TextChecks: laid · TextOps: laid · TextApplies: laid · TextInverts: laid · TextTransforms: laid.
  DERIVED. THE GIVEN ROWS OF THIS SEAT. 5 by the template 'for every input the law returns true; each argument reads behind the call as it read before'; 0 by the template 'total and deterministic' (their statements: YtpiijhkohjnnhaaDoorTotals.lean).
  GIVEN WITH THE SEED: the statements are not yours to turn. If you find one false, say at which input.
  Laid BY PROGRAM, IN A SANDBOX (cutbox-rows.mjs): the forced cells as the released guide's own fill.sh prints them over the translation 5f55a21ecdc1f649… (all of the seat's roots in one cut). By AI agents, Wed Nov 11 2026. No macro, syntax, notation, axiom, sorry.
-/
import Derived.Test.YtpiijhkohjnnhaaDoorChecked
import GoSem.PinnedTables
import GoSem.Claim
import GoSem.ClaimJoined
import GoSem.ClaimMapViews
import Derived.JoinedTies
import Derived.KernelRfl
namespace Go.Proofs.YtpiijhkohjnnhaaDoor
/- THE CELL 'sum', in the pinned program and in every row, IS THE sha256 OF THE DUMP (.gsa) THAT YtpiijhkohjnnhaaDoorProg.lean LOADS. Nothing in Lean hashes anything: it is a label: what it is worth is what the hold of that sum in a sandbox is worth. -/
noncomputable def Tryd.pinned : Pinned := { name := "ytpiijhkohjnnhaadoor", sum := "5f55a21ecdc1f649a71fa4f82df65175f4d8544fa4e144b17b80cdb1929ca7cf", checked := Tryd.checked }
namespace Rows
def none {H : Type} : Left H := { results := [], args := [] }

/- WHAT THE LISTED PACKAGE-LEVEL VARIABLES READ AS WHEN THE CALL BEGINS. Each datum BY PROGRAM (the guide's laid-datum.mjs) off the statement by which the dump's own 'gosem.cut.vars' lays the variable. In a bare row this is a premise. The card (YtpiijhkohjnnhaaDoorCards.lean) ties it to the program's text. -/
def laid_unicode_utf8_acceptRanges {H : Type} : DataW H := .agg [.agg [.lit (.int .u8 128), .lit (.int .u8 191)], .agg [.lit (.int .u8 160), .lit (.int .u8 191)], .agg [.lit (.int .u8 128), .lit (.int .u8 159)], .agg [.lit (.int .u8 144), .lit (.int .u8 191)], .agg [.lit (.int .u8 128), .lit (.int .u8 143)], .agg [.lit (.int .u8 0), .lit (.int .u8 0)], .agg [.lit (.int .u8 0), .lit (.int .u8 0)], .agg [.lit (.int .u8 0), .lit (.int .u8 0)], .agg [.lit (.int .u8 0), .lit (.int .u8 0)], .agg [.lit (.int .u8 0), .lit (.int .u8 0)], .agg [.lit (.int .u8 0), .lit (.int .u8 0)], .agg [.lit (.int .u8 0), .lit (.int .u8 0)], .agg [.lit (.int .u8 0), .lit (.int .u8 0)], .agg [.lit (.int .u8 0), .lit (.int .u8 0)], .agg [.lit (.int .u8 0), .lit (.int .u8 0)], .agg [.lit (.int .u8 0), .lit (.int .u8 0)]]
/-- One of Go's own tables, pinned by name: the form's constant. -/
def laid_unicode_utf8_first : DataW Unit := Go.Pinned.utf8First

/-- 'wherrylaw.TextChecks': WHATEVER THE INPUT: true; the input reads as it did. -/
def textChecksSpec : ChangeSpec := { name := "textChecks", fn := fun _ => fun
  | [d] => { results := [.lit (.bool true)], args := [d] }
  | _ => none }
def textChecksRow : OpenClaim := { program := "ytpiijhkohjnnhaadoor", sum := "5f55a21ecdc1f649a71fa4f82df65175f4d8544fa4e144b17b80cdb1929ca7cf", func := "wherry/wherrylaw.TextChecks", spec := "textChecks", named := ["unicode/utf8.first", "unicode/utf8.acceptRanges"], apart := false, laid := [("unicode/utf8.acceptRanges", laid_unicode_utf8_acceptRanges), ("unicode/utf8.first", laid_unicode_utf8_first)] }
def TextChecksSaid : Prop := textChecksRow.holds Tryd.pinned (OpenSpec.ofChange textChecksSpec)

/-- ITS FALSE NEIGHBOUR: 'it returns false'. Refute it at one input. -/
def textChecksWrong : ChangeSpec := { name := "textChecks", fn := fun _ => fun
  | [d] => { results := [.lit (.bool false)], args := [d] }
  | _ => none }
def TextChecksWrongFalsely : Prop := textChecksRow.holds Tryd.pinned (OpenSpec.ofChange textChecksWrong)

/-- 'wherrylaw.TextOps': WHATEVER THE INPUT: true; the input reads as it did. -/
def textOpsSpec : ChangeSpec := { name := "textOps", fn := fun _ => fun
  | [d] => { results := [.lit (.bool true)], args := [d] }
  | _ => none }
def textOpsRow : OpenClaim := { program := "ytpiijhkohjnnhaadoor", sum := "5f55a21ecdc1f649a71fa4f82df65175f4d8544fa4e144b17b80cdb1929ca7cf", func := "wherry/wherrylaw.TextOps", spec := "textOps", named := ["unicode/utf8.first", "unicode/utf8.acceptRanges"], apart := false, laid := [("unicode/utf8.acceptRanges", laid_unicode_utf8_acceptRanges), ("unicode/utf8.first", laid_unicode_utf8_first)] }
def TextOpsSaid : Prop := textOpsRow.holds Tryd.pinned (OpenSpec.ofChange textOpsSpec)

/-- ITS FALSE NEIGHBOUR: 'it returns false'. Refute it at one input. -/
def textOpsWrong : ChangeSpec := { name := "textOps", fn := fun _ => fun
  | [d] => { results := [.lit (.bool false)], args := [d] }
  | _ => none }
def TextOpsWrongFalsely : Prop := textOpsRow.holds Tryd.pinned (OpenSpec.ofChange textOpsWrong)

/-- 'wherrylaw.TextApplies': WHATEVER THE INPUT: true; the input reads as it did. -/
def textAppliesSpec : ChangeSpec := { name := "textApplies", fn := fun _ => fun
  | [d1, d2] => { results := [.lit (.bool true)], args := [d1, d2] }
  | _ => none }
def textAppliesRow : OpenClaim := { program := "ytpiijhkohjnnhaadoor", sum := "5f55a21ecdc1f649a71fa4f82df65175f4d8544fa4e144b17b80cdb1929ca7cf", func := "wherry/wherrylaw.TextApplies", spec := "textApplies", inPlace := ["internal/abi.NoEscape"], named := ["unicode/utf8.first", "unicode/utf8.acceptRanges"], apart := false, laid := [("unicode/utf8.acceptRanges", laid_unicode_utf8_acceptRanges), ("unicode/utf8.first", laid_unicode_utf8_first)] }
def TextAppliesSaid : Prop := textAppliesRow.holds Tryd.pinned (OpenSpec.ofChange textAppliesSpec)

/-- ITS FALSE NEIGHBOUR: 'it returns false'. Refute it at one input. -/
def textAppliesWrong : ChangeSpec := { name := "textApplies", fn := fun _ => fun
  | [d1, d2] => { results := [.lit (.bool false)], args := [d1, d2] }
  | _ => none }
def TextAppliesWrongFalsely : Prop := textAppliesRow.holds Tryd.pinned (OpenSpec.ofChange textAppliesWrong)

/-- 'wherrylaw.TextInverts': WHATEVER THE INPUT: true; the input reads as it did. -/
def textInvertsSpec : ChangeSpec := { name := "textInverts", fn := fun _ => fun
  | [d1, d2] => { results := [.lit (.bool true)], args := [d1, d2] }
  | _ => none }
def textInvertsRow : OpenClaim := { program := "ytpiijhkohjnnhaadoor", sum := "5f55a21ecdc1f649a71fa4f82df65175f4d8544fa4e144b17b80cdb1929ca7cf", func := "wherry/wherrylaw.TextInverts", spec := "textInverts", named := ["unicode/utf8.first", "unicode/utf8.acceptRanges"], apart := false, laid := [("unicode/utf8.acceptRanges", laid_unicode_utf8_acceptRanges), ("unicode/utf8.first", laid_unicode_utf8_first)] }
def TextInvertsSaid : Prop := textInvertsRow.holds Tryd.pinned (OpenSpec.ofChange textInvertsSpec)

/-- ITS FALSE NEIGHBOUR: 'it returns false'. Refute it at one input. -/
def textInvertsWrong : ChangeSpec := { name := "textInverts", fn := fun _ => fun
  | [d1, d2] => { results := [.lit (.bool false)], args := [d1, d2] }
  | _ => none }
def TextInvertsWrongFalsely : Prop := textInvertsRow.holds Tryd.pinned (OpenSpec.ofChange textInvertsWrong)

/-- 'wherrylaw.TextTransforms': WHATEVER THE INPUT: true; the input reads as it did. -/
def textTransformsSpec : ChangeSpec := { name := "textTransforms", fn := fun _ => fun
  | [d1, d2] => { results := [.lit (.bool true)], args := [d1, d2] }
  | _ => none }
def textTransformsRow : OpenClaim := { program := "ytpiijhkohjnnhaadoor", sum := "5f55a21ecdc1f649a71fa4f82df65175f4d8544fa4e144b17b80cdb1929ca7cf", func := "wherry/wherrylaw.TextTransforms", spec := "textTransforms", named := ["unicode/utf8.first", "unicode/utf8.acceptRanges"], apart := false, laid := [("unicode/utf8.acceptRanges", laid_unicode_utf8_acceptRanges), ("unicode/utf8.first", laid_unicode_utf8_first)] }
def TextTransformsSaid : Prop := textTransformsRow.holds Tryd.pinned (OpenSpec.ofChange textTransformsSpec)

/-- ITS FALSE NEIGHBOUR: 'it returns false'. Refute it at one input. -/
def textTransformsWrong : ChangeSpec := { name := "textTransforms", fn := fun _ => fun
  | [d1, d2] => { results := [.lit (.bool false)], args := [d1, d2] }
  | _ => none }
def TextTransformsWrongFalsely : Prop := textTransformsRow.holds Tryd.pinned (OpenSpec.ofChange textTransformsWrong)

/- THE SECOND FORM. 'bulk': how many values and letters a reading holds, each counted each time it is reached (what is shared counts as often as it is met; a slice's spare places count too). A statement '..UptoSaid' is the law's where the arguments, and the package variables that the reading takes, are together of bulk at most 1048576: NARROWER than '..Said'. Prove '..Said' where nothing that the law and all that it calls make is longer than what came in: it says more and counts as full. Else prove '..UptoSaid'. A law counts once. -/
mutual
def uptoBulk {H : Type} : DataW H → Nat
  | .lit (.string bytes) => bytes.length + 1
  | .lit _ => 1
  | .nil => 1
  | .ptr d => uptoBulk d + 1
  | .slice elems spare => uptoBulkAll elems + uptoBulkAll spare + 1
  | .agg parts => uptoBulkAll parts + 1
  | .iface _ d => uptoBulk d + 1
  | .map entries => uptoBulkEntries entries + 1
  | .held _ => 1
def uptoBulkAll {H : Type} : List (DataW H) → Nat
  | [] => 0
  | d :: r => uptoBulk d + uptoBulkAll r
def uptoBulkEntries {H : Type} : List (Lit × DataW H) → Nat
  | [] => 0
  | x :: r => uptoBulkEntry x + uptoBulkEntries r
def uptoBulkEntry {H : Type} : Lit × DataW H → Nat
  | (.string bytes, d) => bytes.length + uptoBulk d + 1
  | (_, d) => uptoBulk d + 1
 end
def uptoSmall : (H : Type) → List (DataW H) → Bool := fun _ ds => decide (uptoBulkAll ds ≤ 1048576)
def OpenSpec.upto (s : _root_.Go.ChangeSpec) : _root_.Go.OpenSpec := { _root_.Go.OpenSpec.ofChange s with cond := some uptoSmall }

/-- 'wherrylaw.TextChecks', WHERE WHAT IT READS IS OF BULK AT MOST 1048576: true; the input reads as it did. -/
def textChecksUptoRow : OpenClaim := { program := "ytpiijhkohjnnhaadoor", sum := "5f55a21ecdc1f649a71fa4f82df65175f4d8544fa4e144b17b80cdb1929ca7cf", func := "wherry/wherrylaw.TextChecks", spec := "textChecks", named := ["unicode/utf8.first", "unicode/utf8.acceptRanges"], apart := false, laid := [("unicode/utf8.acceptRanges", laid_unicode_utf8_acceptRanges), ("unicode/utf8.first", laid_unicode_utf8_first)], narrowed := true }
def TextChecksUptoSaid : Prop := textChecksUptoRow.holds Tryd.pinned (OpenSpec.upto textChecksSpec)

/-- 'wherrylaw.TextOps', WHERE WHAT IT READS IS OF BULK AT MOST 1048576: true; the input reads as it did. -/
def textOpsUptoRow : OpenClaim := { program := "ytpiijhkohjnnhaadoor", sum := "5f55a21ecdc1f649a71fa4f82df65175f4d8544fa4e144b17b80cdb1929ca7cf", func := "wherry/wherrylaw.TextOps", spec := "textOps", named := ["unicode/utf8.first", "unicode/utf8.acceptRanges"], apart := false, laid := [("unicode/utf8.acceptRanges", laid_unicode_utf8_acceptRanges), ("unicode/utf8.first", laid_unicode_utf8_first)], narrowed := true }
def TextOpsUptoSaid : Prop := textOpsUptoRow.holds Tryd.pinned (OpenSpec.upto textOpsSpec)

/-- 'wherrylaw.TextApplies', WHERE WHAT IT READS IS OF BULK AT MOST 1048576: true; the input reads as it did. -/
def textAppliesUptoRow : OpenClaim := { program := "ytpiijhkohjnnhaadoor", sum := "5f55a21ecdc1f649a71fa4f82df65175f4d8544fa4e144b17b80cdb1929ca7cf", func := "wherry/wherrylaw.TextApplies", spec := "textApplies", inPlace := ["internal/abi.NoEscape"], named := ["unicode/utf8.first", "unicode/utf8.acceptRanges"], apart := false, laid := [("unicode/utf8.acceptRanges", laid_unicode_utf8_acceptRanges), ("unicode/utf8.first", laid_unicode_utf8_first)], narrowed := true }
def TextAppliesUptoSaid : Prop := textAppliesUptoRow.holds Tryd.pinned (OpenSpec.upto textAppliesSpec)

/-- 'wherrylaw.TextInverts', WHERE WHAT IT READS IS OF BULK AT MOST 1048576: true; the input reads as it did. -/
def textInvertsUptoRow : OpenClaim := { program := "ytpiijhkohjnnhaadoor", sum := "5f55a21ecdc1f649a71fa4f82df65175f4d8544fa4e144b17b80cdb1929ca7cf", func := "wherry/wherrylaw.TextInverts", spec := "textInverts", named := ["unicode/utf8.first", "unicode/utf8.acceptRanges"], apart := false, laid := [("unicode/utf8.acceptRanges", laid_unicode_utf8_acceptRanges), ("unicode/utf8.first", laid_unicode_utf8_first)], narrowed := true }
def TextInvertsUptoSaid : Prop := textInvertsUptoRow.holds Tryd.pinned (OpenSpec.upto textInvertsSpec)

/-- 'wherrylaw.TextTransforms', WHERE WHAT IT READS IS OF BULK AT MOST 1048576: true; the input reads as it did. -/
def textTransformsUptoRow : OpenClaim := { program := "ytpiijhkohjnnhaadoor", sum := "5f55a21ecdc1f649a71fa4f82df65175f4d8544fa4e144b17b80cdb1929ca7cf", func := "wherry/wherrylaw.TextTransforms", spec := "textTransforms", named := ["unicode/utf8.first", "unicode/utf8.acceptRanges"], apart := false, laid := [("unicode/utf8.acceptRanges", laid_unicode_utf8_acceptRanges), ("unicode/utf8.first", laid_unicode_utf8_first)], narrowed := true }
def TextTransformsUptoSaid : Prop := textTransformsUptoRow.holds Tryd.pinned (OpenSpec.upto textTransformsSpec)

end Rows
end Go.Proofs.YtpiijhkohjnnhaaDoor
