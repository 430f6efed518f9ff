/-
  NARROWER THAN 'FOR EVERY INPUT', by the rows' own cells (each row's printed sentence says how): EdgeKnown: laid · EdgeUpper: laid · EdgeMeets: laid · EdgeSends: laid · EdgeHears: laid · MoveRest: laid · FrameBare: laid · WireSends: laid · WireWrites: laid · WireHears: laid · WireReads: laid · PacketBack: laid · PacketFixed: laid · RecordBack: laid.
  DERIVED. THE GIVEN ROWS OF THIS SEAT. 14 by the template 'for every input the law returns true; each argument reads behind the call as it read before'; 0 by the template 'total and deterministic' (their statements: YtmdehfomogfmlaaDoorTotals.lean).
  GIVEN WITH THE SEED: the statements are not yours to turn. If you find one false, say at which input.
  Laid BY PROGRAM, IN A SANDBOX (cutbox-rows.mjs): the forced cells as the released guide's own fill.sh prints them over the translation 78a4d03c216d19a6… (all of the seat's roots in one cut). By AI agents, Wed Nov 11 2026. No macro, syntax, notation, axiom, sorry.
-/
import Derived.Test.YtmdehfomogfmlaaDoorChecked
import GoSem.PinnedTables
import GoSem.Claim
import GoSem.ClaimJoined
import GoSem.ClaimMapViews
import Derived.JoinedTies
import Derived.KernelRfl
namespace Go.Proofs.YtmdehfomogfmlaaDoor
/- THE CELL 'sum', in the pinned program and in every row, IS THE sha256 OF THE DUMP (.gsa) THAT YtmdehfomogfmlaaDoorProg.lean LOADS. Nothing in Lean hashes anything: it is a label: what it is worth is what the hold of that sum in a sandbox is worth. -/
noncomputable def Tryd.pinned : Pinned := { name := "ytmdehfomogfmlaadoor", sum := "78a4d03c216d19a642922e022552ddbb13d6fe30f6b415f95ee8cd0ac181762e", checked := Tryd.checked }
namespace Rows
def none {H : Type} : Left H := { results := [], args := [] }

/- WHAT THE LISTED PACKAGE-LEVEL VARIABLES READ AS WHEN THE CALL BEGINS. Each datum BY PROGRAM (the guide's laid-datum.mjs) off the statement by which the dump's own 'gosem.cut.vars' lays the variable. In a bare row this is a premise. The card (YtmdehfomogfmlaaDoorCards.lean) ties it to the program's text. -/
def laid_unicode_utf8_acceptRanges {H : Type} : DataW H := .agg [.agg [.lit (.int .u8 128), .lit (.int .u8 191)], .agg [.lit (.int .u8 160), .lit (.int .u8 191)], .agg [.lit (.int .u8 128), .lit (.int .u8 159)], .agg [.lit (.int .u8 144), .lit (.int .u8 191)], .agg [.lit (.int .u8 128), .lit (.int .u8 143)], .agg [.lit (.int .u8 0), .lit (.int .u8 0)], .agg [.lit (.int .u8 0), .lit (.int .u8 0)], .agg [.lit (.int .u8 0), .lit (.int .u8 0)], .agg [.lit (.int .u8 0), .lit (.int .u8 0)], .agg [.lit (.int .u8 0), .lit (.int .u8 0)], .agg [.lit (.int .u8 0), .lit (.int .u8 0)], .agg [.lit (.int .u8 0), .lit (.int .u8 0)], .agg [.lit (.int .u8 0), .lit (.int .u8 0)], .agg [.lit (.int .u8 0), .lit (.int .u8 0)], .agg [.lit (.int .u8 0), .lit (.int .u8 0)], .agg [.lit (.int .u8 0), .lit (.int .u8 0)]]
/-- One of Go's own tables, pinned by name: the form's constant. -/
def laid_unicode_utf8_first : DataW Unit := Go.Pinned.utf8First

/-- 'wherrykeep.EdgeKnown': WHATEVER THE INPUT: true; the input reads as it did. -/
def edgeKnownSpec : ChangeSpec := { name := "edgeKnown", fn := fun _ => fun
  | [d1, d2, d3] => { results := [.lit (.bool true)], args := [d1, d2, d3] }
  | _ => none }
def edgeKnownRow : OpenClaim := { program := "ytmdehfomogfmlaadoor", sum := "78a4d03c216d19a642922e022552ddbb13d6fe30f6b415f95ee8cd0ac181762e", func := "wherry/wherrykeep.EdgeKnown", spec := "edgeKnown", recurses := true, named := ["unicode/utf8.first", "unicode/utf8.acceptRanges"], apart := false, laid := [("unicode/utf8.acceptRanges", laid_unicode_utf8_acceptRanges), ("unicode/utf8.first", laid_unicode_utf8_first)] }
def EdgeKnownSaid : Prop := edgeKnownRow.holds Tryd.pinned (OpenSpec.ofChange edgeKnownSpec)

/-- ITS FALSE NEIGHBOUR: 'it returns false'. Refute it at one input. -/
def edgeKnownWrong : ChangeSpec := { name := "edgeKnown", fn := fun _ => fun
  | [d1, d2, d3] => { results := [.lit (.bool false)], args := [d1, d2, d3] }
  | _ => none }
def EdgeKnownWrongFalsely : Prop := edgeKnownRow.holds Tryd.pinned (OpenSpec.ofChange edgeKnownWrong)

/-- 'wherrykeep.EdgeUpper': WHATEVER THE INPUT: true; the input reads as it did. -/
def edgeUpperSpec : ChangeSpec := { name := "edgeUpper", fn := fun _ => fun
  | [d1, d2, d3, d4] => { results := [.lit (.bool true)], args := [d1, d2, d3, d4] }
  | _ => none }
def edgeUpperRow : OpenClaim := { program := "ytmdehfomogfmlaadoor", sum := "78a4d03c216d19a642922e022552ddbb13d6fe30f6b415f95ee8cd0ac181762e", func := "wherry/wherrykeep.EdgeUpper", spec := "edgeUpper", inPlace := ["internal/abi.NoEscape"], recurses := true, named := ["unicode/utf8.first", "unicode/utf8.acceptRanges"], apart := false, laid := [("unicode/utf8.acceptRanges", laid_unicode_utf8_acceptRanges), ("unicode/utf8.first", laid_unicode_utf8_first)] }
def EdgeUpperSaid : Prop := edgeUpperRow.holds Tryd.pinned (OpenSpec.ofChange edgeUpperSpec)

/-- ITS FALSE NEIGHBOUR: 'it returns false'. Refute it at one input. -/
def edgeUpperWrong : ChangeSpec := { name := "edgeUpper", fn := fun _ => fun
  | [d1, d2, d3, d4] => { results := [.lit (.bool false)], args := [d1, d2, d3, d4] }
  | _ => none }
def EdgeUpperWrongFalsely : Prop := edgeUpperRow.holds Tryd.pinned (OpenSpec.ofChange edgeUpperWrong)

/-- 'wherrykeep.EdgeMeets': WHATEVER THE INPUT: true; the input reads as it did. -/
def edgeMeetsSpec : ChangeSpec := { name := "edgeMeets", fn := fun _ => fun
  | [d1, d2] => { results := [.lit (.bool true)], args := [d1, d2] }
  | _ => none }
def edgeMeetsRow : OpenClaim := { program := "ytmdehfomogfmlaadoor", sum := "78a4d03c216d19a642922e022552ddbb13d6fe30f6b415f95ee8cd0ac181762e", func := "wherry/wherrykeep.EdgeMeets", spec := "edgeMeets", inPlace := ["internal/abi.NoEscape"], unfollowed := true, recurses := true, named := ["unicode/utf8.first", "unicode/utf8.acceptRanges"], apart := false, laid := [("unicode/utf8.acceptRanges", laid_unicode_utf8_acceptRanges), ("unicode/utf8.first", laid_unicode_utf8_first)] }
def EdgeMeetsSaid : Prop := edgeMeetsRow.holds Tryd.pinned (OpenSpec.ofChange edgeMeetsSpec)

/-- ITS FALSE NEIGHBOUR: 'it returns false'. Refute it at one input. -/
def edgeMeetsWrong : ChangeSpec := { name := "edgeMeets", fn := fun _ => fun
  | [d1, d2] => { results := [.lit (.bool false)], args := [d1, d2] }
  | _ => none }
def EdgeMeetsWrongFalsely : Prop := edgeMeetsRow.holds Tryd.pinned (OpenSpec.ofChange edgeMeetsWrong)

/-- 'wherrylaw.EdgeSends': WHATEVER THE INPUT: true; the input reads as it did. -/
def edgeSendsSpec : ChangeSpec := { name := "edgeSends", fn := fun _ => fun
  | [d1, d2] => { results := [.lit (.bool true)], args := [d1, d2] }
  | _ => none }
def edgeSendsRow : OpenClaim := { program := "ytmdehfomogfmlaadoor", sum := "78a4d03c216d19a642922e022552ddbb13d6fe30f6b415f95ee8cd0ac181762e", func := "wherry/wherrylaw.EdgeSends", spec := "edgeSends", named := ["unicode/utf8.first", "unicode/utf8.acceptRanges"], apart := false, laid := [("unicode/utf8.acceptRanges", laid_unicode_utf8_acceptRanges), ("unicode/utf8.first", laid_unicode_utf8_first)] }
def EdgeSendsSaid : Prop := edgeSendsRow.holds Tryd.pinned (OpenSpec.ofChange edgeSendsSpec)

/-- ITS FALSE NEIGHBOUR: 'it returns false'. Refute it at one input. -/
def edgeSendsWrong : ChangeSpec := { name := "edgeSends", fn := fun _ => fun
  | [d1, d2] => { results := [.lit (.bool false)], args := [d1, d2] }
  | _ => none }
def EdgeSendsWrongFalsely : Prop := edgeSendsRow.holds Tryd.pinned (OpenSpec.ofChange edgeSendsWrong)

/-- 'wherrylaw.EdgeHears': WHATEVER THE INPUT: true; the input reads as it did. -/
def edgeHearsSpec : ChangeSpec := { name := "edgeHears", fn := fun _ => fun
  | [d1, d2, d3, d4] => { results := [.lit (.bool true)], args := [d1, d2, d3, d4] }
  | _ => none }
def edgeHearsRow : OpenClaim := { program := "ytmdehfomogfmlaadoor", sum := "78a4d03c216d19a642922e022552ddbb13d6fe30f6b415f95ee8cd0ac181762e", func := "wherry/wherrylaw.EdgeHears", spec := "edgeHears", named := ["unicode/utf8.first", "unicode/utf8.acceptRanges"], apart := false, laid := [("unicode/utf8.acceptRanges", laid_unicode_utf8_acceptRanges), ("unicode/utf8.first", laid_unicode_utf8_first)] }
def EdgeHearsSaid : Prop := edgeHearsRow.holds Tryd.pinned (OpenSpec.ofChange edgeHearsSpec)

/-- ITS FALSE NEIGHBOUR: 'it returns false'. Refute it at one input. -/
def edgeHearsWrong : ChangeSpec := { name := "edgeHears", fn := fun _ => fun
  | [d1, d2, d3, d4] => { results := [.lit (.bool false)], args := [d1, d2, d3, d4] }
  | _ => none }
def EdgeHearsWrongFalsely : Prop := edgeHearsRow.holds Tryd.pinned (OpenSpec.ofChange edgeHearsWrong)

/-- 'wherrykeep.MoveRest': WHATEVER THE INPUT: true; the input reads as it did. -/
def moveRestSpec : ChangeSpec := { name := "moveRest", fn := fun _ => fun
  | [d1, d2, d3] => { results := [.lit (.bool true)], args := [d1, d2, d3] }
  | _ => none }
def moveRestRow : OpenClaim := { program := "ytmdehfomogfmlaadoor", sum := "78a4d03c216d19a642922e022552ddbb13d6fe30f6b415f95ee8cd0ac181762e", func := "wherry/wherrykeep.MoveRest", spec := "moveRest", inPlace := ["internal/abi.NoEscape"], unfollowed := true, recurses := true, named := ["unicode/utf8.first", "unicode/utf8.acceptRanges"], apart := false, laid := [("unicode/utf8.acceptRanges", laid_unicode_utf8_acceptRanges), ("unicode/utf8.first", laid_unicode_utf8_first)] }
def MoveRestSaid : Prop := moveRestRow.holds Tryd.pinned (OpenSpec.ofChange moveRestSpec)

/-- ITS FALSE NEIGHBOUR: 'it returns false'. Refute it at one input. -/
def moveRestWrong : ChangeSpec := { name := "moveRest", fn := fun _ => fun
  | [d1, d2, d3] => { results := [.lit (.bool false)], args := [d1, d2, d3] }
  | _ => none }
def MoveRestWrongFalsely : Prop := moveRestRow.holds Tryd.pinned (OpenSpec.ofChange moveRestWrong)

/-- 'wherrykeep.FrameBare': WHATEVER THE INPUT: true; the input reads as it did. -/
def frameBareSpec : ChangeSpec := { name := "frameBare", fn := fun _ => fun
  | [d1, d2, d3] => { results := [.lit (.bool true)], args := [d1, d2, d3] }
  | _ => none }
def frameBareRow : OpenClaim := { program := "ytmdehfomogfmlaadoor", sum := "78a4d03c216d19a642922e022552ddbb13d6fe30f6b415f95ee8cd0ac181762e", func := "wherry/wherrykeep.FrameBare", spec := "frameBare", unfollowed := true, recurses := true, named := ["unicode/utf8.first", "unicode/utf8.acceptRanges"], apart := false, laid := [("unicode/utf8.acceptRanges", laid_unicode_utf8_acceptRanges), ("unicode/utf8.first", laid_unicode_utf8_first)] }
def FrameBareSaid : Prop := frameBareRow.holds Tryd.pinned (OpenSpec.ofChange frameBareSpec)

/-- ITS FALSE NEIGHBOUR: 'it returns false'. Refute it at one input. -/
def frameBareWrong : ChangeSpec := { name := "frameBare", fn := fun _ => fun
  | [d1, d2, d3] => { results := [.lit (.bool false)], args := [d1, d2, d3] }
  | _ => none }
def FrameBareWrongFalsely : Prop := frameBareRow.holds Tryd.pinned (OpenSpec.ofChange frameBareWrong)

/-- 'wherrylaw.WireSends': WHATEVER THE INPUT: true; the input reads as it did. -/
def wireSendsSpec : ChangeSpec := { name := "wireSends", fn := fun _ => fun
  | [d] => { results := [.lit (.bool true)], args := [d] }
  | _ => none }
def wireSendsRow : OpenClaim := { program := "ytmdehfomogfmlaadoor", sum := "78a4d03c216d19a642922e022552ddbb13d6fe30f6b415f95ee8cd0ac181762e", func := "wherry/wherrylaw.WireSends", spec := "wireSends", recurses := true, named := ["unicode/utf8.first", "unicode/utf8.acceptRanges"], apart := false, laid := [("unicode/utf8.acceptRanges", laid_unicode_utf8_acceptRanges), ("unicode/utf8.first", laid_unicode_utf8_first)] }
def WireSendsSaid : Prop := wireSendsRow.holds Tryd.pinned (OpenSpec.ofChange wireSendsSpec)

/-- ITS FALSE NEIGHBOUR: 'it returns false'. Refute it at one input. -/
def wireSendsWrong : ChangeSpec := { name := "wireSends", fn := fun _ => fun
  | [d] => { results := [.lit (.bool false)], args := [d] }
  | _ => none }
def WireSendsWrongFalsely : Prop := wireSendsRow.holds Tryd.pinned (OpenSpec.ofChange wireSendsWrong)

/-- 'wherrylaw.WireWrites': WHATEVER THE INPUT: true; the input reads as it did. -/
def wireWritesSpec : ChangeSpec := { name := "wireWrites", fn := fun _ => fun
  | [d] => { results := [.lit (.bool true)], args := [d] }
  | _ => none }
def wireWritesRow : OpenClaim := { program := "ytmdehfomogfmlaadoor", sum := "78a4d03c216d19a642922e022552ddbb13d6fe30f6b415f95ee8cd0ac181762e", func := "wherry/wherrylaw.WireWrites", spec := "wireWrites", recurses := true, named := ["unicode/utf8.first", "unicode/utf8.acceptRanges"], apart := false, laid := [("unicode/utf8.acceptRanges", laid_unicode_utf8_acceptRanges), ("unicode/utf8.first", laid_unicode_utf8_first)] }
def WireWritesSaid : Prop := wireWritesRow.holds Tryd.pinned (OpenSpec.ofChange wireWritesSpec)

/-- ITS FALSE NEIGHBOUR: 'it returns false'. Refute it at one input. -/
def wireWritesWrong : ChangeSpec := { name := "wireWrites", fn := fun _ => fun
  | [d] => { results := [.lit (.bool false)], args := [d] }
  | _ => none }
def WireWritesWrongFalsely : Prop := wireWritesRow.holds Tryd.pinned (OpenSpec.ofChange wireWritesWrong)

/-- 'wherrylaw.WireHears': WHATEVER THE INPUT: true; the input reads as it did. -/
def wireHearsSpec : ChangeSpec := { name := "wireHears", fn := fun _ => fun
  | [d] => { results := [.lit (.bool true)], args := [d] }
  | _ => none }
def wireHearsRow : OpenClaim := { program := "ytmdehfomogfmlaadoor", sum := "78a4d03c216d19a642922e022552ddbb13d6fe30f6b415f95ee8cd0ac181762e", func := "wherry/wherrylaw.WireHears", spec := "wireHears", unfollowed := true, recurses := true, named := ["unicode/utf8.first", "unicode/utf8.acceptRanges"], apart := false, laid := [("unicode/utf8.acceptRanges", laid_unicode_utf8_acceptRanges), ("unicode/utf8.first", laid_unicode_utf8_first)] }
def WireHearsSaid : Prop := wireHearsRow.holds Tryd.pinned (OpenSpec.ofChange wireHearsSpec)

/-- ITS FALSE NEIGHBOUR: 'it returns false'. Refute it at one input. -/
def wireHearsWrong : ChangeSpec := { name := "wireHears", fn := fun _ => fun
  | [d] => { results := [.lit (.bool false)], args := [d] }
  | _ => none }
def WireHearsWrongFalsely : Prop := wireHearsRow.holds Tryd.pinned (OpenSpec.ofChange wireHearsWrong)

/-- 'wherrylaw.WireReads': WHATEVER THE INPUT: true; the input reads as it did. -/
def wireReadsSpec : ChangeSpec := { name := "wireReads", fn := fun _ => fun
  | [d] => { results := [.lit (.bool true)], args := [d] }
  | _ => none }
def wireReadsRow : OpenClaim := { program := "ytmdehfomogfmlaadoor", sum := "78a4d03c216d19a642922e022552ddbb13d6fe30f6b415f95ee8cd0ac181762e", func := "wherry/wherrylaw.WireReads", spec := "wireReads", unfollowed := true, recurses := true, named := ["unicode/utf8.first", "unicode/utf8.acceptRanges"], apart := false, laid := [("unicode/utf8.acceptRanges", laid_unicode_utf8_acceptRanges), ("unicode/utf8.first", laid_unicode_utf8_first)] }
def WireReadsSaid : Prop := wireReadsRow.holds Tryd.pinned (OpenSpec.ofChange wireReadsSpec)

/-- ITS FALSE NEIGHBOUR: 'it returns false'. Refute it at one input. -/
def wireReadsWrong : ChangeSpec := { name := "wireReads", fn := fun _ => fun
  | [d] => { results := [.lit (.bool false)], args := [d] }
  | _ => none }
def WireReadsWrongFalsely : Prop := wireReadsRow.holds Tryd.pinned (OpenSpec.ofChange wireReadsWrong)

/-- 'wherrykeep.PacketBack': WHATEVER THE INPUT: true; the input reads as it did. -/
def packetBackSpec : ChangeSpec := { name := "packetBack", fn := fun _ => fun
  | [d1, d2, d3, d4] => { results := [.lit (.bool true)], args := [d1, d2, d3, d4] }
  | _ => none }
def packetBackRow : OpenClaim := { program := "ytmdehfomogfmlaadoor", sum := "78a4d03c216d19a642922e022552ddbb13d6fe30f6b415f95ee8cd0ac181762e", func := "wherry/wherrykeep.PacketBack", spec := "packetBack", unfollowed := true, recurses := true, named := ["unicode/utf8.first", "unicode/utf8.acceptRanges"], apart := false, laid := [("unicode/utf8.acceptRanges", laid_unicode_utf8_acceptRanges), ("unicode/utf8.first", laid_unicode_utf8_first)] }
def PacketBackSaid : Prop := packetBackRow.holds Tryd.pinned (OpenSpec.ofChange packetBackSpec)

/-- ITS FALSE NEIGHBOUR: 'it returns false'. Refute it at one input. -/
def packetBackWrong : ChangeSpec := { name := "packetBack", fn := fun _ => fun
  | [d1, d2, d3, d4] => { results := [.lit (.bool false)], args := [d1, d2, d3, d4] }
  | _ => none }
def PacketBackWrongFalsely : Prop := packetBackRow.holds Tryd.pinned (OpenSpec.ofChange packetBackWrong)

/-- 'wherrykeep.PacketFixed': WHATEVER THE INPUT: true; the input reads as it did. -/
def packetFixedSpec : ChangeSpec := { name := "packetFixed", fn := fun _ => fun
  | [d] => { results := [.lit (.bool true)], args := [d] }
  | _ => none }
def packetFixedRow : OpenClaim := { program := "ytmdehfomogfmlaadoor", sum := "78a4d03c216d19a642922e022552ddbb13d6fe30f6b415f95ee8cd0ac181762e", func := "wherry/wherrykeep.PacketFixed", spec := "packetFixed", unfollowed := true, recurses := true, named := ["unicode/utf8.first", "unicode/utf8.acceptRanges"], apart := false, laid := [("unicode/utf8.acceptRanges", laid_unicode_utf8_acceptRanges), ("unicode/utf8.first", laid_unicode_utf8_first)] }
def PacketFixedSaid : Prop := packetFixedRow.holds Tryd.pinned (OpenSpec.ofChange packetFixedSpec)

/-- ITS FALSE NEIGHBOUR: 'it returns false'. Refute it at one input. -/
def packetFixedWrong : ChangeSpec := { name := "packetFixed", fn := fun _ => fun
  | [d] => { results := [.lit (.bool false)], args := [d] }
  | _ => none }
def PacketFixedWrongFalsely : Prop := packetFixedRow.holds Tryd.pinned (OpenSpec.ofChange packetFixedWrong)

/-- 'wherrykeep.RecordBack': WHATEVER THE INPUT: true; the input reads as it did. -/
def recordBackSpec : ChangeSpec := { name := "recordBack", fn := fun _ => fun
  | [d1, d2, d3] => { results := [.lit (.bool true)], args := [d1, d2, d3] }
  | _ => none }
def recordBackRow : OpenClaim := { program := "ytmdehfomogfmlaadoor", sum := "78a4d03c216d19a642922e022552ddbb13d6fe30f6b415f95ee8cd0ac181762e", func := "wherry/wherrykeep.RecordBack", spec := "recordBack", unfollowed := true, recurses := true, named := ["unicode/utf8.first", "unicode/utf8.acceptRanges"], apart := false, laid := [("unicode/utf8.acceptRanges", laid_unicode_utf8_acceptRanges), ("unicode/utf8.first", laid_unicode_utf8_first)] }
def RecordBackSaid : Prop := recordBackRow.holds Tryd.pinned (OpenSpec.ofChange recordBackSpec)

/-- ITS FALSE NEIGHBOUR: 'it returns false'. Refute it at one input. -/
def recordBackWrong : ChangeSpec := { name := "recordBack", fn := fun _ => fun
  | [d1, d2, d3] => { results := [.lit (.bool false)], args := [d1, d2, d3] }
  | _ => none }
def RecordBackWrongFalsely : Prop := recordBackRow.holds Tryd.pinned (OpenSpec.ofChange recordBackWrong)

/- THE SECOND FORM. 'bulk': how many values and letters a reading holds, each counted each time it is reached (what is shared counts as often as it is met; a slice's spare places count too). A statement '..UptoSaid' is the law's where the arguments, and the package variables that the reading takes, are together of bulk at most 1048576: NARROWER than '..Said'. Prove '..Said' where nothing that the law and all that it calls make is longer than what came in: it says more and counts as full. Else prove '..UptoSaid'. A law counts once. -/
mutual
def uptoBulk {H : Type} : DataW H → Nat
  | .lit (.string bytes) => bytes.length + 1
  | .lit _ => 1
  | .nil => 1
  | .ptr d => uptoBulk d + 1
  | .slice elems spare => uptoBulkAll elems + uptoBulkAll spare + 1
  | .agg parts => uptoBulkAll parts + 1
  | .iface _ d => uptoBulk d + 1
  | .map entries => uptoBulkEntries entries + 1
  | .held _ => 1
def uptoBulkAll {H : Type} : List (DataW H) → Nat
  | [] => 0
  | d :: r => uptoBulk d + uptoBulkAll r
def uptoBulkEntries {H : Type} : List (Lit × DataW H) → Nat
  | [] => 0
  | x :: r => uptoBulkEntry x + uptoBulkEntries r
def uptoBulkEntry {H : Type} : Lit × DataW H → Nat
  | (.string bytes, d) => bytes.length + uptoBulk d + 1
  | (_, d) => uptoBulk d + 1
 end
def uptoSmall : (H : Type) → List (DataW H) → Bool := fun _ ds => decide (uptoBulkAll ds ≤ 1048576)
def OpenSpec.upto (s : _root_.Go.ChangeSpec) : _root_.Go.OpenSpec := { _root_.Go.OpenSpec.ofChange s with cond := some uptoSmall }

/-- 'wherrykeep.EdgeKnown', WHERE WHAT IT READS IS OF BULK AT MOST 1048576: true; the input reads as it did. -/
def edgeKnownUptoRow : OpenClaim := { program := "ytmdehfomogfmlaadoor", sum := "78a4d03c216d19a642922e022552ddbb13d6fe30f6b415f95ee8cd0ac181762e", func := "wherry/wherrykeep.EdgeKnown", spec := "edgeKnown", recurses := true, named := ["unicode/utf8.first", "unicode/utf8.acceptRanges"], apart := false, laid := [("unicode/utf8.acceptRanges", laid_unicode_utf8_acceptRanges), ("unicode/utf8.first", laid_unicode_utf8_first)], narrowed := true }
def EdgeKnownUptoSaid : Prop := edgeKnownUptoRow.holds Tryd.pinned (OpenSpec.upto edgeKnownSpec)

/-- 'wherrykeep.EdgeUpper', WHERE WHAT IT READS IS OF BULK AT MOST 1048576: true; the input reads as it did. -/
def edgeUpperUptoRow : OpenClaim := { program := "ytmdehfomogfmlaadoor", sum := "78a4d03c216d19a642922e022552ddbb13d6fe30f6b415f95ee8cd0ac181762e", func := "wherry/wherrykeep.EdgeUpper", spec := "edgeUpper", inPlace := ["internal/abi.NoEscape"], recurses := true, named := ["unicode/utf8.first", "unicode/utf8.acceptRanges"], apart := false, laid := [("unicode/utf8.acceptRanges", laid_unicode_utf8_acceptRanges), ("unicode/utf8.first", laid_unicode_utf8_first)], narrowed := true }
def EdgeUpperUptoSaid : Prop := edgeUpperUptoRow.holds Tryd.pinned (OpenSpec.upto edgeUpperSpec)

/-- 'wherrykeep.EdgeMeets', WHERE WHAT IT READS IS OF BULK AT MOST 1048576: true; the input reads as it did. -/
def edgeMeetsUptoRow : OpenClaim := { program := "ytmdehfomogfmlaadoor", sum := "78a4d03c216d19a642922e022552ddbb13d6fe30f6b415f95ee8cd0ac181762e", func := "wherry/wherrykeep.EdgeMeets", spec := "edgeMeets", inPlace := ["internal/abi.NoEscape"], unfollowed := true, recurses := true, named := ["unicode/utf8.first", "unicode/utf8.acceptRanges"], apart := false, laid := [("unicode/utf8.acceptRanges", laid_unicode_utf8_acceptRanges), ("unicode/utf8.first", laid_unicode_utf8_first)], narrowed := true }
def EdgeMeetsUptoSaid : Prop := edgeMeetsUptoRow.holds Tryd.pinned (OpenSpec.upto edgeMeetsSpec)

/-- 'wherrylaw.EdgeSends', WHERE WHAT IT READS IS OF BULK AT MOST 1048576: true; the input reads as it did. -/
def edgeSendsUptoRow : OpenClaim := { program := "ytmdehfomogfmlaadoor", sum := "78a4d03c216d19a642922e022552ddbb13d6fe30f6b415f95ee8cd0ac181762e", func := "wherry/wherrylaw.EdgeSends", spec := "edgeSends", named := ["unicode/utf8.first", "unicode/utf8.acceptRanges"], apart := false, laid := [("unicode/utf8.acceptRanges", laid_unicode_utf8_acceptRanges), ("unicode/utf8.first", laid_unicode_utf8_first)], narrowed := true }
def EdgeSendsUptoSaid : Prop := edgeSendsUptoRow.holds Tryd.pinned (OpenSpec.upto edgeSendsSpec)

/-- 'wherrylaw.EdgeHears', WHERE WHAT IT READS IS OF BULK AT MOST 1048576: true; the input reads as it did. -/
def edgeHearsUptoRow : OpenClaim := { program := "ytmdehfomogfmlaadoor", sum := "78a4d03c216d19a642922e022552ddbb13d6fe30f6b415f95ee8cd0ac181762e", func := "wherry/wherrylaw.EdgeHears", spec := "edgeHears", named := ["unicode/utf8.first", "unicode/utf8.acceptRanges"], apart := false, laid := [("unicode/utf8.acceptRanges", laid_unicode_utf8_acceptRanges), ("unicode/utf8.first", laid_unicode_utf8_first)], narrowed := true }
def EdgeHearsUptoSaid : Prop := edgeHearsUptoRow.holds Tryd.pinned (OpenSpec.upto edgeHearsSpec)

/-- 'wherrykeep.MoveRest', WHERE WHAT IT READS IS OF BULK AT MOST 1048576: true; the input reads as it did. -/
def moveRestUptoRow : OpenClaim := { program := "ytmdehfomogfmlaadoor", sum := "78a4d03c216d19a642922e022552ddbb13d6fe30f6b415f95ee8cd0ac181762e", func := "wherry/wherrykeep.MoveRest", spec := "moveRest", inPlace := ["internal/abi.NoEscape"], unfollowed := true, recurses := true, named := ["unicode/utf8.first", "unicode/utf8.acceptRanges"], apart := false, laid := [("unicode/utf8.acceptRanges", laid_unicode_utf8_acceptRanges), ("unicode/utf8.first", laid_unicode_utf8_first)], narrowed := true }
def MoveRestUptoSaid : Prop := moveRestUptoRow.holds Tryd.pinned (OpenSpec.upto moveRestSpec)

/-- 'wherrykeep.FrameBare', WHERE WHAT IT READS IS OF BULK AT MOST 1048576: true; the input reads as it did. -/
def frameBareUptoRow : OpenClaim := { program := "ytmdehfomogfmlaadoor", sum := "78a4d03c216d19a642922e022552ddbb13d6fe30f6b415f95ee8cd0ac181762e", func := "wherry/wherrykeep.FrameBare", spec := "frameBare", unfollowed := true, recurses := true, named := ["unicode/utf8.first", "unicode/utf8.acceptRanges"], apart := false, laid := [("unicode/utf8.acceptRanges", laid_unicode_utf8_acceptRanges), ("unicode/utf8.first", laid_unicode_utf8_first)], narrowed := true }
def FrameBareUptoSaid : Prop := frameBareUptoRow.holds Tryd.pinned (OpenSpec.upto frameBareSpec)

/-- 'wherrylaw.WireSends', WHERE WHAT IT READS IS OF BULK AT MOST 1048576: true; the input reads as it did. -/
def wireSendsUptoRow : OpenClaim := { program := "ytmdehfomogfmlaadoor", sum := "78a4d03c216d19a642922e022552ddbb13d6fe30f6b415f95ee8cd0ac181762e", func := "wherry/wherrylaw.WireSends", spec := "wireSends", recurses := true, named := ["unicode/utf8.first", "unicode/utf8.acceptRanges"], apart := false, laid := [("unicode/utf8.acceptRanges", laid_unicode_utf8_acceptRanges), ("unicode/utf8.first", laid_unicode_utf8_first)], narrowed := true }
def WireSendsUptoSaid : Prop := wireSendsUptoRow.holds Tryd.pinned (OpenSpec.upto wireSendsSpec)

/-- 'wherrylaw.WireWrites', WHERE WHAT IT READS IS OF BULK AT MOST 1048576: true; the input reads as it did. -/
def wireWritesUptoRow : OpenClaim := { program := "ytmdehfomogfmlaadoor", sum := "78a4d03c216d19a642922e022552ddbb13d6fe30f6b415f95ee8cd0ac181762e", func := "wherry/wherrylaw.WireWrites", spec := "wireWrites", recurses := true, named := ["unicode/utf8.first", "unicode/utf8.acceptRanges"], apart := false, laid := [("unicode/utf8.acceptRanges", laid_unicode_utf8_acceptRanges), ("unicode/utf8.first", laid_unicode_utf8_first)], narrowed := true }
def WireWritesUptoSaid : Prop := wireWritesUptoRow.holds Tryd.pinned (OpenSpec.upto wireWritesSpec)

/-- 'wherrylaw.WireHears', WHERE WHAT IT READS IS OF BULK AT MOST 1048576: true; the input reads as it did. -/
def wireHearsUptoRow : OpenClaim := { program := "ytmdehfomogfmlaadoor", sum := "78a4d03c216d19a642922e022552ddbb13d6fe30f6b415f95ee8cd0ac181762e", func := "wherry/wherrylaw.WireHears", spec := "wireHears", unfollowed := true, recurses := true, named := ["unicode/utf8.first", "unicode/utf8.acceptRanges"], apart := false, laid := [("unicode/utf8.acceptRanges", laid_unicode_utf8_acceptRanges), ("unicode/utf8.first", laid_unicode_utf8_first)], narrowed := true }
def WireHearsUptoSaid : Prop := wireHearsUptoRow.holds Tryd.pinned (OpenSpec.upto wireHearsSpec)

/-- 'wherrylaw.WireReads', WHERE WHAT IT READS IS OF BULK AT MOST 1048576: true; the input reads as it did. -/
def wireReadsUptoRow : OpenClaim := { program := "ytmdehfomogfmlaadoor", sum := "78a4d03c216d19a642922e022552ddbb13d6fe30f6b415f95ee8cd0ac181762e", func := "wherry/wherrylaw.WireReads", spec := "wireReads", unfollowed := true, recurses := true, named := ["unicode/utf8.first", "unicode/utf8.acceptRanges"], apart := false, laid := [("unicode/utf8.acceptRanges", laid_unicode_utf8_acceptRanges), ("unicode/utf8.first", laid_unicode_utf8_first)], narrowed := true }
def WireReadsUptoSaid : Prop := wireReadsUptoRow.holds Tryd.pinned (OpenSpec.upto wireReadsSpec)

/-- 'wherrykeep.PacketBack', WHERE WHAT IT READS IS OF BULK AT MOST 1048576: true; the input reads as it did. -/
def packetBackUptoRow : OpenClaim := { program := "ytmdehfomogfmlaadoor", sum := "78a4d03c216d19a642922e022552ddbb13d6fe30f6b415f95ee8cd0ac181762e", func := "wherry/wherrykeep.PacketBack", spec := "packetBack", unfollowed := true, recurses := true, named := ["unicode/utf8.first", "unicode/utf8.acceptRanges"], apart := false, laid := [("unicode/utf8.acceptRanges", laid_unicode_utf8_acceptRanges), ("unicode/utf8.first", laid_unicode_utf8_first)], narrowed := true }
def PacketBackUptoSaid : Prop := packetBackUptoRow.holds Tryd.pinned (OpenSpec.upto packetBackSpec)

/-- 'wherrykeep.PacketFixed', WHERE WHAT IT READS IS OF BULK AT MOST 1048576: true; the input reads as it did. -/
def packetFixedUptoRow : OpenClaim := { program := "ytmdehfomogfmlaadoor", sum := "78a4d03c216d19a642922e022552ddbb13d6fe30f6b415f95ee8cd0ac181762e", func := "wherry/wherrykeep.PacketFixed", spec := "packetFixed", unfollowed := true, recurses := true, named := ["unicode/utf8.first", "unicode/utf8.acceptRanges"], apart := false, laid := [("unicode/utf8.acceptRanges", laid_unicode_utf8_acceptRanges), ("unicode/utf8.first", laid_unicode_utf8_first)], narrowed := true }
def PacketFixedUptoSaid : Prop := packetFixedUptoRow.holds Tryd.pinned (OpenSpec.upto packetFixedSpec)

/-- 'wherrykeep.RecordBack', WHERE WHAT IT READS IS OF BULK AT MOST 1048576: true; the input reads as it did. -/
def recordBackUptoRow : OpenClaim := { program := "ytmdehfomogfmlaadoor", sum := "78a4d03c216d19a642922e022552ddbb13d6fe30f6b415f95ee8cd0ac181762e", func := "wherry/wherrykeep.RecordBack", spec := "recordBack", unfollowed := true, recurses := true, named := ["unicode/utf8.first", "unicode/utf8.acceptRanges"], apart := false, laid := [("unicode/utf8.acceptRanges", laid_unicode_utf8_acceptRanges), ("unicode/utf8.first", laid_unicode_utf8_first)], narrowed := true }
def RecordBackUptoSaid : Prop := recordBackUptoRow.holds Tryd.pinned (OpenSpec.upto recordBackSpec)

end Rows
end Go.Proofs.YtmdehfomogfmlaaDoor
