/-
  NARROWER THAN 'FOR EVERY INPUT', by the rows' own cells (each row's printed sentence says how): MoveRest: laid · EdgeSends: laid · EdgeHears: laid · EdgeMeets: laid · EdgeKnown: laid · EdgeUpper: laid · WireWrites: laid · TapeAppends: laid · TapeRecovers: laid · TapeReplays: laid · TapeKeeps: laid · TapeTorn: laid · TapeOn: laid · CrashJust: laid · ReplayMakes: laid · TapeLengths: laid.
  DERIVED. THE GIVEN ROWS OF THIS SEAT. 16 by the template 'for every input the law returns true; each argument reads behind the call as it read before'; 0 by the template 'total and deterministic' (their statements: YtknjnfknalfbdaaDoorTotals.lean).
  GIVEN WITH THE SEED: the statements are not yours to turn. If you find one false, say at which input.
  Laid BY PROGRAM, IN A SANDBOX (cutbox-rows.mjs): the forced cells as the released guide's own fill.sh prints them over the translation 5acad5f7192ae347… (all of the seat's roots in one cut). By AI agents, Wed Nov 11 2026. No macro, syntax, notation, axiom, sorry.
-/
import Derived.Test.YtknjnfknalfbdaaDoorChecked
import GoSem.PinnedTables
import GoSem.Claim
import GoSem.ClaimJoined
import GoSem.ClaimMapViews
import Derived.JoinedTies
import Derived.KernelRfl
namespace Go.Proofs.YtknjnfknalfbdaaDoor
/- THE CELL 'sum', in the pinned program and in every row, IS THE sha256 OF THE DUMP (.gsa) THAT YtknjnfknalfbdaaDoorProg.lean LOADS. Nothing in Lean hashes anything: it is a label: what it is worth is what the hold of that sum in a sandbox is worth. -/
noncomputable def Tryd.pinned : Pinned := { name := "ytknjnfknalfbdaadoor", sum := "5acad5f7192ae34769c21a4f5fdad433e8eba98aff1cd289d7819c555648a0d1", checked := Tryd.checked }
namespace Rows
def none {H : Type} : Left H := { results := [], args := [] }

/- WHAT THE LISTED PACKAGE-LEVEL VARIABLES READ AS WHEN THE CALL BEGINS. Each datum BY PROGRAM (the guide's laid-datum.mjs) off the statement by which the dump's own 'gosem.cut.vars' lays the variable. In a bare row this is a premise. The card (YtknjnfknalfbdaaDoorCards.lean) ties it to the program's text. -/
def laid_unicode_utf8_acceptRanges {H : Type} : DataW H := .agg [.agg [.lit (.int .u8 128), .lit (.int .u8 191)], .agg [.lit (.int .u8 160), .lit (.int .u8 191)], .agg [.lit (.int .u8 128), .lit (.int .u8 159)], .agg [.lit (.int .u8 144), .lit (.int .u8 191)], .agg [.lit (.int .u8 128), .lit (.int .u8 143)], .agg [.lit (.int .u8 0), .lit (.int .u8 0)], .agg [.lit (.int .u8 0), .lit (.int .u8 0)], .agg [.lit (.int .u8 0), .lit (.int .u8 0)], .agg [.lit (.int .u8 0), .lit (.int .u8 0)], .agg [.lit (.int .u8 0), .lit (.int .u8 0)], .agg [.lit (.int .u8 0), .lit (.int .u8 0)], .agg [.lit (.int .u8 0), .lit (.int .u8 0)], .agg [.lit (.int .u8 0), .lit (.int .u8 0)], .agg [.lit (.int .u8 0), .lit (.int .u8 0)], .agg [.lit (.int .u8 0), .lit (.int .u8 0)], .agg [.lit (.int .u8 0), .lit (.int .u8 0)]]
/-- One of Go's own tables, pinned by name: the form's constant. -/
def laid_unicode_utf8_first : DataW Unit := Go.Pinned.utf8First

/-- 'wherrykeep.MoveRest': WHATEVER THE INPUT: true; the input reads as it did. -/
def moveRestSpec : ChangeSpec := { name := "moveRest", fn := fun _ => fun
  | [d1, d2, d3] => { results := [.lit (.bool true)], args := [d1, d2, d3] }
  | _ => none }
def moveRestRow : OpenClaim := { program := "ytknjnfknalfbdaadoor", sum := "5acad5f7192ae34769c21a4f5fdad433e8eba98aff1cd289d7819c555648a0d1", func := "wherry/wherrykeep.MoveRest", spec := "moveRest", inPlace := ["internal/abi.NoEscape"], unfollowed := true, recurses := true, named := ["unicode/utf8.first", "unicode/utf8.acceptRanges"], apart := false, laid := [("unicode/utf8.acceptRanges", laid_unicode_utf8_acceptRanges), ("unicode/utf8.first", laid_unicode_utf8_first)] }
def MoveRestSaid : Prop := moveRestRow.holds Tryd.pinned (OpenSpec.ofChange moveRestSpec)

/-- ITS FALSE NEIGHBOUR: 'it returns false'. Refute it at one input. -/
def moveRestWrong : ChangeSpec := { name := "moveRest", fn := fun _ => fun
  | [d1, d2, d3] => { results := [.lit (.bool false)], args := [d1, d2, d3] }
  | _ => none }
def MoveRestWrongFalsely : Prop := moveRestRow.holds Tryd.pinned (OpenSpec.ofChange moveRestWrong)

/-- 'wherrylaw.EdgeSends': WHATEVER THE INPUT: true; the input reads as it did. -/
def edgeSendsSpec : ChangeSpec := { name := "edgeSends", fn := fun _ => fun
  | [d1, d2] => { results := [.lit (.bool true)], args := [d1, d2] }
  | _ => none }
def edgeSendsRow : OpenClaim := { program := "ytknjnfknalfbdaadoor", sum := "5acad5f7192ae34769c21a4f5fdad433e8eba98aff1cd289d7819c555648a0d1", func := "wherry/wherrylaw.EdgeSends", spec := "edgeSends", named := ["unicode/utf8.first", "unicode/utf8.acceptRanges"], apart := false, laid := [("unicode/utf8.acceptRanges", laid_unicode_utf8_acceptRanges), ("unicode/utf8.first", laid_unicode_utf8_first)] }
def EdgeSendsSaid : Prop := edgeSendsRow.holds Tryd.pinned (OpenSpec.ofChange edgeSendsSpec)

/-- ITS FALSE NEIGHBOUR: 'it returns false'. Refute it at one input. -/
def edgeSendsWrong : ChangeSpec := { name := "edgeSends", fn := fun _ => fun
  | [d1, d2] => { results := [.lit (.bool false)], args := [d1, d2] }
  | _ => none }
def EdgeSendsWrongFalsely : Prop := edgeSendsRow.holds Tryd.pinned (OpenSpec.ofChange edgeSendsWrong)

/-- 'wherrylaw.EdgeHears': WHATEVER THE INPUT: true; the input reads as it did. -/
def edgeHearsSpec : ChangeSpec := { name := "edgeHears", fn := fun _ => fun
  | [d1, d2, d3, d4] => { results := [.lit (.bool true)], args := [d1, d2, d3, d4] }
  | _ => none }
def edgeHearsRow : OpenClaim := { program := "ytknjnfknalfbdaadoor", sum := "5acad5f7192ae34769c21a4f5fdad433e8eba98aff1cd289d7819c555648a0d1", func := "wherry/wherrylaw.EdgeHears", spec := "edgeHears", named := ["unicode/utf8.first", "unicode/utf8.acceptRanges"], apart := false, laid := [("unicode/utf8.acceptRanges", laid_unicode_utf8_acceptRanges), ("unicode/utf8.first", laid_unicode_utf8_first)] }
def EdgeHearsSaid : Prop := edgeHearsRow.holds Tryd.pinned (OpenSpec.ofChange edgeHearsSpec)

/-- ITS FALSE NEIGHBOUR: 'it returns false'. Refute it at one input. -/
def edgeHearsWrong : ChangeSpec := { name := "edgeHears", fn := fun _ => fun
  | [d1, d2, d3, d4] => { results := [.lit (.bool false)], args := [d1, d2, d3, d4] }
  | _ => none }
def EdgeHearsWrongFalsely : Prop := edgeHearsRow.holds Tryd.pinned (OpenSpec.ofChange edgeHearsWrong)

/-- 'wherrykeep.EdgeMeets': WHATEVER THE INPUT: true; the input reads as it did. -/
def edgeMeetsSpec : ChangeSpec := { name := "edgeMeets", fn := fun _ => fun
  | [d1, d2] => { results := [.lit (.bool true)], args := [d1, d2] }
  | _ => none }
def edgeMeetsRow : OpenClaim := { program := "ytknjnfknalfbdaadoor", sum := "5acad5f7192ae34769c21a4f5fdad433e8eba98aff1cd289d7819c555648a0d1", func := "wherry/wherrykeep.EdgeMeets", spec := "edgeMeets", inPlace := ["internal/abi.NoEscape"], unfollowed := true, recurses := true, named := ["unicode/utf8.first", "unicode/utf8.acceptRanges"], apart := false, laid := [("unicode/utf8.acceptRanges", laid_unicode_utf8_acceptRanges), ("unicode/utf8.first", laid_unicode_utf8_first)] }
def EdgeMeetsSaid : Prop := edgeMeetsRow.holds Tryd.pinned (OpenSpec.ofChange edgeMeetsSpec)

/-- ITS FALSE NEIGHBOUR: 'it returns false'. Refute it at one input. -/
def edgeMeetsWrong : ChangeSpec := { name := "edgeMeets", fn := fun _ => fun
  | [d1, d2] => { results := [.lit (.bool false)], args := [d1, d2] }
  | _ => none }
def EdgeMeetsWrongFalsely : Prop := edgeMeetsRow.holds Tryd.pinned (OpenSpec.ofChange edgeMeetsWrong)

/-- 'wherrykeep.EdgeKnown': WHATEVER THE INPUT: true; the input reads as it did. -/
def edgeKnownSpec : ChangeSpec := { name := "edgeKnown", fn := fun _ => fun
  | [d1, d2, d3] => { results := [.lit (.bool true)], args := [d1, d2, d3] }
  | _ => none }
def edgeKnownRow : OpenClaim := { program := "ytknjnfknalfbdaadoor", sum := "5acad5f7192ae34769c21a4f5fdad433e8eba98aff1cd289d7819c555648a0d1", func := "wherry/wherrykeep.EdgeKnown", spec := "edgeKnown", recurses := true, named := ["unicode/utf8.first", "unicode/utf8.acceptRanges"], apart := false, laid := [("unicode/utf8.acceptRanges", laid_unicode_utf8_acceptRanges), ("unicode/utf8.first", laid_unicode_utf8_first)] }
def EdgeKnownSaid : Prop := edgeKnownRow.holds Tryd.pinned (OpenSpec.ofChange edgeKnownSpec)

/-- ITS FALSE NEIGHBOUR: 'it returns false'. Refute it at one input. -/
def edgeKnownWrong : ChangeSpec := { name := "edgeKnown", fn := fun _ => fun
  | [d1, d2, d3] => { results := [.lit (.bool false)], args := [d1, d2, d3] }
  | _ => none }
def EdgeKnownWrongFalsely : Prop := edgeKnownRow.holds Tryd.pinned (OpenSpec.ofChange edgeKnownWrong)

/-- 'wherrykeep.EdgeUpper': WHATEVER THE INPUT: true; the input reads as it did. -/
def edgeUpperSpec : ChangeSpec := { name := "edgeUpper", fn := fun _ => fun
  | [d1, d2, d3, d4] => { results := [.lit (.bool true)], args := [d1, d2, d3, d4] }
  | _ => none }
def edgeUpperRow : OpenClaim := { program := "ytknjnfknalfbdaadoor", sum := "5acad5f7192ae34769c21a4f5fdad433e8eba98aff1cd289d7819c555648a0d1", func := "wherry/wherrykeep.EdgeUpper", spec := "edgeUpper", inPlace := ["internal/abi.NoEscape"], recurses := true, named := ["unicode/utf8.first", "unicode/utf8.acceptRanges"], apart := false, laid := [("unicode/utf8.acceptRanges", laid_unicode_utf8_acceptRanges), ("unicode/utf8.first", laid_unicode_utf8_first)] }
def EdgeUpperSaid : Prop := edgeUpperRow.holds Tryd.pinned (OpenSpec.ofChange edgeUpperSpec)

/-- ITS FALSE NEIGHBOUR: 'it returns false'. Refute it at one input. -/
def edgeUpperWrong : ChangeSpec := { name := "edgeUpper", fn := fun _ => fun
  | [d1, d2, d3, d4] => { results := [.lit (.bool false)], args := [d1, d2, d3, d4] }
  | _ => none }
def EdgeUpperWrongFalsely : Prop := edgeUpperRow.holds Tryd.pinned (OpenSpec.ofChange edgeUpperWrong)

/-- 'wherrylaw.WireWrites': WHATEVER THE INPUT: true; the input reads as it did. -/
def wireWritesSpec : ChangeSpec := { name := "wireWrites", fn := fun _ => fun
  | [d] => { results := [.lit (.bool true)], args := [d] }
  | _ => none }
def wireWritesRow : OpenClaim := { program := "ytknjnfknalfbdaadoor", sum := "5acad5f7192ae34769c21a4f5fdad433e8eba98aff1cd289d7819c555648a0d1", func := "wherry/wherrylaw.WireWrites", spec := "wireWrites", recurses := true, named := ["unicode/utf8.first", "unicode/utf8.acceptRanges"], apart := false, laid := [("unicode/utf8.acceptRanges", laid_unicode_utf8_acceptRanges), ("unicode/utf8.first", laid_unicode_utf8_first)] }
def WireWritesSaid : Prop := wireWritesRow.holds Tryd.pinned (OpenSpec.ofChange wireWritesSpec)

/-- ITS FALSE NEIGHBOUR: 'it returns false'. Refute it at one input. -/
def wireWritesWrong : ChangeSpec := { name := "wireWrites", fn := fun _ => fun
  | [d] => { results := [.lit (.bool false)], args := [d] }
  | _ => none }
def WireWritesWrongFalsely : Prop := wireWritesRow.holds Tryd.pinned (OpenSpec.ofChange wireWritesWrong)

/-- 'wherrylaw.TapeAppends': WHATEVER THE INPUT: true; the input reads as it did. -/
def tapeAppendsSpec : ChangeSpec := { name := "tapeAppends", fn := fun _ => fun
  | [d1, d2] => { results := [.lit (.bool true)], args := [d1, d2] }
  | _ => none }
def tapeAppendsRow : OpenClaim := { program := "ytknjnfknalfbdaadoor", sum := "5acad5f7192ae34769c21a4f5fdad433e8eba98aff1cd289d7819c555648a0d1", func := "wherry/wherrylaw.TapeAppends", spec := "tapeAppends", recurses := true, named := ["unicode/utf8.first", "unicode/utf8.acceptRanges"], apart := false, laid := [("unicode/utf8.acceptRanges", laid_unicode_utf8_acceptRanges), ("unicode/utf8.first", laid_unicode_utf8_first)] }
def TapeAppendsSaid : Prop := tapeAppendsRow.holds Tryd.pinned (OpenSpec.ofChange tapeAppendsSpec)

/-- ITS FALSE NEIGHBOUR: 'it returns false'. Refute it at one input. -/
def tapeAppendsWrong : ChangeSpec := { name := "tapeAppends", fn := fun _ => fun
  | [d1, d2] => { results := [.lit (.bool false)], args := [d1, d2] }
  | _ => none }
def TapeAppendsWrongFalsely : Prop := tapeAppendsRow.holds Tryd.pinned (OpenSpec.ofChange tapeAppendsWrong)

/-- 'wherrylaw.TapeRecovers': WHATEVER THE INPUT: true; the input reads as it did. -/
def tapeRecoversSpec : ChangeSpec := { name := "tapeRecovers", fn := fun _ => fun
  | [d] => { results := [.lit (.bool true)], args := [d] }
  | _ => none }
def tapeRecoversRow : OpenClaim := { program := "ytknjnfknalfbdaadoor", sum := "5acad5f7192ae34769c21a4f5fdad433e8eba98aff1cd289d7819c555648a0d1", func := "wherry/wherrylaw.TapeRecovers", spec := "tapeRecovers", unfollowed := true, recurses := true, named := ["unicode/utf8.first", "unicode/utf8.acceptRanges"], apart := false, laid := [("unicode/utf8.acceptRanges", laid_unicode_utf8_acceptRanges), ("unicode/utf8.first", laid_unicode_utf8_first)] }
def TapeRecoversSaid : Prop := tapeRecoversRow.holds Tryd.pinned (OpenSpec.ofChange tapeRecoversSpec)

/-- ITS FALSE NEIGHBOUR: 'it returns false'. Refute it at one input. -/
def tapeRecoversWrong : ChangeSpec := { name := "tapeRecovers", fn := fun _ => fun
  | [d] => { results := [.lit (.bool false)], args := [d] }
  | _ => none }
def TapeRecoversWrongFalsely : Prop := tapeRecoversRow.holds Tryd.pinned (OpenSpec.ofChange tapeRecoversWrong)

/-- 'wherrylaw.TapeReplays': WHATEVER THE INPUT: true; the input reads as it did. -/
def tapeReplaysSpec : ChangeSpec := { name := "tapeReplays", fn := fun _ => fun
  | [d] => { results := [.lit (.bool true)], args := [d] }
  | _ => none }
def tapeReplaysRow : OpenClaim := { program := "ytknjnfknalfbdaadoor", sum := "5acad5f7192ae34769c21a4f5fdad433e8eba98aff1cd289d7819c555648a0d1", func := "wherry/wherrylaw.TapeReplays", spec := "tapeReplays", inPlace := ["internal/abi.NoEscape"], named := ["unicode/utf8.first", "unicode/utf8.acceptRanges"], apart := false, laid := [("unicode/utf8.acceptRanges", laid_unicode_utf8_acceptRanges), ("unicode/utf8.first", laid_unicode_utf8_first)] }
def TapeReplaysSaid : Prop := tapeReplaysRow.holds Tryd.pinned (OpenSpec.ofChange tapeReplaysSpec)

/-- ITS FALSE NEIGHBOUR: 'it returns false'. Refute it at one input. -/
def tapeReplaysWrong : ChangeSpec := { name := "tapeReplays", fn := fun _ => fun
  | [d] => { results := [.lit (.bool false)], args := [d] }
  | _ => none }
def TapeReplaysWrongFalsely : Prop := tapeReplaysRow.holds Tryd.pinned (OpenSpec.ofChange tapeReplaysWrong)

/-- 'wherrykeep.TapeKeeps': WHATEVER THE INPUT: true; the input reads as it did. -/
def tapeKeepsSpec : ChangeSpec := { name := "tapeKeeps", fn := fun _ => fun
  | [d1, d2, d3] => { results := [.lit (.bool true)], args := [d1, d2, d3] }
  | _ => none }
def tapeKeepsRow : OpenClaim := { program := "ytknjnfknalfbdaadoor", sum := "5acad5f7192ae34769c21a4f5fdad433e8eba98aff1cd289d7819c555648a0d1", func := "wherry/wherrykeep.TapeKeeps", spec := "tapeKeeps", unfollowed := true, recurses := true, named := ["unicode/utf8.first", "unicode/utf8.acceptRanges"], apart := false, laid := [("unicode/utf8.acceptRanges", laid_unicode_utf8_acceptRanges), ("unicode/utf8.first", laid_unicode_utf8_first)] }
def TapeKeepsSaid : Prop := tapeKeepsRow.holds Tryd.pinned (OpenSpec.ofChange tapeKeepsSpec)

/-- ITS FALSE NEIGHBOUR: 'it returns false'. Refute it at one input. -/
def tapeKeepsWrong : ChangeSpec := { name := "tapeKeeps", fn := fun _ => fun
  | [d1, d2, d3] => { results := [.lit (.bool false)], args := [d1, d2, d3] }
  | _ => none }
def TapeKeepsWrongFalsely : Prop := tapeKeepsRow.holds Tryd.pinned (OpenSpec.ofChange tapeKeepsWrong)

/-- 'wherrykeep.TapeTorn': WHATEVER THE INPUT: true; the input reads as it did. -/
def tapeTornSpec : ChangeSpec := { name := "tapeTorn", fn := fun _ => fun
  | [d1, d2] => { results := [.lit (.bool true)], args := [d1, d2] }
  | _ => none }
def tapeTornRow : OpenClaim := { program := "ytknjnfknalfbdaadoor", sum := "5acad5f7192ae34769c21a4f5fdad433e8eba98aff1cd289d7819c555648a0d1", func := "wherry/wherrykeep.TapeTorn", spec := "tapeTorn", unfollowed := true, recurses := true, named := ["unicode/utf8.first", "unicode/utf8.acceptRanges"], apart := false, laid := [("unicode/utf8.acceptRanges", laid_unicode_utf8_acceptRanges), ("unicode/utf8.first", laid_unicode_utf8_first)] }
def TapeTornSaid : Prop := tapeTornRow.holds Tryd.pinned (OpenSpec.ofChange tapeTornSpec)

/-- ITS FALSE NEIGHBOUR: 'it returns false'. Refute it at one input. -/
def tapeTornWrong : ChangeSpec := { name := "tapeTorn", fn := fun _ => fun
  | [d1, d2] => { results := [.lit (.bool false)], args := [d1, d2] }
  | _ => none }
def TapeTornWrongFalsely : Prop := tapeTornRow.holds Tryd.pinned (OpenSpec.ofChange tapeTornWrong)

/-- 'wherrykeep.TapeOn': WHATEVER THE INPUT: true; the input reads as it did. -/
def tapeOnSpec : ChangeSpec := { name := "tapeOn", fn := fun _ => fun
  | [d1, d2, d3] => { results := [.lit (.bool true)], args := [d1, d2, d3] }
  | _ => none }
def tapeOnRow : OpenClaim := { program := "ytknjnfknalfbdaadoor", sum := "5acad5f7192ae34769c21a4f5fdad433e8eba98aff1cd289d7819c555648a0d1", func := "wherry/wherrykeep.TapeOn", spec := "tapeOn", unfollowed := true, recurses := true, named := ["unicode/utf8.first", "unicode/utf8.acceptRanges"], apart := false, laid := [("unicode/utf8.acceptRanges", laid_unicode_utf8_acceptRanges), ("unicode/utf8.first", laid_unicode_utf8_first)] }
def TapeOnSaid : Prop := tapeOnRow.holds Tryd.pinned (OpenSpec.ofChange tapeOnSpec)

/-- ITS FALSE NEIGHBOUR: 'it returns false'. Refute it at one input. -/
def tapeOnWrong : ChangeSpec := { name := "tapeOn", fn := fun _ => fun
  | [d1, d2, d3] => { results := [.lit (.bool false)], args := [d1, d2, d3] }
  | _ => none }
def TapeOnWrongFalsely : Prop := tapeOnRow.holds Tryd.pinned (OpenSpec.ofChange tapeOnWrong)

/-- 'wherrykeep.CrashJust': WHATEVER THE INPUT: true; the input reads as it did. -/
def crashJustSpec : ChangeSpec := { name := "crashJust", fn := fun _ => fun
  | [d1, d2, d3] => { results := [.lit (.bool true)], args := [d1, d2, d3] }
  | _ => none }
def crashJustRow : OpenClaim := { program := "ytknjnfknalfbdaadoor", sum := "5acad5f7192ae34769c21a4f5fdad433e8eba98aff1cd289d7819c555648a0d1", func := "wherry/wherrykeep.CrashJust", spec := "crashJust", unfollowed := true, recurses := true, named := ["unicode/utf8.first", "unicode/utf8.acceptRanges"], apart := false, laid := [("unicode/utf8.acceptRanges", laid_unicode_utf8_acceptRanges), ("unicode/utf8.first", laid_unicode_utf8_first)] }
def CrashJustSaid : Prop := crashJustRow.holds Tryd.pinned (OpenSpec.ofChange crashJustSpec)

/-- ITS FALSE NEIGHBOUR: 'it returns false'. Refute it at one input. -/
def crashJustWrong : ChangeSpec := { name := "crashJust", fn := fun _ => fun
  | [d1, d2, d3] => { results := [.lit (.bool false)], args := [d1, d2, d3] }
  | _ => none }
def CrashJustWrongFalsely : Prop := crashJustRow.holds Tryd.pinned (OpenSpec.ofChange crashJustWrong)

/-- 'wherrykeep.ReplayMakes': WHATEVER THE INPUT: true; the input reads as it did. -/
def replayMakesSpec : ChangeSpec := { name := "replayMakes", fn := fun _ => fun
  | [d] => { results := [.lit (.bool true)], args := [d] }
  | _ => none }
def replayMakesRow : OpenClaim := { program := "ytknjnfknalfbdaadoor", sum := "5acad5f7192ae34769c21a4f5fdad433e8eba98aff1cd289d7819c555648a0d1", func := "wherry/wherrykeep.ReplayMakes", spec := "replayMakes", inPlace := ["internal/abi.NoEscape"], unfollowed := true, recurses := true, named := ["unicode/utf8.first", "unicode/utf8.acceptRanges"], apart := false, laid := [("unicode/utf8.acceptRanges", laid_unicode_utf8_acceptRanges), ("unicode/utf8.first", laid_unicode_utf8_first)] }
def ReplayMakesSaid : Prop := replayMakesRow.holds Tryd.pinned (OpenSpec.ofChange replayMakesSpec)

/-- ITS FALSE NEIGHBOUR: 'it returns false'. Refute it at one input. -/
def replayMakesWrong : ChangeSpec := { name := "replayMakes", fn := fun _ => fun
  | [d] => { results := [.lit (.bool false)], args := [d] }
  | _ => none }
def ReplayMakesWrongFalsely : Prop := replayMakesRow.holds Tryd.pinned (OpenSpec.ofChange replayMakesWrong)

/-- 'wherrykeep.TapeLengths': WHATEVER THE INPUT: true; the input reads as it did. -/
def tapeLengthsSpec : ChangeSpec := { name := "tapeLengths", fn := fun _ => fun
  | [d] => { results := [.lit (.bool true)], args := [d] }
  | _ => none }
def tapeLengthsRow : OpenClaim := { program := "ytknjnfknalfbdaadoor", sum := "5acad5f7192ae34769c21a4f5fdad433e8eba98aff1cd289d7819c555648a0d1", func := "wherry/wherrykeep.TapeLengths", spec := "tapeLengths", unfollowed := true, recurses := true, named := ["unicode/utf8.first", "unicode/utf8.acceptRanges"], apart := false, laid := [("unicode/utf8.acceptRanges", laid_unicode_utf8_acceptRanges), ("unicode/utf8.first", laid_unicode_utf8_first)] }
def TapeLengthsSaid : Prop := tapeLengthsRow.holds Tryd.pinned (OpenSpec.ofChange tapeLengthsSpec)

/-- ITS FALSE NEIGHBOUR: 'it returns false'. Refute it at one input. -/
def tapeLengthsWrong : ChangeSpec := { name := "tapeLengths", fn := fun _ => fun
  | [d] => { results := [.lit (.bool false)], args := [d] }
  | _ => none }
def TapeLengthsWrongFalsely : Prop := tapeLengthsRow.holds Tryd.pinned (OpenSpec.ofChange tapeLengthsWrong)

/- THE SECOND FORM. 'bulk': how many values and letters a reading holds, each counted each time it is reached (what is shared counts as often as it is met; a slice's spare places count too). A statement '..UptoSaid' is the law's where the arguments, and the package variables that the reading takes, are together of bulk at most 1048576: NARROWER than '..Said'. Prove '..Said' where nothing that the law and all that it calls make is longer than what came in: it says more and counts as full. Else prove '..UptoSaid'. A law counts once. -/
mutual
def uptoBulk {H : Type} : DataW H → Nat
  | .lit (.string bytes) => bytes.length + 1
  | .lit _ => 1
  | .nil => 1
  | .ptr d => uptoBulk d + 1
  | .slice elems spare => uptoBulkAll elems + uptoBulkAll spare + 1
  | .agg parts => uptoBulkAll parts + 1
  | .iface _ d => uptoBulk d + 1
  | .map entries => uptoBulkEntries entries + 1
  | .held _ => 1
def uptoBulkAll {H : Type} : List (DataW H) → Nat
  | [] => 0
  | d :: r => uptoBulk d + uptoBulkAll r
def uptoBulkEntries {H : Type} : List (Lit × DataW H) → Nat
  | [] => 0
  | x :: r => uptoBulkEntry x + uptoBulkEntries r
def uptoBulkEntry {H : Type} : Lit × DataW H → Nat
  | (.string bytes, d) => bytes.length + uptoBulk d + 1
  | (_, d) => uptoBulk d + 1
 end
def uptoSmall : (H : Type) → List (DataW H) → Bool := fun _ ds => decide (uptoBulkAll ds ≤ 1048576)
def OpenSpec.upto (s : _root_.Go.ChangeSpec) : _root_.Go.OpenSpec := { _root_.Go.OpenSpec.ofChange s with cond := some uptoSmall }

/-- 'wherrykeep.MoveRest', WHERE WHAT IT READS IS OF BULK AT MOST 1048576: true; the input reads as it did. -/
def moveRestUptoRow : OpenClaim := { program := "ytknjnfknalfbdaadoor", sum := "5acad5f7192ae34769c21a4f5fdad433e8eba98aff1cd289d7819c555648a0d1", func := "wherry/wherrykeep.MoveRest", spec := "moveRest", inPlace := ["internal/abi.NoEscape"], unfollowed := true, recurses := true, named := ["unicode/utf8.first", "unicode/utf8.acceptRanges"], apart := false, laid := [("unicode/utf8.acceptRanges", laid_unicode_utf8_acceptRanges), ("unicode/utf8.first", laid_unicode_utf8_first)], narrowed := true }
def MoveRestUptoSaid : Prop := moveRestUptoRow.holds Tryd.pinned (OpenSpec.upto moveRestSpec)

/-- 'wherrylaw.EdgeSends', WHERE WHAT IT READS IS OF BULK AT MOST 1048576: true; the input reads as it did. -/
def edgeSendsUptoRow : OpenClaim := { program := "ytknjnfknalfbdaadoor", sum := "5acad5f7192ae34769c21a4f5fdad433e8eba98aff1cd289d7819c555648a0d1", func := "wherry/wherrylaw.EdgeSends", spec := "edgeSends", named := ["unicode/utf8.first", "unicode/utf8.acceptRanges"], apart := false, laid := [("unicode/utf8.acceptRanges", laid_unicode_utf8_acceptRanges), ("unicode/utf8.first", laid_unicode_utf8_first)], narrowed := true }
def EdgeSendsUptoSaid : Prop := edgeSendsUptoRow.holds Tryd.pinned (OpenSpec.upto edgeSendsSpec)

/-- 'wherrylaw.EdgeHears', WHERE WHAT IT READS IS OF BULK AT MOST 1048576: true; the input reads as it did. -/
def edgeHearsUptoRow : OpenClaim := { program := "ytknjnfknalfbdaadoor", sum := "5acad5f7192ae34769c21a4f5fdad433e8eba98aff1cd289d7819c555648a0d1", func := "wherry/wherrylaw.EdgeHears", spec := "edgeHears", named := ["unicode/utf8.first", "unicode/utf8.acceptRanges"], apart := false, laid := [("unicode/utf8.acceptRanges", laid_unicode_utf8_acceptRanges), ("unicode/utf8.first", laid_unicode_utf8_first)], narrowed := true }
def EdgeHearsUptoSaid : Prop := edgeHearsUptoRow.holds Tryd.pinned (OpenSpec.upto edgeHearsSpec)

/-- 'wherrykeep.EdgeMeets', WHERE WHAT IT READS IS OF BULK AT MOST 1048576: true; the input reads as it did. -/
def edgeMeetsUptoRow : OpenClaim := { program := "ytknjnfknalfbdaadoor", sum := "5acad5f7192ae34769c21a4f5fdad433e8eba98aff1cd289d7819c555648a0d1", func := "wherry/wherrykeep.EdgeMeets", spec := "edgeMeets", inPlace := ["internal/abi.NoEscape"], unfollowed := true, recurses := true, named := ["unicode/utf8.first", "unicode/utf8.acceptRanges"], apart := false, laid := [("unicode/utf8.acceptRanges", laid_unicode_utf8_acceptRanges), ("unicode/utf8.first", laid_unicode_utf8_first)], narrowed := true }
def EdgeMeetsUptoSaid : Prop := edgeMeetsUptoRow.holds Tryd.pinned (OpenSpec.upto edgeMeetsSpec)

/-- 'wherrykeep.EdgeKnown', WHERE WHAT IT READS IS OF BULK AT MOST 1048576: true; the input reads as it did. -/
def edgeKnownUptoRow : OpenClaim := { program := "ytknjnfknalfbdaadoor", sum := "5acad5f7192ae34769c21a4f5fdad433e8eba98aff1cd289d7819c555648a0d1", func := "wherry/wherrykeep.EdgeKnown", spec := "edgeKnown", recurses := true, named := ["unicode/utf8.first", "unicode/utf8.acceptRanges"], apart := false, laid := [("unicode/utf8.acceptRanges", laid_unicode_utf8_acceptRanges), ("unicode/utf8.first", laid_unicode_utf8_first)], narrowed := true }
def EdgeKnownUptoSaid : Prop := edgeKnownUptoRow.holds Tryd.pinned (OpenSpec.upto edgeKnownSpec)

/-- 'wherrykeep.EdgeUpper', WHERE WHAT IT READS IS OF BULK AT MOST 1048576: true; the input reads as it did. -/
def edgeUpperUptoRow : OpenClaim := { program := "ytknjnfknalfbdaadoor", sum := "5acad5f7192ae34769c21a4f5fdad433e8eba98aff1cd289d7819c555648a0d1", func := "wherry/wherrykeep.EdgeUpper", spec := "edgeUpper", inPlace := ["internal/abi.NoEscape"], recurses := true, named := ["unicode/utf8.first", "unicode/utf8.acceptRanges"], apart := false, laid := [("unicode/utf8.acceptRanges", laid_unicode_utf8_acceptRanges), ("unicode/utf8.first", laid_unicode_utf8_first)], narrowed := true }
def EdgeUpperUptoSaid : Prop := edgeUpperUptoRow.holds Tryd.pinned (OpenSpec.upto edgeUpperSpec)

/-- 'wherrylaw.WireWrites', WHERE WHAT IT READS IS OF BULK AT MOST 1048576: true; the input reads as it did. -/
def wireWritesUptoRow : OpenClaim := { program := "ytknjnfknalfbdaadoor", sum := "5acad5f7192ae34769c21a4f5fdad433e8eba98aff1cd289d7819c555648a0d1", func := "wherry/wherrylaw.WireWrites", spec := "wireWrites", recurses := true, named := ["unicode/utf8.first", "unicode/utf8.acceptRanges"], apart := false, laid := [("unicode/utf8.acceptRanges", laid_unicode_utf8_acceptRanges), ("unicode/utf8.first", laid_unicode_utf8_first)], narrowed := true }
def WireWritesUptoSaid : Prop := wireWritesUptoRow.holds Tryd.pinned (OpenSpec.upto wireWritesSpec)

/-- 'wherrylaw.TapeAppends', WHERE WHAT IT READS IS OF BULK AT MOST 1048576: true; the input reads as it did. -/
def tapeAppendsUptoRow : OpenClaim := { program := "ytknjnfknalfbdaadoor", sum := "5acad5f7192ae34769c21a4f5fdad433e8eba98aff1cd289d7819c555648a0d1", func := "wherry/wherrylaw.TapeAppends", spec := "tapeAppends", recurses := true, named := ["unicode/utf8.first", "unicode/utf8.acceptRanges"], apart := false, laid := [("unicode/utf8.acceptRanges", laid_unicode_utf8_acceptRanges), ("unicode/utf8.first", laid_unicode_utf8_first)], narrowed := true }
def TapeAppendsUptoSaid : Prop := tapeAppendsUptoRow.holds Tryd.pinned (OpenSpec.upto tapeAppendsSpec)

/-- 'wherrylaw.TapeRecovers', WHERE WHAT IT READS IS OF BULK AT MOST 1048576: true; the input reads as it did. -/
def tapeRecoversUptoRow : OpenClaim := { program := "ytknjnfknalfbdaadoor", sum := "5acad5f7192ae34769c21a4f5fdad433e8eba98aff1cd289d7819c555648a0d1", func := "wherry/wherrylaw.TapeRecovers", spec := "tapeRecovers", unfollowed := true, recurses := true, named := ["unicode/utf8.first", "unicode/utf8.acceptRanges"], apart := false, laid := [("unicode/utf8.acceptRanges", laid_unicode_utf8_acceptRanges), ("unicode/utf8.first", laid_unicode_utf8_first)], narrowed := true }
def TapeRecoversUptoSaid : Prop := tapeRecoversUptoRow.holds Tryd.pinned (OpenSpec.upto tapeRecoversSpec)

/-- 'wherrylaw.TapeReplays', WHERE WHAT IT READS IS OF BULK AT MOST 1048576: true; the input reads as it did. -/
def tapeReplaysUptoRow : OpenClaim := { program := "ytknjnfknalfbdaadoor", sum := "5acad5f7192ae34769c21a4f5fdad433e8eba98aff1cd289d7819c555648a0d1", func := "wherry/wherrylaw.TapeReplays", spec := "tapeReplays", inPlace := ["internal/abi.NoEscape"], named := ["unicode/utf8.first", "unicode/utf8.acceptRanges"], apart := false, laid := [("unicode/utf8.acceptRanges", laid_unicode_utf8_acceptRanges), ("unicode/utf8.first", laid_unicode_utf8_first)], narrowed := true }
def TapeReplaysUptoSaid : Prop := tapeReplaysUptoRow.holds Tryd.pinned (OpenSpec.upto tapeReplaysSpec)

/-- 'wherrykeep.TapeKeeps', WHERE WHAT IT READS IS OF BULK AT MOST 1048576: true; the input reads as it did. -/
def tapeKeepsUptoRow : OpenClaim := { program := "ytknjnfknalfbdaadoor", sum := "5acad5f7192ae34769c21a4f5fdad433e8eba98aff1cd289d7819c555648a0d1", func := "wherry/wherrykeep.TapeKeeps", spec := "tapeKeeps", unfollowed := true, recurses := true, named := ["unicode/utf8.first", "unicode/utf8.acceptRanges"], apart := false, laid := [("unicode/utf8.acceptRanges", laid_unicode_utf8_acceptRanges), ("unicode/utf8.first", laid_unicode_utf8_first)], narrowed := true }
def TapeKeepsUptoSaid : Prop := tapeKeepsUptoRow.holds Tryd.pinned (OpenSpec.upto tapeKeepsSpec)

/-- 'wherrykeep.TapeTorn', WHERE WHAT IT READS IS OF BULK AT MOST 1048576: true; the input reads as it did. -/
def tapeTornUptoRow : OpenClaim := { program := "ytknjnfknalfbdaadoor", sum := "5acad5f7192ae34769c21a4f5fdad433e8eba98aff1cd289d7819c555648a0d1", func := "wherry/wherrykeep.TapeTorn", spec := "tapeTorn", unfollowed := true, recurses := true, named := ["unicode/utf8.first", "unicode/utf8.acceptRanges"], apart := false, laid := [("unicode/utf8.acceptRanges", laid_unicode_utf8_acceptRanges), ("unicode/utf8.first", laid_unicode_utf8_first)], narrowed := true }
def TapeTornUptoSaid : Prop := tapeTornUptoRow.holds Tryd.pinned (OpenSpec.upto tapeTornSpec)

/-- 'wherrykeep.TapeOn', WHERE WHAT IT READS IS OF BULK AT MOST 1048576: true; the input reads as it did. -/
def tapeOnUptoRow : OpenClaim := { program := "ytknjnfknalfbdaadoor", sum := "5acad5f7192ae34769c21a4f5fdad433e8eba98aff1cd289d7819c555648a0d1", func := "wherry/wherrykeep.TapeOn", spec := "tapeOn", unfollowed := true, recurses := true, named := ["unicode/utf8.first", "unicode/utf8.acceptRanges"], apart := false, laid := [("unicode/utf8.acceptRanges", laid_unicode_utf8_acceptRanges), ("unicode/utf8.first", laid_unicode_utf8_first)], narrowed := true }
def TapeOnUptoSaid : Prop := tapeOnUptoRow.holds Tryd.pinned (OpenSpec.upto tapeOnSpec)

/-- 'wherrykeep.CrashJust', WHERE WHAT IT READS IS OF BULK AT MOST 1048576: true; the input reads as it did. -/
def crashJustUptoRow : OpenClaim := { program := "ytknjnfknalfbdaadoor", sum := "5acad5f7192ae34769c21a4f5fdad433e8eba98aff1cd289d7819c555648a0d1", func := "wherry/wherrykeep.CrashJust", spec := "crashJust", unfollowed := true, recurses := true, named := ["unicode/utf8.first", "unicode/utf8.acceptRanges"], apart := false, laid := [("unicode/utf8.acceptRanges", laid_unicode_utf8_acceptRanges), ("unicode/utf8.first", laid_unicode_utf8_first)], narrowed := true }
def CrashJustUptoSaid : Prop := crashJustUptoRow.holds Tryd.pinned (OpenSpec.upto crashJustSpec)

/-- 'wherrykeep.ReplayMakes', WHERE WHAT IT READS IS OF BULK AT MOST 1048576: true; the input reads as it did. -/
def replayMakesUptoRow : OpenClaim := { program := "ytknjnfknalfbdaadoor", sum := "5acad5f7192ae34769c21a4f5fdad433e8eba98aff1cd289d7819c555648a0d1", func := "wherry/wherrykeep.ReplayMakes", spec := "replayMakes", inPlace := ["internal/abi.NoEscape"], unfollowed := true, recurses := true, named := ["unicode/utf8.first", "unicode/utf8.acceptRanges"], apart := false, laid := [("unicode/utf8.acceptRanges", laid_unicode_utf8_acceptRanges), ("unicode/utf8.first", laid_unicode_utf8_first)], narrowed := true }
def ReplayMakesUptoSaid : Prop := replayMakesUptoRow.holds Tryd.pinned (OpenSpec.upto replayMakesSpec)

/-- 'wherrykeep.TapeLengths', WHERE WHAT IT READS IS OF BULK AT MOST 1048576: true; the input reads as it did. -/
def tapeLengthsUptoRow : OpenClaim := { program := "ytknjnfknalfbdaadoor", sum := "5acad5f7192ae34769c21a4f5fdad433e8eba98aff1cd289d7819c555648a0d1", func := "wherry/wherrykeep.TapeLengths", spec := "tapeLengths", unfollowed := true, recurses := true, named := ["unicode/utf8.first", "unicode/utf8.acceptRanges"], apart := false, laid := [("unicode/utf8.acceptRanges", laid_unicode_utf8_acceptRanges), ("unicode/utf8.first", laid_unicode_utf8_first)], narrowed := true }
def TapeLengthsUptoSaid : Prop := tapeLengthsUptoRow.holds Tryd.pinned (OpenSpec.upto tapeLengthsSpec)

end Rows
end Go.Proofs.YtknjnfknalfbdaaDoor
