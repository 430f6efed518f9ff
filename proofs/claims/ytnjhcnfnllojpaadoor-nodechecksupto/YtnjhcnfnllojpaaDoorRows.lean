/-
  NARROWER THAN 'FOR EVERY INPUT', by the rows' own cells (each row's printed sentence says how): MoveRest: laid · EdgeMeets: laid · EdgeKnown: laid · EdgeUpper: laid · ReplayMakes: laid · LinkSends: laid · LinkHears: laid · LinkOnce: laid · LinkAll: laid · LinkWindow: laid · LinkTwice: laid · LinkGap: laid · NodeChecks: laid · NodeBegins: laid · NodeSelects: laid · NodeTicks: laid · BeginJoins: laid · EditFull: laid · BeginBad: laid.
  DERIVED. THE GIVEN ROWS OF THIS SEAT. 19 by the template 'for every input the law returns true; each argument reads behind the call as it read before'; 0 by the template 'total and deterministic' (their statements: YtnjhcnfnllojpaaDoorTotals.lean).
  GIVEN WITH THE SEED: the statements are not yours to turn. If you find one false, say at which input.
  Laid BY PROGRAM, IN A SANDBOX (cutbox-rows.mjs): the forced cells as the released guide's own fill.sh prints them over the translation 3224e0123cc2bb78… (all of the seat's roots in one cut). By AI agents, Wed Nov 11 2026. No macro, syntax, notation, axiom, sorry.
-/
import Derived.Test.YtnjhcnfnllojpaaDoorChecked
import GoSem.PinnedTables
import GoSem.Claim
import GoSem.ClaimJoined
import GoSem.ClaimMapViews
import Derived.JoinedTies
import Derived.KernelRfl
namespace Go.Proofs.YtnjhcnfnllojpaaDoor
/- THE CELL 'sum', in the pinned program and in every row, IS THE sha256 OF THE DUMP (.gsa) THAT YtnjhcnfnllojpaaDoorProg.lean LOADS. Nothing in Lean hashes anything: it is a label: what it is worth is what the hold of that sum in a sandbox is worth. -/
noncomputable def Tryd.pinned : Pinned := { name := "ytnjhcnfnllojpaadoor", sum := "3224e0123cc2bb78231eb4f6f329671fe2023c91a883348a7e96bdc0b74086e6", checked := Tryd.checked }
namespace Rows
def none {H : Type} : Left H := { results := [], args := [] }

/- WHAT THE LISTED PACKAGE-LEVEL VARIABLES READ AS WHEN THE CALL BEGINS. Each datum BY PROGRAM (the guide's laid-datum.mjs) off the statement by which the dump's own 'gosem.cut.vars' lays the variable. In a bare row this is a premise. The card (YtnjhcnfnllojpaaDoorCards.lean) ties it to the program's text. -/
def laid_unicode_utf8_acceptRanges {H : Type} : DataW H := .agg [.agg [.lit (.int .u8 128), .lit (.int .u8 191)], .agg [.lit (.int .u8 160), .lit (.int .u8 191)], .agg [.lit (.int .u8 128), .lit (.int .u8 159)], .agg [.lit (.int .u8 144), .lit (.int .u8 191)], .agg [.lit (.int .u8 128), .lit (.int .u8 143)], .agg [.lit (.int .u8 0), .lit (.int .u8 0)], .agg [.lit (.int .u8 0), .lit (.int .u8 0)], .agg [.lit (.int .u8 0), .lit (.int .u8 0)], .agg [.lit (.int .u8 0), .lit (.int .u8 0)], .agg [.lit (.int .u8 0), .lit (.int .u8 0)], .agg [.lit (.int .u8 0), .lit (.int .u8 0)], .agg [.lit (.int .u8 0), .lit (.int .u8 0)], .agg [.lit (.int .u8 0), .lit (.int .u8 0)], .agg [.lit (.int .u8 0), .lit (.int .u8 0)], .agg [.lit (.int .u8 0), .lit (.int .u8 0)], .agg [.lit (.int .u8 0), .lit (.int .u8 0)]]
/-- One of Go's own tables, pinned by name: the form's constant. -/
def laid_unicode_utf8_first : DataW Unit := Go.Pinned.utf8First

/-- 'wherrykeep.MoveRest': WHATEVER THE INPUT: true; the input reads as it did. -/
def moveRestSpec : ChangeSpec := { name := "moveRest", fn := fun _ => fun
  | [d1, d2, d3] => { results := [.lit (.bool true)], args := [d1, d2, d3] }
  | _ => none }
def moveRestRow : OpenClaim := { program := "ytnjhcnfnllojpaadoor", sum := "3224e0123cc2bb78231eb4f6f329671fe2023c91a883348a7e96bdc0b74086e6", func := "wherry/wherrykeep.MoveRest", spec := "moveRest", inPlace := ["internal/abi.NoEscape"], unfollowed := true, recurses := true, named := ["unicode/utf8.first", "unicode/utf8.acceptRanges"], apart := false, laid := [("unicode/utf8.acceptRanges", laid_unicode_utf8_acceptRanges), ("unicode/utf8.first", laid_unicode_utf8_first)] }
def MoveRestSaid : Prop := moveRestRow.holds Tryd.pinned (OpenSpec.ofChange moveRestSpec)

/-- ITS FALSE NEIGHBOUR: 'it returns false'. Refute it at one input. -/
def moveRestWrong : ChangeSpec := { name := "moveRest", fn := fun _ => fun
  | [d1, d2, d3] => { results := [.lit (.bool false)], args := [d1, d2, d3] }
  | _ => none }
def MoveRestWrongFalsely : Prop := moveRestRow.holds Tryd.pinned (OpenSpec.ofChange moveRestWrong)

/-- 'wherrykeep.EdgeMeets': WHATEVER THE INPUT: true; the input reads as it did. -/
def edgeMeetsSpec : ChangeSpec := { name := "edgeMeets", fn := fun _ => fun
  | [d1, d2] => { results := [.lit (.bool true)], args := [d1, d2] }
  | _ => none }
def edgeMeetsRow : OpenClaim := { program := "ytnjhcnfnllojpaadoor", sum := "3224e0123cc2bb78231eb4f6f329671fe2023c91a883348a7e96bdc0b74086e6", func := "wherry/wherrykeep.EdgeMeets", spec := "edgeMeets", inPlace := ["internal/abi.NoEscape"], unfollowed := true, recurses := true, named := ["unicode/utf8.first", "unicode/utf8.acceptRanges"], apart := false, laid := [("unicode/utf8.acceptRanges", laid_unicode_utf8_acceptRanges), ("unicode/utf8.first", laid_unicode_utf8_first)] }
def EdgeMeetsSaid : Prop := edgeMeetsRow.holds Tryd.pinned (OpenSpec.ofChange edgeMeetsSpec)

/-- ITS FALSE NEIGHBOUR: 'it returns false'. Refute it at one input. -/
def edgeMeetsWrong : ChangeSpec := { name := "edgeMeets", fn := fun _ => fun
  | [d1, d2] => { results := [.lit (.bool false)], args := [d1, d2] }
  | _ => none }
def EdgeMeetsWrongFalsely : Prop := edgeMeetsRow.holds Tryd.pinned (OpenSpec.ofChange edgeMeetsWrong)

/-- 'wherrykeep.EdgeKnown': WHATEVER THE INPUT: true; the input reads as it did. -/
def edgeKnownSpec : ChangeSpec := { name := "edgeKnown", fn := fun _ => fun
  | [d1, d2, d3] => { results := [.lit (.bool true)], args := [d1, d2, d3] }
  | _ => none }
def edgeKnownRow : OpenClaim := { program := "ytnjhcnfnllojpaadoor", sum := "3224e0123cc2bb78231eb4f6f329671fe2023c91a883348a7e96bdc0b74086e6", func := "wherry/wherrykeep.EdgeKnown", spec := "edgeKnown", recurses := true, named := ["unicode/utf8.first", "unicode/utf8.acceptRanges"], apart := false, laid := [("unicode/utf8.acceptRanges", laid_unicode_utf8_acceptRanges), ("unicode/utf8.first", laid_unicode_utf8_first)] }
def EdgeKnownSaid : Prop := edgeKnownRow.holds Tryd.pinned (OpenSpec.ofChange edgeKnownSpec)

/-- ITS FALSE NEIGHBOUR: 'it returns false'. Refute it at one input. -/
def edgeKnownWrong : ChangeSpec := { name := "edgeKnown", fn := fun _ => fun
  | [d1, d2, d3] => { results := [.lit (.bool false)], args := [d1, d2, d3] }
  | _ => none }
def EdgeKnownWrongFalsely : Prop := edgeKnownRow.holds Tryd.pinned (OpenSpec.ofChange edgeKnownWrong)

/-- 'wherrykeep.EdgeUpper': WHATEVER THE INPUT: true; the input reads as it did. -/
def edgeUpperSpec : ChangeSpec := { name := "edgeUpper", fn := fun _ => fun
  | [d1, d2, d3, d4] => { results := [.lit (.bool true)], args := [d1, d2, d3, d4] }
  | _ => none }
def edgeUpperRow : OpenClaim := { program := "ytnjhcnfnllojpaadoor", sum := "3224e0123cc2bb78231eb4f6f329671fe2023c91a883348a7e96bdc0b74086e6", func := "wherry/wherrykeep.EdgeUpper", spec := "edgeUpper", inPlace := ["internal/abi.NoEscape"], recurses := true, named := ["unicode/utf8.first", "unicode/utf8.acceptRanges"], apart := false, laid := [("unicode/utf8.acceptRanges", laid_unicode_utf8_acceptRanges), ("unicode/utf8.first", laid_unicode_utf8_first)] }
def EdgeUpperSaid : Prop := edgeUpperRow.holds Tryd.pinned (OpenSpec.ofChange edgeUpperSpec)

/-- ITS FALSE NEIGHBOUR: 'it returns false'. Refute it at one input. -/
def edgeUpperWrong : ChangeSpec := { name := "edgeUpper", fn := fun _ => fun
  | [d1, d2, d3, d4] => { results := [.lit (.bool false)], args := [d1, d2, d3, d4] }
  | _ => none }
def EdgeUpperWrongFalsely : Prop := edgeUpperRow.holds Tryd.pinned (OpenSpec.ofChange edgeUpperWrong)

/-- 'wherrykeep.ReplayMakes': WHATEVER THE INPUT: true; the input reads as it did. -/
def replayMakesSpec : ChangeSpec := { name := "replayMakes", fn := fun _ => fun
  | [d] => { results := [.lit (.bool true)], args := [d] }
  | _ => none }
def replayMakesRow : OpenClaim := { program := "ytnjhcnfnllojpaadoor", sum := "3224e0123cc2bb78231eb4f6f329671fe2023c91a883348a7e96bdc0b74086e6", func := "wherry/wherrykeep.ReplayMakes", spec := "replayMakes", inPlace := ["internal/abi.NoEscape"], unfollowed := true, recurses := true, named := ["unicode/utf8.first", "unicode/utf8.acceptRanges"], apart := false, laid := [("unicode/utf8.acceptRanges", laid_unicode_utf8_acceptRanges), ("unicode/utf8.first", laid_unicode_utf8_first)] }
def ReplayMakesSaid : Prop := replayMakesRow.holds Tryd.pinned (OpenSpec.ofChange replayMakesSpec)

/-- ITS FALSE NEIGHBOUR: 'it returns false'. Refute it at one input. -/
def replayMakesWrong : ChangeSpec := { name := "replayMakes", fn := fun _ => fun
  | [d] => { results := [.lit (.bool false)], args := [d] }
  | _ => none }
def ReplayMakesWrongFalsely : Prop := replayMakesRow.holds Tryd.pinned (OpenSpec.ofChange replayMakesWrong)

/-- 'wherrylaw.LinkSends': WHATEVER THE INPUT: true; the input reads as it did. -/
def linkSendsSpec : ChangeSpec := { name := "linkSends", fn := fun _ => fun
  | [d1, d2] => { results := [.lit (.bool true)], args := [d1, d2] }
  | _ => none }
def linkSendsRow : OpenClaim := { program := "ytnjhcnfnllojpaadoor", sum := "3224e0123cc2bb78231eb4f6f329671fe2023c91a883348a7e96bdc0b74086e6", func := "wherry/wherrylaw.LinkSends", spec := "linkSends", unfollowed := true, recurses := true, named := ["unicode/utf8.first", "unicode/utf8.acceptRanges"], apart := false, laid := [("unicode/utf8.acceptRanges", laid_unicode_utf8_acceptRanges), ("unicode/utf8.first", laid_unicode_utf8_first)] }
def LinkSendsSaid : Prop := linkSendsRow.holds Tryd.pinned (OpenSpec.ofChange linkSendsSpec)

/-- ITS FALSE NEIGHBOUR: 'it returns false'. Refute it at one input. -/
def linkSendsWrong : ChangeSpec := { name := "linkSends", fn := fun _ => fun
  | [d1, d2] => { results := [.lit (.bool false)], args := [d1, d2] }
  | _ => none }
def LinkSendsWrongFalsely : Prop := linkSendsRow.holds Tryd.pinned (OpenSpec.ofChange linkSendsWrong)

/-- 'wherrylaw.LinkHears': WHATEVER THE INPUT: true; the input reads as it did. -/
def linkHearsSpec : ChangeSpec := { name := "linkHears", fn := fun _ => fun
  | [d1, d2] => { results := [.lit (.bool true)], args := [d1, d2] }
  | _ => none }
def linkHearsRow : OpenClaim := { program := "ytnjhcnfnllojpaadoor", sum := "3224e0123cc2bb78231eb4f6f329671fe2023c91a883348a7e96bdc0b74086e6", func := "wherry/wherrylaw.LinkHears", spec := "linkHears", unfollowed := true, recurses := true, named := ["unicode/utf8.first", "unicode/utf8.acceptRanges"], apart := false, laid := [("unicode/utf8.acceptRanges", laid_unicode_utf8_acceptRanges), ("unicode/utf8.first", laid_unicode_utf8_first)] }
def LinkHearsSaid : Prop := linkHearsRow.holds Tryd.pinned (OpenSpec.ofChange linkHearsSpec)

/-- ITS FALSE NEIGHBOUR: 'it returns false'. Refute it at one input. -/
def linkHearsWrong : ChangeSpec := { name := "linkHears", fn := fun _ => fun
  | [d1, d2] => { results := [.lit (.bool false)], args := [d1, d2] }
  | _ => none }
def LinkHearsWrongFalsely : Prop := linkHearsRow.holds Tryd.pinned (OpenSpec.ofChange linkHearsWrong)

/-- 'wherrykeep.LinkOnce': WHATEVER THE INPUT: true; the input reads as it did. -/
def linkOnceSpec : ChangeSpec := { name := "linkOnce", fn := fun _ => fun
  | [d] => { results := [.lit (.bool true)], args := [d] }
  | _ => none }
def linkOnceRow : OpenClaim := { program := "ytnjhcnfnllojpaadoor", sum := "3224e0123cc2bb78231eb4f6f329671fe2023c91a883348a7e96bdc0b74086e6", func := "wherry/wherrykeep.LinkOnce", spec := "linkOnce", unfollowed := true, recurses := true, named := ["unicode/utf8.first", "unicode/utf8.acceptRanges"], apart := false, laid := [("unicode/utf8.acceptRanges", laid_unicode_utf8_acceptRanges), ("unicode/utf8.first", laid_unicode_utf8_first)] }
def LinkOnceSaid : Prop := linkOnceRow.holds Tryd.pinned (OpenSpec.ofChange linkOnceSpec)

/-- ITS FALSE NEIGHBOUR: 'it returns false'. Refute it at one input. -/
def linkOnceWrong : ChangeSpec := { name := "linkOnce", fn := fun _ => fun
  | [d] => { results := [.lit (.bool false)], args := [d] }
  | _ => none }
def LinkOnceWrongFalsely : Prop := linkOnceRow.holds Tryd.pinned (OpenSpec.ofChange linkOnceWrong)

/-- 'wherrykeep.LinkAll': WHATEVER THE INPUT: true; the input reads as it did. -/
def linkAllSpec : ChangeSpec := { name := "linkAll", fn := fun _ => fun
  | [d] => { results := [.lit (.bool true)], args := [d] }
  | _ => none }
def linkAllRow : OpenClaim := { program := "ytnjhcnfnllojpaadoor", sum := "3224e0123cc2bb78231eb4f6f329671fe2023c91a883348a7e96bdc0b74086e6", func := "wherry/wherrykeep.LinkAll", spec := "linkAll", unfollowed := true, recurses := true, named := ["unicode/utf8.first", "unicode/utf8.acceptRanges"], apart := false, laid := [("unicode/utf8.acceptRanges", laid_unicode_utf8_acceptRanges), ("unicode/utf8.first", laid_unicode_utf8_first)] }
def LinkAllSaid : Prop := linkAllRow.holds Tryd.pinned (OpenSpec.ofChange linkAllSpec)

/-- ITS FALSE NEIGHBOUR: 'it returns false'. Refute it at one input. -/
def linkAllWrong : ChangeSpec := { name := "linkAll", fn := fun _ => fun
  | [d] => { results := [.lit (.bool false)], args := [d] }
  | _ => none }
def LinkAllWrongFalsely : Prop := linkAllRow.holds Tryd.pinned (OpenSpec.ofChange linkAllWrong)

/-- 'wherrykeep.LinkWindow': WHATEVER THE INPUT: true; the input reads as it did. -/
def linkWindowSpec : ChangeSpec := { name := "linkWindow", fn := fun _ => fun
  | [d] => { results := [.lit (.bool true)], args := [d] }
  | _ => none }
def linkWindowRow : OpenClaim := { program := "ytnjhcnfnllojpaadoor", sum := "3224e0123cc2bb78231eb4f6f329671fe2023c91a883348a7e96bdc0b74086e6", func := "wherry/wherrykeep.LinkWindow", spec := "linkWindow", unfollowed := true, recurses := true, named := ["unicode/utf8.first", "unicode/utf8.acceptRanges"], apart := false, laid := [("unicode/utf8.acceptRanges", laid_unicode_utf8_acceptRanges), ("unicode/utf8.first", laid_unicode_utf8_first)] }
def LinkWindowSaid : Prop := linkWindowRow.holds Tryd.pinned (OpenSpec.ofChange linkWindowSpec)

/-- ITS FALSE NEIGHBOUR: 'it returns false'. Refute it at one input. -/
def linkWindowWrong : ChangeSpec := { name := "linkWindow", fn := fun _ => fun
  | [d] => { results := [.lit (.bool false)], args := [d] }
  | _ => none }
def LinkWindowWrongFalsely : Prop := linkWindowRow.holds Tryd.pinned (OpenSpec.ofChange linkWindowWrong)

/-- 'wherrykeep.LinkTwice': WHATEVER THE INPUT: true; the input reads as it did. -/
def linkTwiceSpec : ChangeSpec := { name := "linkTwice", fn := fun _ => fun
  | [d1, d2, d3] => { results := [.lit (.bool true)], args := [d1, d2, d3] }
  | _ => none }
def linkTwiceRow : OpenClaim := { program := "ytnjhcnfnllojpaadoor", sum := "3224e0123cc2bb78231eb4f6f329671fe2023c91a883348a7e96bdc0b74086e6", func := "wherry/wherrykeep.LinkTwice", spec := "linkTwice", unfollowed := true, recurses := true, named := ["unicode/utf8.first", "unicode/utf8.acceptRanges"], apart := false, laid := [("unicode/utf8.acceptRanges", laid_unicode_utf8_acceptRanges), ("unicode/utf8.first", laid_unicode_utf8_first)] }
def LinkTwiceSaid : Prop := linkTwiceRow.holds Tryd.pinned (OpenSpec.ofChange linkTwiceSpec)

/-- ITS FALSE NEIGHBOUR: 'it returns false'. Refute it at one input. -/
def linkTwiceWrong : ChangeSpec := { name := "linkTwice", fn := fun _ => fun
  | [d1, d2, d3] => { results := [.lit (.bool false)], args := [d1, d2, d3] }
  | _ => none }
def LinkTwiceWrongFalsely : Prop := linkTwiceRow.holds Tryd.pinned (OpenSpec.ofChange linkTwiceWrong)

/-- 'wherrykeep.LinkGap': WHATEVER THE INPUT: true; the input reads as it did. -/
def linkGapSpec : ChangeSpec := { name := "linkGap", fn := fun _ => fun
  | [d1, d2] => { results := [.lit (.bool true)], args := [d1, d2] }
  | _ => none }
def linkGapRow : OpenClaim := { program := "ytnjhcnfnllojpaadoor", sum := "3224e0123cc2bb78231eb4f6f329671fe2023c91a883348a7e96bdc0b74086e6", func := "wherry/wherrykeep.LinkGap", spec := "linkGap", unfollowed := true, recurses := true, named := ["unicode/utf8.first", "unicode/utf8.acceptRanges"], apart := false, laid := [("unicode/utf8.acceptRanges", laid_unicode_utf8_acceptRanges), ("unicode/utf8.first", laid_unicode_utf8_first)] }
def LinkGapSaid : Prop := linkGapRow.holds Tryd.pinned (OpenSpec.ofChange linkGapSpec)

/-- ITS FALSE NEIGHBOUR: 'it returns false'. Refute it at one input. -/
def linkGapWrong : ChangeSpec := { name := "linkGap", fn := fun _ => fun
  | [d1, d2] => { results := [.lit (.bool false)], args := [d1, d2] }
  | _ => none }
def LinkGapWrongFalsely : Prop := linkGapRow.holds Tryd.pinned (OpenSpec.ofChange linkGapWrong)

/-- 'wherrylaw.NodeChecks': WHATEVER THE INPUT: true; the input reads as it did. -/
def nodeChecksSpec : ChangeSpec := { name := "nodeChecks", fn := fun _ => fun
  | [d1, d2] => { results := [.lit (.bool true)], args := [d1, d2] }
  | _ => none }
def nodeChecksRow : OpenClaim := { program := "ytnjhcnfnllojpaadoor", sum := "3224e0123cc2bb78231eb4f6f329671fe2023c91a883348a7e96bdc0b74086e6", func := "wherry/wherrylaw.NodeChecks", spec := "nodeChecks", unfollowed := true, recurses := true, named := ["unicode/utf8.first", "unicode/utf8.acceptRanges"], apart := false, laid := [("unicode/utf8.acceptRanges", laid_unicode_utf8_acceptRanges), ("unicode/utf8.first", laid_unicode_utf8_first)] }
def NodeChecksSaid : Prop := nodeChecksRow.holds Tryd.pinned (OpenSpec.ofChange nodeChecksSpec)

/-- ITS FALSE NEIGHBOUR: 'it returns false'. Refute it at one input. -/
def nodeChecksWrong : ChangeSpec := { name := "nodeChecks", fn := fun _ => fun
  | [d1, d2] => { results := [.lit (.bool false)], args := [d1, d2] }
  | _ => none }
def NodeChecksWrongFalsely : Prop := nodeChecksRow.holds Tryd.pinned (OpenSpec.ofChange nodeChecksWrong)

/-- 'wherrylaw.NodeBegins': WHATEVER THE INPUT: true; the input reads as it did. -/
def nodeBeginsSpec : ChangeSpec := { name := "nodeBegins", fn := fun _ => fun
  | [d1, d2, d3, d4] => { results := [.lit (.bool true)], args := [d1, d2, d3, d4] }
  | _ => none }
def nodeBeginsRow : OpenClaim := { program := "ytnjhcnfnllojpaadoor", sum := "3224e0123cc2bb78231eb4f6f329671fe2023c91a883348a7e96bdc0b74086e6", func := "wherry/wherrylaw.NodeBegins", spec := "nodeBegins", unfollowed := true, recurses := true, named := ["unicode/utf8.first", "unicode/utf8.acceptRanges"], apart := false, laid := [("unicode/utf8.acceptRanges", laid_unicode_utf8_acceptRanges), ("unicode/utf8.first", laid_unicode_utf8_first)] }
def NodeBeginsSaid : Prop := nodeBeginsRow.holds Tryd.pinned (OpenSpec.ofChange nodeBeginsSpec)

/-- ITS FALSE NEIGHBOUR: 'it returns false'. Refute it at one input. -/
def nodeBeginsWrong : ChangeSpec := { name := "nodeBegins", fn := fun _ => fun
  | [d1, d2, d3, d4] => { results := [.lit (.bool false)], args := [d1, d2, d3, d4] }
  | _ => none }
def NodeBeginsWrongFalsely : Prop := nodeBeginsRow.holds Tryd.pinned (OpenSpec.ofChange nodeBeginsWrong)

/-- 'wherrylaw.NodeSelects': WHATEVER THE INPUT: true; the input reads as it did. -/
def nodeSelectsSpec : ChangeSpec := { name := "nodeSelects", fn := fun _ => fun
  | [d1, d2, d3] => { results := [.lit (.bool true)], args := [d1, d2, d3] }
  | _ => none }
def nodeSelectsRow : OpenClaim := { program := "ytnjhcnfnllojpaadoor", sum := "3224e0123cc2bb78231eb4f6f329671fe2023c91a883348a7e96bdc0b74086e6", func := "wherry/wherrylaw.NodeSelects", spec := "nodeSelects", unfollowed := true, recurses := true, named := ["unicode/utf8.first", "unicode/utf8.acceptRanges"], apart := false, laid := [("unicode/utf8.acceptRanges", laid_unicode_utf8_acceptRanges), ("unicode/utf8.first", laid_unicode_utf8_first)] }
def NodeSelectsSaid : Prop := nodeSelectsRow.holds Tryd.pinned (OpenSpec.ofChange nodeSelectsSpec)

/-- ITS FALSE NEIGHBOUR: 'it returns false'. Refute it at one input. -/
def nodeSelectsWrong : ChangeSpec := { name := "nodeSelects", fn := fun _ => fun
  | [d1, d2, d3] => { results := [.lit (.bool false)], args := [d1, d2, d3] }
  | _ => none }
def NodeSelectsWrongFalsely : Prop := nodeSelectsRow.holds Tryd.pinned (OpenSpec.ofChange nodeSelectsWrong)

/-- 'wherrylaw.NodeTicks': WHATEVER THE INPUT: true; the input reads as it did. -/
def nodeTicksSpec : ChangeSpec := { name := "nodeTicks", fn := fun _ => fun
  | [d1, d2] => { results := [.lit (.bool true)], args := [d1, d2] }
  | _ => none }
def nodeTicksRow : OpenClaim := { program := "ytnjhcnfnllojpaadoor", sum := "3224e0123cc2bb78231eb4f6f329671fe2023c91a883348a7e96bdc0b74086e6", func := "wherry/wherrylaw.NodeTicks", spec := "nodeTicks", unfollowed := true, recurses := true, named := ["unicode/utf8.first", "unicode/utf8.acceptRanges"], apart := false, laid := [("unicode/utf8.acceptRanges", laid_unicode_utf8_acceptRanges), ("unicode/utf8.first", laid_unicode_utf8_first)] }
def NodeTicksSaid : Prop := nodeTicksRow.holds Tryd.pinned (OpenSpec.ofChange nodeTicksSpec)

/-- ITS FALSE NEIGHBOUR: 'it returns false'. Refute it at one input. -/
def nodeTicksWrong : ChangeSpec := { name := "nodeTicks", fn := fun _ => fun
  | [d1, d2] => { results := [.lit (.bool false)], args := [d1, d2] }
  | _ => none }
def NodeTicksWrongFalsely : Prop := nodeTicksRow.holds Tryd.pinned (OpenSpec.ofChange nodeTicksWrong)

/-- 'wherrykeep.BeginJoins': WHATEVER THE INPUT: true; the input reads as it did. -/
def beginJoinsSpec : ChangeSpec := { name := "beginJoins", fn := fun _ => fun
  | [d1, d2, d3, d4] => { results := [.lit (.bool true)], args := [d1, d2, d3, d4] }
  | _ => none }
def beginJoinsRow : OpenClaim := { program := "ytnjhcnfnllojpaadoor", sum := "3224e0123cc2bb78231eb4f6f329671fe2023c91a883348a7e96bdc0b74086e6", func := "wherry/wherrykeep.BeginJoins", spec := "beginJoins", unfollowed := true, recurses := true, named := ["unicode/utf8.first", "unicode/utf8.acceptRanges"], apart := false, laid := [("unicode/utf8.acceptRanges", laid_unicode_utf8_acceptRanges), ("unicode/utf8.first", laid_unicode_utf8_first)] }
def BeginJoinsSaid : Prop := beginJoinsRow.holds Tryd.pinned (OpenSpec.ofChange beginJoinsSpec)

/-- ITS FALSE NEIGHBOUR: 'it returns false'. Refute it at one input. -/
def beginJoinsWrong : ChangeSpec := { name := "beginJoins", fn := fun _ => fun
  | [d1, d2, d3, d4] => { results := [.lit (.bool false)], args := [d1, d2, d3, d4] }
  | _ => none }
def BeginJoinsWrongFalsely : Prop := beginJoinsRow.holds Tryd.pinned (OpenSpec.ofChange beginJoinsWrong)

/-- 'wherrykeep.EditFull': WHATEVER THE INPUT: true; the input reads as it did. -/
def editFullSpec : ChangeSpec := { name := "editFull", fn := fun _ => fun
  | [d1, d2, d3] => { results := [.lit (.bool true)], args := [d1, d2, d3] }
  | _ => none }
def editFullRow : OpenClaim := { program := "ytnjhcnfnllojpaadoor", sum := "3224e0123cc2bb78231eb4f6f329671fe2023c91a883348a7e96bdc0b74086e6", func := "wherry/wherrykeep.EditFull", spec := "editFull", inPlace := ["internal/abi.NoEscape"], unfollowed := true, recurses := true, named := ["unicode/utf8.first", "unicode/utf8.acceptRanges"], apart := false, laid := [("unicode/utf8.acceptRanges", laid_unicode_utf8_acceptRanges), ("unicode/utf8.first", laid_unicode_utf8_first)] }
def EditFullSaid : Prop := editFullRow.holds Tryd.pinned (OpenSpec.ofChange editFullSpec)

/-- ITS FALSE NEIGHBOUR: 'it returns false'. Refute it at one input. -/
def editFullWrong : ChangeSpec := { name := "editFull", fn := fun _ => fun
  | [d1, d2, d3] => { results := [.lit (.bool false)], args := [d1, d2, d3] }
  | _ => none }
def EditFullWrongFalsely : Prop := editFullRow.holds Tryd.pinned (OpenSpec.ofChange editFullWrong)

/-- 'wherrykeep.BeginBad': WHATEVER THE INPUT: true; the input reads as it did. -/
def beginBadSpec : ChangeSpec := { name := "beginBad", fn := fun _ => fun
  | [d1, d2, d3] => { results := [.lit (.bool true)], args := [d1, d2, d3] }
  | _ => none }
def beginBadRow : OpenClaim := { program := "ytnjhcnfnllojpaadoor", sum := "3224e0123cc2bb78231eb4f6f329671fe2023c91a883348a7e96bdc0b74086e6", func := "wherry/wherrykeep.BeginBad", spec := "beginBad", unfollowed := true, recurses := true, named := ["unicode/utf8.first", "unicode/utf8.acceptRanges"], apart := false, laid := [("unicode/utf8.acceptRanges", laid_unicode_utf8_acceptRanges), ("unicode/utf8.first", laid_unicode_utf8_first)] }
def BeginBadSaid : Prop := beginBadRow.holds Tryd.pinned (OpenSpec.ofChange beginBadSpec)

/-- ITS FALSE NEIGHBOUR: 'it returns false'. Refute it at one input. -/
def beginBadWrong : ChangeSpec := { name := "beginBad", fn := fun _ => fun
  | [d1, d2, d3] => { results := [.lit (.bool false)], args := [d1, d2, d3] }
  | _ => none }
def BeginBadWrongFalsely : Prop := beginBadRow.holds Tryd.pinned (OpenSpec.ofChange beginBadWrong)

/- THE SECOND FORM. 'bulk': how many values and letters a reading holds, each counted each time it is reached (what is shared counts as often as it is met; a slice's spare places count too). A statement '..UptoSaid' is the law's where the arguments, and the package variables that the reading takes, are together of bulk at most 1048576: NARROWER than '..Said'. Prove '..Said' where nothing that the law and all that it calls make is longer than what came in: it says more and counts as full. Else prove '..UptoSaid'. A law counts once. -/
mutual
def uptoBulk {H : Type} : DataW H → Nat
  | .lit (.string bytes) => bytes.length + 1
  | .lit _ => 1
  | .nil => 1
  | .ptr d => uptoBulk d + 1
  | .slice elems spare => uptoBulkAll elems + uptoBulkAll spare + 1
  | .agg parts => uptoBulkAll parts + 1
  | .iface _ d => uptoBulk d + 1
  | .map entries => uptoBulkEntries entries + 1
  | .held _ => 1
def uptoBulkAll {H : Type} : List (DataW H) → Nat
  | [] => 0
  | d :: r => uptoBulk d + uptoBulkAll r
def uptoBulkEntries {H : Type} : List (Lit × DataW H) → Nat
  | [] => 0
  | x :: r => uptoBulkEntry x + uptoBulkEntries r
def uptoBulkEntry {H : Type} : Lit × DataW H → Nat
  | (.string bytes, d) => bytes.length + uptoBulk d + 1
  | (_, d) => uptoBulk d + 1
 end
def uptoSmall : (H : Type) → List (DataW H) → Bool := fun _ ds => decide (uptoBulkAll ds ≤ 1048576)
def OpenSpec.upto (s : _root_.Go.ChangeSpec) : _root_.Go.OpenSpec := { _root_.Go.OpenSpec.ofChange s with cond := some uptoSmall }

/-- 'wherrykeep.MoveRest', WHERE WHAT IT READS IS OF BULK AT MOST 1048576: true; the input reads as it did. -/
def moveRestUptoRow : OpenClaim := { program := "ytnjhcnfnllojpaadoor", sum := "3224e0123cc2bb78231eb4f6f329671fe2023c91a883348a7e96bdc0b74086e6", func := "wherry/wherrykeep.MoveRest", spec := "moveRest", inPlace := ["internal/abi.NoEscape"], unfollowed := true, recurses := true, named := ["unicode/utf8.first", "unicode/utf8.acceptRanges"], apart := false, laid := [("unicode/utf8.acceptRanges", laid_unicode_utf8_acceptRanges), ("unicode/utf8.first", laid_unicode_utf8_first)], narrowed := true }
def MoveRestUptoSaid : Prop := moveRestUptoRow.holds Tryd.pinned (OpenSpec.upto moveRestSpec)

/-- 'wherrykeep.EdgeMeets', WHERE WHAT IT READS IS OF BULK AT MOST 1048576: true; the input reads as it did. -/
def edgeMeetsUptoRow : OpenClaim := { program := "ytnjhcnfnllojpaadoor", sum := "3224e0123cc2bb78231eb4f6f329671fe2023c91a883348a7e96bdc0b74086e6", func := "wherry/wherrykeep.EdgeMeets", spec := "edgeMeets", inPlace := ["internal/abi.NoEscape"], unfollowed := true, recurses := true, named := ["unicode/utf8.first", "unicode/utf8.acceptRanges"], apart := false, laid := [("unicode/utf8.acceptRanges", laid_unicode_utf8_acceptRanges), ("unicode/utf8.first", laid_unicode_utf8_first)], narrowed := true }
def EdgeMeetsUptoSaid : Prop := edgeMeetsUptoRow.holds Tryd.pinned (OpenSpec.upto edgeMeetsSpec)

/-- 'wherrykeep.EdgeKnown', WHERE WHAT IT READS IS OF BULK AT MOST 1048576: true; the input reads as it did. -/
def edgeKnownUptoRow : OpenClaim := { program := "ytnjhcnfnllojpaadoor", sum := "3224e0123cc2bb78231eb4f6f329671fe2023c91a883348a7e96bdc0b74086e6", func := "wherry/wherrykeep.EdgeKnown", spec := "edgeKnown", recurses := true, named := ["unicode/utf8.first", "unicode/utf8.acceptRanges"], apart := false, laid := [("unicode/utf8.acceptRanges", laid_unicode_utf8_acceptRanges), ("unicode/utf8.first", laid_unicode_utf8_first)], narrowed := true }
def EdgeKnownUptoSaid : Prop := edgeKnownUptoRow.holds Tryd.pinned (OpenSpec.upto edgeKnownSpec)

/-- 'wherrykeep.EdgeUpper', WHERE WHAT IT READS IS OF BULK AT MOST 1048576: true; the input reads as it did. -/
def edgeUpperUptoRow : OpenClaim := { program := "ytnjhcnfnllojpaadoor", sum := "3224e0123cc2bb78231eb4f6f329671fe2023c91a883348a7e96bdc0b74086e6", func := "wherry/wherrykeep.EdgeUpper", spec := "edgeUpper", inPlace := ["internal/abi.NoEscape"], recurses := true, named := ["unicode/utf8.first", "unicode/utf8.acceptRanges"], apart := false, laid := [("unicode/utf8.acceptRanges", laid_unicode_utf8_acceptRanges), ("unicode/utf8.first", laid_unicode_utf8_first)], narrowed := true }
def EdgeUpperUptoSaid : Prop := edgeUpperUptoRow.holds Tryd.pinned (OpenSpec.upto edgeUpperSpec)

/-- 'wherrykeep.ReplayMakes', WHERE WHAT IT READS IS OF BULK AT MOST 1048576: true; the input reads as it did. -/
def replayMakesUptoRow : OpenClaim := { program := "ytnjhcnfnllojpaadoor", sum := "3224e0123cc2bb78231eb4f6f329671fe2023c91a883348a7e96bdc0b74086e6", func := "wherry/wherrykeep.ReplayMakes", spec := "replayMakes", inPlace := ["internal/abi.NoEscape"], unfollowed := true, recurses := true, named := ["unicode/utf8.first", "unicode/utf8.acceptRanges"], apart := false, laid := [("unicode/utf8.acceptRanges", laid_unicode_utf8_acceptRanges), ("unicode/utf8.first", laid_unicode_utf8_first)], narrowed := true }
def ReplayMakesUptoSaid : Prop := replayMakesUptoRow.holds Tryd.pinned (OpenSpec.upto replayMakesSpec)

/-- 'wherrylaw.LinkSends', WHERE WHAT IT READS IS OF BULK AT MOST 1048576: true; the input reads as it did. -/
def linkSendsUptoRow : OpenClaim := { program := "ytnjhcnfnllojpaadoor", sum := "3224e0123cc2bb78231eb4f6f329671fe2023c91a883348a7e96bdc0b74086e6", func := "wherry/wherrylaw.LinkSends", spec := "linkSends", unfollowed := true, recurses := true, named := ["unicode/utf8.first", "unicode/utf8.acceptRanges"], apart := false, laid := [("unicode/utf8.acceptRanges", laid_unicode_utf8_acceptRanges), ("unicode/utf8.first", laid_unicode_utf8_first)], narrowed := true }
def LinkSendsUptoSaid : Prop := linkSendsUptoRow.holds Tryd.pinned (OpenSpec.upto linkSendsSpec)

/-- 'wherrylaw.LinkHears', WHERE WHAT IT READS IS OF BULK AT MOST 1048576: true; the input reads as it did. -/
def linkHearsUptoRow : OpenClaim := { program := "ytnjhcnfnllojpaadoor", sum := "3224e0123cc2bb78231eb4f6f329671fe2023c91a883348a7e96bdc0b74086e6", func := "wherry/wherrylaw.LinkHears", spec := "linkHears", unfollowed := true, recurses := true, named := ["unicode/utf8.first", "unicode/utf8.acceptRanges"], apart := false, laid := [("unicode/utf8.acceptRanges", laid_unicode_utf8_acceptRanges), ("unicode/utf8.first", laid_unicode_utf8_first)], narrowed := true }
def LinkHearsUptoSaid : Prop := linkHearsUptoRow.holds Tryd.pinned (OpenSpec.upto linkHearsSpec)

/-- 'wherrykeep.LinkOnce', WHERE WHAT IT READS IS OF BULK AT MOST 1048576: true; the input reads as it did. -/
def linkOnceUptoRow : OpenClaim := { program := "ytnjhcnfnllojpaadoor", sum := "3224e0123cc2bb78231eb4f6f329671fe2023c91a883348a7e96bdc0b74086e6", func := "wherry/wherrykeep.LinkOnce", spec := "linkOnce", unfollowed := true, recurses := true, named := ["unicode/utf8.first", "unicode/utf8.acceptRanges"], apart := false, laid := [("unicode/utf8.acceptRanges", laid_unicode_utf8_acceptRanges), ("unicode/utf8.first", laid_unicode_utf8_first)], narrowed := true }
def LinkOnceUptoSaid : Prop := linkOnceUptoRow.holds Tryd.pinned (OpenSpec.upto linkOnceSpec)

/-- 'wherrykeep.LinkAll', WHERE WHAT IT READS IS OF BULK AT MOST 1048576: true; the input reads as it did. -/
def linkAllUptoRow : OpenClaim := { program := "ytnjhcnfnllojpaadoor", sum := "3224e0123cc2bb78231eb4f6f329671fe2023c91a883348a7e96bdc0b74086e6", func := "wherry/wherrykeep.LinkAll", spec := "linkAll", unfollowed := true, recurses := true, named := ["unicode/utf8.first", "unicode/utf8.acceptRanges"], apart := false, laid := [("unicode/utf8.acceptRanges", laid_unicode_utf8_acceptRanges), ("unicode/utf8.first", laid_unicode_utf8_first)], narrowed := true }
def LinkAllUptoSaid : Prop := linkAllUptoRow.holds Tryd.pinned (OpenSpec.upto linkAllSpec)

/-- 'wherrykeep.LinkWindow', WHERE WHAT IT READS IS OF BULK AT MOST 1048576: true; the input reads as it did. -/
def linkWindowUptoRow : OpenClaim := { program := "ytnjhcnfnllojpaadoor", sum := "3224e0123cc2bb78231eb4f6f329671fe2023c91a883348a7e96bdc0b74086e6", func := "wherry/wherrykeep.LinkWindow", spec := "linkWindow", unfollowed := true, recurses := true, named := ["unicode/utf8.first", "unicode/utf8.acceptRanges"], apart := false, laid := [("unicode/utf8.acceptRanges", laid_unicode_utf8_acceptRanges), ("unicode/utf8.first", laid_unicode_utf8_first)], narrowed := true }
def LinkWindowUptoSaid : Prop := linkWindowUptoRow.holds Tryd.pinned (OpenSpec.upto linkWindowSpec)

/-- 'wherrykeep.LinkTwice', WHERE WHAT IT READS IS OF BULK AT MOST 1048576: true; the input reads as it did. -/
def linkTwiceUptoRow : OpenClaim := { program := "ytnjhcnfnllojpaadoor", sum := "3224e0123cc2bb78231eb4f6f329671fe2023c91a883348a7e96bdc0b74086e6", func := "wherry/wherrykeep.LinkTwice", spec := "linkTwice", unfollowed := true, recurses := true, named := ["unicode/utf8.first", "unicode/utf8.acceptRanges"], apart := false, laid := [("unicode/utf8.acceptRanges", laid_unicode_utf8_acceptRanges), ("unicode/utf8.first", laid_unicode_utf8_first)], narrowed := true }
def LinkTwiceUptoSaid : Prop := linkTwiceUptoRow.holds Tryd.pinned (OpenSpec.upto linkTwiceSpec)

/-- 'wherrykeep.LinkGap', WHERE WHAT IT READS IS OF BULK AT MOST 1048576: true; the input reads as it did. -/
def linkGapUptoRow : OpenClaim := { program := "ytnjhcnfnllojpaadoor", sum := "3224e0123cc2bb78231eb4f6f329671fe2023c91a883348a7e96bdc0b74086e6", func := "wherry/wherrykeep.LinkGap", spec := "linkGap", unfollowed := true, recurses := true, named := ["unicode/utf8.first", "unicode/utf8.acceptRanges"], apart := false, laid := [("unicode/utf8.acceptRanges", laid_unicode_utf8_acceptRanges), ("unicode/utf8.first", laid_unicode_utf8_first)], narrowed := true }
def LinkGapUptoSaid : Prop := linkGapUptoRow.holds Tryd.pinned (OpenSpec.upto linkGapSpec)

/-- 'wherrylaw.NodeChecks', WHERE WHAT IT READS IS OF BULK AT MOST 1048576: true; the input reads as it did. -/
def nodeChecksUptoRow : OpenClaim := { program := "ytnjhcnfnllojpaadoor", sum := "3224e0123cc2bb78231eb4f6f329671fe2023c91a883348a7e96bdc0b74086e6", func := "wherry/wherrylaw.NodeChecks", spec := "nodeChecks", unfollowed := true, recurses := true, named := ["unicode/utf8.first", "unicode/utf8.acceptRanges"], apart := false, laid := [("unicode/utf8.acceptRanges", laid_unicode_utf8_acceptRanges), ("unicode/utf8.first", laid_unicode_utf8_first)], narrowed := true }
def NodeChecksUptoSaid : Prop := nodeChecksUptoRow.holds Tryd.pinned (OpenSpec.upto nodeChecksSpec)

/-- 'wherrylaw.NodeBegins', WHERE WHAT IT READS IS OF BULK AT MOST 1048576: true; the input reads as it did. -/
def nodeBeginsUptoRow : OpenClaim := { program := "ytnjhcnfnllojpaadoor", sum := "3224e0123cc2bb78231eb4f6f329671fe2023c91a883348a7e96bdc0b74086e6", func := "wherry/wherrylaw.NodeBegins", spec := "nodeBegins", unfollowed := true, recurses := true, named := ["unicode/utf8.first", "unicode/utf8.acceptRanges"], apart := false, laid := [("unicode/utf8.acceptRanges", laid_unicode_utf8_acceptRanges), ("unicode/utf8.first", laid_unicode_utf8_first)], narrowed := true }
def NodeBeginsUptoSaid : Prop := nodeBeginsUptoRow.holds Tryd.pinned (OpenSpec.upto nodeBeginsSpec)

/-- 'wherrylaw.NodeSelects', WHERE WHAT IT READS IS OF BULK AT MOST 1048576: true; the input reads as it did. -/
def nodeSelectsUptoRow : OpenClaim := { program := "ytnjhcnfnllojpaadoor", sum := "3224e0123cc2bb78231eb4f6f329671fe2023c91a883348a7e96bdc0b74086e6", func := "wherry/wherrylaw.NodeSelects", spec := "nodeSelects", unfollowed := true, recurses := true, named := ["unicode/utf8.first", "unicode/utf8.acceptRanges"], apart := false, laid := [("unicode/utf8.acceptRanges", laid_unicode_utf8_acceptRanges), ("unicode/utf8.first", laid_unicode_utf8_first)], narrowed := true }
def NodeSelectsUptoSaid : Prop := nodeSelectsUptoRow.holds Tryd.pinned (OpenSpec.upto nodeSelectsSpec)

/-- 'wherrylaw.NodeTicks', WHERE WHAT IT READS IS OF BULK AT MOST 1048576: true; the input reads as it did. -/
def nodeTicksUptoRow : OpenClaim := { program := "ytnjhcnfnllojpaadoor", sum := "3224e0123cc2bb78231eb4f6f329671fe2023c91a883348a7e96bdc0b74086e6", func := "wherry/wherrylaw.NodeTicks", spec := "nodeTicks", unfollowed := true, recurses := true, named := ["unicode/utf8.first", "unicode/utf8.acceptRanges"], apart := false, laid := [("unicode/utf8.acceptRanges", laid_unicode_utf8_acceptRanges), ("unicode/utf8.first", laid_unicode_utf8_first)], narrowed := true }
def NodeTicksUptoSaid : Prop := nodeTicksUptoRow.holds Tryd.pinned (OpenSpec.upto nodeTicksSpec)

/-- 'wherrykeep.BeginJoins', WHERE WHAT IT READS IS OF BULK AT MOST 1048576: true; the input reads as it did. -/
def beginJoinsUptoRow : OpenClaim := { program := "ytnjhcnfnllojpaadoor", sum := "3224e0123cc2bb78231eb4f6f329671fe2023c91a883348a7e96bdc0b74086e6", func := "wherry/wherrykeep.BeginJoins", spec := "beginJoins", unfollowed := true, recurses := true, named := ["unicode/utf8.first", "unicode/utf8.acceptRanges"], apart := false, laid := [("unicode/utf8.acceptRanges", laid_unicode_utf8_acceptRanges), ("unicode/utf8.first", laid_unicode_utf8_first)], narrowed := true }
def BeginJoinsUptoSaid : Prop := beginJoinsUptoRow.holds Tryd.pinned (OpenSpec.upto beginJoinsSpec)

/-- 'wherrykeep.EditFull', WHERE WHAT IT READS IS OF BULK AT MOST 1048576: true; the input reads as it did. -/
def editFullUptoRow : OpenClaim := { program := "ytnjhcnfnllojpaadoor", sum := "3224e0123cc2bb78231eb4f6f329671fe2023c91a883348a7e96bdc0b74086e6", func := "wherry/wherrykeep.EditFull", spec := "editFull", inPlace := ["internal/abi.NoEscape"], unfollowed := true, recurses := true, named := ["unicode/utf8.first", "unicode/utf8.acceptRanges"], apart := false, laid := [("unicode/utf8.acceptRanges", laid_unicode_utf8_acceptRanges), ("unicode/utf8.first", laid_unicode_utf8_first)], narrowed := true }
def EditFullUptoSaid : Prop := editFullUptoRow.holds Tryd.pinned (OpenSpec.upto editFullSpec)

/-- 'wherrykeep.BeginBad', WHERE WHAT IT READS IS OF BULK AT MOST 1048576: true; the input reads as it did. -/
def beginBadUptoRow : OpenClaim := { program := "ytnjhcnfnllojpaadoor", sum := "3224e0123cc2bb78231eb4f6f329671fe2023c91a883348a7e96bdc0b74086e6", func := "wherry/wherrykeep.BeginBad", spec := "beginBad", unfollowed := true, recurses := true, named := ["unicode/utf8.first", "unicode/utf8.acceptRanges"], apart := false, laid := [("unicode/utf8.acceptRanges", laid_unicode_utf8_acceptRanges), ("unicode/utf8.first", laid_unicode_utf8_first)], narrowed := true }
def BeginBadUptoSaid : Prop := beginBadUptoRow.holds Tryd.pinned (OpenSpec.upto beginBadSpec)

end Rows
end Go.Proofs.YtnjhcnfnllojpaaDoor
