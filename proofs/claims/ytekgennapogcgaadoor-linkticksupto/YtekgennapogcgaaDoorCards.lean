/-
  DERIVED. GIVEN WITH THE SEED: THE CARDS: each row of YtekgennapogcgaaDoorRows.lean that lists a variable, with what it lists TIED to the program's text (the seventh form; the later family's looks); each row that meets fmt, with fmt's text TOLD by the authors' own Lean function (tested against real Go, not proved from fmt's source: count such statements apart). THE CARD IS WHAT COUNTS. Prove the row's statement (the work); the ties are given (YtekgennapogcgaaDoorTie.lean); close each card by the builder's one call (the guide's Derived/Test/ToyasCard.lean, 'card_holds'). Laid BY PROGRAM, IN A SANDBOX (cutbox-door.mjs). By AI agents, Wed Nov 11 2026. No macro, syntax, notation, axiom, sorry.
-/
import Derived.Test.YtekgennapogcgaaDoorRows
import GoSem.ClaimSeven
namespace Go.Proofs.YtekgennapogcgaaDoor
namespace Rows

/-- THE TIED CARD OF 'wherrykeep.MoveRest'. -/
def moveRestCard : Claim7 := { stood := { row := moveRestRow, standIns := [], harness := (true, "ae59de7f78b4a4a648fc865add26a1d33716b2cb692f4e2951a7945df736c82d"), looks := false }, kinds := [], alts := [], laidByText := true, laidKinds := [.data, .pinned], laidTests := true, laidLooks := .later }
def MoveRestCardSaid : Prop := Claim7.holds Tryd.pinned (.plain (OpenSpec.ofChange moveRestSpec)) moveRestCard

/-- THE TIED CARD OF 'wherrykeep.EdgeMeets'. -/
def edgeMeetsCard : Claim7 := { stood := { row := edgeMeetsRow, standIns := [], harness := (true, "ae59de7f78b4a4a648fc865add26a1d33716b2cb692f4e2951a7945df736c82d"), looks := false }, kinds := [], alts := [], laidByText := true, laidKinds := [.data, .pinned], laidTests := true, laidLooks := .later }
def EdgeMeetsCardSaid : Prop := Claim7.holds Tryd.pinned (.plain (OpenSpec.ofChange edgeMeetsSpec)) edgeMeetsCard

/-- THE TIED CARD OF 'wherrykeep.EdgeKnown'. -/
def edgeKnownCard : Claim7 := { stood := { row := edgeKnownRow, standIns := [], harness := (true, "ae59de7f78b4a4a648fc865add26a1d33716b2cb692f4e2951a7945df736c82d"), looks := false }, kinds := [], alts := [], laidByText := true, laidKinds := [.data, .pinned], laidTests := true, laidLooks := .later }
def EdgeKnownCardSaid : Prop := Claim7.holds Tryd.pinned (.plain (OpenSpec.ofChange edgeKnownSpec)) edgeKnownCard

/-- THE TIED CARD OF 'wherrykeep.EdgeUpper'. -/
def edgeUpperCard : Claim7 := { stood := { row := edgeUpperRow, standIns := [], harness := (true, "ae59de7f78b4a4a648fc865add26a1d33716b2cb692f4e2951a7945df736c82d"), looks := false }, kinds := [], alts := [], laidByText := true, laidKinds := [.data, .pinned], laidTests := true, laidLooks := .later }
def EdgeUpperCardSaid : Prop := Claim7.holds Tryd.pinned (.plain (OpenSpec.ofChange edgeUpperSpec)) edgeUpperCard

/-- THE TIED CARD OF 'wherrykeep.ReplayMakes'. -/
def replayMakesCard : Claim7 := { stood := { row := replayMakesRow, standIns := [], harness := (true, "ae59de7f78b4a4a648fc865add26a1d33716b2cb692f4e2951a7945df736c82d"), looks := false }, kinds := [], alts := [], laidByText := true, laidKinds := [.data, .pinned], laidTests := true, laidLooks := .later }
def ReplayMakesCardSaid : Prop := Claim7.holds Tryd.pinned (.plain (OpenSpec.ofChange replayMakesSpec)) replayMakesCard

/-- THE TIED CARD OF 'wherrylaw.LinkChecks'. -/
def linkChecksCard : Claim7 := { stood := { row := linkChecksRow, standIns := [], harness := (true, "ae59de7f78b4a4a648fc865add26a1d33716b2cb692f4e2951a7945df736c82d"), looks := false }, kinds := [], alts := [], laidByText := true, laidKinds := [.data, .pinned], laidTests := true, laidLooks := .later }
def LinkChecksCardSaid : Prop := Claim7.holds Tryd.pinned (.plain (OpenSpec.ofChange linkChecksSpec)) linkChecksCard

/-- THE TIED CARD OF 'wherrylaw.LinkSends'. -/
def linkSendsCard : Claim7 := { stood := { row := linkSendsRow, standIns := [], harness := (true, "ae59de7f78b4a4a648fc865add26a1d33716b2cb692f4e2951a7945df736c82d"), looks := false }, kinds := [], alts := [], laidByText := true, laidKinds := [.data, .pinned], laidTests := true, laidLooks := .later }
def LinkSendsCardSaid : Prop := Claim7.holds Tryd.pinned (.plain (OpenSpec.ofChange linkSendsSpec)) linkSendsCard

/-- THE TIED CARD OF 'wherrylaw.LinkHears'. -/
def linkHearsCard : Claim7 := { stood := { row := linkHearsRow, standIns := [], harness := (true, "ae59de7f78b4a4a648fc865add26a1d33716b2cb692f4e2951a7945df736c82d"), looks := false }, kinds := [], alts := [], laidByText := true, laidKinds := [.data, .pinned], laidTests := true, laidLooks := .later }
def LinkHearsCardSaid : Prop := Claim7.holds Tryd.pinned (.plain (OpenSpec.ofChange linkHearsSpec)) linkHearsCard

/-- THE TIED CARD OF 'wherrylaw.LinkTicks'. -/
def linkTicksCard : Claim7 := { stood := { row := linkTicksRow, standIns := [], harness := (true, "ae59de7f78b4a4a648fc865add26a1d33716b2cb692f4e2951a7945df736c82d"), looks := false }, kinds := [], alts := [], laidByText := true, laidKinds := [.data, .pinned], laidTests := true, laidLooks := .later }
def LinkTicksCardSaid : Prop := Claim7.holds Tryd.pinned (.plain (OpenSpec.ofChange linkTicksSpec)) linkTicksCard

/-- THE TIED CARD OF 'wherrykeep.LinkOnce'. -/
def linkOnceCard : Claim7 := { stood := { row := linkOnceRow, standIns := [], harness := (true, "ae59de7f78b4a4a648fc865add26a1d33716b2cb692f4e2951a7945df736c82d"), looks := false }, kinds := [], alts := [], laidByText := true, laidKinds := [.data, .pinned], laidTests := true, laidLooks := .later }
def LinkOnceCardSaid : Prop := Claim7.holds Tryd.pinned (.plain (OpenSpec.ofChange linkOnceSpec)) linkOnceCard

/-- THE TIED CARD OF 'wherrykeep.LinkAll'. -/
def linkAllCard : Claim7 := { stood := { row := linkAllRow, standIns := [], harness := (true, "ae59de7f78b4a4a648fc865add26a1d33716b2cb692f4e2951a7945df736c82d"), looks := false }, kinds := [], alts := [], laidByText := true, laidKinds := [.data, .pinned], laidTests := true, laidLooks := .later }
def LinkAllCardSaid : Prop := Claim7.holds Tryd.pinned (.plain (OpenSpec.ofChange linkAllSpec)) linkAllCard

/-- THE TIED CARD OF 'wherrykeep.LinkWindow'. -/
def linkWindowCard : Claim7 := { stood := { row := linkWindowRow, standIns := [], harness := (true, "ae59de7f78b4a4a648fc865add26a1d33716b2cb692f4e2951a7945df736c82d"), looks := false }, kinds := [], alts := [], laidByText := true, laidKinds := [.data, .pinned], laidTests := true, laidLooks := .later }
def LinkWindowCardSaid : Prop := Claim7.holds Tryd.pinned (.plain (OpenSpec.ofChange linkWindowSpec)) linkWindowCard

/-- THE TIED CARD OF 'wherrykeep.LinkAway'. -/
def linkAwayCard : Claim7 := { stood := { row := linkAwayRow, standIns := [], harness := (true, "ae59de7f78b4a4a648fc865add26a1d33716b2cb692f4e2951a7945df736c82d"), looks := false }, kinds := [], alts := [], laidByText := true, laidKinds := [.data, .pinned], laidTests := true, laidLooks := .later }
def LinkAwayCardSaid : Prop := Claim7.holds Tryd.pinned (.plain (OpenSpec.ofChange linkAwaySpec)) linkAwayCard

/-- THE TIED CARD OF 'wherrykeep.LinkTwice'. -/
def linkTwiceCard : Claim7 := { stood := { row := linkTwiceRow, standIns := [], harness := (true, "ae59de7f78b4a4a648fc865add26a1d33716b2cb692f4e2951a7945df736c82d"), looks := false }, kinds := [], alts := [], laidByText := true, laidKinds := [.data, .pinned], laidTests := true, laidLooks := .later }
def LinkTwiceCardSaid : Prop := Claim7.holds Tryd.pinned (.plain (OpenSpec.ofChange linkTwiceSpec)) linkTwiceCard

/-- THE TIED CARD OF 'wherrykeep.LinkGap'. -/
def linkGapCard : Claim7 := { stood := { row := linkGapRow, standIns := [], harness := (true, "ae59de7f78b4a4a648fc865add26a1d33716b2cb692f4e2951a7945df736c82d"), looks := false }, kinds := [], alts := [], laidByText := true, laidKinds := [.data, .pinned], laidTests := true, laidLooks := .later }
def LinkGapCardSaid : Prop := Claim7.holds Tryd.pinned (.plain (OpenSpec.ofChange linkGapSpec)) linkGapCard

/-- THE TIED CARD OF 'wherrykeep.LinkAcks'. -/
def linkAcksCard : Claim7 := { stood := { row := linkAcksRow, standIns := [], harness := (true, "ae59de7f78b4a4a648fc865add26a1d33716b2cb692f4e2951a7945df736c82d"), looks := false }, kinds := [], alts := [], laidByText := true, laidKinds := [.data, .pinned], laidTests := true, laidLooks := .later }
def LinkAcksCardSaid : Prop := Claim7.holds Tryd.pinned (.plain (OpenSpec.ofChange linkAcksSpec)) linkAcksCard

/-- THE SECOND FORM's CARD OF 'wherrykeep.MoveRest'. -/
def moveRestUptoCard : Claim7 := { stood := { row := moveRestUptoRow, standIns := [], harness := (true, "ae59de7f78b4a4a648fc865add26a1d33716b2cb692f4e2951a7945df736c82d"), looks := false }, kinds := [], alts := [], laidByText := true, laidKinds := [.data, .pinned], laidTests := true, laidLooks := .later }
def MoveRestUptoCardSaid : Prop := Claim7.holds Tryd.pinned (.plain (OpenSpec.upto moveRestSpec)) moveRestUptoCard

/-- THE SECOND FORM's CARD OF 'wherrykeep.EdgeMeets'. -/
def edgeMeetsUptoCard : Claim7 := { stood := { row := edgeMeetsUptoRow, standIns := [], harness := (true, "ae59de7f78b4a4a648fc865add26a1d33716b2cb692f4e2951a7945df736c82d"), looks := false }, kinds := [], alts := [], laidByText := true, laidKinds := [.data, .pinned], laidTests := true, laidLooks := .later }
def EdgeMeetsUptoCardSaid : Prop := Claim7.holds Tryd.pinned (.plain (OpenSpec.upto edgeMeetsSpec)) edgeMeetsUptoCard

/-- THE SECOND FORM's CARD OF 'wherrykeep.EdgeKnown'. -/
def edgeKnownUptoCard : Claim7 := { stood := { row := edgeKnownUptoRow, standIns := [], harness := (true, "ae59de7f78b4a4a648fc865add26a1d33716b2cb692f4e2951a7945df736c82d"), looks := false }, kinds := [], alts := [], laidByText := true, laidKinds := [.data, .pinned], laidTests := true, laidLooks := .later }
def EdgeKnownUptoCardSaid : Prop := Claim7.holds Tryd.pinned (.plain (OpenSpec.upto edgeKnownSpec)) edgeKnownUptoCard

/-- THE SECOND FORM's CARD OF 'wherrykeep.EdgeUpper'. -/
def edgeUpperUptoCard : Claim7 := { stood := { row := edgeUpperUptoRow, standIns := [], harness := (true, "ae59de7f78b4a4a648fc865add26a1d33716b2cb692f4e2951a7945df736c82d"), looks := false }, kinds := [], alts := [], laidByText := true, laidKinds := [.data, .pinned], laidTests := true, laidLooks := .later }
def EdgeUpperUptoCardSaid : Prop := Claim7.holds Tryd.pinned (.plain (OpenSpec.upto edgeUpperSpec)) edgeUpperUptoCard

/-- THE SECOND FORM's CARD OF 'wherrykeep.ReplayMakes'. -/
def replayMakesUptoCard : Claim7 := { stood := { row := replayMakesUptoRow, standIns := [], harness := (true, "ae59de7f78b4a4a648fc865add26a1d33716b2cb692f4e2951a7945df736c82d"), looks := false }, kinds := [], alts := [], laidByText := true, laidKinds := [.data, .pinned], laidTests := true, laidLooks := .later }
def ReplayMakesUptoCardSaid : Prop := Claim7.holds Tryd.pinned (.plain (OpenSpec.upto replayMakesSpec)) replayMakesUptoCard

/-- THE SECOND FORM's CARD OF 'wherrylaw.LinkChecks'. -/
def linkChecksUptoCard : Claim7 := { stood := { row := linkChecksUptoRow, standIns := [], harness := (true, "ae59de7f78b4a4a648fc865add26a1d33716b2cb692f4e2951a7945df736c82d"), looks := false }, kinds := [], alts := [], laidByText := true, laidKinds := [.data, .pinned], laidTests := true, laidLooks := .later }
def LinkChecksUptoCardSaid : Prop := Claim7.holds Tryd.pinned (.plain (OpenSpec.upto linkChecksSpec)) linkChecksUptoCard

/-- THE SECOND FORM's CARD OF 'wherrylaw.LinkSends'. -/
def linkSendsUptoCard : Claim7 := { stood := { row := linkSendsUptoRow, standIns := [], harness := (true, "ae59de7f78b4a4a648fc865add26a1d33716b2cb692f4e2951a7945df736c82d"), looks := false }, kinds := [], alts := [], laidByText := true, laidKinds := [.data, .pinned], laidTests := true, laidLooks := .later }
def LinkSendsUptoCardSaid : Prop := Claim7.holds Tryd.pinned (.plain (OpenSpec.upto linkSendsSpec)) linkSendsUptoCard

/-- THE SECOND FORM's CARD OF 'wherrylaw.LinkHears'. -/
def linkHearsUptoCard : Claim7 := { stood := { row := linkHearsUptoRow, standIns := [], harness := (true, "ae59de7f78b4a4a648fc865add26a1d33716b2cb692f4e2951a7945df736c82d"), looks := false }, kinds := [], alts := [], laidByText := true, laidKinds := [.data, .pinned], laidTests := true, laidLooks := .later }
def LinkHearsUptoCardSaid : Prop := Claim7.holds Tryd.pinned (.plain (OpenSpec.upto linkHearsSpec)) linkHearsUptoCard

/-- THE SECOND FORM's CARD OF 'wherrylaw.LinkTicks'. -/
def linkTicksUptoCard : Claim7 := { stood := { row := linkTicksUptoRow, standIns := [], harness := (true, "ae59de7f78b4a4a648fc865add26a1d33716b2cb692f4e2951a7945df736c82d"), looks := false }, kinds := [], alts := [], laidByText := true, laidKinds := [.data, .pinned], laidTests := true, laidLooks := .later }
def LinkTicksUptoCardSaid : Prop := Claim7.holds Tryd.pinned (.plain (OpenSpec.upto linkTicksSpec)) linkTicksUptoCard

/-- THE SECOND FORM's CARD OF 'wherrykeep.LinkOnce'. -/
def linkOnceUptoCard : Claim7 := { stood := { row := linkOnceUptoRow, standIns := [], harness := (true, "ae59de7f78b4a4a648fc865add26a1d33716b2cb692f4e2951a7945df736c82d"), looks := false }, kinds := [], alts := [], laidByText := true, laidKinds := [.data, .pinned], laidTests := true, laidLooks := .later }
def LinkOnceUptoCardSaid : Prop := Claim7.holds Tryd.pinned (.plain (OpenSpec.upto linkOnceSpec)) linkOnceUptoCard

/-- THE SECOND FORM's CARD OF 'wherrykeep.LinkAll'. -/
def linkAllUptoCard : Claim7 := { stood := { row := linkAllUptoRow, standIns := [], harness := (true, "ae59de7f78b4a4a648fc865add26a1d33716b2cb692f4e2951a7945df736c82d"), looks := false }, kinds := [], alts := [], laidByText := true, laidKinds := [.data, .pinned], laidTests := true, laidLooks := .later }
def LinkAllUptoCardSaid : Prop := Claim7.holds Tryd.pinned (.plain (OpenSpec.upto linkAllSpec)) linkAllUptoCard

/-- THE SECOND FORM's CARD OF 'wherrykeep.LinkWindow'. -/
def linkWindowUptoCard : Claim7 := { stood := { row := linkWindowUptoRow, standIns := [], harness := (true, "ae59de7f78b4a4a648fc865add26a1d33716b2cb692f4e2951a7945df736c82d"), looks := false }, kinds := [], alts := [], laidByText := true, laidKinds := [.data, .pinned], laidTests := true, laidLooks := .later }
def LinkWindowUptoCardSaid : Prop := Claim7.holds Tryd.pinned (.plain (OpenSpec.upto linkWindowSpec)) linkWindowUptoCard

/-- THE SECOND FORM's CARD OF 'wherrykeep.LinkAway'. -/
def linkAwayUptoCard : Claim7 := { stood := { row := linkAwayUptoRow, standIns := [], harness := (true, "ae59de7f78b4a4a648fc865add26a1d33716b2cb692f4e2951a7945df736c82d"), looks := false }, kinds := [], alts := [], laidByText := true, laidKinds := [.data, .pinned], laidTests := true, laidLooks := .later }
def LinkAwayUptoCardSaid : Prop := Claim7.holds Tryd.pinned (.plain (OpenSpec.upto linkAwaySpec)) linkAwayUptoCard

/-- THE SECOND FORM's CARD OF 'wherrykeep.LinkTwice'. -/
def linkTwiceUptoCard : Claim7 := { stood := { row := linkTwiceUptoRow, standIns := [], harness := (true, "ae59de7f78b4a4a648fc865add26a1d33716b2cb692f4e2951a7945df736c82d"), looks := false }, kinds := [], alts := [], laidByText := true, laidKinds := [.data, .pinned], laidTests := true, laidLooks := .later }
def LinkTwiceUptoCardSaid : Prop := Claim7.holds Tryd.pinned (.plain (OpenSpec.upto linkTwiceSpec)) linkTwiceUptoCard

/-- THE SECOND FORM's CARD OF 'wherrykeep.LinkGap'. -/
def linkGapUptoCard : Claim7 := { stood := { row := linkGapUptoRow, standIns := [], harness := (true, "ae59de7f78b4a4a648fc865add26a1d33716b2cb692f4e2951a7945df736c82d"), looks := false }, kinds := [], alts := [], laidByText := true, laidKinds := [.data, .pinned], laidTests := true, laidLooks := .later }
def LinkGapUptoCardSaid : Prop := Claim7.holds Tryd.pinned (.plain (OpenSpec.upto linkGapSpec)) linkGapUptoCard

/-- THE SECOND FORM's CARD OF 'wherrykeep.LinkAcks'. -/
def linkAcksUptoCard : Claim7 := { stood := { row := linkAcksUptoRow, standIns := [], harness := (true, "ae59de7f78b4a4a648fc865add26a1d33716b2cb692f4e2951a7945df736c82d"), looks := false }, kinds := [], alts := [], laidByText := true, laidKinds := [.data, .pinned], laidTests := true, laidLooks := .later }
def LinkAcksUptoCardSaid : Prop := Claim7.holds Tryd.pinned (.plain (OpenSpec.upto linkAcksSpec)) linkAcksUptoCard
end Rows
end Go.Proofs.YtekgennapogcgaaDoor
