/-
  DERIVED. GIVEN WITH THE SEED: THE CARDS: each row of YtnjhcnfnllojpaaDoorRows.lean that lists a variable, with what it lists TIED to the program's text (the seventh form; the later family's looks); each row that meets fmt, with fmt's text TOLD by the authors' own Lean function (tested against real Go, not proved from fmt's source: count such statements apart). THE CARD IS WHAT COUNTS. Prove the row's statement (the work); the ties are given (YtnjhcnfnllojpaaDoorTie.lean); close each card by the builder's one call (the guide's Derived/Test/ToyasCard.lean, 'card_holds'). Laid BY PROGRAM, IN A SANDBOX (cutbox-door.mjs). By AI agents, Wed Nov 11 2026. No macro, syntax, notation, axiom, sorry.
-/
import Derived.Test.YtnjhcnfnllojpaaDoorRows
import GoSem.ClaimSeven
namespace Go.Proofs.YtnjhcnfnllojpaaDoor
namespace Rows

/-- THE TIED CARD OF 'wherrykeep.MoveRest'. -/
def moveRestCard : Claim7 := { stood := { row := moveRestRow, standIns := [], harness := (true, "b16c775c7306d77212f9cd5090dd211d7c351005a53394753e481c879969e152"), looks := false }, kinds := [], alts := [], laidByText := true, laidKinds := [.data, .pinned], laidTests := true, laidLooks := .later }
def MoveRestCardSaid : Prop := Claim7.holds Tryd.pinned (.plain (OpenSpec.ofChange moveRestSpec)) moveRestCard

/-- THE TIED CARD OF 'wherrykeep.EdgeMeets'. -/
def edgeMeetsCard : Claim7 := { stood := { row := edgeMeetsRow, standIns := [], harness := (true, "b16c775c7306d77212f9cd5090dd211d7c351005a53394753e481c879969e152"), looks := false }, kinds := [], alts := [], laidByText := true, laidKinds := [.data, .pinned], laidTests := true, laidLooks := .later }
def EdgeMeetsCardSaid : Prop := Claim7.holds Tryd.pinned (.plain (OpenSpec.ofChange edgeMeetsSpec)) edgeMeetsCard

/-- THE TIED CARD OF 'wherrykeep.EdgeKnown'. -/
def edgeKnownCard : Claim7 := { stood := { row := edgeKnownRow, standIns := [], harness := (true, "b16c775c7306d77212f9cd5090dd211d7c351005a53394753e481c879969e152"), looks := false }, kinds := [], alts := [], laidByText := true, laidKinds := [.data, .pinned], laidTests := true, laidLooks := .later }
def EdgeKnownCardSaid : Prop := Claim7.holds Tryd.pinned (.plain (OpenSpec.ofChange edgeKnownSpec)) edgeKnownCard

/-- THE TIED CARD OF 'wherrykeep.EdgeUpper'. -/
def edgeUpperCard : Claim7 := { stood := { row := edgeUpperRow, standIns := [], harness := (true, "b16c775c7306d77212f9cd5090dd211d7c351005a53394753e481c879969e152"), looks := false }, kinds := [], alts := [], laidByText := true, laidKinds := [.data, .pinned], laidTests := true, laidLooks := .later }
def EdgeUpperCardSaid : Prop := Claim7.holds Tryd.pinned (.plain (OpenSpec.ofChange edgeUpperSpec)) edgeUpperCard

/-- THE TIED CARD OF 'wherrykeep.ReplayMakes'. -/
def replayMakesCard : Claim7 := { stood := { row := replayMakesRow, standIns := [], harness := (true, "b16c775c7306d77212f9cd5090dd211d7c351005a53394753e481c879969e152"), looks := false }, kinds := [], alts := [], laidByText := true, laidKinds := [.data, .pinned], laidTests := true, laidLooks := .later }
def ReplayMakesCardSaid : Prop := Claim7.holds Tryd.pinned (.plain (OpenSpec.ofChange replayMakesSpec)) replayMakesCard

/-- THE TIED CARD OF 'wherrylaw.LinkSends'. -/
def linkSendsCard : Claim7 := { stood := { row := linkSendsRow, standIns := [], harness := (true, "b16c775c7306d77212f9cd5090dd211d7c351005a53394753e481c879969e152"), looks := false }, kinds := [], alts := [], laidByText := true, laidKinds := [.data, .pinned], laidTests := true, laidLooks := .later }
def LinkSendsCardSaid : Prop := Claim7.holds Tryd.pinned (.plain (OpenSpec.ofChange linkSendsSpec)) linkSendsCard

/-- THE TIED CARD OF 'wherrylaw.LinkHears'. -/
def linkHearsCard : Claim7 := { stood := { row := linkHearsRow, standIns := [], harness := (true, "b16c775c7306d77212f9cd5090dd211d7c351005a53394753e481c879969e152"), looks := false }, kinds := [], alts := [], laidByText := true, laidKinds := [.data, .pinned], laidTests := true, laidLooks := .later }
def LinkHearsCardSaid : Prop := Claim7.holds Tryd.pinned (.plain (OpenSpec.ofChange linkHearsSpec)) linkHearsCard

/-- THE TIED CARD OF 'wherrykeep.LinkOnce'. -/
def linkOnceCard : Claim7 := { stood := { row := linkOnceRow, standIns := [], harness := (true, "b16c775c7306d77212f9cd5090dd211d7c351005a53394753e481c879969e152"), looks := false }, kinds := [], alts := [], laidByText := true, laidKinds := [.data, .pinned], laidTests := true, laidLooks := .later }
def LinkOnceCardSaid : Prop := Claim7.holds Tryd.pinned (.plain (OpenSpec.ofChange linkOnceSpec)) linkOnceCard

/-- THE TIED CARD OF 'wherrykeep.LinkAll'. -/
def linkAllCard : Claim7 := { stood := { row := linkAllRow, standIns := [], harness := (true, "b16c775c7306d77212f9cd5090dd211d7c351005a53394753e481c879969e152"), looks := false }, kinds := [], alts := [], laidByText := true, laidKinds := [.data, .pinned], laidTests := true, laidLooks := .later }
def LinkAllCardSaid : Prop := Claim7.holds Tryd.pinned (.plain (OpenSpec.ofChange linkAllSpec)) linkAllCard

/-- THE TIED CARD OF 'wherrykeep.LinkWindow'. -/
def linkWindowCard : Claim7 := { stood := { row := linkWindowRow, standIns := [], harness := (true, "b16c775c7306d77212f9cd5090dd211d7c351005a53394753e481c879969e152"), looks := false }, kinds := [], alts := [], laidByText := true, laidKinds := [.data, .pinned], laidTests := true, laidLooks := .later }
def LinkWindowCardSaid : Prop := Claim7.holds Tryd.pinned (.plain (OpenSpec.ofChange linkWindowSpec)) linkWindowCard

/-- THE TIED CARD OF 'wherrykeep.LinkTwice'. -/
def linkTwiceCard : Claim7 := { stood := { row := linkTwiceRow, standIns := [], harness := (true, "b16c775c7306d77212f9cd5090dd211d7c351005a53394753e481c879969e152"), looks := false }, kinds := [], alts := [], laidByText := true, laidKinds := [.data, .pinned], laidTests := true, laidLooks := .later }
def LinkTwiceCardSaid : Prop := Claim7.holds Tryd.pinned (.plain (OpenSpec.ofChange linkTwiceSpec)) linkTwiceCard

/-- THE TIED CARD OF 'wherrykeep.LinkGap'. -/
def linkGapCard : Claim7 := { stood := { row := linkGapRow, standIns := [], harness := (true, "b16c775c7306d77212f9cd5090dd211d7c351005a53394753e481c879969e152"), looks := false }, kinds := [], alts := [], laidByText := true, laidKinds := [.data, .pinned], laidTests := true, laidLooks := .later }
def LinkGapCardSaid : Prop := Claim7.holds Tryd.pinned (.plain (OpenSpec.ofChange linkGapSpec)) linkGapCard

/-- THE TIED CARD OF 'wherrylaw.NodeChecks'. -/
def nodeChecksCard : Claim7 := { stood := { row := nodeChecksRow, standIns := [], harness := (true, "b16c775c7306d77212f9cd5090dd211d7c351005a53394753e481c879969e152"), looks := false }, kinds := [], alts := [], laidByText := true, laidKinds := [.data, .pinned], laidTests := true, laidLooks := .later }
def NodeChecksCardSaid : Prop := Claim7.holds Tryd.pinned (.plain (OpenSpec.ofChange nodeChecksSpec)) nodeChecksCard

/-- THE TIED CARD OF 'wherrylaw.NodeBegins'. -/
def nodeBeginsCard : Claim7 := { stood := { row := nodeBeginsRow, standIns := [], harness := (true, "b16c775c7306d77212f9cd5090dd211d7c351005a53394753e481c879969e152"), looks := false }, kinds := [], alts := [], laidByText := true, laidKinds := [.data, .pinned], laidTests := true, laidLooks := .later }
def NodeBeginsCardSaid : Prop := Claim7.holds Tryd.pinned (.plain (OpenSpec.ofChange nodeBeginsSpec)) nodeBeginsCard

/-- THE TIED CARD OF 'wherrylaw.NodeSelects'. -/
def nodeSelectsCard : Claim7 := { stood := { row := nodeSelectsRow, standIns := [], harness := (true, "b16c775c7306d77212f9cd5090dd211d7c351005a53394753e481c879969e152"), looks := false }, kinds := [], alts := [], laidByText := true, laidKinds := [.data, .pinned], laidTests := true, laidLooks := .later }
def NodeSelectsCardSaid : Prop := Claim7.holds Tryd.pinned (.plain (OpenSpec.ofChange nodeSelectsSpec)) nodeSelectsCard

/-- THE TIED CARD OF 'wherrylaw.NodeTicks'. -/
def nodeTicksCard : Claim7 := { stood := { row := nodeTicksRow, standIns := [], harness := (true, "b16c775c7306d77212f9cd5090dd211d7c351005a53394753e481c879969e152"), looks := false }, kinds := [], alts := [], laidByText := true, laidKinds := [.data, .pinned], laidTests := true, laidLooks := .later }
def NodeTicksCardSaid : Prop := Claim7.holds Tryd.pinned (.plain (OpenSpec.ofChange nodeTicksSpec)) nodeTicksCard

/-- THE TIED CARD OF 'wherrykeep.BeginJoins'. -/
def beginJoinsCard : Claim7 := { stood := { row := beginJoinsRow, standIns := [], harness := (true, "b16c775c7306d77212f9cd5090dd211d7c351005a53394753e481c879969e152"), looks := false }, kinds := [], alts := [], laidByText := true, laidKinds := [.data, .pinned], laidTests := true, laidLooks := .later }
def BeginJoinsCardSaid : Prop := Claim7.holds Tryd.pinned (.plain (OpenSpec.ofChange beginJoinsSpec)) beginJoinsCard

/-- THE TIED CARD OF 'wherrykeep.EditFull'. -/
def editFullCard : Claim7 := { stood := { row := editFullRow, standIns := [], harness := (true, "b16c775c7306d77212f9cd5090dd211d7c351005a53394753e481c879969e152"), looks := false }, kinds := [], alts := [], laidByText := true, laidKinds := [.data, .pinned], laidTests := true, laidLooks := .later }
def EditFullCardSaid : Prop := Claim7.holds Tryd.pinned (.plain (OpenSpec.ofChange editFullSpec)) editFullCard

/-- THE TIED CARD OF 'wherrykeep.BeginBad'. -/
def beginBadCard : Claim7 := { stood := { row := beginBadRow, standIns := [], harness := (true, "b16c775c7306d77212f9cd5090dd211d7c351005a53394753e481c879969e152"), looks := false }, kinds := [], alts := [], laidByText := true, laidKinds := [.data, .pinned], laidTests := true, laidLooks := .later }
def BeginBadCardSaid : Prop := Claim7.holds Tryd.pinned (.plain (OpenSpec.ofChange beginBadSpec)) beginBadCard

/-- THE SECOND FORM's CARD OF 'wherrykeep.MoveRest'. -/
def moveRestUptoCard : Claim7 := { stood := { row := moveRestUptoRow, standIns := [], harness := (true, "b16c775c7306d77212f9cd5090dd211d7c351005a53394753e481c879969e152"), looks := false }, kinds := [], alts := [], laidByText := true, laidKinds := [.data, .pinned], laidTests := true, laidLooks := .later }
def MoveRestUptoCardSaid : Prop := Claim7.holds Tryd.pinned (.plain (OpenSpec.upto moveRestSpec)) moveRestUptoCard

/-- THE SECOND FORM's CARD OF 'wherrykeep.EdgeMeets'. -/
def edgeMeetsUptoCard : Claim7 := { stood := { row := edgeMeetsUptoRow, standIns := [], harness := (true, "b16c775c7306d77212f9cd5090dd211d7c351005a53394753e481c879969e152"), looks := false }, kinds := [], alts := [], laidByText := true, laidKinds := [.data, .pinned], laidTests := true, laidLooks := .later }
def EdgeMeetsUptoCardSaid : Prop := Claim7.holds Tryd.pinned (.plain (OpenSpec.upto edgeMeetsSpec)) edgeMeetsUptoCard

/-- THE SECOND FORM's CARD OF 'wherrykeep.EdgeKnown'. -/
def edgeKnownUptoCard : Claim7 := { stood := { row := edgeKnownUptoRow, standIns := [], harness := (true, "b16c775c7306d77212f9cd5090dd211d7c351005a53394753e481c879969e152"), looks := false }, kinds := [], alts := [], laidByText := true, laidKinds := [.data, .pinned], laidTests := true, laidLooks := .later }
def EdgeKnownUptoCardSaid : Prop := Claim7.holds Tryd.pinned (.plain (OpenSpec.upto edgeKnownSpec)) edgeKnownUptoCard

/-- THE SECOND FORM's CARD OF 'wherrykeep.EdgeUpper'. -/
def edgeUpperUptoCard : Claim7 := { stood := { row := edgeUpperUptoRow, standIns := [], harness := (true, "b16c775c7306d77212f9cd5090dd211d7c351005a53394753e481c879969e152"), looks := false }, kinds := [], alts := [], laidByText := true, laidKinds := [.data, .pinned], laidTests := true, laidLooks := .later }
def EdgeUpperUptoCardSaid : Prop := Claim7.holds Tryd.pinned (.plain (OpenSpec.upto edgeUpperSpec)) edgeUpperUptoCard

/-- THE SECOND FORM's CARD OF 'wherrykeep.ReplayMakes'. -/
def replayMakesUptoCard : Claim7 := { stood := { row := replayMakesUptoRow, standIns := [], harness := (true, "b16c775c7306d77212f9cd5090dd211d7c351005a53394753e481c879969e152"), looks := false }, kinds := [], alts := [], laidByText := true, laidKinds := [.data, .pinned], laidTests := true, laidLooks := .later }
def ReplayMakesUptoCardSaid : Prop := Claim7.holds Tryd.pinned (.plain (OpenSpec.upto replayMakesSpec)) replayMakesUptoCard

/-- THE SECOND FORM's CARD OF 'wherrylaw.LinkSends'. -/
def linkSendsUptoCard : Claim7 := { stood := { row := linkSendsUptoRow, standIns := [], harness := (true, "b16c775c7306d77212f9cd5090dd211d7c351005a53394753e481c879969e152"), looks := false }, kinds := [], alts := [], laidByText := true, laidKinds := [.data, .pinned], laidTests := true, laidLooks := .later }
def LinkSendsUptoCardSaid : Prop := Claim7.holds Tryd.pinned (.plain (OpenSpec.upto linkSendsSpec)) linkSendsUptoCard

/-- THE SECOND FORM's CARD OF 'wherrylaw.LinkHears'. -/
def linkHearsUptoCard : Claim7 := { stood := { row := linkHearsUptoRow, standIns := [], harness := (true, "b16c775c7306d77212f9cd5090dd211d7c351005a53394753e481c879969e152"), looks := false }, kinds := [], alts := [], laidByText := true, laidKinds := [.data, .pinned], laidTests := true, laidLooks := .later }
def LinkHearsUptoCardSaid : Prop := Claim7.holds Tryd.pinned (.plain (OpenSpec.upto linkHearsSpec)) linkHearsUptoCard

/-- THE SECOND FORM's CARD OF 'wherrykeep.LinkOnce'. -/
def linkOnceUptoCard : Claim7 := { stood := { row := linkOnceUptoRow, standIns := [], harness := (true, "b16c775c7306d77212f9cd5090dd211d7c351005a53394753e481c879969e152"), looks := false }, kinds := [], alts := [], laidByText := true, laidKinds := [.data, .pinned], laidTests := true, laidLooks := .later }
def LinkOnceUptoCardSaid : Prop := Claim7.holds Tryd.pinned (.plain (OpenSpec.upto linkOnceSpec)) linkOnceUptoCard

/-- THE SECOND FORM's CARD OF 'wherrykeep.LinkAll'. -/
def linkAllUptoCard : Claim7 := { stood := { row := linkAllUptoRow, standIns := [], harness := (true, "b16c775c7306d77212f9cd5090dd211d7c351005a53394753e481c879969e152"), looks := false }, kinds := [], alts := [], laidByText := true, laidKinds := [.data, .pinned], laidTests := true, laidLooks := .later }
def LinkAllUptoCardSaid : Prop := Claim7.holds Tryd.pinned (.plain (OpenSpec.upto linkAllSpec)) linkAllUptoCard

/-- THE SECOND FORM's CARD OF 'wherrykeep.LinkWindow'. -/
def linkWindowUptoCard : Claim7 := { stood := { row := linkWindowUptoRow, standIns := [], harness := (true, "b16c775c7306d77212f9cd5090dd211d7c351005a53394753e481c879969e152"), looks := false }, kinds := [], alts := [], laidByText := true, laidKinds := [.data, .pinned], laidTests := true, laidLooks := .later }
def LinkWindowUptoCardSaid : Prop := Claim7.holds Tryd.pinned (.plain (OpenSpec.upto linkWindowSpec)) linkWindowUptoCard

/-- THE SECOND FORM's CARD OF 'wherrykeep.LinkTwice'. -/
def linkTwiceUptoCard : Claim7 := { stood := { row := linkTwiceUptoRow, standIns := [], harness := (true, "b16c775c7306d77212f9cd5090dd211d7c351005a53394753e481c879969e152"), looks := false }, kinds := [], alts := [], laidByText := true, laidKinds := [.data, .pinned], laidTests := true, laidLooks := .later }
def LinkTwiceUptoCardSaid : Prop := Claim7.holds Tryd.pinned (.plain (OpenSpec.upto linkTwiceSpec)) linkTwiceUptoCard

/-- THE SECOND FORM's CARD OF 'wherrykeep.LinkGap'. -/
def linkGapUptoCard : Claim7 := { stood := { row := linkGapUptoRow, standIns := [], harness := (true, "b16c775c7306d77212f9cd5090dd211d7c351005a53394753e481c879969e152"), looks := false }, kinds := [], alts := [], laidByText := true, laidKinds := [.data, .pinned], laidTests := true, laidLooks := .later }
def LinkGapUptoCardSaid : Prop := Claim7.holds Tryd.pinned (.plain (OpenSpec.upto linkGapSpec)) linkGapUptoCard

/-- THE SECOND FORM's CARD OF 'wherrylaw.NodeChecks'. -/
def nodeChecksUptoCard : Claim7 := { stood := { row := nodeChecksUptoRow, standIns := [], harness := (true, "b16c775c7306d77212f9cd5090dd211d7c351005a53394753e481c879969e152"), looks := false }, kinds := [], alts := [], laidByText := true, laidKinds := [.data, .pinned], laidTests := true, laidLooks := .later }
def NodeChecksUptoCardSaid : Prop := Claim7.holds Tryd.pinned (.plain (OpenSpec.upto nodeChecksSpec)) nodeChecksUptoCard

/-- THE SECOND FORM's CARD OF 'wherrylaw.NodeBegins'. -/
def nodeBeginsUptoCard : Claim7 := { stood := { row := nodeBeginsUptoRow, standIns := [], harness := (true, "b16c775c7306d77212f9cd5090dd211d7c351005a53394753e481c879969e152"), looks := false }, kinds := [], alts := [], laidByText := true, laidKinds := [.data, .pinned], laidTests := true, laidLooks := .later }
def NodeBeginsUptoCardSaid : Prop := Claim7.holds Tryd.pinned (.plain (OpenSpec.upto nodeBeginsSpec)) nodeBeginsUptoCard

/-- THE SECOND FORM's CARD OF 'wherrylaw.NodeSelects'. -/
def nodeSelectsUptoCard : Claim7 := { stood := { row := nodeSelectsUptoRow, standIns := [], harness := (true, "b16c775c7306d77212f9cd5090dd211d7c351005a53394753e481c879969e152"), looks := false }, kinds := [], alts := [], laidByText := true, laidKinds := [.data, .pinned], laidTests := true, laidLooks := .later }
def NodeSelectsUptoCardSaid : Prop := Claim7.holds Tryd.pinned (.plain (OpenSpec.upto nodeSelectsSpec)) nodeSelectsUptoCard

/-- THE SECOND FORM's CARD OF 'wherrylaw.NodeTicks'. -/
def nodeTicksUptoCard : Claim7 := { stood := { row := nodeTicksUptoRow, standIns := [], harness := (true, "b16c775c7306d77212f9cd5090dd211d7c351005a53394753e481c879969e152"), looks := false }, kinds := [], alts := [], laidByText := true, laidKinds := [.data, .pinned], laidTests := true, laidLooks := .later }
def NodeTicksUptoCardSaid : Prop := Claim7.holds Tryd.pinned (.plain (OpenSpec.upto nodeTicksSpec)) nodeTicksUptoCard

/-- THE SECOND FORM's CARD OF 'wherrykeep.BeginJoins'. -/
def beginJoinsUptoCard : Claim7 := { stood := { row := beginJoinsUptoRow, standIns := [], harness := (true, "b16c775c7306d77212f9cd5090dd211d7c351005a53394753e481c879969e152"), looks := false }, kinds := [], alts := [], laidByText := true, laidKinds := [.data, .pinned], laidTests := true, laidLooks := .later }
def BeginJoinsUptoCardSaid : Prop := Claim7.holds Tryd.pinned (.plain (OpenSpec.upto beginJoinsSpec)) beginJoinsUptoCard

/-- THE SECOND FORM's CARD OF 'wherrykeep.EditFull'. -/
def editFullUptoCard : Claim7 := { stood := { row := editFullUptoRow, standIns := [], harness := (true, "b16c775c7306d77212f9cd5090dd211d7c351005a53394753e481c879969e152"), looks := false }, kinds := [], alts := [], laidByText := true, laidKinds := [.data, .pinned], laidTests := true, laidLooks := .later }
def EditFullUptoCardSaid : Prop := Claim7.holds Tryd.pinned (.plain (OpenSpec.upto editFullSpec)) editFullUptoCard

/-- THE SECOND FORM's CARD OF 'wherrykeep.BeginBad'. -/
def beginBadUptoCard : Claim7 := { stood := { row := beginBadUptoRow, standIns := [], harness := (true, "b16c775c7306d77212f9cd5090dd211d7c351005a53394753e481c879969e152"), looks := false }, kinds := [], alts := [], laidByText := true, laidKinds := [.data, .pinned], laidTests := true, laidLooks := .later }
def BeginBadUptoCardSaid : Prop := Claim7.holds Tryd.pinned (.plain (OpenSpec.upto beginBadSpec)) beginBadUptoCard
end Rows
end Go.Proofs.YtnjhcnfnllojpaaDoor
