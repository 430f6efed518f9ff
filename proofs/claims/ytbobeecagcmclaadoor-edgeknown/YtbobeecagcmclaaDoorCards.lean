/-
  DERIVED. GIVEN WITH THE SEED: THE CARDS: each row of YtbobeecagcmclaaDoorRows.lean that lists a variable, with what it lists TIED to the program's text (the seventh form; the later family's looks); each row that meets fmt, with fmt's text TOLD by the authors' own Lean function (tested against real Go, not proved from fmt's source: count such statements apart). THE CARD IS WHAT COUNTS. Prove the row's statement (the work); the ties are given (YtbobeecagcmclaaDoorTie.lean); close each card by the builder's one call (the guide's Derived/Test/ToyasCard.lean, 'card_holds'). Laid BY PROGRAM, IN A SANDBOX (cutbox-door.mjs). By AI agents, Wed Nov 11 2026. No macro, syntax, notation, axiom, sorry.
-/
import Derived.Test.YtbobeecagcmclaaDoorRows
import GoSem.ClaimSeven
namespace Go.Proofs.YtbobeecagcmclaaDoor
namespace Rows

/-- THE TIED CARD OF 'wherrykeep.EdgeKnown'. -/
def edgeKnownCard : Claim7 := { stood := { row := edgeKnownRow, standIns := [], harness := (true, "d4eae9618b7eb285ad2e5cc9f58d83839977bb58c39fb33e71615a576a67f0cb"), looks := false }, kinds := [], alts := [], laidByText := true, laidKinds := [.data, .pinned], laidTests := true, laidLooks := .later }
def EdgeKnownCardSaid : Prop := Claim7.holds Tryd.pinned (.plain (OpenSpec.ofChange edgeKnownSpec)) edgeKnownCard

/-- THE TIED CARD OF 'wherrykeep.ReplayMakes'. -/
def replayMakesCard : Claim7 := { stood := { row := replayMakesRow, standIns := [], harness := (true, "d4eae9618b7eb285ad2e5cc9f58d83839977bb58c39fb33e71615a576a67f0cb"), looks := false }, kinds := [], alts := [], laidByText := true, laidKinds := [.data, .pinned], laidTests := true, laidLooks := .later }
def ReplayMakesCardSaid : Prop := Claim7.holds Tryd.pinned (.plain (OpenSpec.ofChange replayMakesSpec)) replayMakesCard

/-- THE TIED CARD OF 'wherrykeep.LinkGap'. -/
def linkGapCard : Claim7 := { stood := { row := linkGapRow, standIns := [], harness := (true, "d4eae9618b7eb285ad2e5cc9f58d83839977bb58c39fb33e71615a576a67f0cb"), looks := false }, kinds := [], alts := [], laidByText := true, laidKinds := [.data, .pinned], laidTests := true, laidLooks := .later }
def LinkGapCardSaid : Prop := Claim7.holds Tryd.pinned (.plain (OpenSpec.ofChange linkGapSpec)) linkGapCard

/-- THE SECOND FORM's CARD OF 'wherrykeep.EdgeKnown'. -/
def edgeKnownUptoCard : Claim7 := { stood := { row := edgeKnownUptoRow, standIns := [], harness := (true, "d4eae9618b7eb285ad2e5cc9f58d83839977bb58c39fb33e71615a576a67f0cb"), looks := false }, kinds := [], alts := [], laidByText := true, laidKinds := [.data, .pinned], laidTests := true, laidLooks := .later }
def EdgeKnownUptoCardSaid : Prop := Claim7.holds Tryd.pinned (.plain (OpenSpec.upto edgeKnownSpec)) edgeKnownUptoCard

/-- THE SECOND FORM's CARD OF 'wherrykeep.ReplayMakes'. -/
def replayMakesUptoCard : Claim7 := { stood := { row := replayMakesUptoRow, standIns := [], harness := (true, "d4eae9618b7eb285ad2e5cc9f58d83839977bb58c39fb33e71615a576a67f0cb"), looks := false }, kinds := [], alts := [], laidByText := true, laidKinds := [.data, .pinned], laidTests := true, laidLooks := .later }
def ReplayMakesUptoCardSaid : Prop := Claim7.holds Tryd.pinned (.plain (OpenSpec.upto replayMakesSpec)) replayMakesUptoCard

/-- THE SECOND FORM's CARD OF 'wherrykeep.LinkGap'. -/
def linkGapUptoCard : Claim7 := { stood := { row := linkGapUptoRow, standIns := [], harness := (true, "d4eae9618b7eb285ad2e5cc9f58d83839977bb58c39fb33e71615a576a67f0cb"), looks := false }, kinds := [], alts := [], laidByText := true, laidKinds := [.data, .pinned], laidTests := true, laidLooks := .later }
def LinkGapUptoCardSaid : Prop := Claim7.holds Tryd.pinned (.plain (OpenSpec.upto linkGapSpec)) linkGapUptoCard
end Rows
end Go.Proofs.YtbobeecagcmclaaDoor
