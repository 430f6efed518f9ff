/-
  DERIVED. GIVEN WITH THE SEED: THE CARDS: each row of YtpgcjpiabciekaaDoorRows.lean that lists a variable, with what it lists TIED to the program's text (the seventh form; the later family's looks); each row that meets fmt, with fmt's text TOLD by the authors' own Lean function (tested against real Go, not proved from fmt's source: count such statements apart). THE CARD IS WHAT COUNTS. Prove the row's statement (the work); the ties are given (YtpgcjpiabciekaaDoorTie.lean); close each card by the builder's one call (the guide's Derived/Test/ToyasCard.lean, 'card_holds'). Laid BY PROGRAM, IN A SANDBOX (cutbox-door.mjs). By AI agents, Wed Nov 11 2026. No macro, syntax, notation, axiom, sorry.
-/
import Derived.Test.YtpgcjpiabciekaaDoorRows
import GoSem.ClaimSeven
namespace Go.Proofs.YtpgcjpiabciekaaDoor
namespace Rows

/-- THE TIED CARD OF 'wherrykeep.EdgeKnown'. -/
def edgeKnownCard : Claim7 := { stood := { row := edgeKnownRow, standIns := [], harness := (true, "0a6d92205554dc973af8d02eca56516bb97067c3afabf2050e9729a50658f710"), looks := false }, kinds := [], alts := [], laidByText := true, laidKinds := [.data, .pinned], laidTests := true, laidLooks := .later }
def EdgeKnownCardSaid : Prop := Claim7.holds Tryd.pinned (.plain (OpenSpec.ofChange edgeKnownSpec)) edgeKnownCard

/-- THE TIED CARD OF 'wherrykeep.EdgeUpper'. -/
def edgeUpperCard : Claim7 := { stood := { row := edgeUpperRow, standIns := [], harness := (true, "0a6d92205554dc973af8d02eca56516bb97067c3afabf2050e9729a50658f710"), looks := false }, kinds := [], alts := [], laidByText := true, laidKinds := [.data, .pinned], laidTests := true, laidLooks := .later }
def EdgeUpperCardSaid : Prop := Claim7.holds Tryd.pinned (.plain (OpenSpec.ofChange edgeUpperSpec)) edgeUpperCard

/-- THE TIED CARD OF 'wherrylaw.LinkSends'. -/
def linkSendsCard : Claim7 := { stood := { row := linkSendsRow, standIns := [], harness := (true, "0a6d92205554dc973af8d02eca56516bb97067c3afabf2050e9729a50658f710"), looks := false }, kinds := [], alts := [], laidByText := true, laidKinds := [.data, .pinned], laidTests := true, laidLooks := .later }
def LinkSendsCardSaid : Prop := Claim7.holds Tryd.pinned (.plain (OpenSpec.ofChange linkSendsSpec)) linkSendsCard

/-- THE TIED CARD OF 'wherrykeep.LinkTwice'. -/
def linkTwiceCard : Claim7 := { stood := { row := linkTwiceRow, standIns := [], harness := (true, "0a6d92205554dc973af8d02eca56516bb97067c3afabf2050e9729a50658f710"), looks := false }, kinds := [], alts := [], laidByText := true, laidKinds := [.data, .pinned], laidTests := true, laidLooks := .later }
def LinkTwiceCardSaid : Prop := Claim7.holds Tryd.pinned (.plain (OpenSpec.ofChange linkTwiceSpec)) linkTwiceCard

/-- THE TIED CARD OF 'wherrykeep.LinkGap'. -/
def linkGapCard : Claim7 := { stood := { row := linkGapRow, standIns := [], harness := (true, "0a6d92205554dc973af8d02eca56516bb97067c3afabf2050e9729a50658f710"), looks := false }, kinds := [], alts := [], laidByText := true, laidKinds := [.data, .pinned], laidTests := true, laidLooks := .later }
def LinkGapCardSaid : Prop := Claim7.holds Tryd.pinned (.plain (OpenSpec.ofChange linkGapSpec)) linkGapCard

/-- THE TIED CARD OF 'wherrylaw.NodeBegins'. -/
def nodeBeginsCard : Claim7 := { stood := { row := nodeBeginsRow, standIns := [], harness := (true, "0a6d92205554dc973af8d02eca56516bb97067c3afabf2050e9729a50658f710"), looks := false }, kinds := [], alts := [], laidByText := true, laidKinds := [.data, .pinned], laidTests := true, laidLooks := .later }
def NodeBeginsCardSaid : Prop := Claim7.holds Tryd.pinned (.plain (OpenSpec.ofChange nodeBeginsSpec)) nodeBeginsCard

/-- THE TIED CARD OF 'wherrylaw.NodeSelects'. -/
def nodeSelectsCard : Claim7 := { stood := { row := nodeSelectsRow, standIns := [], harness := (true, "0a6d92205554dc973af8d02eca56516bb97067c3afabf2050e9729a50658f710"), looks := false }, kinds := [], alts := [], laidByText := true, laidKinds := [.data, .pinned], laidTests := true, laidLooks := .later }
def NodeSelectsCardSaid : Prop := Claim7.holds Tryd.pinned (.plain (OpenSpec.ofChange nodeSelectsSpec)) nodeSelectsCard

/-- THE TIED CARD OF 'wherrylaw.NodeTicks'. -/
def nodeTicksCard : Claim7 := { stood := { row := nodeTicksRow, standIns := [], harness := (true, "0a6d92205554dc973af8d02eca56516bb97067c3afabf2050e9729a50658f710"), looks := false }, kinds := [], alts := [], laidByText := true, laidKinds := [.data, .pinned], laidTests := true, laidLooks := .later }
def NodeTicksCardSaid : Prop := Claim7.holds Tryd.pinned (.plain (OpenSpec.ofChange nodeTicksSpec)) nodeTicksCard

/-- THE TIED CARD OF 'wherrykeep.BeginJoins'. -/
def beginJoinsCard : Claim7 := { stood := { row := beginJoinsRow, standIns := [], harness := (true, "0a6d92205554dc973af8d02eca56516bb97067c3afabf2050e9729a50658f710"), looks := false }, kinds := [], alts := [], laidByText := true, laidKinds := [.data, .pinned], laidTests := true, laidLooks := .later }
def BeginJoinsCardSaid : Prop := Claim7.holds Tryd.pinned (.plain (OpenSpec.ofChange beginJoinsSpec)) beginJoinsCard

/-- THE SECOND FORM's CARD OF 'wherrykeep.EdgeKnown'. -/
def edgeKnownUptoCard : Claim7 := { stood := { row := edgeKnownUptoRow, standIns := [], harness := (true, "0a6d92205554dc973af8d02eca56516bb97067c3afabf2050e9729a50658f710"), looks := false }, kinds := [], alts := [], laidByText := true, laidKinds := [.data, .pinned], laidTests := true, laidLooks := .later }
def EdgeKnownUptoCardSaid : Prop := Claim7.holds Tryd.pinned (.plain (OpenSpec.upto edgeKnownSpec)) edgeKnownUptoCard

/-- THE SECOND FORM's CARD OF 'wherrykeep.EdgeUpper'. -/
def edgeUpperUptoCard : Claim7 := { stood := { row := edgeUpperUptoRow, standIns := [], harness := (true, "0a6d92205554dc973af8d02eca56516bb97067c3afabf2050e9729a50658f710"), looks := false }, kinds := [], alts := [], laidByText := true, laidKinds := [.data, .pinned], laidTests := true, laidLooks := .later }
def EdgeUpperUptoCardSaid : Prop := Claim7.holds Tryd.pinned (.plain (OpenSpec.upto edgeUpperSpec)) edgeUpperUptoCard

/-- THE SECOND FORM's CARD OF 'wherrylaw.LinkSends'. -/
def linkSendsUptoCard : Claim7 := { stood := { row := linkSendsUptoRow, standIns := [], harness := (true, "0a6d92205554dc973af8d02eca56516bb97067c3afabf2050e9729a50658f710"), looks := false }, kinds := [], alts := [], laidByText := true, laidKinds := [.data, .pinned], laidTests := true, laidLooks := .later }
def LinkSendsUptoCardSaid : Prop := Claim7.holds Tryd.pinned (.plain (OpenSpec.upto linkSendsSpec)) linkSendsUptoCard

/-- THE SECOND FORM's CARD OF 'wherrykeep.LinkTwice'. -/
def linkTwiceUptoCard : Claim7 := { stood := { row := linkTwiceUptoRow, standIns := [], harness := (true, "0a6d92205554dc973af8d02eca56516bb97067c3afabf2050e9729a50658f710"), looks := false }, kinds := [], alts := [], laidByText := true, laidKinds := [.data, .pinned], laidTests := true, laidLooks := .later }
def LinkTwiceUptoCardSaid : Prop := Claim7.holds Tryd.pinned (.plain (OpenSpec.upto linkTwiceSpec)) linkTwiceUptoCard

/-- THE SECOND FORM's CARD OF 'wherrykeep.LinkGap'. -/
def linkGapUptoCard : Claim7 := { stood := { row := linkGapUptoRow, standIns := [], harness := (true, "0a6d92205554dc973af8d02eca56516bb97067c3afabf2050e9729a50658f710"), looks := false }, kinds := [], alts := [], laidByText := true, laidKinds := [.data, .pinned], laidTests := true, laidLooks := .later }
def LinkGapUptoCardSaid : Prop := Claim7.holds Tryd.pinned (.plain (OpenSpec.upto linkGapSpec)) linkGapUptoCard

/-- THE SECOND FORM's CARD OF 'wherrylaw.NodeBegins'. -/
def nodeBeginsUptoCard : Claim7 := { stood := { row := nodeBeginsUptoRow, standIns := [], harness := (true, "0a6d92205554dc973af8d02eca56516bb97067c3afabf2050e9729a50658f710"), looks := false }, kinds := [], alts := [], laidByText := true, laidKinds := [.data, .pinned], laidTests := true, laidLooks := .later }
def NodeBeginsUptoCardSaid : Prop := Claim7.holds Tryd.pinned (.plain (OpenSpec.upto nodeBeginsSpec)) nodeBeginsUptoCard

/-- THE SECOND FORM's CARD OF 'wherrylaw.NodeSelects'. -/
def nodeSelectsUptoCard : Claim7 := { stood := { row := nodeSelectsUptoRow, standIns := [], harness := (true, "0a6d92205554dc973af8d02eca56516bb97067c3afabf2050e9729a50658f710"), looks := false }, kinds := [], alts := [], laidByText := true, laidKinds := [.data, .pinned], laidTests := true, laidLooks := .later }
def NodeSelectsUptoCardSaid : Prop := Claim7.holds Tryd.pinned (.plain (OpenSpec.upto nodeSelectsSpec)) nodeSelectsUptoCard

/-- THE SECOND FORM's CARD OF 'wherrylaw.NodeTicks'. -/
def nodeTicksUptoCard : Claim7 := { stood := { row := nodeTicksUptoRow, standIns := [], harness := (true, "0a6d92205554dc973af8d02eca56516bb97067c3afabf2050e9729a50658f710"), looks := false }, kinds := [], alts := [], laidByText := true, laidKinds := [.data, .pinned], laidTests := true, laidLooks := .later }
def NodeTicksUptoCardSaid : Prop := Claim7.holds Tryd.pinned (.plain (OpenSpec.upto nodeTicksSpec)) nodeTicksUptoCard

/-- THE SECOND FORM's CARD OF 'wherrykeep.BeginJoins'. -/
def beginJoinsUptoCard : Claim7 := { stood := { row := beginJoinsUptoRow, standIns := [], harness := (true, "0a6d92205554dc973af8d02eca56516bb97067c3afabf2050e9729a50658f710"), looks := false }, kinds := [], alts := [], laidByText := true, laidKinds := [.data, .pinned], laidTests := true, laidLooks := .later }
def BeginJoinsUptoCardSaid : Prop := Claim7.holds Tryd.pinned (.plain (OpenSpec.upto beginJoinsSpec)) beginJoinsUptoCard
end Rows
end Go.Proofs.YtpgcjpiabciekaaDoor
