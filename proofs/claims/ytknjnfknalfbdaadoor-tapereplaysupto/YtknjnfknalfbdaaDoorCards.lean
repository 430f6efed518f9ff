/-
  DERIVED. GIVEN WITH THE SEED: THE CARDS: each row of YtknjnfknalfbdaaDoorRows.lean that lists a variable, with what it lists TIED to the program's text (the seventh form; the later family's looks); each row that meets fmt, with fmt's text TOLD by the authors' own Lean function (tested against real Go, not proved from fmt's source: count such statements apart). THE CARD IS WHAT COUNTS. Prove the row's statement (the work); the ties are given (YtknjnfknalfbdaaDoorTie.lean); close each card by the builder's one call (the guide's Derived/Test/ToyasCard.lean, 'card_holds'). Laid BY PROGRAM, IN A SANDBOX (cutbox-door.mjs). By AI agents, Wed Nov 11 2026. No macro, syntax, notation, axiom, sorry.
-/
import Derived.Test.YtknjnfknalfbdaaDoorRows
import GoSem.ClaimSeven
namespace Go.Proofs.YtknjnfknalfbdaaDoor
namespace Rows

/-- THE TIED CARD OF 'wherrykeep.MoveRest'. -/
def moveRestCard : Claim7 := { stood := { row := moveRestRow, standIns := [], harness := (true, "77fff9e4a902e02fe1e6a68805295e7e0bb7552b0592bf75842fe3dae32d3e94"), looks := false }, kinds := [], alts := [], laidByText := true, laidKinds := [.data, .pinned], laidTests := true, laidLooks := .later }
def MoveRestCardSaid : Prop := Claim7.holds Tryd.pinned (.plain (OpenSpec.ofChange moveRestSpec)) moveRestCard

/-- THE TIED CARD OF 'wherrylaw.EdgeSends'. -/
def edgeSendsCard : Claim7 := { stood := { row := edgeSendsRow, standIns := [], harness := (true, "77fff9e4a902e02fe1e6a68805295e7e0bb7552b0592bf75842fe3dae32d3e94"), looks := false }, kinds := [], alts := [], laidByText := true, laidKinds := [.data, .pinned], laidTests := true, laidLooks := .later }
def EdgeSendsCardSaid : Prop := Claim7.holds Tryd.pinned (.plain (OpenSpec.ofChange edgeSendsSpec)) edgeSendsCard

/-- THE TIED CARD OF 'wherrylaw.EdgeHears'. -/
def edgeHearsCard : Claim7 := { stood := { row := edgeHearsRow, standIns := [], harness := (true, "77fff9e4a902e02fe1e6a68805295e7e0bb7552b0592bf75842fe3dae32d3e94"), looks := false }, kinds := [], alts := [], laidByText := true, laidKinds := [.data, .pinned], laidTests := true, laidLooks := .later }
def EdgeHearsCardSaid : Prop := Claim7.holds Tryd.pinned (.plain (OpenSpec.ofChange edgeHearsSpec)) edgeHearsCard

/-- THE TIED CARD OF 'wherrykeep.EdgeMeets'. -/
def edgeMeetsCard : Claim7 := { stood := { row := edgeMeetsRow, standIns := [], harness := (true, "77fff9e4a902e02fe1e6a68805295e7e0bb7552b0592bf75842fe3dae32d3e94"), looks := false }, kinds := [], alts := [], laidByText := true, laidKinds := [.data, .pinned], laidTests := true, laidLooks := .later }
def EdgeMeetsCardSaid : Prop := Claim7.holds Tryd.pinned (.plain (OpenSpec.ofChange edgeMeetsSpec)) edgeMeetsCard

/-- THE TIED CARD OF 'wherrykeep.EdgeKnown'. -/
def edgeKnownCard : Claim7 := { stood := { row := edgeKnownRow, standIns := [], harness := (true, "77fff9e4a902e02fe1e6a68805295e7e0bb7552b0592bf75842fe3dae32d3e94"), looks := false }, kinds := [], alts := [], laidByText := true, laidKinds := [.data, .pinned], laidTests := true, laidLooks := .later }
def EdgeKnownCardSaid : Prop := Claim7.holds Tryd.pinned (.plain (OpenSpec.ofChange edgeKnownSpec)) edgeKnownCard

/-- THE TIED CARD OF 'wherrykeep.EdgeUpper'. -/
def edgeUpperCard : Claim7 := { stood := { row := edgeUpperRow, standIns := [], harness := (true, "77fff9e4a902e02fe1e6a68805295e7e0bb7552b0592bf75842fe3dae32d3e94"), looks := false }, kinds := [], alts := [], laidByText := true, laidKinds := [.data, .pinned], laidTests := true, laidLooks := .later }
def EdgeUpperCardSaid : Prop := Claim7.holds Tryd.pinned (.plain (OpenSpec.ofChange edgeUpperSpec)) edgeUpperCard

/-- THE TIED CARD OF 'wherrylaw.WireWrites'. -/
def wireWritesCard : Claim7 := { stood := { row := wireWritesRow, standIns := [], harness := (true, "77fff9e4a902e02fe1e6a68805295e7e0bb7552b0592bf75842fe3dae32d3e94"), looks := false }, kinds := [], alts := [], laidByText := true, laidKinds := [.data, .pinned], laidTests := true, laidLooks := .later }
def WireWritesCardSaid : Prop := Claim7.holds Tryd.pinned (.plain (OpenSpec.ofChange wireWritesSpec)) wireWritesCard

/-- THE TIED CARD OF 'wherrylaw.TapeAppends'. -/
def tapeAppendsCard : Claim7 := { stood := { row := tapeAppendsRow, standIns := [], harness := (true, "77fff9e4a902e02fe1e6a68805295e7e0bb7552b0592bf75842fe3dae32d3e94"), looks := false }, kinds := [], alts := [], laidByText := true, laidKinds := [.data, .pinned], laidTests := true, laidLooks := .later }
def TapeAppendsCardSaid : Prop := Claim7.holds Tryd.pinned (.plain (OpenSpec.ofChange tapeAppendsSpec)) tapeAppendsCard

/-- THE TIED CARD OF 'wherrylaw.TapeRecovers'. -/
def tapeRecoversCard : Claim7 := { stood := { row := tapeRecoversRow, standIns := [], harness := (true, "77fff9e4a902e02fe1e6a68805295e7e0bb7552b0592bf75842fe3dae32d3e94"), looks := false }, kinds := [], alts := [], laidByText := true, laidKinds := [.data, .pinned], laidTests := true, laidLooks := .later }
def TapeRecoversCardSaid : Prop := Claim7.holds Tryd.pinned (.plain (OpenSpec.ofChange tapeRecoversSpec)) tapeRecoversCard

/-- THE TIED CARD OF 'wherrylaw.TapeReplays'. -/
def tapeReplaysCard : Claim7 := { stood := { row := tapeReplaysRow, standIns := [], harness := (true, "77fff9e4a902e02fe1e6a68805295e7e0bb7552b0592bf75842fe3dae32d3e94"), looks := false }, kinds := [], alts := [], laidByText := true, laidKinds := [.data, .pinned], laidTests := true, laidLooks := .later }
def TapeReplaysCardSaid : Prop := Claim7.holds Tryd.pinned (.plain (OpenSpec.ofChange tapeReplaysSpec)) tapeReplaysCard

/-- THE TIED CARD OF 'wherrykeep.TapeKeeps'. -/
def tapeKeepsCard : Claim7 := { stood := { row := tapeKeepsRow, standIns := [], harness := (true, "77fff9e4a902e02fe1e6a68805295e7e0bb7552b0592bf75842fe3dae32d3e94"), looks := false }, kinds := [], alts := [], laidByText := true, laidKinds := [.data, .pinned], laidTests := true, laidLooks := .later }
def TapeKeepsCardSaid : Prop := Claim7.holds Tryd.pinned (.plain (OpenSpec.ofChange tapeKeepsSpec)) tapeKeepsCard

/-- THE TIED CARD OF 'wherrykeep.TapeTorn'. -/
def tapeTornCard : Claim7 := { stood := { row := tapeTornRow, standIns := [], harness := (true, "77fff9e4a902e02fe1e6a68805295e7e0bb7552b0592bf75842fe3dae32d3e94"), looks := false }, kinds := [], alts := [], laidByText := true, laidKinds := [.data, .pinned], laidTests := true, laidLooks := .later }
def TapeTornCardSaid : Prop := Claim7.holds Tryd.pinned (.plain (OpenSpec.ofChange tapeTornSpec)) tapeTornCard

/-- THE TIED CARD OF 'wherrykeep.TapeOn'. -/
def tapeOnCard : Claim7 := { stood := { row := tapeOnRow, standIns := [], harness := (true, "77fff9e4a902e02fe1e6a68805295e7e0bb7552b0592bf75842fe3dae32d3e94"), looks := false }, kinds := [], alts := [], laidByText := true, laidKinds := [.data, .pinned], laidTests := true, laidLooks := .later }
def TapeOnCardSaid : Prop := Claim7.holds Tryd.pinned (.plain (OpenSpec.ofChange tapeOnSpec)) tapeOnCard

/-- THE TIED CARD OF 'wherrykeep.CrashJust'. -/
def crashJustCard : Claim7 := { stood := { row := crashJustRow, standIns := [], harness := (true, "77fff9e4a902e02fe1e6a68805295e7e0bb7552b0592bf75842fe3dae32d3e94"), looks := false }, kinds := [], alts := [], laidByText := true, laidKinds := [.data, .pinned], laidTests := true, laidLooks := .later }
def CrashJustCardSaid : Prop := Claim7.holds Tryd.pinned (.plain (OpenSpec.ofChange crashJustSpec)) crashJustCard

/-- THE TIED CARD OF 'wherrykeep.ReplayMakes'. -/
def replayMakesCard : Claim7 := { stood := { row := replayMakesRow, standIns := [], harness := (true, "77fff9e4a902e02fe1e6a68805295e7e0bb7552b0592bf75842fe3dae32d3e94"), looks := false }, kinds := [], alts := [], laidByText := true, laidKinds := [.data, .pinned], laidTests := true, laidLooks := .later }
def ReplayMakesCardSaid : Prop := Claim7.holds Tryd.pinned (.plain (OpenSpec.ofChange replayMakesSpec)) replayMakesCard

/-- THE TIED CARD OF 'wherrykeep.TapeLengths'. -/
def tapeLengthsCard : Claim7 := { stood := { row := tapeLengthsRow, standIns := [], harness := (true, "77fff9e4a902e02fe1e6a68805295e7e0bb7552b0592bf75842fe3dae32d3e94"), looks := false }, kinds := [], alts := [], laidByText := true, laidKinds := [.data, .pinned], laidTests := true, laidLooks := .later }
def TapeLengthsCardSaid : Prop := Claim7.holds Tryd.pinned (.plain (OpenSpec.ofChange tapeLengthsSpec)) tapeLengthsCard

/-- THE SECOND FORM's CARD OF 'wherrykeep.MoveRest'. -/
def moveRestUptoCard : Claim7 := { stood := { row := moveRestUptoRow, standIns := [], harness := (true, "77fff9e4a902e02fe1e6a68805295e7e0bb7552b0592bf75842fe3dae32d3e94"), looks := false }, kinds := [], alts := [], laidByText := true, laidKinds := [.data, .pinned], laidTests := true, laidLooks := .later }
def MoveRestUptoCardSaid : Prop := Claim7.holds Tryd.pinned (.plain (OpenSpec.upto moveRestSpec)) moveRestUptoCard

/-- THE SECOND FORM's CARD OF 'wherrylaw.EdgeSends'. -/
def edgeSendsUptoCard : Claim7 := { stood := { row := edgeSendsUptoRow, standIns := [], harness := (true, "77fff9e4a902e02fe1e6a68805295e7e0bb7552b0592bf75842fe3dae32d3e94"), looks := false }, kinds := [], alts := [], laidByText := true, laidKinds := [.data, .pinned], laidTests := true, laidLooks := .later }
def EdgeSendsUptoCardSaid : Prop := Claim7.holds Tryd.pinned (.plain (OpenSpec.upto edgeSendsSpec)) edgeSendsUptoCard

/-- THE SECOND FORM's CARD OF 'wherrylaw.EdgeHears'. -/
def edgeHearsUptoCard : Claim7 := { stood := { row := edgeHearsUptoRow, standIns := [], harness := (true, "77fff9e4a902e02fe1e6a68805295e7e0bb7552b0592bf75842fe3dae32d3e94"), looks := false }, kinds := [], alts := [], laidByText := true, laidKinds := [.data, .pinned], laidTests := true, laidLooks := .later }
def EdgeHearsUptoCardSaid : Prop := Claim7.holds Tryd.pinned (.plain (OpenSpec.upto edgeHearsSpec)) edgeHearsUptoCard

/-- THE SECOND FORM's CARD OF 'wherrykeep.EdgeMeets'. -/
def edgeMeetsUptoCard : Claim7 := { stood := { row := edgeMeetsUptoRow, standIns := [], harness := (true, "77fff9e4a902e02fe1e6a68805295e7e0bb7552b0592bf75842fe3dae32d3e94"), looks := false }, kinds := [], alts := [], laidByText := true, laidKinds := [.data, .pinned], laidTests := true, laidLooks := .later }
def EdgeMeetsUptoCardSaid : Prop := Claim7.holds Tryd.pinned (.plain (OpenSpec.upto edgeMeetsSpec)) edgeMeetsUptoCard

/-- THE SECOND FORM's CARD OF 'wherrykeep.EdgeKnown'. -/
def edgeKnownUptoCard : Claim7 := { stood := { row := edgeKnownUptoRow, standIns := [], harness := (true, "77fff9e4a902e02fe1e6a68805295e7e0bb7552b0592bf75842fe3dae32d3e94"), looks := false }, kinds := [], alts := [], laidByText := true, laidKinds := [.data, .pinned], laidTests := true, laidLooks := .later }
def EdgeKnownUptoCardSaid : Prop := Claim7.holds Tryd.pinned (.plain (OpenSpec.upto edgeKnownSpec)) edgeKnownUptoCard

/-- THE SECOND FORM's CARD OF 'wherrykeep.EdgeUpper'. -/
def edgeUpperUptoCard : Claim7 := { stood := { row := edgeUpperUptoRow, standIns := [], harness := (true, "77fff9e4a902e02fe1e6a68805295e7e0bb7552b0592bf75842fe3dae32d3e94"), looks := false }, kinds := [], alts := [], laidByText := true, laidKinds := [.data, .pinned], laidTests := true, laidLooks := .later }
def EdgeUpperUptoCardSaid : Prop := Claim7.holds Tryd.pinned (.plain (OpenSpec.upto edgeUpperSpec)) edgeUpperUptoCard

/-- THE SECOND FORM's CARD OF 'wherrylaw.WireWrites'. -/
def wireWritesUptoCard : Claim7 := { stood := { row := wireWritesUptoRow, standIns := [], harness := (true, "77fff9e4a902e02fe1e6a68805295e7e0bb7552b0592bf75842fe3dae32d3e94"), looks := false }, kinds := [], alts := [], laidByText := true, laidKinds := [.data, .pinned], laidTests := true, laidLooks := .later }
def WireWritesUptoCardSaid : Prop := Claim7.holds Tryd.pinned (.plain (OpenSpec.upto wireWritesSpec)) wireWritesUptoCard

/-- THE SECOND FORM's CARD OF 'wherrylaw.TapeAppends'. -/
def tapeAppendsUptoCard : Claim7 := { stood := { row := tapeAppendsUptoRow, standIns := [], harness := (true, "77fff9e4a902e02fe1e6a68805295e7e0bb7552b0592bf75842fe3dae32d3e94"), looks := false }, kinds := [], alts := [], laidByText := true, laidKinds := [.data, .pinned], laidTests := true, laidLooks := .later }
def TapeAppendsUptoCardSaid : Prop := Claim7.holds Tryd.pinned (.plain (OpenSpec.upto tapeAppendsSpec)) tapeAppendsUptoCard

/-- THE SECOND FORM's CARD OF 'wherrylaw.TapeRecovers'. -/
def tapeRecoversUptoCard : Claim7 := { stood := { row := tapeRecoversUptoRow, standIns := [], harness := (true, "77fff9e4a902e02fe1e6a68805295e7e0bb7552b0592bf75842fe3dae32d3e94"), looks := false }, kinds := [], alts := [], laidByText := true, laidKinds := [.data, .pinned], laidTests := true, laidLooks := .later }
def TapeRecoversUptoCardSaid : Prop := Claim7.holds Tryd.pinned (.plain (OpenSpec.upto tapeRecoversSpec)) tapeRecoversUptoCard

/-- THE SECOND FORM's CARD OF 'wherrylaw.TapeReplays'. -/
def tapeReplaysUptoCard : Claim7 := { stood := { row := tapeReplaysUptoRow, standIns := [], harness := (true, "77fff9e4a902e02fe1e6a68805295e7e0bb7552b0592bf75842fe3dae32d3e94"), looks := false }, kinds := [], alts := [], laidByText := true, laidKinds := [.data, .pinned], laidTests := true, laidLooks := .later }
def TapeReplaysUptoCardSaid : Prop := Claim7.holds Tryd.pinned (.plain (OpenSpec.upto tapeReplaysSpec)) tapeReplaysUptoCard

/-- THE SECOND FORM's CARD OF 'wherrykeep.TapeKeeps'. -/
def tapeKeepsUptoCard : Claim7 := { stood := { row := tapeKeepsUptoRow, standIns := [], harness := (true, "77fff9e4a902e02fe1e6a68805295e7e0bb7552b0592bf75842fe3dae32d3e94"), looks := false }, kinds := [], alts := [], laidByText := true, laidKinds := [.data, .pinned], laidTests := true, laidLooks := .later }
def TapeKeepsUptoCardSaid : Prop := Claim7.holds Tryd.pinned (.plain (OpenSpec.upto tapeKeepsSpec)) tapeKeepsUptoCard

/-- THE SECOND FORM's CARD OF 'wherrykeep.TapeTorn'. -/
def tapeTornUptoCard : Claim7 := { stood := { row := tapeTornUptoRow, standIns := [], harness := (true, "77fff9e4a902e02fe1e6a68805295e7e0bb7552b0592bf75842fe3dae32d3e94"), looks := false }, kinds := [], alts := [], laidByText := true, laidKinds := [.data, .pinned], laidTests := true, laidLooks := .later }
def TapeTornUptoCardSaid : Prop := Claim7.holds Tryd.pinned (.plain (OpenSpec.upto tapeTornSpec)) tapeTornUptoCard

/-- THE SECOND FORM's CARD OF 'wherrykeep.TapeOn'. -/
def tapeOnUptoCard : Claim7 := { stood := { row := tapeOnUptoRow, standIns := [], harness := (true, "77fff9e4a902e02fe1e6a68805295e7e0bb7552b0592bf75842fe3dae32d3e94"), looks := false }, kinds := [], alts := [], laidByText := true, laidKinds := [.data, .pinned], laidTests := true, laidLooks := .later }
def TapeOnUptoCardSaid : Prop := Claim7.holds Tryd.pinned (.plain (OpenSpec.upto tapeOnSpec)) tapeOnUptoCard

/-- THE SECOND FORM's CARD OF 'wherrykeep.CrashJust'. -/
def crashJustUptoCard : Claim7 := { stood := { row := crashJustUptoRow, standIns := [], harness := (true, "77fff9e4a902e02fe1e6a68805295e7e0bb7552b0592bf75842fe3dae32d3e94"), looks := false }, kinds := [], alts := [], laidByText := true, laidKinds := [.data, .pinned], laidTests := true, laidLooks := .later }
def CrashJustUptoCardSaid : Prop := Claim7.holds Tryd.pinned (.plain (OpenSpec.upto crashJustSpec)) crashJustUptoCard

/-- THE SECOND FORM's CARD OF 'wherrykeep.ReplayMakes'. -/
def replayMakesUptoCard : Claim7 := { stood := { row := replayMakesUptoRow, standIns := [], harness := (true, "77fff9e4a902e02fe1e6a68805295e7e0bb7552b0592bf75842fe3dae32d3e94"), looks := false }, kinds := [], alts := [], laidByText := true, laidKinds := [.data, .pinned], laidTests := true, laidLooks := .later }
def ReplayMakesUptoCardSaid : Prop := Claim7.holds Tryd.pinned (.plain (OpenSpec.upto replayMakesSpec)) replayMakesUptoCard

/-- THE SECOND FORM's CARD OF 'wherrykeep.TapeLengths'. -/
def tapeLengthsUptoCard : Claim7 := { stood := { row := tapeLengthsUptoRow, standIns := [], harness := (true, "77fff9e4a902e02fe1e6a68805295e7e0bb7552b0592bf75842fe3dae32d3e94"), looks := false }, kinds := [], alts := [], laidByText := true, laidKinds := [.data, .pinned], laidTests := true, laidLooks := .later }
def TapeLengthsUptoCardSaid : Prop := Claim7.holds Tryd.pinned (.plain (OpenSpec.upto tapeLengthsSpec)) tapeLengthsUptoCard
end Rows
end Go.Proofs.YtknjnfknalfbdaaDoor
