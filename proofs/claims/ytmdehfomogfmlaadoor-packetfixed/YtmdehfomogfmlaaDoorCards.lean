/-
  DERIVED. GIVEN WITH THE SEED: THE CARDS: each row of YtmdehfomogfmlaaDoorRows.lean that lists a variable, with what it lists TIED to the program's text (the seventh form; the later family's looks); each row that meets fmt, with fmt's text TOLD by the authors' own Lean function (tested against real Go, not proved from fmt's source: count such statements apart). THE CARD IS WHAT COUNTS. Prove the row's statement (the work); the ties are given (YtmdehfomogfmlaaDoorTie.lean); close each card by the builder's one call (the guide's Derived/Test/ToyasCard.lean, 'card_holds'). Laid BY PROGRAM, IN A SANDBOX (cutbox-door.mjs). By AI agents, Wed Nov 11 2026. No macro, syntax, notation, axiom, sorry.
-/
import Derived.Test.YtmdehfomogfmlaaDoorRows
import GoSem.ClaimSeven
namespace Go.Proofs.YtmdehfomogfmlaaDoor
namespace Rows

/-- THE TIED CARD OF 'wherrykeep.EdgeKnown'. -/
def edgeKnownCard : Claim7 := { stood := { row := edgeKnownRow, standIns := [], harness := (true, "6a92601051be30c436391126d52a5fde615a0d5e6421482e8b8e65c2e7a93c90"), looks := false }, kinds := [], alts := [], laidByText := true, laidKinds := [.data, .pinned], laidTests := true, laidLooks := .later }
def EdgeKnownCardSaid : Prop := Claim7.holds Tryd.pinned (.plain (OpenSpec.ofChange edgeKnownSpec)) edgeKnownCard

/-- THE TIED CARD OF 'wherrykeep.EdgeUpper'. -/
def edgeUpperCard : Claim7 := { stood := { row := edgeUpperRow, standIns := [], harness := (true, "6a92601051be30c436391126d52a5fde615a0d5e6421482e8b8e65c2e7a93c90"), looks := false }, kinds := [], alts := [], laidByText := true, laidKinds := [.data, .pinned], laidTests := true, laidLooks := .later }
def EdgeUpperCardSaid : Prop := Claim7.holds Tryd.pinned (.plain (OpenSpec.ofChange edgeUpperSpec)) edgeUpperCard

/-- THE TIED CARD OF 'wherrykeep.EdgeMeets'. -/
def edgeMeetsCard : Claim7 := { stood := { row := edgeMeetsRow, standIns := [], harness := (true, "6a92601051be30c436391126d52a5fde615a0d5e6421482e8b8e65c2e7a93c90"), looks := false }, kinds := [], alts := [], laidByText := true, laidKinds := [.data, .pinned], laidTests := true, laidLooks := .later }
def EdgeMeetsCardSaid : Prop := Claim7.holds Tryd.pinned (.plain (OpenSpec.ofChange edgeMeetsSpec)) edgeMeetsCard

/-- THE TIED CARD OF 'wherrylaw.EdgeSends'. -/
def edgeSendsCard : Claim7 := { stood := { row := edgeSendsRow, standIns := [], harness := (true, "6a92601051be30c436391126d52a5fde615a0d5e6421482e8b8e65c2e7a93c90"), looks := false }, kinds := [], alts := [], laidByText := true, laidKinds := [.data, .pinned], laidTests := true, laidLooks := .later }
def EdgeSendsCardSaid : Prop := Claim7.holds Tryd.pinned (.plain (OpenSpec.ofChange edgeSendsSpec)) edgeSendsCard

/-- THE TIED CARD OF 'wherrylaw.EdgeHears'. -/
def edgeHearsCard : Claim7 := { stood := { row := edgeHearsRow, standIns := [], harness := (true, "6a92601051be30c436391126d52a5fde615a0d5e6421482e8b8e65c2e7a93c90"), looks := false }, kinds := [], alts := [], laidByText := true, laidKinds := [.data, .pinned], laidTests := true, laidLooks := .later }
def EdgeHearsCardSaid : Prop := Claim7.holds Tryd.pinned (.plain (OpenSpec.ofChange edgeHearsSpec)) edgeHearsCard

/-- THE TIED CARD OF 'wherrykeep.MoveRest'. -/
def moveRestCard : Claim7 := { stood := { row := moveRestRow, standIns := [], harness := (true, "6a92601051be30c436391126d52a5fde615a0d5e6421482e8b8e65c2e7a93c90"), looks := false }, kinds := [], alts := [], laidByText := true, laidKinds := [.data, .pinned], laidTests := true, laidLooks := .later }
def MoveRestCardSaid : Prop := Claim7.holds Tryd.pinned (.plain (OpenSpec.ofChange moveRestSpec)) moveRestCard

/-- THE TIED CARD OF 'wherrykeep.FrameBare'. -/
def frameBareCard : Claim7 := { stood := { row := frameBareRow, standIns := [], harness := (true, "6a92601051be30c436391126d52a5fde615a0d5e6421482e8b8e65c2e7a93c90"), looks := false }, kinds := [], alts := [], laidByText := true, laidKinds := [.data, .pinned], laidTests := true, laidLooks := .later }
def FrameBareCardSaid : Prop := Claim7.holds Tryd.pinned (.plain (OpenSpec.ofChange frameBareSpec)) frameBareCard

/-- THE TIED CARD OF 'wherrylaw.WireSends'. -/
def wireSendsCard : Claim7 := { stood := { row := wireSendsRow, standIns := [], harness := (true, "6a92601051be30c436391126d52a5fde615a0d5e6421482e8b8e65c2e7a93c90"), looks := false }, kinds := [], alts := [], laidByText := true, laidKinds := [.data, .pinned], laidTests := true, laidLooks := .later }
def WireSendsCardSaid : Prop := Claim7.holds Tryd.pinned (.plain (OpenSpec.ofChange wireSendsSpec)) wireSendsCard

/-- THE TIED CARD OF 'wherrylaw.WireWrites'. -/
def wireWritesCard : Claim7 := { stood := { row := wireWritesRow, standIns := [], harness := (true, "6a92601051be30c436391126d52a5fde615a0d5e6421482e8b8e65c2e7a93c90"), looks := false }, kinds := [], alts := [], laidByText := true, laidKinds := [.data, .pinned], laidTests := true, laidLooks := .later }
def WireWritesCardSaid : Prop := Claim7.holds Tryd.pinned (.plain (OpenSpec.ofChange wireWritesSpec)) wireWritesCard

/-- THE TIED CARD OF 'wherrylaw.WireHears'. -/
def wireHearsCard : Claim7 := { stood := { row := wireHearsRow, standIns := [], harness := (true, "6a92601051be30c436391126d52a5fde615a0d5e6421482e8b8e65c2e7a93c90"), looks := false }, kinds := [], alts := [], laidByText := true, laidKinds := [.data, .pinned], laidTests := true, laidLooks := .later }
def WireHearsCardSaid : Prop := Claim7.holds Tryd.pinned (.plain (OpenSpec.ofChange wireHearsSpec)) wireHearsCard

/-- THE TIED CARD OF 'wherrylaw.WireReads'. -/
def wireReadsCard : Claim7 := { stood := { row := wireReadsRow, standIns := [], harness := (true, "6a92601051be30c436391126d52a5fde615a0d5e6421482e8b8e65c2e7a93c90"), looks := false }, kinds := [], alts := [], laidByText := true, laidKinds := [.data, .pinned], laidTests := true, laidLooks := .later }
def WireReadsCardSaid : Prop := Claim7.holds Tryd.pinned (.plain (OpenSpec.ofChange wireReadsSpec)) wireReadsCard

/-- THE TIED CARD OF 'wherrykeep.PacketBack'. -/
def packetBackCard : Claim7 := { stood := { row := packetBackRow, standIns := [], harness := (true, "6a92601051be30c436391126d52a5fde615a0d5e6421482e8b8e65c2e7a93c90"), looks := false }, kinds := [], alts := [], laidByText := true, laidKinds := [.data, .pinned], laidTests := true, laidLooks := .later }
def PacketBackCardSaid : Prop := Claim7.holds Tryd.pinned (.plain (OpenSpec.ofChange packetBackSpec)) packetBackCard

/-- THE TIED CARD OF 'wherrykeep.PacketFixed'. -/
def packetFixedCard : Claim7 := { stood := { row := packetFixedRow, standIns := [], harness := (true, "6a92601051be30c436391126d52a5fde615a0d5e6421482e8b8e65c2e7a93c90"), looks := false }, kinds := [], alts := [], laidByText := true, laidKinds := [.data, .pinned], laidTests := true, laidLooks := .later }
def PacketFixedCardSaid : Prop := Claim7.holds Tryd.pinned (.plain (OpenSpec.ofChange packetFixedSpec)) packetFixedCard

/-- THE TIED CARD OF 'wherrykeep.RecordBack'. -/
def recordBackCard : Claim7 := { stood := { row := recordBackRow, standIns := [], harness := (true, "6a92601051be30c436391126d52a5fde615a0d5e6421482e8b8e65c2e7a93c90"), looks := false }, kinds := [], alts := [], laidByText := true, laidKinds := [.data, .pinned], laidTests := true, laidLooks := .later }
def RecordBackCardSaid : Prop := Claim7.holds Tryd.pinned (.plain (OpenSpec.ofChange recordBackSpec)) recordBackCard

/-- THE SECOND FORM's CARD OF 'wherrykeep.EdgeKnown'. -/
def edgeKnownUptoCard : Claim7 := { stood := { row := edgeKnownUptoRow, standIns := [], harness := (true, "6a92601051be30c436391126d52a5fde615a0d5e6421482e8b8e65c2e7a93c90"), looks := false }, kinds := [], alts := [], laidByText := true, laidKinds := [.data, .pinned], laidTests := true, laidLooks := .later }
def EdgeKnownUptoCardSaid : Prop := Claim7.holds Tryd.pinned (.plain (OpenSpec.upto edgeKnownSpec)) edgeKnownUptoCard

/-- THE SECOND FORM's CARD OF 'wherrykeep.EdgeUpper'. -/
def edgeUpperUptoCard : Claim7 := { stood := { row := edgeUpperUptoRow, standIns := [], harness := (true, "6a92601051be30c436391126d52a5fde615a0d5e6421482e8b8e65c2e7a93c90"), looks := false }, kinds := [], alts := [], laidByText := true, laidKinds := [.data, .pinned], laidTests := true, laidLooks := .later }
def EdgeUpperUptoCardSaid : Prop := Claim7.holds Tryd.pinned (.plain (OpenSpec.upto edgeUpperSpec)) edgeUpperUptoCard

/-- THE SECOND FORM's CARD OF 'wherrykeep.EdgeMeets'. -/
def edgeMeetsUptoCard : Claim7 := { stood := { row := edgeMeetsUptoRow, standIns := [], harness := (true, "6a92601051be30c436391126d52a5fde615a0d5e6421482e8b8e65c2e7a93c90"), looks := false }, kinds := [], alts := [], laidByText := true, laidKinds := [.data, .pinned], laidTests := true, laidLooks := .later }
def EdgeMeetsUptoCardSaid : Prop := Claim7.holds Tryd.pinned (.plain (OpenSpec.upto edgeMeetsSpec)) edgeMeetsUptoCard

/-- THE SECOND FORM's CARD OF 'wherrylaw.EdgeSends'. -/
def edgeSendsUptoCard : Claim7 := { stood := { row := edgeSendsUptoRow, standIns := [], harness := (true, "6a92601051be30c436391126d52a5fde615a0d5e6421482e8b8e65c2e7a93c90"), looks := false }, kinds := [], alts := [], laidByText := true, laidKinds := [.data, .pinned], laidTests := true, laidLooks := .later }
def EdgeSendsUptoCardSaid : Prop := Claim7.holds Tryd.pinned (.plain (OpenSpec.upto edgeSendsSpec)) edgeSendsUptoCard

/-- THE SECOND FORM's CARD OF 'wherrylaw.EdgeHears'. -/
def edgeHearsUptoCard : Claim7 := { stood := { row := edgeHearsUptoRow, standIns := [], harness := (true, "6a92601051be30c436391126d52a5fde615a0d5e6421482e8b8e65c2e7a93c90"), looks := false }, kinds := [], alts := [], laidByText := true, laidKinds := [.data, .pinned], laidTests := true, laidLooks := .later }
def EdgeHearsUptoCardSaid : Prop := Claim7.holds Tryd.pinned (.plain (OpenSpec.upto edgeHearsSpec)) edgeHearsUptoCard

/-- THE SECOND FORM's CARD OF 'wherrykeep.MoveRest'. -/
def moveRestUptoCard : Claim7 := { stood := { row := moveRestUptoRow, standIns := [], harness := (true, "6a92601051be30c436391126d52a5fde615a0d5e6421482e8b8e65c2e7a93c90"), looks := false }, kinds := [], alts := [], laidByText := true, laidKinds := [.data, .pinned], laidTests := true, laidLooks := .later }
def MoveRestUptoCardSaid : Prop := Claim7.holds Tryd.pinned (.plain (OpenSpec.upto moveRestSpec)) moveRestUptoCard

/-- THE SECOND FORM's CARD OF 'wherrykeep.FrameBare'. -/
def frameBareUptoCard : Claim7 := { stood := { row := frameBareUptoRow, standIns := [], harness := (true, "6a92601051be30c436391126d52a5fde615a0d5e6421482e8b8e65c2e7a93c90"), looks := false }, kinds := [], alts := [], laidByText := true, laidKinds := [.data, .pinned], laidTests := true, laidLooks := .later }
def FrameBareUptoCardSaid : Prop := Claim7.holds Tryd.pinned (.plain (OpenSpec.upto frameBareSpec)) frameBareUptoCard

/-- THE SECOND FORM's CARD OF 'wherrylaw.WireSends'. -/
def wireSendsUptoCard : Claim7 := { stood := { row := wireSendsUptoRow, standIns := [], harness := (true, "6a92601051be30c436391126d52a5fde615a0d5e6421482e8b8e65c2e7a93c90"), looks := false }, kinds := [], alts := [], laidByText := true, laidKinds := [.data, .pinned], laidTests := true, laidLooks := .later }
def WireSendsUptoCardSaid : Prop := Claim7.holds Tryd.pinned (.plain (OpenSpec.upto wireSendsSpec)) wireSendsUptoCard

/-- THE SECOND FORM's CARD OF 'wherrylaw.WireWrites'. -/
def wireWritesUptoCard : Claim7 := { stood := { row := wireWritesUptoRow, standIns := [], harness := (true, "6a92601051be30c436391126d52a5fde615a0d5e6421482e8b8e65c2e7a93c90"), looks := false }, kinds := [], alts := [], laidByText := true, laidKinds := [.data, .pinned], laidTests := true, laidLooks := .later }
def WireWritesUptoCardSaid : Prop := Claim7.holds Tryd.pinned (.plain (OpenSpec.upto wireWritesSpec)) wireWritesUptoCard

/-- THE SECOND FORM's CARD OF 'wherrylaw.WireHears'. -/
def wireHearsUptoCard : Claim7 := { stood := { row := wireHearsUptoRow, standIns := [], harness := (true, "6a92601051be30c436391126d52a5fde615a0d5e6421482e8b8e65c2e7a93c90"), looks := false }, kinds := [], alts := [], laidByText := true, laidKinds := [.data, .pinned], laidTests := true, laidLooks := .later }
def WireHearsUptoCardSaid : Prop := Claim7.holds Tryd.pinned (.plain (OpenSpec.upto wireHearsSpec)) wireHearsUptoCard

/-- THE SECOND FORM's CARD OF 'wherrylaw.WireReads'. -/
def wireReadsUptoCard : Claim7 := { stood := { row := wireReadsUptoRow, standIns := [], harness := (true, "6a92601051be30c436391126d52a5fde615a0d5e6421482e8b8e65c2e7a93c90"), looks := false }, kinds := [], alts := [], laidByText := true, laidKinds := [.data, .pinned], laidTests := true, laidLooks := .later }
def WireReadsUptoCardSaid : Prop := Claim7.holds Tryd.pinned (.plain (OpenSpec.upto wireReadsSpec)) wireReadsUptoCard

/-- THE SECOND FORM's CARD OF 'wherrykeep.PacketBack'. -/
def packetBackUptoCard : Claim7 := { stood := { row := packetBackUptoRow, standIns := [], harness := (true, "6a92601051be30c436391126d52a5fde615a0d5e6421482e8b8e65c2e7a93c90"), looks := false }, kinds := [], alts := [], laidByText := true, laidKinds := [.data, .pinned], laidTests := true, laidLooks := .later }
def PacketBackUptoCardSaid : Prop := Claim7.holds Tryd.pinned (.plain (OpenSpec.upto packetBackSpec)) packetBackUptoCard

/-- THE SECOND FORM's CARD OF 'wherrykeep.PacketFixed'. -/
def packetFixedUptoCard : Claim7 := { stood := { row := packetFixedUptoRow, standIns := [], harness := (true, "6a92601051be30c436391126d52a5fde615a0d5e6421482e8b8e65c2e7a93c90"), looks := false }, kinds := [], alts := [], laidByText := true, laidKinds := [.data, .pinned], laidTests := true, laidLooks := .later }
def PacketFixedUptoCardSaid : Prop := Claim7.holds Tryd.pinned (.plain (OpenSpec.upto packetFixedSpec)) packetFixedUptoCard

/-- THE SECOND FORM's CARD OF 'wherrykeep.RecordBack'. -/
def recordBackUptoCard : Claim7 := { stood := { row := recordBackUptoRow, standIns := [], harness := (true, "6a92601051be30c436391126d52a5fde615a0d5e6421482e8b8e65c2e7a93c90"), looks := false }, kinds := [], alts := [], laidByText := true, laidKinds := [.data, .pinned], laidTests := true, laidLooks := .later }
def RecordBackUptoCardSaid : Prop := Claim7.holds Tryd.pinned (.plain (OpenSpec.upto recordBackSpec)) recordBackUptoCard
end Rows
end Go.Proofs.YtmdehfomogfmlaaDoor
