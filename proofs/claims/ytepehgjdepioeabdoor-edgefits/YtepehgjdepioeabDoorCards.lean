/-
  DERIVED. GIVEN WITH THE SEED: THE CARDS: each row of YtepehgjdepioeabDoorRows.lean that lists a variable, with what it lists TIED to the program's text (the seventh form; the later family's looks); each row that meets fmt, with fmt's text TOLD by the authors' own Lean function (tested against real Go, not proved from fmt's source: count such statements apart). THE CARD IS WHAT COUNTS. Prove the row's statement (the work); the ties are given (YtepehgjdepioeabDoorTie.lean); close each card by the builder's one call (the guide's Derived/Test/ToyasCard.lean, 'card_holds'). Laid BY PROGRAM, IN A SANDBOX (cutbox-door.mjs). By AI agents, Wed Nov 11 2026. No macro, syntax, notation, axiom, sorry.
-/
import Derived.Test.YtepehgjdepioeabDoorRows
import GoSem.ClaimSeven
namespace Go.Proofs.YtepehgjdepioeabDoor
namespace Rows

/-- THE TIED CARD OF 'wherrykeep.OpBad'. -/
def opBadCard : Claim7 := { stood := { row := opBadRow, standIns := [], harness := (true, "f9cba1f3817f6789ceba746ac7938f258e49ae6f86d96d7c77b3891be7b482a9"), looks := false }, kinds := [], alts := [], laidByText := true, laidKinds := [.data, .pinned], laidTests := true, laidLooks := .later }
def OpBadCardSaid : Prop := Claim7.holds Tryd.pinned (.plain (OpenSpec.ofChange opBadSpec)) opBadCard

/-- THE TIED CARD OF 'wherrykeep.TextLong'. -/
def textLongCard : Claim7 := { stood := { row := textLongRow, standIns := [], harness := (true, "f9cba1f3817f6789ceba746ac7938f258e49ae6f86d96d7c77b3891be7b482a9"), looks := false }, kinds := [], alts := [], laidByText := true, laidKinds := [.data, .pinned], laidTests := true, laidLooks := .later }
def TextLongCardSaid : Prop := Claim7.holds Tryd.pinned (.plain (OpenSpec.ofChange textLongSpec)) textLongCard

/-- THE TIED CARD OF 'wherrykeep.LengthsFit'. -/
def lengthsFitCard : Claim7 := { stood := { row := lengthsFitRow, standIns := [], harness := (true, "f9cba1f3817f6789ceba746ac7938f258e49ae6f86d96d7c77b3891be7b482a9"), looks := false }, kinds := [], alts := [], laidByText := true, laidKinds := [.data, .pinned], laidTests := true, laidLooks := .later }
def LengthsFitCardSaid : Prop := Claim7.holds Tryd.pinned (.plain (OpenSpec.ofChange lengthsFitSpec)) lengthsFitCard

/-- THE TIED CARD OF 'wherrykeep.TransformLengths'. -/
def transformLengthsCard : Claim7 := { stood := { row := transformLengthsRow, standIns := [], harness := (true, "f9cba1f3817f6789ceba746ac7938f258e49ae6f86d96d7c77b3891be7b482a9"), looks := false }, kinds := [], alts := [], laidByText := true, laidKinds := [.data, .pinned], laidTests := true, laidLooks := .later }
def TransformLengthsCardSaid : Prop := Claim7.holds Tryd.pinned (.plain (OpenSpec.ofChange transformLengthsSpec)) transformLengthsCard

/-- THE TIED CARD OF 'wherrykeep.TransformTwo'. -/
def transformTwoCard : Claim7 := { stood := { row := transformTwoRow, standIns := [], harness := (true, "f9cba1f3817f6789ceba746ac7938f258e49ae6f86d96d7c77b3891be7b482a9"), looks := false }, kinds := [], alts := [], laidByText := true, laidKinds := [.data, .pinned], laidTests := true, laidLooks := .later }
def TransformTwoCardSaid : Prop := Claim7.holds Tryd.pinned (.plain (OpenSpec.ofChange transformTwoSpec)) transformTwoCard

/-- THE TIED CARD OF 'wherrylaw.EdgeChecks'. -/
def edgeChecksCard : Claim7 := { stood := { row := edgeChecksRow, standIns := [], harness := (true, "f9cba1f3817f6789ceba746ac7938f258e49ae6f86d96d7c77b3891be7b482a9"), looks := false }, kinds := [], alts := [], laidByText := true, laidKinds := [.data, .pinned], laidTests := true, laidLooks := .later }
def EdgeChecksCardSaid : Prop := Claim7.holds Tryd.pinned (.plain (OpenSpec.ofChange edgeChecksSpec)) edgeChecksCard

/-- THE TIED CARD OF 'wherrylaw.EdgeSends'. -/
def edgeSendsCard : Claim7 := { stood := { row := edgeSendsRow, standIns := [], harness := (true, "f9cba1f3817f6789ceba746ac7938f258e49ae6f86d96d7c77b3891be7b482a9"), looks := false }, kinds := [], alts := [], laidByText := true, laidKinds := [.data, .pinned], laidTests := true, laidLooks := .later }
def EdgeSendsCardSaid : Prop := Claim7.holds Tryd.pinned (.plain (OpenSpec.ofChange edgeSendsSpec)) edgeSendsCard

/-- THE TIED CARD OF 'wherrylaw.EdgeHears'. -/
def edgeHearsCard : Claim7 := { stood := { row := edgeHearsRow, standIns := [], harness := (true, "f9cba1f3817f6789ceba746ac7938f258e49ae6f86d96d7c77b3891be7b482a9"), looks := false }, kinds := [], alts := [], laidByText := true, laidKinds := [.data, .pinned], laidTests := true, laidLooks := .later }
def EdgeHearsCardSaid : Prop := Claim7.holds Tryd.pinned (.plain (OpenSpec.ofChange edgeHearsSpec)) edgeHearsCard

/-- THE TIED CARD OF 'wherrykeep.EdgeMeets'. -/
def edgeMeetsCard : Claim7 := { stood := { row := edgeMeetsRow, standIns := [], harness := (true, "f9cba1f3817f6789ceba746ac7938f258e49ae6f86d96d7c77b3891be7b482a9"), looks := false }, kinds := [], alts := [], laidByText := true, laidKinds := [.data, .pinned], laidTests := true, laidLooks := .later }
def EdgeMeetsCardSaid : Prop := Claim7.holds Tryd.pinned (.plain (OpenSpec.ofChange edgeMeetsSpec)) edgeMeetsCard

/-- THE TIED CARD OF 'wherrykeep.EdgeKnown'. -/
def edgeKnownCard : Claim7 := { stood := { row := edgeKnownRow, standIns := [], harness := (true, "f9cba1f3817f6789ceba746ac7938f258e49ae6f86d96d7c77b3891be7b482a9"), looks := false }, kinds := [], alts := [], laidByText := true, laidKinds := [.data, .pinned], laidTests := true, laidLooks := .later }
def EdgeKnownCardSaid : Prop := Claim7.holds Tryd.pinned (.plain (OpenSpec.ofChange edgeKnownSpec)) edgeKnownCard

/-- THE TIED CARD OF 'wherrykeep.EdgeAlone'. -/
def edgeAloneCard : Claim7 := { stood := { row := edgeAloneRow, standIns := [], harness := (true, "f9cba1f3817f6789ceba746ac7938f258e49ae6f86d96d7c77b3891be7b482a9"), looks := false }, kinds := [], alts := [], laidByText := true, laidKinds := [.data, .pinned], laidTests := true, laidLooks := .later }
def EdgeAloneCardSaid : Prop := Claim7.holds Tryd.pinned (.plain (OpenSpec.ofChange edgeAloneSpec)) edgeAloneCard

/-- THE TIED CARD OF 'wherrykeep.EdgeFits'. -/
def edgeFitsCard : Claim7 := { stood := { row := edgeFitsRow, standIns := [], harness := (true, "f9cba1f3817f6789ceba746ac7938f258e49ae6f86d96d7c77b3891be7b482a9"), looks := false }, kinds := [], alts := [], laidByText := true, laidKinds := [.data, .pinned], laidTests := true, laidLooks := .later }
def EdgeFitsCardSaid : Prop := Claim7.holds Tryd.pinned (.plain (OpenSpec.ofChange edgeFitsSpec)) edgeFitsCard

/-- THE SECOND FORM's CARD OF 'wherrykeep.OpBad'. -/
def opBadUptoCard : Claim7 := { stood := { row := opBadUptoRow, standIns := [], harness := (true, "f9cba1f3817f6789ceba746ac7938f258e49ae6f86d96d7c77b3891be7b482a9"), looks := false }, kinds := [], alts := [], laidByText := true, laidKinds := [.data, .pinned], laidTests := true, laidLooks := .later }
def OpBadUptoCardSaid : Prop := Claim7.holds Tryd.pinned (.plain (OpenSpec.upto opBadSpec)) opBadUptoCard

/-- THE SECOND FORM's CARD OF 'wherrykeep.TextLong'. -/
def textLongUptoCard : Claim7 := { stood := { row := textLongUptoRow, standIns := [], harness := (true, "f9cba1f3817f6789ceba746ac7938f258e49ae6f86d96d7c77b3891be7b482a9"), looks := false }, kinds := [], alts := [], laidByText := true, laidKinds := [.data, .pinned], laidTests := true, laidLooks := .later }
def TextLongUptoCardSaid : Prop := Claim7.holds Tryd.pinned (.plain (OpenSpec.upto textLongSpec)) textLongUptoCard

/-- THE SECOND FORM's CARD OF 'wherrykeep.LengthsFit'. -/
def lengthsFitUptoCard : Claim7 := { stood := { row := lengthsFitUptoRow, standIns := [], harness := (true, "f9cba1f3817f6789ceba746ac7938f258e49ae6f86d96d7c77b3891be7b482a9"), looks := false }, kinds := [], alts := [], laidByText := true, laidKinds := [.data, .pinned], laidTests := true, laidLooks := .later }
def LengthsFitUptoCardSaid : Prop := Claim7.holds Tryd.pinned (.plain (OpenSpec.upto lengthsFitSpec)) lengthsFitUptoCard

/-- THE SECOND FORM's CARD OF 'wherrykeep.TransformLengths'. -/
def transformLengthsUptoCard : Claim7 := { stood := { row := transformLengthsUptoRow, standIns := [], harness := (true, "f9cba1f3817f6789ceba746ac7938f258e49ae6f86d96d7c77b3891be7b482a9"), looks := false }, kinds := [], alts := [], laidByText := true, laidKinds := [.data, .pinned], laidTests := true, laidLooks := .later }
def TransformLengthsUptoCardSaid : Prop := Claim7.holds Tryd.pinned (.plain (OpenSpec.upto transformLengthsSpec)) transformLengthsUptoCard

/-- THE SECOND FORM's CARD OF 'wherrykeep.TransformTwo'. -/
def transformTwoUptoCard : Claim7 := { stood := { row := transformTwoUptoRow, standIns := [], harness := (true, "f9cba1f3817f6789ceba746ac7938f258e49ae6f86d96d7c77b3891be7b482a9"), looks := false }, kinds := [], alts := [], laidByText := true, laidKinds := [.data, .pinned], laidTests := true, laidLooks := .later }
def TransformTwoUptoCardSaid : Prop := Claim7.holds Tryd.pinned (.plain (OpenSpec.upto transformTwoSpec)) transformTwoUptoCard

/-- THE SECOND FORM's CARD OF 'wherrylaw.EdgeChecks'. -/
def edgeChecksUptoCard : Claim7 := { stood := { row := edgeChecksUptoRow, standIns := [], harness := (true, "f9cba1f3817f6789ceba746ac7938f258e49ae6f86d96d7c77b3891be7b482a9"), looks := false }, kinds := [], alts := [], laidByText := true, laidKinds := [.data, .pinned], laidTests := true, laidLooks := .later }
def EdgeChecksUptoCardSaid : Prop := Claim7.holds Tryd.pinned (.plain (OpenSpec.upto edgeChecksSpec)) edgeChecksUptoCard

/-- THE SECOND FORM's CARD OF 'wherrylaw.EdgeSends'. -/
def edgeSendsUptoCard : Claim7 := { stood := { row := edgeSendsUptoRow, standIns := [], harness := (true, "f9cba1f3817f6789ceba746ac7938f258e49ae6f86d96d7c77b3891be7b482a9"), looks := false }, kinds := [], alts := [], laidByText := true, laidKinds := [.data, .pinned], laidTests := true, laidLooks := .later }
def EdgeSendsUptoCardSaid : Prop := Claim7.holds Tryd.pinned (.plain (OpenSpec.upto edgeSendsSpec)) edgeSendsUptoCard

/-- THE SECOND FORM's CARD OF 'wherrylaw.EdgeHears'. -/
def edgeHearsUptoCard : Claim7 := { stood := { row := edgeHearsUptoRow, standIns := [], harness := (true, "f9cba1f3817f6789ceba746ac7938f258e49ae6f86d96d7c77b3891be7b482a9"), looks := false }, kinds := [], alts := [], laidByText := true, laidKinds := [.data, .pinned], laidTests := true, laidLooks := .later }
def EdgeHearsUptoCardSaid : Prop := Claim7.holds Tryd.pinned (.plain (OpenSpec.upto edgeHearsSpec)) edgeHearsUptoCard

/-- THE SECOND FORM's CARD OF 'wherrykeep.EdgeMeets'. -/
def edgeMeetsUptoCard : Claim7 := { stood := { row := edgeMeetsUptoRow, standIns := [], harness := (true, "f9cba1f3817f6789ceba746ac7938f258e49ae6f86d96d7c77b3891be7b482a9"), looks := false }, kinds := [], alts := [], laidByText := true, laidKinds := [.data, .pinned], laidTests := true, laidLooks := .later }
def EdgeMeetsUptoCardSaid : Prop := Claim7.holds Tryd.pinned (.plain (OpenSpec.upto edgeMeetsSpec)) edgeMeetsUptoCard

/-- THE SECOND FORM's CARD OF 'wherrykeep.EdgeKnown'. -/
def edgeKnownUptoCard : Claim7 := { stood := { row := edgeKnownUptoRow, standIns := [], harness := (true, "f9cba1f3817f6789ceba746ac7938f258e49ae6f86d96d7c77b3891be7b482a9"), looks := false }, kinds := [], alts := [], laidByText := true, laidKinds := [.data, .pinned], laidTests := true, laidLooks := .later }
def EdgeKnownUptoCardSaid : Prop := Claim7.holds Tryd.pinned (.plain (OpenSpec.upto edgeKnownSpec)) edgeKnownUptoCard

/-- THE SECOND FORM's CARD OF 'wherrykeep.EdgeAlone'. -/
def edgeAloneUptoCard : Claim7 := { stood := { row := edgeAloneUptoRow, standIns := [], harness := (true, "f9cba1f3817f6789ceba746ac7938f258e49ae6f86d96d7c77b3891be7b482a9"), looks := false }, kinds := [], alts := [], laidByText := true, laidKinds := [.data, .pinned], laidTests := true, laidLooks := .later }
def EdgeAloneUptoCardSaid : Prop := Claim7.holds Tryd.pinned (.plain (OpenSpec.upto edgeAloneSpec)) edgeAloneUptoCard

/-- THE SECOND FORM's CARD OF 'wherrykeep.EdgeFits'. -/
def edgeFitsUptoCard : Claim7 := { stood := { row := edgeFitsUptoRow, standIns := [], harness := (true, "f9cba1f3817f6789ceba746ac7938f258e49ae6f86d96d7c77b3891be7b482a9"), looks := false }, kinds := [], alts := [], laidByText := true, laidKinds := [.data, .pinned], laidTests := true, laidLooks := .later }
def EdgeFitsUptoCardSaid : Prop := Claim7.holds Tryd.pinned (.plain (OpenSpec.upto edgeFitsSpec)) edgeFitsUptoCard
end Rows
end Go.Proofs.YtepehgjdepioeabDoor
