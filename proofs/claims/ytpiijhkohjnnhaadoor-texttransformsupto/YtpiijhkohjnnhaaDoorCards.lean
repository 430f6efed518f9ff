/-
  DERIVED. GIVEN WITH THE SEED: THE CARDS: each row of YtpiijhkohjnnhaaDoorRows.lean that lists a variable, with what it lists TIED to the program's text (the seventh form; the later family's looks); each row that meets fmt, with fmt's text TOLD by the authors' own Lean function (tested against real Go, not proved from fmt's source: count such statements apart). THE CARD IS WHAT COUNTS. Prove the row's statement (the work); the ties are given (YtpiijhkohjnnhaaDoorTie.lean); close each card by the builder's one call (the guide's Derived/Test/ToyasCard.lean, 'card_holds'). Laid BY PROGRAM, IN A SANDBOX (cutbox-door.mjs). By AI agents, Wed Nov 11 2026. No macro, syntax, notation, axiom, sorry.
-/
import Derived.Test.YtpiijhkohjnnhaaDoorRows
import GoSem.ClaimSeven
namespace Go.Proofs.YtpiijhkohjnnhaaDoor
namespace Rows

/-- THE TIED CARD OF 'wherrylaw.TextChecks'. -/
def textChecksCard : Claim7 := { stood := { row := textChecksRow, standIns := [], harness := (true, "01d728fff1cb9d192f7e994f5a77879d05d0fc4481c24af7266ecf8fc349eb9f"), looks := false }, kinds := [], alts := [], laidByText := true, laidKinds := [.data, .pinned], laidTests := true, laidLooks := .later }
def TextChecksCardSaid : Prop := Claim7.holds Tryd.pinned (.plain (OpenSpec.ofChange textChecksSpec)) textChecksCard

/-- THE TIED CARD OF 'wherrylaw.TextOps'. -/
def textOpsCard : Claim7 := { stood := { row := textOpsRow, standIns := [], harness := (true, "01d728fff1cb9d192f7e994f5a77879d05d0fc4481c24af7266ecf8fc349eb9f"), looks := false }, kinds := [], alts := [], laidByText := true, laidKinds := [.data, .pinned], laidTests := true, laidLooks := .later }
def TextOpsCardSaid : Prop := Claim7.holds Tryd.pinned (.plain (OpenSpec.ofChange textOpsSpec)) textOpsCard

/-- THE TIED CARD OF 'wherrylaw.TextApplies'. -/
def textAppliesCard : Claim7 := { stood := { row := textAppliesRow, standIns := [], harness := (true, "01d728fff1cb9d192f7e994f5a77879d05d0fc4481c24af7266ecf8fc349eb9f"), looks := false }, kinds := [], alts := [], laidByText := true, laidKinds := [.data, .pinned], laidTests := true, laidLooks := .later }
def TextAppliesCardSaid : Prop := Claim7.holds Tryd.pinned (.plain (OpenSpec.ofChange textAppliesSpec)) textAppliesCard

/-- THE TIED CARD OF 'wherrylaw.TextInverts'. -/
def textInvertsCard : Claim7 := { stood := { row := textInvertsRow, standIns := [], harness := (true, "01d728fff1cb9d192f7e994f5a77879d05d0fc4481c24af7266ecf8fc349eb9f"), looks := false }, kinds := [], alts := [], laidByText := true, laidKinds := [.data, .pinned], laidTests := true, laidLooks := .later }
def TextInvertsCardSaid : Prop := Claim7.holds Tryd.pinned (.plain (OpenSpec.ofChange textInvertsSpec)) textInvertsCard

/-- THE TIED CARD OF 'wherrylaw.TextTransforms'. -/
def textTransformsCard : Claim7 := { stood := { row := textTransformsRow, standIns := [], harness := (true, "01d728fff1cb9d192f7e994f5a77879d05d0fc4481c24af7266ecf8fc349eb9f"), looks := false }, kinds := [], alts := [], laidByText := true, laidKinds := [.data, .pinned], laidTests := true, laidLooks := .later }
def TextTransformsCardSaid : Prop := Claim7.holds Tryd.pinned (.plain (OpenSpec.ofChange textTransformsSpec)) textTransformsCard

/-- THE SECOND FORM's CARD OF 'wherrylaw.TextChecks'. -/
def textChecksUptoCard : Claim7 := { stood := { row := textChecksUptoRow, standIns := [], harness := (true, "01d728fff1cb9d192f7e994f5a77879d05d0fc4481c24af7266ecf8fc349eb9f"), looks := false }, kinds := [], alts := [], laidByText := true, laidKinds := [.data, .pinned], laidTests := true, laidLooks := .later }
def TextChecksUptoCardSaid : Prop := Claim7.holds Tryd.pinned (.plain (OpenSpec.upto textChecksSpec)) textChecksUptoCard

/-- THE SECOND FORM's CARD OF 'wherrylaw.TextOps'. -/
def textOpsUptoCard : Claim7 := { stood := { row := textOpsUptoRow, standIns := [], harness := (true, "01d728fff1cb9d192f7e994f5a77879d05d0fc4481c24af7266ecf8fc349eb9f"), looks := false }, kinds := [], alts := [], laidByText := true, laidKinds := [.data, .pinned], laidTests := true, laidLooks := .later }
def TextOpsUptoCardSaid : Prop := Claim7.holds Tryd.pinned (.plain (OpenSpec.upto textOpsSpec)) textOpsUptoCard

/-- THE SECOND FORM's CARD OF 'wherrylaw.TextApplies'. -/
def textAppliesUptoCard : Claim7 := { stood := { row := textAppliesUptoRow, standIns := [], harness := (true, "01d728fff1cb9d192f7e994f5a77879d05d0fc4481c24af7266ecf8fc349eb9f"), looks := false }, kinds := [], alts := [], laidByText := true, laidKinds := [.data, .pinned], laidTests := true, laidLooks := .later }
def TextAppliesUptoCardSaid : Prop := Claim7.holds Tryd.pinned (.plain (OpenSpec.upto textAppliesSpec)) textAppliesUptoCard

/-- THE SECOND FORM's CARD OF 'wherrylaw.TextInverts'. -/
def textInvertsUptoCard : Claim7 := { stood := { row := textInvertsUptoRow, standIns := [], harness := (true, "01d728fff1cb9d192f7e994f5a77879d05d0fc4481c24af7266ecf8fc349eb9f"), looks := false }, kinds := [], alts := [], laidByText := true, laidKinds := [.data, .pinned], laidTests := true, laidLooks := .later }
def TextInvertsUptoCardSaid : Prop := Claim7.holds Tryd.pinned (.plain (OpenSpec.upto textInvertsSpec)) textInvertsUptoCard

/-- THE SECOND FORM's CARD OF 'wherrylaw.TextTransforms'. -/
def textTransformsUptoCard : Claim7 := { stood := { row := textTransformsUptoRow, standIns := [], harness := (true, "01d728fff1cb9d192f7e994f5a77879d05d0fc4481c24af7266ecf8fc349eb9f"), looks := false }, kinds := [], alts := [], laidByText := true, laidKinds := [.data, .pinned], laidTests := true, laidLooks := .later }
def TextTransformsUptoCardSaid : Prop := Claim7.holds Tryd.pinned (.plain (OpenSpec.upto textTransformsSpec)) textTransformsUptoCard
end Rows
end Go.Proofs.YtpiijhkohjnnhaaDoor
