/-
  DERIVED. GIVEN WITH THE SEED: THE CARDS: each row of YtpiijhkohjnnhabDoorRows.lean that lists a variable, with what it lists TIED to the program's text (the seventh form; the later family's looks); each row that meets fmt, with fmt's text TOLD by the authors' own Lean function (tested against real Go, not proved from fmt's source: count such statements apart). THE CARD IS WHAT COUNTS. Prove the row's statement (the work); the ties are given (YtpiijhkohjnnhabDoorTie.lean); close each card by the builder's one call (the guide's Derived/Test/ToyasCard.lean, 'card_holds'). Laid BY PROGRAM, IN A SANDBOX (cutbox-door.mjs). By AI agents, Wed Nov 11 2026. No macro, syntax, notation, axiom, sorry.
-/
import Derived.Test.YtpiijhkohjnnhabDoorRows
import GoSem.ClaimSeven
namespace Go.Proofs.YtpiijhkohjnnhabDoor
namespace Rows

/-- THE TIED CARD OF 'wherrylaw.TextComposes'. -/
def textComposesCard : Claim7 := { stood := { row := textComposesRow, standIns := [], harness := (true, "2c9a0594beed2f1a8e95271661e06ccfca7dd35cf6fa118b41a265bdd421f295"), looks := false }, kinds := [], alts := [], laidByText := true, laidKinds := [.data, .pinned], laidTests := true, laidLooks := .later }
def TextComposesCardSaid : Prop := Claim7.holds Tryd.pinned (.plain (OpenSpec.ofChange textComposesSpec)) textComposesCard

/-- THE TIED CARD OF 'wherrylaw.TextMoves'. -/
def textMovesCard : Claim7 := { stood := { row := textMovesRow, standIns := [], harness := (true, "2c9a0594beed2f1a8e95271661e06ccfca7dd35cf6fa118b41a265bdd421f295"), looks := false }, kinds := [], alts := [], laidByText := true, laidKinds := [.data, .pinned], laidTests := true, laidLooks := .later }
def TextMovesCardSaid : Prop := Claim7.holds Tryd.pinned (.plain (OpenSpec.ofChange textMovesSpec)) textMovesCard

/-- THE TIED CARD OF 'wherrylaw.TextWholes'. -/
def textWholesCard : Claim7 := { stood := { row := textWholesRow, standIns := [], harness := (true, "2c9a0594beed2f1a8e95271661e06ccfca7dd35cf6fa118b41a265bdd421f295"), looks := false }, kinds := [], alts := [], laidByText := true, laidKinds := [.data, .pinned], laidTests := true, laidLooks := .later }
def TextWholesCardSaid : Prop := Claim7.holds Tryd.pinned (.plain (OpenSpec.ofChange textWholesSpec)) textWholesCard

/-- THE TIED CARD OF 'wherrykeep.OpGood'. -/
def opGoodCard : Claim7 := { stood := { row := opGoodRow, standIns := [], harness := (true, "2c9a0594beed2f1a8e95271661e06ccfca7dd35cf6fa118b41a265bdd421f295"), looks := false }, kinds := [], alts := [], laidByText := true, laidKinds := [.data, .pinned], laidTests := true, laidLooks := .later }
def OpGoodCardSaid : Prop := Claim7.holds Tryd.pinned (.plain (OpenSpec.ofChange opGoodSpec)) opGoodCard

/-- THE TIED CARD OF 'wherrykeep.InvertBack'. -/
def invertBackCard : Claim7 := { stood := { row := invertBackRow, standIns := [], harness := (true, "2c9a0594beed2f1a8e95271661e06ccfca7dd35cf6fa118b41a265bdd421f295"), looks := false }, kinds := [], alts := [], laidByText := true, laidKinds := [.data, .pinned], laidTests := true, laidLooks := .later }
def InvertBackCardSaid : Prop := Claim7.holds Tryd.pinned (.plain (OpenSpec.ofChange invertBackSpec)) invertBackCard

/-- THE TIED CARD OF 'wherrykeep.TransformMeets'. -/
def transformMeetsCard : Claim7 := { stood := { row := transformMeetsRow, standIns := [], harness := (true, "2c9a0594beed2f1a8e95271661e06ccfca7dd35cf6fa118b41a265bdd421f295"), looks := false }, kinds := [], alts := [], laidByText := true, laidKinds := [.data, .pinned], laidTests := true, laidLooks := .later }
def TransformMeetsCardSaid : Prop := Claim7.holds Tryd.pinned (.plain (OpenSpec.ofChange transformMeetsSpec)) transformMeetsCard

/-- THE SECOND FORM's CARD OF 'wherrylaw.TextComposes'. -/
def textComposesUptoCard : Claim7 := { stood := { row := textComposesUptoRow, standIns := [], harness := (true, "2c9a0594beed2f1a8e95271661e06ccfca7dd35cf6fa118b41a265bdd421f295"), looks := false }, kinds := [], alts := [], laidByText := true, laidKinds := [.data, .pinned], laidTests := true, laidLooks := .later }
def TextComposesUptoCardSaid : Prop := Claim7.holds Tryd.pinned (.plain (OpenSpec.upto textComposesSpec)) textComposesUptoCard

/-- THE SECOND FORM's CARD OF 'wherrylaw.TextMoves'. -/
def textMovesUptoCard : Claim7 := { stood := { row := textMovesUptoRow, standIns := [], harness := (true, "2c9a0594beed2f1a8e95271661e06ccfca7dd35cf6fa118b41a265bdd421f295"), looks := false }, kinds := [], alts := [], laidByText := true, laidKinds := [.data, .pinned], laidTests := true, laidLooks := .later }
def TextMovesUptoCardSaid : Prop := Claim7.holds Tryd.pinned (.plain (OpenSpec.upto textMovesSpec)) textMovesUptoCard

/-- THE SECOND FORM's CARD OF 'wherrylaw.TextWholes'. -/
def textWholesUptoCard : Claim7 := { stood := { row := textWholesUptoRow, standIns := [], harness := (true, "2c9a0594beed2f1a8e95271661e06ccfca7dd35cf6fa118b41a265bdd421f295"), looks := false }, kinds := [], alts := [], laidByText := true, laidKinds := [.data, .pinned], laidTests := true, laidLooks := .later }
def TextWholesUptoCardSaid : Prop := Claim7.holds Tryd.pinned (.plain (OpenSpec.upto textWholesSpec)) textWholesUptoCard

/-- THE SECOND FORM's CARD OF 'wherrykeep.OpGood'. -/
def opGoodUptoCard : Claim7 := { stood := { row := opGoodUptoRow, standIns := [], harness := (true, "2c9a0594beed2f1a8e95271661e06ccfca7dd35cf6fa118b41a265bdd421f295"), looks := false }, kinds := [], alts := [], laidByText := true, laidKinds := [.data, .pinned], laidTests := true, laidLooks := .later }
def OpGoodUptoCardSaid : Prop := Claim7.holds Tryd.pinned (.plain (OpenSpec.upto opGoodSpec)) opGoodUptoCard

/-- THE SECOND FORM's CARD OF 'wherrykeep.InvertBack'. -/
def invertBackUptoCard : Claim7 := { stood := { row := invertBackUptoRow, standIns := [], harness := (true, "2c9a0594beed2f1a8e95271661e06ccfca7dd35cf6fa118b41a265bdd421f295"), looks := false }, kinds := [], alts := [], laidByText := true, laidKinds := [.data, .pinned], laidTests := true, laidLooks := .later }
def InvertBackUptoCardSaid : Prop := Claim7.holds Tryd.pinned (.plain (OpenSpec.upto invertBackSpec)) invertBackUptoCard

/-- THE SECOND FORM's CARD OF 'wherrykeep.TransformMeets'. -/
def transformMeetsUptoCard : Claim7 := { stood := { row := transformMeetsUptoRow, standIns := [], harness := (true, "2c9a0594beed2f1a8e95271661e06ccfca7dd35cf6fa118b41a265bdd421f295"), looks := false }, kinds := [], alts := [], laidByText := true, laidKinds := [.data, .pinned], laidTests := true, laidLooks := .later }
def TransformMeetsUptoCardSaid : Prop := Claim7.holds Tryd.pinned (.plain (OpenSpec.upto transformMeetsSpec)) transformMeetsUptoCard
end Rows
end Go.Proofs.YtpiijhkohjnnhabDoor
