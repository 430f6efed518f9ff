/-
  DERIVED. GIVEN WITH THE SEED: THE CARDS: each row of YtodnocplljkjnaaDoorRows.lean that lists a variable, with what it lists TIED to the program's text (the seventh form; the later family's looks); each row that meets fmt, with fmt's text TOLD by the authors' own Lean function (tested against real Go, not proved from fmt's source: count such statements apart). THE CARD IS WHAT COUNTS. Prove the row's statement (the work); the ties are given (YtodnocplljkjnaaDoorTie.lean); close each card by the builder's one call (the guide's Derived/Test/ToyasCard.lean, 'card_holds'). Laid BY PROGRAM, IN A SANDBOX (cutbox-door.mjs). By AI agents, Wed Nov 11 2026. No macro, syntax, notation, axiom, sorry.
-/
import Derived.Test.YtodnocplljkjnaaDoorRows
import GoSem.ClaimSeven
namespace Go.Proofs.YtodnocplljkjnaaDoor
namespace Rows

/-- THE TIED CARD OF 'wherrykeep.MoveRest'. -/
def moveRestCard : Claim7 := { stood := { row := moveRestRow, standIns := [], harness := (true, "345c44ec00489b0a05d131637884c43a4402c969ecadaf69ad2912fd3c6fa3d3"), looks := false }, kinds := [], alts := [], laidByText := true, laidKinds := [.data, .pinned], laidTests := true, laidLooks := .later }
def MoveRestCardSaid : Prop := Claim7.holds Tryd.pinned (.plain (OpenSpec.ofChange moveRestSpec)) moveRestCard

/-- THE TIED CARD OF 'wherrykeep.EdgeMeets'. -/
def edgeMeetsCard : Claim7 := { stood := { row := edgeMeetsRow, standIns := [], harness := (true, "345c44ec00489b0a05d131637884c43a4402c969ecadaf69ad2912fd3c6fa3d3"), looks := false }, kinds := [], alts := [], laidByText := true, laidKinds := [.data, .pinned], laidTests := true, laidLooks := .later }
def EdgeMeetsCardSaid : Prop := Claim7.holds Tryd.pinned (.plain (OpenSpec.ofChange edgeMeetsSpec)) edgeMeetsCard

/-- THE SECOND FORM's CARD OF 'wherrykeep.MoveRest'. -/
def moveRestUptoCard : Claim7 := { stood := { row := moveRestUptoRow, standIns := [], harness := (true, "345c44ec00489b0a05d131637884c43a4402c969ecadaf69ad2912fd3c6fa3d3"), looks := false }, kinds := [], alts := [], laidByText := true, laidKinds := [.data, .pinned], laidTests := true, laidLooks := .later }
def MoveRestUptoCardSaid : Prop := Claim7.holds Tryd.pinned (.plain (OpenSpec.upto moveRestSpec)) moveRestUptoCard

/-- THE SECOND FORM's CARD OF 'wherrykeep.EdgeMeets'. -/
def edgeMeetsUptoCard : Claim7 := { stood := { row := edgeMeetsUptoRow, standIns := [], harness := (true, "345c44ec00489b0a05d131637884c43a4402c969ecadaf69ad2912fd3c6fa3d3"), looks := false }, kinds := [], alts := [], laidByText := true, laidKinds := [.data, .pinned], laidTests := true, laidLooks := .later }
def EdgeMeetsUptoCardSaid : Prop := Claim7.holds Tryd.pinned (.plain (OpenSpec.upto edgeMeetsSpec)) edgeMeetsUptoCard
end Rows
end Go.Proofs.YtodnocplljkjnaaDoor
