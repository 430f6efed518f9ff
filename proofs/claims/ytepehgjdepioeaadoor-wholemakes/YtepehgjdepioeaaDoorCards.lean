/-
  DERIVED. GIVEN WITH THE SEED: THE CARDS: each row of YtepehgjdepioeaaDoorRows.lean that lists a variable, with what it lists TIED to the program's text (the seventh form; the later family's looks); each row that meets fmt, with fmt's text TOLD by the authors' own Lean function (tested against real Go, not proved from fmt's source: count such statements apart). THE CARD IS WHAT COUNTS. Prove the row's statement (the work); the ties are given (YtepehgjdepioeaaDoorTie.lean); close each card by the builder's one call (the guide's Derived/Test/ToyasCard.lean, 'card_holds'). Laid BY PROGRAM, IN A SANDBOX (cutbox-door.mjs). By AI agents, Wed Nov 11 2026. No macro, syntax, notation, axiom, sorry.
-/
import Derived.Test.YtepehgjdepioeaaDoorRows
import GoSem.ClaimSeven
namespace Go.Proofs.YtepehgjdepioeaaDoor
namespace Rows

/-- THE TIED CARD OF 'wherrykeep.OpGood'. -/
def opGoodCard : Claim7 := { stood := { row := opGoodRow, standIns := [], harness := (true, "9e4f85db8aff9d458e74df7fbd1b493dbd07feca02bf1b9ae5bdbc2cb39a14da"), looks := false }, kinds := [], alts := [], laidByText := true, laidKinds := [.data, .pinned], laidTests := true, laidLooks := .later }
def OpGoodCardSaid : Prop := Claim7.holds Tryd.pinned (.plain (OpenSpec.ofChange opGoodSpec)) opGoodCard

/-- THE TIED CARD OF 'wherrykeep.InvertBack'. -/
def invertBackCard : Claim7 := { stood := { row := invertBackRow, standIns := [], harness := (true, "9e4f85db8aff9d458e74df7fbd1b493dbd07feca02bf1b9ae5bdbc2cb39a14da"), looks := false }, kinds := [], alts := [], laidByText := true, laidKinds := [.data, .pinned], laidTests := true, laidLooks := .later }
def InvertBackCardSaid : Prop := Claim7.holds Tryd.pinned (.plain (OpenSpec.ofChange invertBackSpec)) invertBackCard

/-- THE TIED CARD OF 'wherrykeep.TransformMeets'. -/
def transformMeetsCard : Claim7 := { stood := { row := transformMeetsRow, standIns := [], harness := (true, "9e4f85db8aff9d458e74df7fbd1b493dbd07feca02bf1b9ae5bdbc2cb39a14da"), looks := false }, kinds := [], alts := [], laidByText := true, laidKinds := [.data, .pinned], laidTests := true, laidLooks := .later }
def TransformMeetsCardSaid : Prop := Claim7.holds Tryd.pinned (.plain (OpenSpec.ofChange transformMeetsSpec)) transformMeetsCard

/-- THE TIED CARD OF 'wherrykeep.TransformFirst'. -/
def transformFirstCard : Claim7 := { stood := { row := transformFirstRow, standIns := [], harness := (true, "9e4f85db8aff9d458e74df7fbd1b493dbd07feca02bf1b9ae5bdbc2cb39a14da"), looks := false }, kinds := [], alts := [], laidByText := true, laidKinds := [.data, .pinned], laidTests := true, laidLooks := .later }
def TransformFirstCardSaid : Prop := Claim7.holds Tryd.pinned (.plain (OpenSpec.ofChange transformFirstSpec)) transformFirstCard

/-- THE TIED CARD OF 'wherrykeep.TransformSame'. -/
def transformSameCard : Claim7 := { stood := { row := transformSameRow, standIns := [], harness := (true, "9e4f85db8aff9d458e74df7fbd1b493dbd07feca02bf1b9ae5bdbc2cb39a14da"), looks := false }, kinds := [], alts := [], laidByText := true, laidKinds := [.data, .pinned], laidTests := true, laidLooks := .later }
def TransformSameCardSaid : Prop := Claim7.holds Tryd.pinned (.plain (OpenSpec.ofChange transformSameSpec)) transformSameCard

/-- THE TIED CARD OF 'wherrykeep.TransformBoth'. -/
def transformBothCard : Claim7 := { stood := { row := transformBothRow, standIns := [], harness := (true, "9e4f85db8aff9d458e74df7fbd1b493dbd07feca02bf1b9ae5bdbc2cb39a14da"), looks := false }, kinds := [], alts := [], laidByText := true, laidKinds := [.data, .pinned], laidTests := true, laidLooks := .later }
def TransformBothCardSaid : Prop := Claim7.holds Tryd.pinned (.plain (OpenSpec.ofChange transformBothSpec)) transformBothCard

/-- THE TIED CARD OF 'wherrykeep.ComposeBoth'. -/
def composeBothCard : Claim7 := { stood := { row := composeBothRow, standIns := [], harness := (true, "9e4f85db8aff9d458e74df7fbd1b493dbd07feca02bf1b9ae5bdbc2cb39a14da"), looks := false }, kinds := [], alts := [], laidByText := true, laidKinds := [.data, .pinned], laidTests := true, laidLooks := .later }
def ComposeBothCardSaid : Prop := Claim7.holds Tryd.pinned (.plain (OpenSpec.ofChange composeBothSpec)) composeBothCard

/-- THE TIED CARD OF 'wherrykeep.ComposeThree'. -/
def composeThreeCard : Claim7 := { stood := { row := composeThreeRow, standIns := [], harness := (true, "9e4f85db8aff9d458e74df7fbd1b493dbd07feca02bf1b9ae5bdbc2cb39a14da"), looks := false }, kinds := [], alts := [], laidByText := true, laidKinds := [.data, .pinned], laidTests := true, laidLooks := .later }
def ComposeThreeCardSaid : Prop := Claim7.holds Tryd.pinned (.plain (OpenSpec.ofChange composeThreeSpec)) composeThreeCard

/-- THE TIED CARD OF 'wherrykeep.ComposeBack'. -/
def composeBackCard : Claim7 := { stood := { row := composeBackRow, standIns := [], harness := (true, "9e4f85db8aff9d458e74df7fbd1b493dbd07feca02bf1b9ae5bdbc2cb39a14da"), looks := false }, kinds := [], alts := [], laidByText := true, laidKinds := [.data, .pinned], laidTests := true, laidLooks := .later }
def ComposeBackCardSaid : Prop := Claim7.holds Tryd.pinned (.plain (OpenSpec.ofChange composeBackSpec)) composeBackCard

/-- THE TIED CARD OF 'wherrykeep.MoveOrder'. -/
def moveOrderCard : Claim7 := { stood := { row := moveOrderRow, standIns := [], harness := (true, "9e4f85db8aff9d458e74df7fbd1b493dbd07feca02bf1b9ae5bdbc2cb39a14da"), looks := false }, kinds := [], alts := [], laidByText := true, laidKinds := [.data, .pinned], laidTests := true, laidLooks := .later }
def MoveOrderCardSaid : Prop := Claim7.holds Tryd.pinned (.plain (OpenSpec.ofChange moveOrderSpec)) moveOrderCard

/-- THE TIED CARD OF 'wherrykeep.MoveRest'. -/
def moveRestCard : Claim7 := { stood := { row := moveRestRow, standIns := [], harness := (true, "9e4f85db8aff9d458e74df7fbd1b493dbd07feca02bf1b9ae5bdbc2cb39a14da"), looks := false }, kinds := [], alts := [], laidByText := true, laidKinds := [.data, .pinned], laidTests := true, laidLooks := .later }
def MoveRestCardSaid : Prop := Claim7.holds Tryd.pinned (.plain (OpenSpec.ofChange moveRestSpec)) moveRestCard

/-- THE TIED CARD OF 'wherrykeep.WholeMakes'. -/
def wholeMakesCard : Claim7 := { stood := { row := wholeMakesRow, standIns := [], harness := (true, "9e4f85db8aff9d458e74df7fbd1b493dbd07feca02bf1b9ae5bdbc2cb39a14da"), looks := false }, kinds := [], alts := [], laidByText := true, laidKinds := [.data, .pinned], laidTests := true, laidLooks := .later }
def WholeMakesCardSaid : Prop := Claim7.holds Tryd.pinned (.plain (OpenSpec.ofChange wholeMakesSpec)) wholeMakesCard

/-- THE SECOND FORM's CARD OF 'wherrykeep.OpGood'. -/
def opGoodUptoCard : Claim7 := { stood := { row := opGoodUptoRow, standIns := [], harness := (true, "9e4f85db8aff9d458e74df7fbd1b493dbd07feca02bf1b9ae5bdbc2cb39a14da"), looks := false }, kinds := [], alts := [], laidByText := true, laidKinds := [.data, .pinned], laidTests := true, laidLooks := .later }
def OpGoodUptoCardSaid : Prop := Claim7.holds Tryd.pinned (.plain (OpenSpec.upto opGoodSpec)) opGoodUptoCard

/-- THE SECOND FORM's CARD OF 'wherrykeep.InvertBack'. -/
def invertBackUptoCard : Claim7 := { stood := { row := invertBackUptoRow, standIns := [], harness := (true, "9e4f85db8aff9d458e74df7fbd1b493dbd07feca02bf1b9ae5bdbc2cb39a14da"), looks := false }, kinds := [], alts := [], laidByText := true, laidKinds := [.data, .pinned], laidTests := true, laidLooks := .later }
def InvertBackUptoCardSaid : Prop := Claim7.holds Tryd.pinned (.plain (OpenSpec.upto invertBackSpec)) invertBackUptoCard

/-- THE SECOND FORM's CARD OF 'wherrykeep.TransformMeets'. -/
def transformMeetsUptoCard : Claim7 := { stood := { row := transformMeetsUptoRow, standIns := [], harness := (true, "9e4f85db8aff9d458e74df7fbd1b493dbd07feca02bf1b9ae5bdbc2cb39a14da"), looks := false }, kinds := [], alts := [], laidByText := true, laidKinds := [.data, .pinned], laidTests := true, laidLooks := .later }
def TransformMeetsUptoCardSaid : Prop := Claim7.holds Tryd.pinned (.plain (OpenSpec.upto transformMeetsSpec)) transformMeetsUptoCard

/-- THE SECOND FORM's CARD OF 'wherrykeep.TransformFirst'. -/
def transformFirstUptoCard : Claim7 := { stood := { row := transformFirstUptoRow, standIns := [], harness := (true, "9e4f85db8aff9d458e74df7fbd1b493dbd07feca02bf1b9ae5bdbc2cb39a14da"), looks := false }, kinds := [], alts := [], laidByText := true, laidKinds := [.data, .pinned], laidTests := true, laidLooks := .later }
def TransformFirstUptoCardSaid : Prop := Claim7.holds Tryd.pinned (.plain (OpenSpec.upto transformFirstSpec)) transformFirstUptoCard

/-- THE SECOND FORM's CARD OF 'wherrykeep.TransformSame'. -/
def transformSameUptoCard : Claim7 := { stood := { row := transformSameUptoRow, standIns := [], harness := (true, "9e4f85db8aff9d458e74df7fbd1b493dbd07feca02bf1b9ae5bdbc2cb39a14da"), looks := false }, kinds := [], alts := [], laidByText := true, laidKinds := [.data, .pinned], laidTests := true, laidLooks := .later }
def TransformSameUptoCardSaid : Prop := Claim7.holds Tryd.pinned (.plain (OpenSpec.upto transformSameSpec)) transformSameUptoCard

/-- THE SECOND FORM's CARD OF 'wherrykeep.TransformBoth'. -/
def transformBothUptoCard : Claim7 := { stood := { row := transformBothUptoRow, standIns := [], harness := (true, "9e4f85db8aff9d458e74df7fbd1b493dbd07feca02bf1b9ae5bdbc2cb39a14da"), looks := false }, kinds := [], alts := [], laidByText := true, laidKinds := [.data, .pinned], laidTests := true, laidLooks := .later }
def TransformBothUptoCardSaid : Prop := Claim7.holds Tryd.pinned (.plain (OpenSpec.upto transformBothSpec)) transformBothUptoCard

/-- THE SECOND FORM's CARD OF 'wherrykeep.ComposeBoth'. -/
def composeBothUptoCard : Claim7 := { stood := { row := composeBothUptoRow, standIns := [], harness := (true, "9e4f85db8aff9d458e74df7fbd1b493dbd07feca02bf1b9ae5bdbc2cb39a14da"), looks := false }, kinds := [], alts := [], laidByText := true, laidKinds := [.data, .pinned], laidTests := true, laidLooks := .later }
def ComposeBothUptoCardSaid : Prop := Claim7.holds Tryd.pinned (.plain (OpenSpec.upto composeBothSpec)) composeBothUptoCard

/-- THE SECOND FORM's CARD OF 'wherrykeep.ComposeThree'. -/
def composeThreeUptoCard : Claim7 := { stood := { row := composeThreeUptoRow, standIns := [], harness := (true, "9e4f85db8aff9d458e74df7fbd1b493dbd07feca02bf1b9ae5bdbc2cb39a14da"), looks := false }, kinds := [], alts := [], laidByText := true, laidKinds := [.data, .pinned], laidTests := true, laidLooks := .later }
def ComposeThreeUptoCardSaid : Prop := Claim7.holds Tryd.pinned (.plain (OpenSpec.upto composeThreeSpec)) composeThreeUptoCard

/-- THE SECOND FORM's CARD OF 'wherrykeep.ComposeBack'. -/
def composeBackUptoCard : Claim7 := { stood := { row := composeBackUptoRow, standIns := [], harness := (true, "9e4f85db8aff9d458e74df7fbd1b493dbd07feca02bf1b9ae5bdbc2cb39a14da"), looks := false }, kinds := [], alts := [], laidByText := true, laidKinds := [.data, .pinned], laidTests := true, laidLooks := .later }
def ComposeBackUptoCardSaid : Prop := Claim7.holds Tryd.pinned (.plain (OpenSpec.upto composeBackSpec)) composeBackUptoCard

/-- THE SECOND FORM's CARD OF 'wherrykeep.MoveOrder'. -/
def moveOrderUptoCard : Claim7 := { stood := { row := moveOrderUptoRow, standIns := [], harness := (true, "9e4f85db8aff9d458e74df7fbd1b493dbd07feca02bf1b9ae5bdbc2cb39a14da"), looks := false }, kinds := [], alts := [], laidByText := true, laidKinds := [.data, .pinned], laidTests := true, laidLooks := .later }
def MoveOrderUptoCardSaid : Prop := Claim7.holds Tryd.pinned (.plain (OpenSpec.upto moveOrderSpec)) moveOrderUptoCard

/-- THE SECOND FORM's CARD OF 'wherrykeep.MoveRest'. -/
def moveRestUptoCard : Claim7 := { stood := { row := moveRestUptoRow, standIns := [], harness := (true, "9e4f85db8aff9d458e74df7fbd1b493dbd07feca02bf1b9ae5bdbc2cb39a14da"), looks := false }, kinds := [], alts := [], laidByText := true, laidKinds := [.data, .pinned], laidTests := true, laidLooks := .later }
def MoveRestUptoCardSaid : Prop := Claim7.holds Tryd.pinned (.plain (OpenSpec.upto moveRestSpec)) moveRestUptoCard

/-- THE SECOND FORM's CARD OF 'wherrykeep.WholeMakes'. -/
def wholeMakesUptoCard : Claim7 := { stood := { row := wholeMakesUptoRow, standIns := [], harness := (true, "9e4f85db8aff9d458e74df7fbd1b493dbd07feca02bf1b9ae5bdbc2cb39a14da"), looks := false }, kinds := [], alts := [], laidByText := true, laidKinds := [.data, .pinned], laidTests := true, laidLooks := .later }
def WholeMakesUptoCardSaid : Prop := Claim7.holds Tryd.pinned (.plain (OpenSpec.upto wholeMakesSpec)) wholeMakesUptoCard
end Rows
end Go.Proofs.YtepehgjdepioeaaDoor
