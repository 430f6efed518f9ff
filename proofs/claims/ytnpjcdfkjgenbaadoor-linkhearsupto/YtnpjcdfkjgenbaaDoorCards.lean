/-
  DERIVED. GIVEN WITH THE SEED: THE CARDS: each row of YtnpjcdfkjgenbaaDoorRows.lean that lists a variable, with what it lists TIED to the program's text (the seventh form; the later family's looks); each row that meets fmt, with fmt's text TOLD by the authors' own Lean function (tested against real Go, not proved from fmt's source: count such statements apart). THE CARD IS WHAT COUNTS. Prove the row's statement (the work); the ties are given (YtnpjcdfkjgenbaaDoorTie.lean); close each card by the builder's one call (the guide's Derived/Test/ToyasCard.lean, 'card_holds'). Laid BY PROGRAM, IN A SANDBOX (cutbox-door.mjs). By AI agents, Wed Nov 11 2026. No macro, syntax, notation, axiom, sorry.
-/
import Derived.Test.YtnpjcdfkjgenbaaDoorRows
import GoSem.ClaimSeven
namespace Go.Proofs.YtnpjcdfkjgenbaaDoor
namespace Rows

/-- THE TIED CARD OF 'wherrylaw.LinkHears'. -/
def linkHearsCard : Claim7 := { stood := { row := linkHearsRow, standIns := [], harness := (true, "dea74b03edf10162d8a578372e1e67ed0515f9fa69dcf2eef3af68c0d1782771"), looks := false }, kinds := [], alts := [], laidByText := true, laidKinds := [.data, .pinned], laidTests := true, laidLooks := .later }
def LinkHearsCardSaid : Prop := Claim7.holds Tryd.pinned (.plain (OpenSpec.ofChange linkHearsSpec)) linkHearsCard

/-- THE SECOND FORM's CARD OF 'wherrylaw.LinkHears'. -/
def linkHearsUptoCard : Claim7 := { stood := { row := linkHearsUptoRow, standIns := [], harness := (true, "dea74b03edf10162d8a578372e1e67ed0515f9fa69dcf2eef3af68c0d1782771"), looks := false }, kinds := [], alts := [], laidByText := true, laidKinds := [.data, .pinned], laidTests := true, laidLooks := .later }
def LinkHearsUptoCardSaid : Prop := Claim7.holds Tryd.pinned (.plain (OpenSpec.upto linkHearsSpec)) linkHearsUptoCard
end Rows
end Go.Proofs.YtnpjcdfkjgenbaaDoor
