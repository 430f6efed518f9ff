/-
  Walks: wire.reader: number in any state, text, part.
-/
import Derived.Test.YtnpjcdfkjgenbaaDoorWireNum
import Derived.Laws.BytesArg
namespace Go.Proofs.YtnpjcdfkjgenbaaDoor
open Go.RowKit Go.Lib

/-- a reading, if nothing was wrong ahead -/
def andR {α : Type} (st : Except Int (List Nat)) (p : List Nat → Except Int (α × List Nat)) : Except Int (α × List Nat) := match st with
  | .ok l => p l
  | .error e => .error e

/-- bytes as a text -/
def bstr (l : List Nat) : ByteArray := strOfNums (l.map fun n : Nat => (n : Int))
theorem bstr_nil : bstr [] = ByteArray.empty := by
  simp [bstr, strOfNums, ByteArray.empty, ByteArray.emptyWithCapacity]
  rfl
theorem bstr_size (l : List Nat) : (bstr l).size = l.length := by unfold bstr; rw [strOfNums_size, List.length_map]
/-- P3.4: a text, read -/
def textP (l : List Nat) : Except Int (ByteArray × List Nat) := match numP l with
  | .ok x => if x.1 ≤ x.2.length then .ok (bstr (x.2.take x.1), x.2.drop x.1) else .error 5
  | .error e => .error e

end Go.Proofs.YtnpjcdfkjgenbaaDoor
