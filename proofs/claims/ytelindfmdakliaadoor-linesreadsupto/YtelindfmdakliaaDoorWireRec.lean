/-
  Walks: wire.reader.end, readRecord.
-/
import Derived.Test.YtelindfmdakliaaDoorWireOp
namespace Go.Proofs.YtelindfmdakliaaDoor
open Go.RowKit Go.Lib

/-- what is wrong at the end -/
def endE (st : Except Int (List Nat)) : Int := match st with
  | .ok [] => 0
  | .ok _ => 4
  | .error e => e

/-- P3.6: a record, read -/
def recP (l : List Nat) : Except Int ((Nat × List Part) × List Nat) := match numP l with
  | .ok x => if x.1 = 0 then mapR (opP x.2) (fun ps => (0, ps)) else .ok ((x.1, []), x.2)
  | .error e => .error e
end Go.Proofs.YtelindfmdakliaaDoor
