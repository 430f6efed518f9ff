/-
  Walk: wire.DecodeRecord.
-/
import Derived.Test.YtbobeecagcmclaaDoorWireRec
import Derived.Test.YtbobeecagcmclaaDoorWirePacket
namespace Go.Proofs.YtbobeecagcmclaaDoor
open Go.RowKit Go.Lib

/-- bytes in memory -/
def Bytes (w : World) (a : Option Addr) (l : List Nat) : Prop := l = [] ∨ ∃ g off, a = some ⟨g, off, none⟩ ∧ g < w.heap.size ∧ ∀ i (h : i < l.length), w.cell? ⟨g, off + i, none⟩ = some (.int .u8 (l[i] : Int))
/-- P3.7: what is wrong with the bytes of a record -/
def recFault (l : List Nat) : Int := if 50000 < l.length then 1 else if endE (rest (recP l)) ≠ 0 then endE (rest (recP l)) else match recP l with
  | .ok x => recordErr x.1.1 x.1.2
  | .error e => e
/-- the record -/
def recOf (l : List Nat) : Nat × List Part := if recFault l ≠ 0 then (0, []) else match recP l with
  | .ok x => x.1
  | .error _ => (0, [])

end Go.Proofs.YtbobeecagcmclaaDoor
