/-
  Walks: wire.writer: op, record; wire.EncodeRecord.
-/
import Derived.Test.YtbobeecagcmclaaDoorWireWrite
import Derived.Test.YtbobeecagcmclaaDoorWireDec
namespace Go.Proofs.YtbobeecagcmclaaDoor
open Go.RowKit Go.Lib

/-- P3.4: a part as bytes -/
def partW (p : Part) : List Nat := sev p.kind.toNat ++ (if p.kind = 2 then sev p.text.size ++ sbytes p.text else sev p.n.toNat)
/-- P3.4: an operation as bytes -/
def opW (ps : List Part) : List Nat := sev ps.length ++ ps.flatMap partW
/-- what can be written -/
def PartW (p : Part) : Prop := (0 ≤ p.kind ∧ p.kind < 268435456) ∧ (0 ≤ p.n ∧ p.n < 268435456) ∧ p.text.size ≤ 1048576

end Go.Proofs.YtbobeecagcmclaaDoor
