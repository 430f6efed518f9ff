/-
  Walks: wire.checkBare, CheckPacket, CheckRecord.
-/
import Derived.Test.YtelindfmdakliaaDoorWireCheck
namespace Go.Proofs.YtelindfmdakliaaDoor
open Go.RowKit Go.Lib
end Go.Proofs.YtelindfmdakliaaDoor
