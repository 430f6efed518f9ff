/-
  Walks: wire.checkBare, CheckPacket, CheckRecord.
-/
import Derived.Test.YtiekmcoadmpkjaaDoorWireCheck
namespace Go.Proofs.YtiekmcoadmpkjaaDoor
open Go.RowKit Go.Lib
end Go.Proofs.YtiekmcoadmpkjaaDoor
