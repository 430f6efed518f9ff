/-
  Walks: wherryref.FrameFault.
-/
import Derived.Test.YtknjnfknalfbdaaDoorWireCheck
import Derived.Test.YtknjnfknalfbdaaDoorOpFault
import Derived.Test.YtknjnfknalfbdaaDoorTextFault
namespace Go.Proofs.YtknjnfknalfbdaaDoor
open Go.RowKit Go.Lib
end Go.Proofs.YtknjnfknalfbdaaDoor
