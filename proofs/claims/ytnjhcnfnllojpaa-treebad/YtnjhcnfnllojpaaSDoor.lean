/-
  What the rows' proofs ask of the program.
-/
import Derived.Test.YtnjhcnfnllojpaaRows
import Derived.Test.YtnjhcnfnllojpaaChecked
import Derived.ProofKit
namespace Go.Proofs.Ytnjhcnfnllojpaa
theorem own : ownKnob Try.prog.godebug = none := by kernel_rfl
theorem laidOut : laidOutB Try.prog = true := by kernel_rfl
end Go.Proofs.Ytnjhcnfnllojpaa
