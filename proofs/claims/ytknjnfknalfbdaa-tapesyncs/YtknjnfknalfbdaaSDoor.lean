/-
  What the rows' proofs ask of the program.
-/
import Derived.Test.YtknjnfknalfbdaaRows
import Derived.Test.YtknjnfknalfbdaaChecked
import Derived.ProofKit
namespace Go.Proofs.Ytknjnfknalfbdaa
theorem own : ownKnob Try.prog.godebug = none := by kernel_rfl
theorem laidOut : laidOutB Try.prog = true := by kernel_rfl
end Go.Proofs.Ytknjnfknalfbdaa
