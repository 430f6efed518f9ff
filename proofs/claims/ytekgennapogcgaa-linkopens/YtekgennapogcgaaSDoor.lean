/-
  What the rows' proofs ask of the program.
-/
import Derived.Test.YtekgennapogcgaaRows
import Derived.Test.YtekgennapogcgaaChecked
import Derived.ProofKit
namespace Go.Proofs.Ytekgennapogcgaa
theorem own : ownKnob Try.prog.godebug = none := by kernel_rfl
theorem laidOut : laidOutB Try.prog = true := by kernel_rfl
end Go.Proofs.Ytekgennapogcgaa
