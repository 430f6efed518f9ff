/-
  Walk: wire.reader.frame.
-/
import Derived.Test.YtekgennapogcgaaDoorBlk
namespace Go.Proofs.YtekgennapogcgaaDoor
open Go.RowKit Go.Lib
end Go.Proofs.YtekgennapogcgaaDoor
