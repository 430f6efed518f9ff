/-
  Rows of runes, and of steps.
-/
import Derived.Test.YtknjnfknalfbdaaDoorStepsAt
import Derived.Test.YtknjnfknalfbdaaDoorRuneRow
