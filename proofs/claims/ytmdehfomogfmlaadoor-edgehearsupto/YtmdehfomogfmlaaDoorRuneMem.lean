/-
  Rows of runes, and of steps.
-/
import Derived.Test.YtmdehfomogfmlaaDoorStepsAt
import Derived.Test.YtmdehfomogfmlaaDoorRuneRow
