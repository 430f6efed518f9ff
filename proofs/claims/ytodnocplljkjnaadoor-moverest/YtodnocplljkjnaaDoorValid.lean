/-
  utf8.ValidString by its contract, laid at this dump; the two tables of unicode/utf8.
-/
import Derived.Test.YtodnocplljkjnaaDoorShelf
import Derived.Test.YtodnocplljkjnaaDoorPure
import Derived.Lib.LaidU8T
namespace Go.Proofs.YtodnocplljkjnaaDoor
open Go.RowKit Go.Lib

/-- The two tables hold what their initialisers lay. -/
def Tabs (w : World) : Prop := Lib.Utf8Tabs (Tryd.laysValid_ren.g 3) (Tryd.laysValid_ren.g 4) w
theorem Tabs.below {w w' : World} (h : Tabs w) (hb : Below w.heap.size w w') : Tabs w' := Utf8Tabs_below h hb
theorem valid_any (s : ByteArray) (w : World) (hs : s.size ≤ 9223372036854775807) (hT : Tabs w) :
    Calls Tryd.prog 36 #[.string s] w fun e w' => e = .returned (.bool (Lib.validD s.data.toList)) ∧ Below w.heap.size w w' :=
  Any.utf8_ValidString Tryd.laysValid s w hs hT

end Go.Proofs.YtodnocplljkjnaaDoor
