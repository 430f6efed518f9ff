/-
  Walk: wherrylaw.TextChecks.
-/
import Derived.Test.YtpiijhkohjnnhaaDoorCheckText
import Derived.Test.YtpiijhkohjnnhaaDoorCheckPart
namespace Go.Proofs.YtpiijhkohjnnhaaDoor
open Go.RowKit

set_option maxHeartbeats 400000 in
theorem textChecks_walk (s : ByteArray) (w : World) (hs : s.size ≤ 1048576) (hT : Tabs w) :
    Calls Tryd.prog 3 #[.string s] w fun e w' => e = .returned (.bool true) ∧ Below w.heap.size w w' := by
  go_enter Tryd.func3, Tryd.ntmps3
  go_wp2_with fail
  refine (checkText_any s w (by omega) hT).mono ?_
  rintro e w1 ⟨rfl, hb1⟩
  go_wp2_with fail
  refine (textFault_any s w1 (by omega) (hT.below hb1)).mono ?_
  rintro e w2 ⟨rfl, hb2⟩
  generalize textErr s = E
  have g1 : (E == E) = true := by simp
  go_wp2
  go_ret
  exact ⟨rfl, below_two hb1 hb2 (Nat.le_refl _)⟩

end Go.Proofs.YtpiijhkohjnnhaaDoor
