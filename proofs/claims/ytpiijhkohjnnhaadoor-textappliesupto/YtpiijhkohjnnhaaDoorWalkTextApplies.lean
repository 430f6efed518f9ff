/-
  Walk: wherrylaw.TextApplies.
-/
import Derived.Test.YtpiijhkohjnnhaaDoorApplyWalk
import Derived.Test.YtpiijhkohjnnhaaDoorAppliedWalk
import Derived.Test.YtpiijhkohjnnhaaDoorOpCopyWalk
import Derived.Test.YtpiijhkohjnnhaaDoorSameOp
import Derived.Test.YtpiijhkohjnnhaaDoorOwnOp
namespace Go.Proofs.YtpiijhkohjnnhaaDoor
open Go.RowKit Go.Lib

set_option maxHeartbeats 1000000 in
theorem textApplies_walk (s : ByteArray) (ps : List Part) (a : Option Addr) (cap : Nat) (w : World) (hz : s.size ≤ 1048576) (hop : OpAt w a ps) (hn : ps.length ≤ 1048576) (hs : ∀ p ∈ ps, PartOk 1048576 p) (hT : Tabs w) :
    Calls Tryd.prog 5 #[.string s, .slice a ps.length cap] w fun e w' => e = .returned (.bool true) ∧ Below w.heap.size w w' := by
  have hs1 : ∀ p ∈ ps, p.text.size ≤ 1048576 := fun p hp => (hs p hp).2.2
  go_enter Tryd.func5, Tryd.ntmps5
  go_wp2_with fail
  refine (opCopy_any ps a cap w hop hn).mono ?_
  rintro e w1 ⟨v1, rfl, hown1, hb1⟩
  obtain ⟨a1, c1, rfl, ho1⟩ := own_opAt hown1
  go_wp2_with fail
  refine (apply_any s ps a1 c1 w1 hz ho1 hn hs1 (hT.below hb1)).mono ?_
  rintro e w2 ⟨rfl, hb2⟩
  have hb12 := below_two hb1 hb2 (Nat.le_refl _)
  go_wp2_with fail
  refine (applied_any s ps a cap w2 hz (hop.below hb12) hn hs1 (hT.below hb12)).mono ?_
  rintro e w3 ⟨rfl, hb3⟩
  have hb13 := below_two hb12 hb3 (Nat.le_refl _)
  generalize applyRes s ps = R
  generalize applyErr s ps = E
  have g1 : (E == E) = true := by simp
  have g2 : (R.toList == R.toList) = true := by simp
  have cS := sameOp_true ps a1 a c1 cap w3 ((ho1.below hb2).below hb3) (hop.below hb13) (by omega)
  clear hown1 ho1 hop hs hs1
  go_wp2_with (go_at_call 15; refine cS.mono ?_; rintro e w4 ⟨rfl, hb4⟩)
  go_ret
  exact ⟨rfl, below_two hb13 hb4 (Nat.le_refl _)⟩

end Go.Proofs.YtpiijhkohjnnhaaDoor
