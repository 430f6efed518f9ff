/-
  Walk: wherrylaw.TextInverts.
-/
import Derived.Test.YtpiijhkohjnnhaaDoorInvertWalk
import Derived.Test.YtpiijhkohjnnhaaDoorInvertedWalk
import Derived.Test.YtpiijhkohjnnhaaDoorOpCopyWalk
import Derived.Test.YtpiijhkohjnnhaaDoorSameOp
import Derived.Test.YtpiijhkohjnnhaaDoorOwnOp
namespace Go.Proofs.YtpiijhkohjnnhaaDoor
open Go.RowKit Go.Lib

theorem invertRes_length (s : ByteArray) (ps : List Part) : (invertRes s ps).length ≤ 8000 := by
  unfold invertRes
  split
  · simp
  · rename_i h
    have ha := applyErr_zero (by omega : applyErr s ps = 0)
    have := (penOf_ok (invS (runes s) (steps ps))).all.1
    rw [invS_length] at this
    exact Nat.le_trans this ha.ok.steps_le

set_option maxHeartbeats 1000000 in
theorem textInverts_walk (s : ByteArray) (ps : List Part) (a : Option Addr) (cap : Nat) (w : World) (hz : s.size ≤ 1048576) (hop : OpAt w a ps) (hn : ps.length ≤ 1048576) (hs : ∀ p ∈ ps, PartOk 1048576 p) (hT : Tabs w) :
    Calls Tryd.prog 6 #[.string s, .slice a ps.length cap] w fun e w' => e = .returned (.bool true) ∧ Below w.heap.size w w' := by
  have hs1 : ∀ p ∈ ps, p.text.size ≤ 1048576 := fun p hp => (hs p hp).2.2
  have hlen := invertRes_length s ps
  go_enter Tryd.func6, Tryd.ntmps6
  go_wp2_with fail
  refine (opCopy_any ps a cap w hop hn).mono ?_
  rintro e w1 ⟨v1, rfl, hown1, hb1⟩
  obtain ⟨a1, c1, rfl, ho1⟩ := own_opAt hown1
  go_wp2_with fail
  refine (invert_any s ps a1 c1 w1 hz ho1 hn hs1 (hT.below hb1)).mono ?_
  rintro e w2 ⟨v2, rfl, hown2, hb2⟩
  have hb12 := below_two hb1 hb2 (Nat.le_refl _)
  go_wp2_with fail
  refine (inverted_any s ps a cap w2 hz (hop.below hb12) hn hs1 (hT.below hb12)).mono ?_
  rintro e w3 ⟨v3, rfl, hown3, hb3⟩
  have hb13 := below_two hb12 hb3 (Nat.le_refl _)
  generalize invertRes s ps = R at *
  generalize applyErr s ps = E
  have g1 : (E == E) = true := by simp
  obtain ⟨a2, c2, rfl, ho2⟩ := own_opAt (own_below hown2 hb3)
  obtain ⟨a3, c3, rfl, ho3⟩ := own_opAt hown3
  have cR := sameOp_true R a2 a3 c2 c3 w3 ho2 ho3 (by omega)
  have ho1' := (ho1.below hb2).below hb3
  have hop' := hop.below hb13
  have cS := fun w4 (hb4 : Below w3.heap.size w3 w4) => sameOp_true ps a1 a c1 cap w4 (ho1'.below hb4) (hop'.below hb4) (by omega)
  clear hown1 hown2 hown3 ho1 ho2 ho3 hop hs hs1 ho1' hop'
  go_wp2_with fail
  refine cR.mono ?_
  rintro e w4 ⟨rfl, hb4⟩
  have cS' := cS w4 hb4
  clear cS cR
  go_wp2_with fail
  refine cS'.mono ?_
  rintro e w5 ⟨rfl, hb5⟩
  go_wp2
  go_ret
  exact ⟨rfl, below_two (below_two hb13 hb4 (Nat.le_refl _)) hb5 (Nat.le_refl _)⟩

end Go.Proofs.YtpiijhkohjnnhaaDoor
