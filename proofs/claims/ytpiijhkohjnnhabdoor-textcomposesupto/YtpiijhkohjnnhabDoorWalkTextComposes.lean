/-
  Walk: wherrylaw.TextComposes.
-/
import Derived.Test.YtpiijhkohjnnhabDoorCompWalk
import Derived.Test.YtpiijhkohjnnhabDoorComposedAll
import Derived.Test.YtpiijhkohjnnhabDoorOpCopyWalk
import Derived.Test.YtpiijhkohjnnhabDoorSameOp
import Derived.Test.YtpiijhkohjnnhabDoorOwnOp
namespace Go.Proofs.YtpiijhkohjnnhabDoor
open Go.RowKit Go.Lib

theorem compRes_length (ps qs : List Part) : (compRes ps qs).length ≤ 16000 := by
  unfold compRes
  split
  · simp
  · rename_i h
    have hb : bothErr ps qs = 0 := by
      unfold compErr at h
      split at h
      · omega
      · omega
    obtain ⟨h1, h2⟩ := bothErr_zero hb
    exact (cO_small (opErr_zero h1) (opErr_zero h2)).1

set_option maxRecDepth 100000 in
set_option maxHeartbeats 1000000 in
theorem textComposes_walk (ps : List Part) (a : Option Addr) (ca : Nat) (qs : List Part) (b : Option Addr) (cb : Nat) (w : World) (hopa : OpAt w a ps) (hna : ps.length ≤ 1048576) (hsa : ∀ p ∈ ps, PartOk 1048576 p) (hopb : OpAt w b qs) (hnb : qs.length ≤ 1048576) (hsb : ∀ p ∈ qs, PartOk 1048576 p) (hT : Tabs w) :
    Calls Tryd.prog 3 #[.slice a ps.length ca, .slice b qs.length cb] w fun e w' => e = .returned (.bool true) ∧ Below w.heap.size w w' := by
  have hs1 : ∀ p ∈ ps, p.text.size ≤ 1048576 := fun p hp => (hsa p hp).2.2
  have hs2 : ∀ p ∈ qs, p.text.size ≤ 1048576 := fun p hp => (hsb p hp).2.2
  have hl1 := compRes_length ps qs
  go_enter Tryd.func3, Tryd.ntmps3
  go_wp2_with fail
  refine (opCopy_any ps a ca w hopa hna).mono ?_
  rintro e w1 ⟨v1, rfl, hown1, hb1⟩
  obtain ⟨a1, c1, rfl, ho1, hc1⟩ := own_opAt' hown1
  go_wp2_with fail
  refine (opCopy_any qs b cb w1 (hopb.below hb1) hnb).mono ?_
  rintro e w2 ⟨v2, rfl, hown2, hb2⟩
  obtain ⟨a2, c2, rfl, ho2, hc2⟩ := own_opAt' hown2
  have hb12 := below_two hb1 hb2 (Nat.le_refl _)
  have ho1' := ho1.below hb2
  go_wp2_with fail
  refine (compose_text ps qs a1 a2 c1 c2 w2 ho1' ho2 hc1 hc2 hna hnb hs1 hs2 (hT.below hb12)).mono ?_
  rintro e w3 ⟨u3, rfl, hu3, hb3⟩
  have hb13 := below_two hb12 hb3 (Nat.le_refl _)
  go_wp2_with fail
  refine (composed_any ps qs a b ca cb w3 (hopa.below hb13) (hopb.below hb13) hna hnb hs1 hs2 (hT.below hb13)).mono ?_
  rintro e w4 ⟨u4, rfl, hu4, hb4⟩
  have hb14 := below_two hb13 hb4 (Nat.le_refl _)
  generalize compRes ps qs = U at *
  generalize compErr ps qs = E
  have g1 : (E == E) = true := by simp
  obtain ⟨b1, k1, rfl, p1⟩ := own_opAt (own_below hu3 hb4)
  obtain ⟨b3, k3, rfl, p3⟩ := own_opAt hu4
  have o1 := (ho1'.below hb3).below hb4
  have o2 := (ho2.below hb3).below hb4
  have o3 := hopa.below hb14
  have o4 := hopb.below hb14
  have cA := sameOp_true U b1 b3 k1 k3 w4 p1 p3 (by omega)
  have cC := fun w5 (hb : Below w4.heap.size w4 w5) => sameOp_true ps a1 a c1 ca w5 (o1.below hb) (o3.below hb) (by omega)
  have cD := fun w5 (hb : Below w4.heap.size w4 w5) => sameOp_true qs a2 b c2 cb w5 (o2.below hb) (o4.below hb) (by omega)
  clear hown1 hown2 hu3 hu4 ho1 ho1' ho2 hopa hopb hsa hsb hs1 hs2 o1 o2 o3 o4 p1 p3
  go_wp2_with fail
  refine cA.mono ?_
  rintro e w6 ⟨rfl, hb56⟩
  have cC' := cC w6 hb56
  clear cA cC
  go_wp2_with fail
  refine cC'.mono ?_
  rintro e w7 ⟨rfl, hb7⟩
  have hb57 := below_two hb56 hb7 (Nat.le_refl _)
  have cD' := cD w7 hb57
  clear cC' cD
  go_wp2_with fail
  refine cD'.mono ?_
  rintro e w8 ⟨rfl, hb8⟩
  have hb58 := below_two hb57 hb8 (Nat.le_refl _)
  go_wp2
  go_ret
  exact ⟨rfl, below_two hb14 hb58 (Nat.le_refl _)⟩

end Go.Proofs.YtpiijhkohjnnhabDoor
