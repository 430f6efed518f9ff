/-
  Walk: wherrylaw.TextTransforms.
-/
import Derived.Test.YtpiijhkohjnnhaaDoorTransWalk
import Derived.Test.YtpiijhkohjnnhaaDoorTransformedAll
import Derived.Test.YtpiijhkohjnnhaaDoorOpCopyWalk
import Derived.Test.YtpiijhkohjnnhaaDoorSameOp
import Derived.Test.YtpiijhkohjnnhaaDoorOwnOp
namespace Go.Proofs.YtpiijhkohjnnhaaDoor
open Go.RowKit Go.Lib

theorem transUV_length (ps qs : List Part) : (transU ps qs).length ≤ 16000 ∧ (transV ps qs).length ≤ 16000 := by
  unfold transU transV
  split
  · simp
  · rename_i h
    have hb : bothErr ps qs = 0 := by
      unfold transErr at h
      split at h
      · omega
      · omega
    obtain ⟨h1, h2⟩ := bothErr_zero hb
    have := xUV_small (opErr_zero h1) (opErr_zero h2)
    exact ⟨this.1.1, this.2.1⟩
theorem own_opAt' {w : World} {B : Nat} {v : Value} {ps : List Part} (h : w.ownsRow B 41 3 v ps.length (partCells ps)) : ∃ a cap, v = .slice a ps.length cap ∧ OpAt w a ps ∧ ps.length ≤ cap := by
  obtain ⟨a, cap, e, ho⟩ := own_opAt h
  refine ⟨a, cap, e, ho, ?_⟩
  rcases h.2 with ⟨h1, h2⟩ | ⟨g, cap', cur, h1, _, _, h3, _⟩
  · rw [h2]; exact Nat.zero_le _
  · rw [e] at h1
    simp only [Value.slice.injEq] at h1
    omega

set_option maxRecDepth 100000 in
set_option maxHeartbeats 1000000 in
theorem textTransforms_walk (ps : List Part) (a : Option Addr) (ca : Nat) (qs : List Part) (b : Option Addr) (cb : Nat) (w : World) (hopa : OpAt w a ps) (hna : ps.length ≤ 1048576) (hsa : ∀ p ∈ ps, PartOk 1048576 p) (hopb : OpAt w b qs) (hnb : qs.length ≤ 1048576) (hsb : ∀ p ∈ qs, PartOk 1048576 p) (hT : Tabs w) :
    Calls Tryd.prog 7 #[.slice a ps.length ca, .slice b qs.length cb] w fun e w' => e = .returned (.bool true) ∧ Below w.heap.size w w' := by
  have hs1 : ∀ p ∈ ps, p.text.size ≤ 1048576 := fun p hp => (hsa p hp).2.2
  have hs2 : ∀ p ∈ qs, p.text.size ≤ 1048576 := fun p hp => (hsb p hp).2.2
  obtain ⟨hl1, hl2⟩ := transUV_length ps qs
  go_enter Tryd.func7, Tryd.ntmps7
  go_wp2_with fail
  refine (opCopy_any ps a ca w hopa hna).mono ?_
  rintro e w1 ⟨v1, rfl, hown1, hb1⟩
  obtain ⟨a1, c1, rfl, ho1, hc1⟩ := own_opAt' hown1
  go_wp2_with fail
  refine (opCopy_any qs b cb w1 (hopb.below hb1) hnb).mono ?_
  rintro e w2 ⟨v2, rfl, hown2, hb2⟩
  obtain ⟨a2, c2, rfl, ho2, hc2⟩ := own_opAt' hown2
  have hb12 := below_two hb1 hb2 (Nat.le_refl _)
  have ho1' := ho1.below hb2
  go_wp2_with fail
  refine (transform_text ps qs a1 a2 c1 c2 w2 ho1' ho2 hc1 hc2 hna hnb hs1 hs2 (hT.below hb12)).mono ?_
  rintro e w3 ⟨u3, v3, rfl, hu3, hv3, hb3⟩
  have hb13 := below_two hb12 hb3 (Nat.le_refl _)
  go_wp2_with fail
  refine (transformed_any ps qs a b ca cb w3 (hopa.below hb13) (hopb.below hb13) hna hnb hs1 hs2 (hT.below hb13)).mono ?_
  rintro e w4 ⟨u4, v4, rfl, hu4, hv4, hb4⟩
  have hb14 := below_two hb13 hb4 (Nat.le_refl _)
  generalize transU ps qs = U at *
  generalize transV ps qs = V at *
  generalize transErr ps qs = E
  have g1 : (E == E) = true := by simp
  obtain ⟨b1, k1, rfl, p1⟩ := own_opAt (own_below hu3 hb4)
  obtain ⟨b2, k2, rfl, p2⟩ := own_opAt (own_below hv3 hb4)
  obtain ⟨b3, k3, rfl, p3⟩ := own_opAt hu4
  obtain ⟨b4, k4, rfl, p4⟩ := own_opAt hv4
  have o1 := (ho1'.below hb3).below hb4
  have o2 := (ho2.below hb3).below hb4
  have o3 := hopa.below hb14
  have o4 := hopb.below hb14
  have cA := sameOp_true U b1 b3 k1 k3 w4 p1 p3 (by omega)
  have cB := fun w5 (hb : Below w4.heap.size w4 w5) => sameOp_true V b2 b4 k2 k4 w5 (p2.below hb) (p4.below hb) (by omega)
  have cC := fun w5 (hb : Below w4.heap.size w4 w5) => sameOp_true ps a1 a c1 ca w5 (o1.below hb) (o3.below hb) (by omega)
  have cD := fun w5 (hb : Below w4.heap.size w4 w5) => sameOp_true qs a2 b c2 cb w5 (o2.below hb) (o4.below hb) (by omega)
  clear hown1 hown2 hu3 hv3 hu4 hv4 ho1 ho1' ho2 hopa hopb hsa hsb hs1 hs2 o1 o2 o3 o4 p1 p2 p3 p4
  go_wp2_with fail
  refine cA.mono ?_
  rintro e w5 ⟨rfl, hb5⟩
  have cB' := cB w5 hb5
  clear cA cB
  go_wp2_with fail
  refine cB'.mono ?_
  rintro e w6 ⟨rfl, hb6⟩
  have hb56 := below_two hb5 hb6 (Nat.le_refl _)
  have cC' := cC w6 hb56
  clear cB' cC
  go_wp2_with fail
  refine cC'.mono ?_
  rintro e w7 ⟨rfl, hb7⟩
  have hb57 := below_two hb56 hb7 (Nat.le_refl _)
  have cD' := cD w7 hb57
  clear cC' cD
  go_wp2_with fail
  refine cD'.mono ?_
  rintro e w8 ⟨rfl, hb8⟩
  have hb58 := below_two hb57 hb8 (Nat.le_refl _)
  go_wp2
  go_ret
  exact ⟨rfl, below_two hb14 hb58 (Nat.le_refl _)⟩

end Go.Proofs.YtpiijhkohjnnhaaDoor
