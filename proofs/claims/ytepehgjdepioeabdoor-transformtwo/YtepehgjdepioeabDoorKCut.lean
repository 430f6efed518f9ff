/-
  Walk: wherrykeep.cutOut.
-/
import Derived.Test.YtepehgjdepioeabDoorKCalls
import Derived.Test.YtepehgjdepioeabDoorPureLaws
namespace Go.Proofs.YtepehgjdepioeabDoor
open Go.RowKit Go.Lib

theorem mason_newC (w : World) (left : Int) : MasonAt (w.alloc (.cells #[.slice none 0 0, .int .i64 left] 91)) w.heap.size w.heap.size (.slice none 0 0) (group []) left :=
  ⟨Nat.le_refl _, heap_alloc_new w _, World.ownsRow_nil _ _ _ _⟩
theorem bald_canon {S : List Step} (h : StepsOk S) (hl : S.length ≤ 4000) (hd : Bald S) : steps (group S) = S := ((group_sim h hl).symm.eq_noIns hd).symm

set_option maxRecDepth 100000 in
set_option maxHeartbeats 1000000 in
theorem cutCall (n k : Nat) (w : World) (hk : k ≤ n) (hn : n ≤ 2000) :
    Calls Tryd.prog 25 #[.int .i64 (n : Int), .int .i64 (k : Int)] w fun e w' => ∃ v, e = .returned v ∧ OpS w' w.heap.size v (cutS n k) ∧ Below w.heap.size w w' := by
  have hnk : ((n : Int) - (k : Int)) = ((n - k : Nat) : Int) := by omega
  have hmn : min ((n - k : Nat) : Int) 1 = ((min (n - k) 1 : Nat) : Int) := by omega
  have hnm : ((n - k : Nat) : Int) - ((min (n - k) 1 : Nat) : Int) = ((n - k - min (n - k) 1 : Nat) : Int) := by omega
  have hb0 := (Below.refl w.heap.size w).alloc (Nat.le_refl _) (.cells #[.slice none 0 0, .int .i64 0] 91)
  have hm0 := mason_newC w 0
  have hz0 := hb0.size
  have k1 : StepsOk (List.replicate k (1, 0)) := .keeps k
  have k2 := k1.append (StepsOk.dels (min (n - k) 1))
  have k3 := cutS_ok n k
  have hl2 : (List.replicate k ((1 : Int), (0 : Int)) ++ List.replicate (min (n - k) 1) ((3 : Int), (0 : Int))).length ≤ 4000 := by simp only [List.length_append, List.length_replicate]; omega
  have hl3 := cutS_len n k hk
  have hcan : Hid (steps (group (cutS n k)) = cutS n k) := bald_canon k3 (by omega) (cutS_bald n k)
  obtain ⟨S3, hS3⟩ : ∃ S3, S3 = cutS n k := ⟨_, rfl⟩
  rw [← hS3] at hcan k3 hl3 ⊢
  have HS : Hid (S3 = List.replicate k ((1 : Int), (0 : Int)) ++ List.replicate (min (n - k) 1) ((3 : Int), (0 : Int)) ++ List.replicate (n - k - min (n - k) 1) ((1 : Int), (0 : Int))) := hS3
  clear hS3
  have hmb : min (n - k) 1 ≤ 1 := Nat.min_le_right _ _
  generalize min (n - k) 1 = mm at *
  go_enter Tryd.func25, Tryd.ntmps25
  go_wp2_with fail
  refine (addK _ w.heap.size w.heap.size _ [] 0 k hm0 (by omega) .nil (by simp) (by omega)).mono ?_
  rintro e w1 ⟨rfl, ov1, hm1, hst1⟩
  have hb1 := below_two' hb0 hst1 hm0
  rw [List.nil_append] at hm1
  have hz1 := hb1.size
  clear hm0 hst1 hb0
  go_wp2_with fail
  refine (addD w1 w.heap.size w.heap.size ov1 (List.replicate k (1, 0)) 0 mm hm1 (by omega) k1 (by rw [List.length_replicate]; omega) (by omega)).mono ?_
  rintro e w2 ⟨rfl, ov2, hm2, hst2⟩
  have hb2 := below_two' hb1 hst2 hm1
  have hz2 := hb2.size
  clear hm1 hst2 hb1
  go_wp2_with fail
  refine (addK w2 w.heap.size w.heap.size ov2 _ 0 (n - k - mm) hm2 (by omega) k2 hl2 (by omega)).mono ?_
  rintro e w3 ⟨rfl, ov3, hm3, hst3⟩
  rw [← HS.out] at hm3
  have hb3 := below_two' hb2 hst3 hm2
  obtain ⟨c0, _⟩ := hm3.cells
  obtain ⟨oa, oc, rfl⟩ := own_form hm3.own
  clear hm2 hst3 hb2
  go_wp2_with fail
  go_ret
  exact ⟨_, rfl, ⟨hm3.own, k3, hcan.out⟩, hb3⟩

end Go.Proofs.YtepehgjdepioeabDoor
