/-
  Walk: wherrykeep.WholeMakes.
-/
import Derived.Test.YtepehgjdepioeaaDoorKWhole
namespace Go.Proofs.YtepehgjdepioeaaDoor
open Go.RowKit Go.Lib

set_option maxRecDepth 100000 in
set_option maxHeartbeats 2000000 in
theorem wholeMakes_walk (s : ByteArray) (t : ByteArray) (w : World) (hs : s.size ≤ 9223372036854775807) (ht : t.size ≤ 9223372036854775807) (hT : Tabs w) :
    Calls Tryd.prog 14 #[.string s, .string t] w fun e w' => e = .returned (.bool true) ∧ Below w.heap.size w w' := by
  have HB : Below w.heap.size w w := Below.refl _ _
  go_enter Tryd.func14, Tryd.ntmps14
  go_wp2_with fail
  refine (letters_any s 30 _ hs (by omega)).mono ?_
  rintro e w1 ⟨a, cpa, lha, rfl, hb⟩
  replace HB := below_two HB hb (Nat.le_refl _)
  clear hb
  go_wp2_with fail
  refine (letters_any t 30 _ ht (by omega)).mono ?_
  rintro e w2 ⟨b, cpb, lhb, rfl, hb⟩
  replace HB := below_two HB hb (Nat.le_refl _)
  clear hb
  go_wp2_with fail
  refine (wholeCall a b _ cpa cpb (by omega) (by omega) (hT.below HB)).mono ?_
  rintro e w3 ⟨x, P, rfl, oP, sP, hb⟩
  replace HB := below_two HB hb (Nat.le_refl _)
  clear hb
  have hPl := sP.len
  have hPl2 : P.length ≤ 4000 := by rw [hPl]; simp [insS]; omega
  have hPo : oldN P = a.length := by rw [sP.olds, oldN_append, oldN_ins, oldN_rep _ _ _ (by decide)]; omega
  have HM : Hid (applyS a P = b) := by
    show _ = _
    rw [sP.apply]
    have e1 := applyS_ins (List.replicate a.length (3, 0)) b a
    have e2 := applyS_del [] a.length a
    rw [List.append_nil] at e2
    show applyS a (b.map (fun r : Nat => ((2 : Int), (r : Int))) ++ List.replicate a.length (3, 0)) = b
    rw [e1, e2]
    simp [applyS]
  clear sP hPl
  go_wp2_with fail
  refine (applyCall a P x _ _ cpa oP (by omega) hPo (hT.below HB)).mono ?_
  rintro e w4 ⟨rfl, hb⟩
  replace HB := below_two HB hb (Nat.le_refl _)
  replace oP := oP.below hb
  clear hb
  rw [HM.out]
  clear HM
  go_wp2_with fail
  refine (wholeBad b _ cpb (by omega) (hT.below HB)).mono ?_
  rintro e w5 ⟨y, rfl, hb⟩
  replace HB := below_two HB hb (Nat.le_refl _)
  replace oP := oP.below hb
  clear hb
  go_wp2_with fail
  go_ret
  exact ⟨rfl, HB⟩

end Go.Proofs.YtepehgjdepioeaaDoor
