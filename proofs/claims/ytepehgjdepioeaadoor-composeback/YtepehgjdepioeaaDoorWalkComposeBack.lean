/-
  Walk: wherrykeep.ComposeBack.
-/
import Derived.Test.YtepehgjdepioeaaDoorKComp
import Derived.Test.YtepehgjdepioeaaDoorKInv
namespace Go.Proofs.YtepehgjdepioeaaDoor
open Go.RowKit Go.Lib

set_option maxRecDepth 100000 in
set_option maxHeartbeats 2000000 in
theorem composeBack_walk (s : ByteArray) (l : List RawV) (al : Option Addr) (cl : Nat) (w : World) (hs : s.size ≤ 9223372036854775807) (hl : RawsAt w al l) (kl : ∀ r ∈ l, RawOk r) (ll : l.length ≤ 9223372036854775807) (hT : Tabs w) :
    Calls Tryd.prog 11 #[.string s, .slice al l.length cl] w fun e w' => e = .returned (.bool true) ∧ Below w.heap.size w w' := by
  have HB : Below w.heap.size w w := Below.refl _ _
  go_enter Tryd.func11, Tryd.ntmps11
  go_wp2_with fail
  refine (letters_any s 30 _ hs (by omega)).mono ?_
  rintro e w1 ⟨t, cpt, lht, rfl, hb⟩
  replace HB := below_two HB hb (Nat.le_refl _)
  clear hb
  go_wp2_with fail
  refine (runesCall t _ cpt (by omega)).mono ?_
  rintro e w2 ⟨rfl, hb⟩
  replace HB := below_two HB hb (Nat.le_refl _)
  clear hb
  go_wp2_with fail
  refine (opCall (t.length) l al cl _ (hl.below HB (Nat.le_refl _)) kl ll (by omega)).mono ?_
  rintro e w3 ⟨u, A, rfl, oA, eA, nA, hb, _⟩
  replace HB := below_two HB hb (Nat.le_refl _)
  clear hb
  go_wp2_with fail
  refine (invertCall t A u _ _ cpt oA (by omega) eA (hT.below HB)).mono ?_
  rintro e w4 ⟨x, P, rfl, oP, sP, hb⟩
  replace HB := below_two HB hb (Nat.le_refl _)
  replace oA := oA.below hb
  clear hb
  obtain ⟨i1, i2, i3, i4⟩ := inv_ok A t oA.ok cpt eA
  obtain ⟨b1, b2⟩ := inv_apply A t oA.ok eA
  have p1 := sP.olds
  have p3 := sP.len
  go_wp2_with fail
  refine (composeCall A P u x _ _ _ oA oP (by omega) (by omega) (hT.below HB)).mono ?_
  rintro e w5 ⟨y, R, rfl, oR, sR, hb⟩
  replace HB := below_two HB hb (Nat.le_refl _)
  replace oA := oA.below hb
  replace oP := oP.below hb
  clear hb
  obtain ⟨r1, r2⟩ := cf_counts A P oA.ok oP.ok (by omega)
  have hR : oldN R = t.length := by rw [sR.olds]; omega
  have k3 := cf_length A P
  have l3 := sR.len
  have HM : Hid (applyS t R = t) := by
    show _ = _
    rw [sR.apply, cf_apply A P t oA.ok oP.ok eA (by omega), sP.apply, b1]
  have hRl : R.length ≤ 4000 := by omega
  clear sP sR p1 r1 r2 b1 b2 i1 i2 i3 i4
  go_wp2_with fail
  refine (applyCall t R y _ _ cpt oR (by omega) hR (hT.below HB)).mono ?_
  rintro e w6 ⟨rfl, hb⟩
  replace HB := below_two HB hb (Nat.le_refl _)
  replace oA := oA.below hb
  replace oP := oP.below hb
  replace oR := oR.below hb
  clear hb
  rw [HM.out]
  clear HM
  go_wp2_with fail
  refine (checkCall R y _ _ oR (by omega) (hT.below HB)).mono ?_
  rintro e w7 ⟨rfl, hb⟩
  replace HB := below_two HB hb (Nat.le_refl _)
  replace oA := oA.below hb
  replace oP := oP.below hb
  replace oR := oR.below hb
  clear hb
  go_wp2_with fail
  go_ret
  exact ⟨rfl, HB⟩

end Go.Proofs.YtepehgjdepioeaaDoor
