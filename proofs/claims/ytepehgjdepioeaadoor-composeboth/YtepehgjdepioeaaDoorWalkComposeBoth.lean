/-
  Walk: wherrykeep.ComposeBoth.
-/
import Derived.Test.YtepehgjdepioeaaDoorKComp
import Derived.Test.YtepehgjdepioeaaDoorKTells
namespace Go.Proofs.YtepehgjdepioeaaDoor
open Go.RowKit Go.Lib

set_option maxRecDepth 100000 in
set_option maxHeartbeats 2000000 in
theorem composeBoth_walk (s : ByteArray) (l : List RawV) (al : Option Addr) (cl : Nat) (m : List RawV) (am : Option Addr) (cm : Nat) (w : World) (hs : s.size ≤ 9223372036854775807) (hl : RawsAt w al l) (kl : ∀ r ∈ l, RawOk r) (ll : l.length ≤ 9223372036854775807) (hm : RawsAt w am m) (km : ∀ r ∈ m, RawOk r) (lm : m.length ≤ 9223372036854775807) (hT : Tabs w) :
    Calls Tryd.prog 9 #[.string s, .slice al l.length cl, .slice am m.length cm] w fun e w' => e = .returned (.bool true) ∧ Below w.heap.size w w' := by
  have HB : Below w.heap.size w w := Below.refl _ _
  go_enter Tryd.func9, Tryd.ntmps9
  go_wp2_with fail
  refine (tells_any _ hT).mono ?_
  rintro e w1 ⟨rfl, hb⟩
  replace HB := below_two HB hb (Nat.le_refl _)
  clear hb
  go_wp2_with fail
  refine (letters_any s 30 _ hs (by omega)).mono ?_
  rintro e w2 ⟨t, cpt, lht, rfl, hb⟩
  replace HB := below_two HB hb (Nat.le_refl _)
  clear hb
  go_wp2_with fail
  refine (runesCall t _ cpt (by omega)).mono ?_
  rintro e w3 ⟨rfl, hb⟩
  replace HB := below_two HB hb (Nat.le_refl _)
  clear hb
  go_wp2_with fail
  refine (opCall (t.length) l al cl _ (hl.below HB (Nat.le_refl _)) kl ll (by omega)).mono ?_
  rintro e w4 ⟨u, A, rfl, oA, eA, nA, hb, _⟩
  replace HB := below_two HB hb (Nat.le_refl _)
  clear hb
  go_wp2_with fail
  refine (applyCall t A u _ _ cpt oA (by omega) eA (hT.below HB)).mono ?_
  rintro e w5 ⟨rfl, hb⟩
  replace HB := below_two HB hb (Nat.le_refl _)
  replace oA := oA.below hb
  clear hb
  have aL := applyS_len A t oA.ok eA
  have aC := applyS_ok oA.ok cpt
  have hnl := newN_le A
  go_wp2_with fail
  refine (runesCall (applyS t A) _ aC (by omega)).mono ?_
  rintro e w6 ⟨rfl, hb⟩
  replace HB := below_two HB hb (Nat.le_refl _)
  replace oA := oA.below hb
  clear hb
  go_wp2_with fail
  refine (opCall (newN A) m am cm _ (hm.below HB (Nat.le_refl _)) km lm (by omega)).mono ?_
  rintro e w7 ⟨v, C, rfl, oC, eC, nC, hb, _⟩
  replace HB := below_two HB hb (Nat.le_refl _)
  replace oA := oA.below hb
  clear hb
  go_wp2_with fail
  refine (applyCall (applyS t A) C v _ _ aC oC (by omega) (eC.trans aL.symm) (hT.below HB)).mono ?_
  rintro e w8 ⟨rfl, hb⟩
  replace HB := below_two HB hb (Nat.le_refl _)
  replace oA := oA.below hb
  replace oC := oC.below hb
  clear hb
  go_wp2_with fail
  refine (composeCall A C u v _ _ _ oA oC (by omega) (by omega) (hT.below HB)).mono ?_
  rintro e w9 ⟨x, P, rfl, oP, sP, hb⟩
  replace HB := below_two HB hb (Nat.le_refl _)
  replace oA := oA.below hb
  replace oC := oC.below hb
  clear hb
  obtain ⟨n1, n2⟩ := cf_counts A C oA.ok oC.ok (by omega)
  have hPo : oldN P = t.length := by rw [sP.olds, n1, eA]
  have hPl := sP.len
  have hcl := cf_length A C
  have HM : Hid (applyS t P = applyS (applyS t A) C) := by
    show _ = _
    rw [sP.apply]
    exact cf_apply A C t oA.ok oC.ok eA (by omega)
  go_wp2_with fail
  refine (applyCall t P x _ _ cpt oP (by omega) hPo (hT.below HB)).mono ?_
  rintro e w10 ⟨rfl, hb⟩
  replace HB := below_two HB hb (Nat.le_refl _)
  replace oA := oA.below hb
  replace oC := oC.below hb
  replace oP := oP.below hb
  clear hb
  rw [HM.out]
  clear HM sP
  go_wp2_with fail
  refine (checkCall P x _ _ oP (by omega) (hT.below HB)).mono ?_
  rintro e w11 ⟨rfl, hb⟩
  replace HB := below_two HB hb (Nat.le_refl _)
  replace oA := oA.below hb
  replace oC := oC.below hb
  replace oP := oP.below hb
  clear hb
  go_wp2_with fail
  go_ret
  exact ⟨rfl, HB⟩

end Go.Proofs.YtepehgjdepioeaaDoor
