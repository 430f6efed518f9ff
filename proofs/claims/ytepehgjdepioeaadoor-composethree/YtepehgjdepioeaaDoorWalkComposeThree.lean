/-
  Walk: wherrykeep.ComposeThree.
-/
import Derived.Test.YtepehgjdepioeaaDoorKComp
import Derived.Test.YtepehgjdepioeaaDoorKTells
namespace Go.Proofs.YtepehgjdepioeaaDoor
open Go.RowKit Go.Lib

set_option maxRecDepth 100000 in
set_option maxHeartbeats 2000000 in
theorem composeThree_walk (s : ByteArray) (l : List RawV) (al : Option Addr) (cl : Nat) (m : List RawV) (am : Option Addr) (cm : Nat) (n : List RawV) (an : Option Addr) (cn : Nat) (w : World) (hs : s.size ≤ 9223372036854775807) (hl : RawsAt w al l) (kl : ∀ r ∈ l, RawOk r) (ll : l.length ≤ 9223372036854775807) (hm : RawsAt w am m) (km : ∀ r ∈ m, RawOk r) (lm : m.length ≤ 9223372036854775807) (hn : RawsAt w an n) (kn : ∀ r ∈ n, RawOk r) (ln : n.length ≤ 9223372036854775807) (hT : Tabs w) :
    Calls Tryd.prog 10 #[.string s, .slice al l.length cl, .slice am m.length cm, .slice an n.length cn] w fun e w' => e = .returned (.bool true) ∧ Below w.heap.size w w' := by
  have HB : Below w.heap.size w w := Below.refl _ _
  go_enter Tryd.func10, Tryd.ntmps10
  go_wp2_with fail
  refine (tells_any _ hT).mono ?_
  rintro e w1 ⟨rfl, hb⟩
  replace HB := below_two HB hb (Nat.le_refl _)
  clear hb
  go_wp2_with fail
  refine (letters_any s 20 _ hs (by omega)).mono ?_
  rintro e w2 ⟨t, cpt, lht, rfl, hb⟩
  replace HB := below_two HB hb (Nat.le_refl _)
  clear hb
  go_wp2_with fail
  refine (runesCall t _ cpt (by omega)).mono ?_
  rintro e w3 ⟨rfl, hb⟩
  replace HB := below_two HB hb (Nat.le_refl _)
  clear hb
  go_wp2_with fail
  refine (opCall (t.length) l al cl _ (hl.below HB (Nat.le_refl _)) kl ll (by omega)).mono ?_
  rintro e w4 ⟨u, A, rfl, oA, eA, nA, hb, _⟩
  replace HB := below_two HB hb (Nat.le_refl _)
  clear hb
  go_wp2_with fail
  refine (lengthsCall A u _ _ oA (by omega)).mono ?_
  rintro e w5 ⟨rfl, hb⟩
  replace HB := below_two HB hb (Nat.le_refl _)
  replace oA := oA.below hb
  clear hb
  have n1 := newN_le A
  go_wp2_with fail
  refine (opCall (newN A) m am cm _ (hm.below HB (Nat.le_refl _)) km lm (by omega)).mono ?_
  rintro e w6 ⟨v, C, rfl, oC, eC, nC, hb, _⟩
  replace HB := below_two HB hb (Nat.le_refl _)
  replace oA := oA.below hb
  clear hb
  go_wp2_with fail
  refine (lengthsCall C v _ _ oC (by omega)).mono ?_
  rintro e w7 ⟨rfl, hb⟩
  replace HB := below_two HB hb (Nat.le_refl _)
  replace oA := oA.below hb
  replace oC := oC.below hb
  clear hb
  have n2 := newN_le C
  go_wp2_with fail
  refine (opCall (newN C) n an cn _ (hn.below HB (Nat.le_refl _)) kn ln (by omega)).mono ?_
  rintro e w8 ⟨x, E, rfl, oE, eE, nE, hb, _⟩
  replace HB := below_two HB hb (Nat.le_refl _)
  replace oA := oA.below hb
  replace oC := oC.below hb
  clear hb
  go_wp2_with fail
  refine (composeCall A C u v _ _ _ oA oC (by omega) eC.symm (hT.below HB)).mono ?_
  rintro e w9 ⟨ab, P, rfl, oP, sP, hb⟩
  replace HB := below_two HB hb (Nat.le_refl _)
  replace oA := oA.below hb
  replace oC := oC.below hb
  replace oE := oE.below hb
  clear hb
  go_wp2_with fail
  refine (composeCall C E v x _ _ _ oC oE (by omega) eE.symm (hT.below HB)).mono ?_
  rintro e w10 ⟨bc, Q, rfl, oQ, sQ, hb⟩
  replace HB := below_two HB hb (Nat.le_refl _)
  replace oA := oA.below hb
  replace oC := oC.below hb
  replace oE := oE.below hb
  replace oP := oP.below hb
  clear hb
  obtain ⟨c1, c2⟩ := cf_counts A C oA.ok oC.ok eC.symm
  obtain ⟨d1, d2⟩ := cf_counts C E oC.ok oE.ok eE.symm
  have p1 := sP.olds
  have p2 := sP.news
  have p3 := sP.len
  have q1 := sQ.olds
  have q2 := sQ.news
  have q3 := sQ.len
  have k1 := cf_length A C
  have k2 := cf_length C E
  go_wp2_with fail
  refine (composeCall P E ab x _ _ _ oP oE (by omega) (by omega) (hT.below HB)).mono ?_
  rintro e w11 ⟨y, R, rfl, oR, sR, hb⟩
  replace HB := below_two HB hb (Nat.le_refl _)
  replace oA := oA.below hb
  replace oC := oC.below hb
  replace oE := oE.below hb
  replace oP := oP.below hb
  replace oQ := oQ.below hb
  clear hb
  go_wp2_with fail
  refine (composeCall A Q u bc _ _ _ oA oQ (by omega) (by omega) (hT.below HB)).mono ?_
  rintro e w12 ⟨z, S, rfl, oS, sS, hb⟩
  replace HB := below_two HB hb (Nat.le_refl _)
  replace oA := oA.below hb
  replace oC := oC.below hb
  replace oE := oE.below hb
  replace oP := oP.below hb
  replace oQ := oQ.below hb
  replace oR := oR.below hb
  clear hb
  obtain ⟨r1, r2⟩ := cf_counts P E oP.ok oE.ok (by omega)
  obtain ⟨s1, s2⟩ := cf_counts A Q oA.ok oQ.ok (by omega)
  have hR : oldN R = t.length := by rw [sR.olds]; omega
  have hS : oldN S = t.length := by rw [sS.olds]; omega
  have k3 := cf_length P E
  have k4 := cf_length A Q
  have l3 := sR.len
  have l4 := sS.len
  have aL := applyS_len A t oA.ok eA
  have HM : Hid (applyS t R = applyS t S) := by
    show _ = _
    rw [sR.apply, sS.apply, cf_apply P E t oP.ok oE.ok (by omega) (by omega), cf_apply A Q t oA.ok oQ.ok eA (by omega), sP.apply, sQ.apply, cf_apply A C t oA.ok oC.ok eA eC.symm, cf_apply C E (applyS t A) oC.ok oE.ok (by omega) eE.symm]
  clear sP sQ sR sS p1 p2 q1 q2 c1 c2 d1 d2 r1 r2 s1 s2 aL
  go_wp2_with fail
  refine (applyCall t R y _ _ cpt oR (by omega) hR (hT.below HB)).mono ?_
  rintro e w13 ⟨rfl, hb⟩
  replace HB := below_two HB hb (Nat.le_refl _)
  replace oA := oA.below hb
  replace oC := oC.below hb
  replace oE := oE.below hb
  replace oP := oP.below hb
  replace oQ := oQ.below hb
  replace oR := oR.below hb
  replace oS := oS.below hb
  clear hb
  rw [HM.out]
  go_wp2_with fail
  refine (applyCall t S z _ _ cpt oS (by omega) hS (hT.below HB)).mono ?_
  rintro e w14 ⟨rfl, hb⟩
  replace HB := below_two HB hb (Nat.le_refl _)
  replace oA := oA.below hb
  replace oC := oC.below hb
  replace oE := oE.below hb
  replace oP := oP.below hb
  replace oQ := oQ.below hb
  replace oR := oR.below hb
  replace oS := oS.below hb
  clear hb
  go_wp2_with fail
  go_ret
  exact ⟨rfl, HB⟩

end Go.Proofs.YtepehgjdepioeaaDoor
