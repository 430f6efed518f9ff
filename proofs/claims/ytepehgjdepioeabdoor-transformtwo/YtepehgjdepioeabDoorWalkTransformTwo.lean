/-
  Walk: wherrykeep.TransformTwo.
-/
import Derived.Test.YtepehgjdepioeabDoorKTrans
import Derived.Test.YtepehgjdepioeabDoorKComp
import Derived.Test.YtepehgjdepioeabDoorKCut
import Derived.Test.YtepehgjdepioeabDoorKTells
namespace Go.Proofs.YtepehgjdepioeabDoor
open Go.RowKit Go.Lib

set_option maxRecDepth 100000 in
set_option maxHeartbeats 4000000 in
theorem transformTwo_walk (s : ByteArray) (l : List RawV) (al : Option Addr) (cl : Nat) (a : Int) (b : Int) (w : World) (hs : s.size ≤ 9223372036854775807) (hl : RawsAt w al l) (kl : ∀ r ∈ l, RawOk r) (ll : l.length ≤ 9223372036854775807) (ha : I64 a) (hb : I64 b) (hT : Tabs w) :
    Calls Tryd.prog 7 #[.string s, .slice al l.length cl, .int .i64 a, .int .i64 b] w fun e w' => e = .returned (.bool true) ∧ Below w.heap.size w w' := by
  have HB : Below w.heap.size w w := Below.refl _ _
  go_enter Tryd.func7, Tryd.ntmps7
  go_wp2_with fail
  refine (tells_any _ hT).mono ?_
  rintro e w1 ⟨rfl, hb⟩
  replace HB := below_two HB hb (Nat.le_refl _)
  clear hb
  go_wp2_with fail
  refine (letters_any s 30 _ hs (by omega)).mono ?_
  rintro e w2 ⟨t, cpt, lht, rfl, hb⟩
  replace HB := below_two HB hb (Nat.le_refl _)
  clear hb
  go_wp2_with fail
  refine (runesCall t _ cpt (by omega)).mono ?_
  rintro e w3 ⟨rfl, hb⟩
  replace HB := below_two HB hb (Nat.le_refl _)
  clear hb
  go_wp2_with fail
  refine (opCall (t.length) l al cl _ (hl.below HB (Nat.le_refl _)) kl ll (by omega)).mono ?_
  rintro e w4 ⟨u, O, rfl, oO, eO, nO, hb, _⟩
  replace HB := below_two HB hb (Nat.le_refl _)
  clear hb
  go_wp2_with fail
  refine (picked_any a ((t.length : Int) + 1) _ ha (by omega) (by omega)).mono ?_
  rintro e w5 ⟨i, hi, rfl, hb⟩
  replace HB := below_two HB hb (Nat.le_refl _)
  replace oO := oO.below hb
  clear hb
  go_wp2_with fail
  refine (cutCall t.length i _ (by omega) (by omega)).mono ?_
  rintro e w6 ⟨x, rfl, oX, hb⟩
  replace HB := below_two HB hb (Nat.le_refl _)
  replace oO := oO.below hb
  clear hb
  have bX := cutS_bald t.length i
  have lX := cutS_len t.length i (by omega)
  have eX := cutS_old t.length i (by omega)
  generalize cutS t.length i = X at *
  have nX := newN_le X
  go_wp2_with fail
  refine (lengthsCall X x _ _ oX (by omega)).mono ?_
  rintro e w7 ⟨rfl, hb⟩
  replace HB := below_two HB hb (Nat.le_refl _)
  replace oO := oO.below hb
  replace oX := oX.below hb
  clear hb
  go_wp2_with fail
  refine (picked_any b ((newN X : Int) + 1) _ hb (by omega) (by omega)).mono ?_
  rintro e w8 ⟨j, hj, rfl, hb⟩
  replace HB := below_two HB hb (Nat.le_refl _)
  replace oO := oO.below hb
  replace oX := oX.below hb
  clear hb
  go_wp2_with fail
  refine (cutCall (newN X) j _ (by omega) (by omega)).mono ?_
  rintro e w9 ⟨y, rfl, oY, hb⟩
  replace HB := below_two HB hb (Nat.le_refl _)
  replace oO := oO.below hb
  replace oX := oX.below hb
  clear hb
  have bY := cutS_bald (newN X) j
  have lY := cutS_len (newN X) j (by omega)
  have eY := cutS_old (newN X) j (by omega)
  generalize cutS (newN X) j = Y at *
  go_wp2_with fail
  refine (composeCall X Y x y _ _ _ oX oY (by omega) eY.symm (hT.below HB)).mono ?_
  rintro e w10 ⟨z, Z, rfl, oZ, sZ, hb⟩
  replace HB := below_two HB hb (Nat.le_refl _)
  replace oO := oO.below hb
  replace oX := oX.below hb
  replace oY := oY.below hb
  clear hb
  obtain ⟨zc1, zc2⟩ := cf_counts X Y oX.ok oY.ok eY.symm
  have hZ := (sZ.symm.eq_noIns (cf_bald X Y bX bY)).symm
  have bZ := cf_bald X Y bX bY
  have zl := cf_length X Y
  rw [← hZ] at bZ zc1 zl
  have HZ : Hid (Z = cf X Y) := hZ
  clear sZ hZ zc2
  go_wp2_with fail
  refine (transformCall O X u x _ _ _ oO oX (by omega) (eO.trans eX.symm) (hT.below HB)).mono ?_
  rintro e w11 ⟨p, q, P, Q, rfl, oP, oQ, sP, sQ, hb⟩
  replace HB := below_two HB hb (Nat.le_refl _)
  replace oO := oO.below hb
  replace oX := oX.below hb
  replace oY := oY.below hb
  replace oZ := oZ.below hb
  clear hb
  obtain ⟨n1, n2, n3⟩ := xf_counts O X oO.ok oX.ok (eO.trans eX.symm)
  have hle := xf_length O X
  have hPl := sP.len
  have hQl := sQ.len
  have pO := sP.olds
  have qN := sQ.news
  have HQ : Hid (Q = (xf O X).2) := (sQ.symm.eq_noIns (xf_bald O X bX)).symm
  have oPY : oldN P = oldN Y := by omega
  have HTwo := xf_two O X Y oO.ok oX.ok oY.ok bX bY (by omega) eY.symm
  have HSim := Sim.xfL sP Y oP.ok oY.ok bY oPY
  have xPY := xf_ok P Y oP.ok oY.ok
  obtain ⟨m1, m2, m3⟩ := xf_counts P Y oP.ok oY.ok oPY
  have pN := sP.news
  have hQn : oldN Q = newN O := by rw [HQ.out]; exact n2
  have hQn2 : newN Q = newN P := by rw [HQ.out, pN]; exact n3.symm
  have bQ2 := xf_bald P Y bY
  have hle2 := xf_length P Y
  clear sQ sP n1 n2 n3 qN pN pO
  go_wp2_with fail
  refine (transformCall P Y p y _ _ _ oP oY (by omega) oPY (hT.below HB)).mono ?_
  rintro e w12 ⟨p2, q2, P2, Q2, rfl, oP2, oQ2, sP2, sQ2, hb⟩
  replace HB := below_two HB hb (Nat.le_refl _)
  replace oO := oO.below hb
  replace oX := oX.below hb
  replace oY := oY.below hb
  replace oZ := oZ.below hb
  replace oP := oP.below hb
  replace oQ := oQ.below hb
  clear hb
  have hP2l := sP2.len
  have hQ2l := sQ2.len
  have HQ2 : Hid (Q2 = (xf P Y).2) := (sQ2.symm.eq_noIns bQ2).symm
  have hQ2o : newN Q = oldN Q2 := by rw [HQ2.out, m2, hQn2]
  have HP2 : Hid (Sim P2 (xf P Y).1) := sP2
  clear sQ2 sP2 m1 m2 m3 bQ2
  have eOZ : oldN O = oldN Z := by omega
  have hle3 := xf_length O Z
  go_wp2_with fail
  refine (transformCall O Z u z _ _ _ oO oZ (by omega) eOZ (hT.below HB)).mono ?_
  rintro e w13 ⟨r, v, R, V, rfl, oR, oV, sR, sV, hb⟩
  replace HB := below_two HB hb (Nat.le_refl _)
  replace oO := oO.below hb
  replace oX := oX.below hb
  replace oY := oY.below hb
  replace oZ := oZ.below hb
  replace oP := oP.below hb
  replace oQ := oQ.below hb
  replace oP2 := oP2.below hb
  replace oQ2 := oQ2.below hb
  clear hb
  have HR : Hid (Sim R (xf O Z).1) := sR
  have HV : Hid (Sim V (xf O Z).2) := sV
  have hRl := sR.len
  have hVl := sV.len
  clear sR sV
  go_wp2_with fail
  refine (composeCall Q Q2 q q2 _ _ _ oQ oQ2 (by omega) hQ2o (hT.below HB)).mono ?_
  rintro e w14 ⟨k, K, rfl, oK, sK, hb⟩
  replace HB := below_two HB hb (Nat.le_refl _)
  replace oO := oO.below hb
  replace oX := oX.below hb
  replace oY := oY.below hb
  replace oZ := oZ.below hb
  replace oP := oP.below hb
  replace oQ := oQ.below hb
  replace oP2 := oP2.below hb
  replace oQ2 := oQ2.below hb
  replace oR := oR.below hb
  replace oV := oV.below hb
  clear hb
  have hKl := sK.len
  have hle4 := cf_length Q Q2
  have H1 : Hid (group P2 = group R) := by
    show _ = _
    rw [HP2.out.group, HR.out.group, HZ.out, HTwo]
    exact HSim.1.group
  have H2 : Hid (group K = group V) := by
    show _ = _
    rw [sK.group, HV.out.group, HZ.out, HTwo, HQ.out, HQ2.out, HSim.2]
  have hP2l4 : P2.length ≤ 4000 := by omega
  have hKl4 : K.length ≤ 4000 := by omega
  clear sK HTwo HSim HZ HQ HQ2 HP2 HR HV hQ2o hQn hQn2 eOZ oPY zc1 xPY
  go_wp2_with fail
  refine (sameCall P2 R p2 r _ _ _ oP2 oR H1.out (by omega)).mono ?_
  rintro e w15 ⟨rfl, hb⟩
  replace HB := below_two HB hb (Nat.le_refl _)
  replace oO := oO.below hb
  replace oX := oX.below hb
  replace oY := oY.below hb
  replace oZ := oZ.below hb
  replace oP := oP.below hb
  replace oQ := oQ.below hb
  replace oP2 := oP2.below hb
  replace oQ2 := oQ2.below hb
  replace oR := oR.below hb
  replace oV := oV.below hb
  replace oK := oK.below hb
  clear hb
  go_wp2_with fail
  refine (sameCall K V k v _ _ _ oK oV H2.out (by omega)).mono ?_
  rintro e w16 ⟨rfl, hb⟩
  replace HB := below_two HB hb (Nat.le_refl _)
  replace oO := oO.below hb
  replace oX := oX.below hb
  replace oY := oY.below hb
  replace oZ := oZ.below hb
  replace oP := oP.below hb
  replace oQ := oQ.below hb
  replace oP2 := oP2.below hb
  replace oQ2 := oQ2.below hb
  replace oR := oR.below hb
  replace oV := oV.below hb
  replace oK := oK.below hb
  clear hb
  go_wp2_with fail
  go_ret
  exact ⟨rfl, HB⟩

end Go.Proofs.YtepehgjdepioeabDoor
