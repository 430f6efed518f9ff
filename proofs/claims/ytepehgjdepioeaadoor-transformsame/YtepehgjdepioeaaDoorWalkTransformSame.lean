/-
  Walk: wherrykeep.TransformSame.
-/
import Derived.Test.YtepehgjdepioeaaDoorKTrans
namespace Go.Proofs.YtepehgjdepioeaaDoor
open Go.RowKit Go.Lib

set_option maxRecDepth 100000 in
set_option maxHeartbeats 2000000 in
theorem transformSame_walk (s : ByteArray) (l : List RawV) (al : Option Addr) (cl : Nat) (w : World) (hs : s.size ≤ 9223372036854775807) (hl : RawsAt w al l) (kl : ∀ r ∈ l, RawOk r) (ll : l.length ≤ 9223372036854775807) (hT : Tabs w) :
    Calls Tryd.prog 7 #[.string s, .slice al l.length cl] w fun e w' => e = .returned (.bool true) ∧ Below w.heap.size w w' := by
  have HB : Below w.heap.size w w := Below.refl _ _
  go_enter Tryd.func7, Tryd.ntmps7
  go_wp2_with fail
  refine (letters_any s 30 _ hs (by omega)).mono ?_
  rintro e w1 ⟨t, cpt, lht, rfl, hb⟩
  replace HB := below_two HB hb (Nat.le_refl _)
  clear hb
  go_wp2_with fail
  refine (runesCall t _ cpt (by omega)).mono ?_
  rintro e w2 ⟨rfl, hb⟩
  replace HB := below_two HB hb (Nat.le_refl _)
  clear hb
  go_wp2_with fail
  refine (opCall (t.length) l al cl _ (hl.below HB (Nat.le_refl _)) kl ll (by omega)).mono ?_
  rintro e w3 ⟨u, A, rfl, oA, eA, nA, hb, _⟩
  replace HB := below_two HB hb (Nat.le_refl _)
  clear hb
  go_wp2_with fail
  refine (runesCall t _ cpt (by omega)).mono ?_
  rintro e w4 ⟨rfl, hb⟩
  replace HB := below_two HB hb (Nat.le_refl _)
  replace oA := oA.below hb
  clear hb
  go_wp2_with fail
  refine (opCall (t.length) [] none 0 _ (.inl rfl) (fun _ h => by cases h) (by simp) (by omega)).mono ?_
  rintro e w5 ⟨k, K, rfl, oK, _, _, hb, eK⟩
  obtain rfl := eK rfl
  replace HB := below_two HB hb (Nat.le_refl _)
  replace oA := oA.below hb
  clear hb
  generalize hK : List.replicate t.length ((1 : Int), (0 : Int)) = K at *
  have hK' : K = List.replicate (oldN A) (1, 0) := by rw [← hK, eA]
  have hKn : oldN K = oldN A := by rw [hK', oldN_rep _ _ _ (by decide)]
  have hKl : K.length = t.length := by rw [← hK, List.length_replicate]
  have HX : Hid (xf A K = (A, List.replicate (newN A) (1, 0))) := by show _ = _; rw [hK']; exact xf_keepR A oA.ok
  have HY : Hid (xf K A = (List.replicate (newN A) (1, 0), A)) := by show _ = _; rw [hK']; exact xf_keepL A oA.ok
  have hnl := newN_le A
  clear hK hK'
  go_wp2_with fail
  refine (transformCall A K u k _ _ _ oA oK (by omega) hKn.symm (hT.below HB)).mono ?_
  rintro e w6 ⟨p, q, P, Q, rfl, oP, oQ, sP, sQ, hb⟩
  replace HB := below_two HB hb (Nat.le_refl _)
  replace oA := oA.below hb
  replace oK := oK.below hb
  clear hb
  go_wp2_with fail
  refine (transformCall K A k u _ _ _ oK oA (by omega) hKn (hT.below HB)).mono ?_
  rintro e w7 ⟨r, v, R, V, rfl, oR, oV, sR, sV, hb⟩
  replace HB := below_two HB hb (Nat.le_refl _)
  replace oA := oA.below hb
  replace oK := oK.below hb
  replace oP := oP.below hb
  replace oQ := oQ.below hb
  clear hb
  go_wp2_with fail
  refine (lengthsCall A u _ _ oA (by omega)).mono ?_
  rintro e w8 ⟨rfl, hb⟩
  replace HB := below_two HB hb (Nat.le_refl _)
  replace oA := oA.below hb
  replace oK := oK.below hb
  replace oP := oP.below hb
  replace oQ := oQ.below hb
  replace oR := oR.below hb
  replace oV := oV.below hb
  clear hb
  go_wp2_with fail
  refine (opCall (newN A) [] none 0 _ (.inl rfl) (fun _ h => by cases h) (by simp) (by omega)).mono ?_
  rintro e w9 ⟨z, Z, rfl, oZ, _, _, hb, eZ⟩
  obtain rfl := eZ rfl
  replace HB := below_two HB hb (Nat.le_refl _)
  replace oA := oA.below hb
  replace oK := oK.below hb
  replace oP := oP.below hb
  replace oQ := oQ.below hb
  replace oR := oR.below hb
  replace oV := oV.below hb
  clear hb
  generalize hZ : List.replicate (newN A) ((1 : Int), (0 : Int)) = Z at *
  have hx := HX.out
  have hy := HY.out
  rw [hx] at sP sQ
  rw [hy] at sR sV
  have g1 : Hid (group P = group A) := sP.group
  have g2 : Hid (group V = group A) := sV.group
  have g3 : Hid (group Q = group Z) := sQ.group
  have g4 : Hid (group R = group Z) := sR.group
  have l1 := sP.len
  have l2 := sV.len
  have l3 := sQ.len
  have l4 := sR.len
  have l5 : Z.length = newN A := by rw [← hZ, List.length_replicate]
  simp only at l1 l2 l3 l4
  clear hx hy HX HY sP sQ sR sV hZ hKn eA
  go_wp2_with fail
  refine (sameCall P A p u _ _ _ oP oA g1.out (by omega)).mono ?_
  rintro e w10 ⟨rfl, hb⟩
  replace HB := below_two HB hb (Nat.le_refl _)
  replace oA := oA.below hb
  replace oK := oK.below hb
  replace oP := oP.below hb
  replace oQ := oQ.below hb
  replace oR := oR.below hb
  replace oV := oV.below hb
  replace oZ := oZ.below hb
  clear hb
  go_wp2_with fail
  refine (sameCall V A v u _ _ _ oV oA g2.out (by omega)).mono ?_
  rintro e w11 ⟨rfl, hb⟩
  replace HB := below_two HB hb (Nat.le_refl _)
  replace oA := oA.below hb
  replace oK := oK.below hb
  replace oP := oP.below hb
  replace oQ := oQ.below hb
  replace oR := oR.below hb
  replace oV := oV.below hb
  replace oZ := oZ.below hb
  clear hb
  go_wp2_with fail
  refine (sameCall Q Z q z _ _ _ oQ oZ g3.out (by omega)).mono ?_
  rintro e w12 ⟨rfl, hb⟩
  replace HB := below_two HB hb (Nat.le_refl _)
  replace oA := oA.below hb
  replace oK := oK.below hb
  replace oP := oP.below hb
  replace oQ := oQ.below hb
  replace oR := oR.below hb
  replace oV := oV.below hb
  replace oZ := oZ.below hb
  clear hb
  go_wp2_with fail
  refine (sameCall R Z r z _ _ _ oR oZ g4.out (by omega)).mono ?_
  rintro e w13 ⟨rfl, hb⟩
  replace HB := below_two HB hb (Nat.le_refl _)
  replace oA := oA.below hb
  replace oK := oK.below hb
  replace oP := oP.below hb
  replace oQ := oQ.below hb
  replace oR := oR.below hb
  replace oV := oV.below hb
  replace oZ := oZ.below hb
  clear hb
  go_wp2_with fail
  go_ret
  exact ⟨rfl, HB⟩

end Go.Proofs.YtepehgjdepioeaaDoor
