/-
  Walk: wherrykeep.TransformBoth.
-/
import Derived.Test.YtepehgjdepioeaaDoorKTrans
import Derived.Test.YtepehgjdepioeaaDoorKHere
import Derived.Deep.RegionHeld3
namespace Go.Proofs.YtepehgjdepioeaaDoor
open Go.RowKit Go.Lib

theorem both_xf (k m r : Nat) : xf (List.replicate k (1, 0) ++ List.replicate m (3, 0) ++ List.replicate r (1, 0)) (List.replicate k (1, 0) ++ List.replicate m (3, 0) ++ List.replicate r (1, 0)) = (List.replicate (k + r) (1, 0), List.replicate (k + r) (1, 0)) := by
  rw [List.append_assoc, xf_meets k 1 1 _ _ (by decide) (by decide), xf_meets m 3 3 _ _ (by decide) (by decide), xf_keeps]
  simp
theorem both_bald (k m r : Nat) : Bald (List.replicate k (1, 0) ++ List.replicate m (3, 0) ++ List.replicate r (1, 0)) := ((Bald.rep _ _ _ (by decide)).append (.rep _ _ _ (by decide))).append (.rep _ _ _ (by decide))
theorem both_ok3 (k m r : Nat) : StepsOk (List.replicate k (1, 0) ++ List.replicate m (3, 0) ++ List.replicate r (1, 0)) := ((StepsOk.keeps _).append (.dels _)).append (.keeps _)
theorem bald_canonB {S : List Step} (h : StepsOk S) (hl : S.length ≤ 4000) (hd : Bald S) : steps (group S) = S := ((group_sim h hl).symm.eq_noIns hd).symm
theorem xzy : str (applyS [120, 121] (List.replicate 1 (1, 0) ++ insS [122] ++ List.replicate (2 - 1) (1, 0))) = ⟨#[120, 122, 121]⟩ := by decide +kernel
theorem cp_list {l : List Nat} (h : ∀ r ∈ l, r < 128) : ∀ r ∈ l, CP r := fun r hr => by have := h r hr; unfold CP; omega

set_option maxRecDepth 100000 in
set_option maxHeartbeats 4000000 in
theorem transformBoth_walk (s : ByteArray) (a : Int) (b : Int) (w : World) (hs : s.size ≤ 9223372036854775807) (ha : I64 a) (hb : I64 b) (hT : Tabs w) :
    Calls Tryd.prog 8 #[.string s, .int .i64 a, .int .i64 b] w fun e w' => e = .returned (.bool true) ∧ Below w.heap.size w w' := by
  have HB : Below w.heap.size w w := Below.refl _ _
  go_enter Tryd.func8, Tryd.ntmps8
  go_wp2_with fail
  refine (letters_any s 30 _ hs (by omega)).mono ?_
  rintro e w1 ⟨t, cpt, lht, rfl, hb⟩
  replace HB := below_two HB hb (Nat.le_refl _)
  clear hb
  go_wp2_with fail
  refine (runesCall t _ cpt (by omega)).mono ?_
  rintro e w2 ⟨rfl, hb⟩
  replace HB := below_two HB hb (Nat.le_refl _)
  clear hb
  go_wp2_with fail
  refine (picked_any a ((t.length : Int) + 1) _ ha (by omega) (by omega)).mono ?_
  rintro e w3 ⟨k, hk, rfl, hb⟩
  replace HB := below_two HB hb (Nat.le_refl _)
  clear hb
  go_wp2_with fail
  refine (picked_any b ((t.length : Int) - (k : Int) + 1) _ hb (by omega) (by omega)).mono ?_
  rintro e w4 ⟨m, hm, rfl, hb⟩
  replace HB := below_two HB hb (Nat.le_refl _)
  clear hb
  have hz0 := HB.size
  have hm0 := mason_new w4 0
  have hb0 := HB.alloc hz0 (.cells #[.slice none 0 0, .int .i64 0] 50)
  have hnk : ((t.length : Int) - (k : Int) - (m : Int)) = ((t.length - k - m : Nat) : Int) := by omega
  have k1 : StepsOk (List.replicate k (1, 0)) := .keeps k
  have k2 := k1.append (StepsOk.dels m)
  have k3 := both_ok3 k m (t.length - k - m)
  have l3 : (List.replicate k ((1 : Int), (0 : Int)) ++ List.replicate m ((3 : Int), (0 : Int)) ++ List.replicate (t.length - k - m) ((1 : Int), (0 : Int))).length = t.length := by simp only [List.length_append, List.length_replicate]; omega
  have hcan := bald_canonB k3 (by omega) (both_bald _ _ _)
  have hxf := both_xf k m (t.length - k - m)
  have o3 : oldN (List.replicate k ((1 : Int), (0 : Int)) ++ List.replicate m ((3 : Int), (0 : Int)) ++ List.replicate (t.length - k - m) ((1 : Int), (0 : Int))) = t.length := by rw [oldN_append, oldN_append, oldN_rep _ _ _ (by decide), oldN_rep _ _ _ (by decide), oldN_rep _ _ _ (by decide)]; omega
  obtain ⟨Z, hZ⟩ : ∃ Z, Z = List.replicate k ((1 : Int), (0 : Int)) ++ List.replicate m ((3 : Int), (0 : Int)) ++ List.replicate (t.length - k - m) ((1 : Int), (0 : Int)) := ⟨_, rfl⟩
  rw [← hZ] at hcan hxf k3 l3 o3
  have HZ : Hid (List.replicate k ((1 : Int), (0 : Int)) ++ List.replicate m ((3 : Int), (0 : Int)) ++ List.replicate (t.length - k - m) ((1 : Int), (0 : Int)) = Z) := hZ.symm
  have HXF : Hid (xf Z Z = (List.replicate (k + (t.length - k - m)) (1, 0), List.replicate (k + (t.length - k - m)) (1, 0))) := hxf
  have HCAN : Hid (steps (group Z) = Z) := hcan
  clear hZ hxf hcan
  go_wp2_with fail
  refine (addK _ w4.heap.size w4.heap.size _ [] 0 k hm0 (by simp) .nil (by simp) (by omega)).mono ?_
  rintro e x1 ⟨rfl, ov1, hm1, hst1⟩
  have hd0 := (Below.refl w4.heap.size w4).alloc (Nat.le_refl _) (.cells #[.slice none 0 0, .int .i64 0] 50)
  have hd1 := below_two' hd0 hst1 hm0
  rw [List.nil_append] at hm1
  have hz1 := hd1.size
  clear hm0 hst1 hd0 hb0
  go_wp2_with fail
  refine (addD x1 w4.heap.size w4.heap.size ov1 (List.replicate k (1, 0)) 0 m hm1 hz1 k1 (by rw [List.length_replicate]; omega) (by omega)).mono ?_
  rintro e x2 ⟨rfl, ov2, hm2, hst2⟩
  have hd2 := below_two' hd1 hst2 hm1
  have hz2 := hd2.size
  clear hm1 hst2 hd1
  go_wp2_with fail
  refine (addK x2 w4.heap.size w4.heap.size ov2 _ 0 (t.length - k - m) hm2 hz2 k2 (by simp only [List.length_append, List.length_replicate]; omega) (by omega)).mono ?_
  rintro e x3 ⟨rfl, ov3, hm3, hst3⟩
  rw [HZ.out] at hm3
  have hd3 := below_two' hd2 hst3 hm2
  replace HB := below_two HB hd3 (Nat.le_refl _)
  obtain ⟨c0, _⟩ := hm3.cells
  have oZ : OpS x3 _ ov3 Z := ⟨hm3.own, k3, HCAN.out⟩
  have hbl := (hm3.lt _ (.inl rfl)).2
  clear hm2 hst3 hd2 hm3 hd3
  have hD := hT.below HB
  have cT : ∀ wx, Below x3.heap.size x3 wx → Calls Tryd.prog 24 #[ov3, ov3] wx fun e w' => ∃ x y P Q, e = .returned (.tuple #[x, y, .int .i64 0]) ∧ OpS w' wx.heap.size x P ∧ OpS w' wx.heap.size y Q ∧ Sim P (xf Z Z).1 ∧ Sim Q (xf Z Z).2 ∧ Below wx.heap.size wx w' := fun wx hx => transformCall Z Z ov3 ov3 _ _ wx (oZ.below hx) (oZ.below hx) (by omega) rfl (hD.below hx)
  have toB : ∀ w', (w'.cell? ⟨w4.heap.size, 0, none⟩ = some ov3 ∧ Below x3.heap.size x3 w') → Below x3.heap.size x3 w' := fun _ h => h.2
  have hS0 : (fun w' => (w'.cell? ⟨w4.heap.size, 0, none⟩ = some ov3 ∧ Below x3.heap.size x3 w')) x3.drew := ⟨c0, ⟨rfl, rfl, rfl, Nat.le_refl _, fun _ _ => rfl⟩⟩
  have keepS : ∀ w' w'', (w'.cell? ⟨w4.heap.size, 0, none⟩ = some ov3 ∧ Below x3.heap.size x3 w') → Below w'.heap.size w' w'' → (fun w' => (w'.cell? ⟨w4.heap.size, 0, none⟩ = some ov3 ∧ Below x3.heap.size x3 w')) w'' := fun w' w'' h hb => ⟨(hb.cell (p := ⟨_, 0, none⟩) (Nat.lt_of_lt_of_le hbl h.2.size)).trans h.1, below_two h.2 hb (Nat.le_refl _)⟩
  clear oZ hD
  go_wp2_with fail
  go_region_held3 (fun w' => (w'.cell? ⟨w4.heap.size, 0, none⟩ = some ov3 ∧ Below x3.heap.size x3 w')) (first | exact hS0 | exact keepS _ _ (by assumption) hbz) (first | (go_at_call 24; with_reducible refine Calls.mono (cT _ (toB _ (by assumption))) ?_; rintro e wz ⟨x, y, P, Q, rfl, oP, oQ, sP, sQ, hbz⟩))
  have HBz := below_two HB (toB _ (by assumption)) (Nat.le_refl _)
  clear HB
  have HB := HBz
  clear HBz
  have hx := HXF.out
  rw [hx] at sP sQ
  have g1 : Hid (group P = group (List.replicate (k + (t.length - k - m)) ((1 : Int), (0 : Int)))) := sP.group
  have g2 : Hid (group Q = group P) := by show _ = _; rw [sQ.group, sP.group]
  have hPl := sP.len
  have hQl := sQ.len
  simp only [List.length_replicate] at hPl hQl
  clear hx HXF sP sQ hbz keepS cT toB hS0
  go_wp2_with fail
  refine (hereCall 2 1 [122] _ (by omega) (by omega) (cp_list (by decide)) (by simp)).mono ?_
  rintro e w11 ⟨h1, rfl, oH, hb⟩
  replace HB := below_two HB hb (Nat.le_refl _)
  replace oP := oP.below hb
  replace oQ := oQ.below hb
  clear hb
  go_wp2_with fail
  refine (applyCall [120, 121] _ h1 _ _ (cp_list (by decide)) oH (by decide) (by decide) (hT.below HB)).mono ?_
  rintro e w12 ⟨rfl, hb⟩
  replace HB := below_two HB hb (Nat.le_refl _)
  replace oP := oP.below hb
  replace oQ := oQ.below hb
  replace oH := oH.below hb
  clear hb
  rw [xzy]
  have hnm : ((t.length : Int) - (m : Int)) = ((t.length - m : Nat) : Int) := by omega
  go_wp2_with fail
  refine (opCall (t.length - m) [] none 0 _ (.inl rfl) (fun _ h => by cases h) (by simp) (by omega)).mono ?_
  rintro e w13 ⟨z2, K, rfl, oK, _, _, hb, eK⟩
  obtain rfl := eK rfl
  replace HB := below_two HB hb (Nat.le_refl _)
  replace oP := oP.below hb
  replace oQ := oQ.below hb
  replace oH := oH.below hb
  clear hb
  have ekk : k + (t.length - k - m) = t.length - m := by omega
  rw [ekk] at g1
  clear ekk
  generalize List.replicate (t.length - m) ((1 : Int), (0 : Int)) = K at *
  go_wp2_with fail
  refine (sameCall P K x z2 _ _ _ oP oK g1.out (by omega)).mono ?_
  rintro e w14 ⟨rfl, hb⟩
  replace HB := below_two HB hb (Nat.le_refl _)
  replace oP := oP.below hb
  replace oQ := oQ.below hb
  replace oH := oH.below hb
  replace oK := oK.below hb
  clear hb
  go_wp2_with fail
  refine (sameCall Q P y x _ _ _ oQ oP g2.out (by omega)).mono ?_
  rintro e w15 ⟨rfl, hb⟩
  replace HB := below_two HB hb (Nat.le_refl _)
  replace oP := oP.below hb
  replace oQ := oQ.below hb
  replace oH := oH.below hb
  replace oK := oK.below hb
  clear hb
  go_wp2_with fail
  go_ret
  exact ⟨rfl, HB⟩

end Go.Proofs.YtepehgjdepioeaaDoor
