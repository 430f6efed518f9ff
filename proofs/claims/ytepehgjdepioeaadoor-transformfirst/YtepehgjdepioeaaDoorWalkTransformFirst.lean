/-
  Walk: wherrykeep.TransformFirst.
-/
import Derived.Test.YtepehgjdepioeaaDoorKTrans
import Derived.Test.YtepehgjdepioeaaDoorKHere
import Derived.Deep.RegionHeld3
namespace Go.Proofs.YtepehgjdepioeaaDoor
open Go.RowKit Go.Lib

theorem cp_small {r : Nat} (h : r < 128) : CP r := by unfold CP; omega
theorem cp_append {a b : List Nat} (ha : ∀ r ∈ a, CP r) (hb : ∀ r ∈ b, CP r) : ∀ r ∈ a ++ b, CP r := fun r hr => by
  rcases List.mem_append.1 hr with h | h
  · exact ha r h
  · exact hb r h
theorem cp_one {r : Nat} (h : r < 128) : ∀ x ∈ [r], CP x := fun x hx => by
  rw [List.mem_singleton] at hx
  rw [hx]
  exact cp_small h

set_option maxRecDepth 100000 in
set_option maxHeartbeats 4000000 in
theorem transformFirst_walk (s : ByteArray) (i : Int) (v : ByteArray) (z : ByteArray) (w : World) (hs : s.size ≤ 9223372036854775807) (hi : I64 i) (hv : v.size ≤ 9223372036854775807) (hz : z.size ≤ 9223372036854775807) (hT : Tabs w) :
    Calls Tryd.prog 6 #[.string s, .int .i64 i, .string v, .string z] w fun e w' => e = .returned (.bool true) ∧ Below w.heap.size w w' := by
  have HB : Below w.heap.size w w := Below.refl _ _
  go_enter Tryd.func6, Tryd.ntmps6
  go_wp2_with fail
  refine (letters_any s 20 _ hs (by omega)).mono ?_
  rintro e w1 ⟨t, cpt, lht, rfl, hb⟩
  replace HB := below_two HB hb (Nat.le_refl _)
  clear hb
  go_wp2_with fail
  refine (runesCall t _ cpt (by omega)).mono ?_
  rintro e w2 ⟨rfl, hb⟩
  replace HB := below_two HB hb (Nat.le_refl _)
  clear hb
  go_wp2_with fail
  refine (picked_any i ((t.length : Int) + 1) _ hi (by omega) (by omega)).mono ?_
  rintro e w3 ⟨k, hk, rfl, hb⟩
  replace HB := below_two HB hb (Nat.le_refl _)
  clear hb
  go_wp2_with fail
  refine (letters_any v 3 _ hv (by omega)).mono ?_
  rintro e w4 ⟨a, cpa, lha, rfl, hb⟩
  replace HB := below_two HB hb (Nat.le_refl _)
  clear hb
  have hsz := str_le cpa
  have hsum : 1 + (str a).size ≤ 9223372036854775807 := by omega
  have hx : (⟨#[49]⟩ : ByteArray) ++ str a = str (49 :: a) := by rw [show (49 :: a : List Nat) = [49] ++ a from rfl, str_append]; rfl
  go_wp2_with fail
  refine (letters_any z 3 _ hz (by omega)).mono ?_
  rintro e w5 ⟨b, cpb, lhb, rfl, hb⟩
  replace HB := below_two HB hb (Nat.le_refl _)
  clear hb
  have hsz2 := str_le cpb
  have hsum2 : 1 + (str b).size ≤ 9223372036854775807 := by omega
  have hx2 : (⟨#[50]⟩ : ByteArray) ++ str b = str (50 :: b) := by rw [show (50 :: b : List Nat) = [50] ++ b from rfl, str_append]; rfl
  go_wp2_with fail
  refine (runesCall t _ cpt (by omega)).mono ?_
  rintro e w6 ⟨rfl, hb⟩
  replace HB := below_two HB hb (Nat.le_refl _)
  clear hb
  have cX : ∀ r ∈ 49 :: a, CP r := cp_append (cp_one (by omega)) cpa
  have cY : ∀ r ∈ 50 :: b, CP r := cp_append (cp_one (by omega)) cpb
  go_wp2_with fail
  refine (hereCall t.length k (49 :: a) _ (by omega) (by omega) cX (by simp; omega)).mono ?_
  rintro e w7 ⟨u, rfl, oA, hb⟩
  replace HB := below_two HB hb (Nat.le_refl _)
  clear hb
  go_wp2_with fail
  refine (runesCall t _ cpt (by omega)).mono ?_
  rintro e w8 ⟨rfl, hb⟩
  replace HB := below_two HB hb (Nat.le_refl _)
  replace oA := oA.below hb
  clear hb
  go_wp2_with fail
  refine (hereCall t.length k (50 :: b) _ (by omega) (by omega) cY (by simp; omega)).mono ?_
  rintro e w9 ⟨c, rfl, oC, hb⟩
  replace HB := below_two HB hb (Nat.le_refl _)
  replace oA := oA.below hb
  clear hb
  have hkl : k ≤ t.length := by omega
  have HF := first_pure t k (49 :: a) (50 :: b) hkl
  have lA := hereS_len t.length k (49 :: a) hkl
  have lC := hereS_len t.length k (50 :: b) hkl
  have eA := hereS_old t.length k (49 :: a) hkl
  have eC := hereS_old t.length k (50 :: b) hkl
  simp only [List.length_cons] at lA lC
  have oA : OpS w9 _ u (hereS t.length k (49 :: a)) := oA
  have oC : OpS w9 _ c (hereS t.length k (50 :: b)) := oC
  generalize hereS t.length k (49 :: a) = A at *
  generalize hereS t.length k (50 :: b) = C at *
  go_wp2_with fail
  refine (transformCall A C u c _ _ _ oA oC (by omega) (eA.trans eC.symm) (hT.below HB)).mono ?_
  rintro e w10 ⟨p, q, P, Q, rfl, oP, oQ, sP, sQ, hb⟩
  replace HB := below_two HB hb (Nat.le_refl _)
  replace oA := oA.below hb
  replace oC := oC.below hb
  clear hb
  obtain ⟨n1, n2, n3⟩ := xf_counts A C oA.ok oC.ok (eA.trans eC.symm)
  have hle := xf_length A C
  have hPl := sP.len
  have hQl := sQ.len
  have aL := applyS_len A t oA.ok eA
  have aC := applyS_ok oA.ok cpt
  have hQ : oldN Q = (applyS t A).length := by rw [sQ.olds, n2, aL]
  have HM : Hid (applyS (applyS t A) Q = t.take k ++ (49 :: a) ++ (50 :: b) ++ t.drop k) := (sQ.apply _).trans HF
  clear HF sP sQ n1 n2 n3 aL
  have HU : Hid (str (applyS (applyS t A) Q) = str (t.take k) ++ str (49 :: a) ++ str (50 :: b) ++ str (t.drop k)) := by show _ = _; rw [HM.out, str_append, str_append, str_append]
  clear HM
  go_wp2_with fail
  refine (applyCall t A u _ _ cpt oA (by omega) eA (hT.below HB)).mono ?_
  rintro e w11 ⟨rfl, hb⟩
  replace HB := below_two HB hb (Nat.le_refl _)
  replace oA := oA.below hb
  replace oC := oC.below hb
  replace oP := oP.below hb
  replace oQ := oQ.below hb
  clear hb
  go_wp2_with fail
  refine (applyCall (applyS t A) Q q _ _ aC oQ (by omega) hQ (hT.below HB)).mono ?_
  rintro e w12 ⟨rfl, hb⟩
  replace HB := below_two HB hb (Nat.le_refl _)
  replace oA := oA.below hb
  replace oC := oC.below hb
  replace oP := oP.below hb
  replace oQ := oQ.below hb
  clear hb
  rw [HU.out]
  clear HU hQ
  have hcv := conv_runes (str t) (by have := str_fits cpt (by omega); omega)
  have hrs := runes_str cpt
  have ct1 : ∀ r ∈ t.take k, CP r := fun r hr => cpt r (List.mem_of_mem_take hr)
  have ct2 : ∀ r ∈ t.drop k, CP r := fun r hr => cpt r (List.mem_of_mem_drop hr)
  have z1 := str_le ct1
  have z2 := str_le ct2
  have z3 := str_le cX
  have z4 := str_le cY
  simp only [List.length_take, List.length_drop, List.length_cons] at z1 z2 z3 z4
  have y1 : (str (t.take k)).size + (str (49 :: a)).size ≤ 9223372036854775807 := by omega
  have y2 : (str (t.take k)).size + (str (49 :: a)).size + (str (50 :: b)).size ≤ 9223372036854775807 := by omega
  have y3 : (str (t.take k)).size + (str (49 :: a)).size + (str (50 :: b)).size + (str (t.drop k)).size ≤ 9223372036854775807 := by omega
  clear z1 z2 z3 z4 hsz hsz2 hsum hsum2 cX cY hx hx2
  obtain ⟨X, HX⟩ : ∃ X, Hid (X = str (49 :: a)) := ⟨_, rfl⟩
  obtain ⟨Y, HY⟩ : ∃ Y, Hid (Y = str (50 :: b)) := ⟨_, rfl⟩
  rw [← HX.out, ← HY.out]
  rw [← HX.out] at y1 y2 y3
  rw [← HY.out] at y2 y3
  rw [hrs] at hcv
  go_wp2_with fail
  have hcapg := grownCap_ge w12 t.length 0 21
  generalize grownCap w12 t.length 0 21 = cp at *
  have hG : (w12.alloc (Obj.cells (runeRow (str t) cp) 21)).drew.heap[w12.heap.size]? = some (.cells (runeRow (str t) cp) 21 (0, 0)) := heap_alloc_new w12 _
  have hbw : Below w12.heap.size w12 (w12.alloc (Obj.cells (runeRow (str t) cp) 21)).drew := ((Below.refl _ _).alloc (Nat.le_refl _) _).drew
  replace HB := below_two HB hbw (Nat.le_refl _)
  replace oP := oP.below hbw
  clear hbw hcv oA oC oQ
  generalize (w12.alloc (Obj.cells (runeRow (str t) cp) 21)).drew = wy at *
  generalize w12.heap.size = G at *
  have v1 := conv_part wy.drew (str t) cp G 0 k cp hG (by rw [hrs]; omega)
  rw [hrs, List.drop_zero] at v1
  have hk0 : (0 : Int) ≤ (k : Int) := by omega
  have hk1 : (k : Int) ≤ (cp : Int) := by omega
  have hk2 : (k : Int) ≤ (t.length : Int) := by omega
  have hbd : Below wy.heap.size wy wy.drew := ⟨rfl, rfl, rfl, Nat.le_refl _, fun _ _ => rfl⟩
  replace HB := below_two HB hbd (Nat.le_refl _)
  replace oP := oP.below hbd
  have hPl4 : P.length ≤ 4000 := by omega
  have hTd := hT.below HB
  have c1 : ∀ wx, Below wy.drew.heap.size wy.drew wx → Calls Tryd.prog 21 #[p] wx fun e w' => e = .returned (.int .i64 0) ∧ Below wx.heap.size wx w' := fun wx hx => checkCall P p _ _ (oP.below hx) hPl4 (hTd.below hx)
  have hcv1 : ∀ wx, Below wy.drew.heap.size wy.drew wx → (convert 46 9 (.slice (some ⟨G, 0, none⟩) k cp)).run Tryd.prog wx = .ok (.string (str (t.take k))) wx := fun wx hx => by
    have := conv_part wx (str t) cp G 0 k cp ((hx.block G (lt_of_heap hG)).trans hG) (by rw [hrs]; omega)
    rw [hrs, List.drop_zero] at this
    exact this
  obtain ⟨T1, HT1⟩ : ∃ T1, Hid (T1 = str (t.take k)) := ⟨_, rfl⟩
  obtain ⟨T2, HT2⟩ : ∃ T2, Hid (T2 = str (t.drop k)) := ⟨_, rfl⟩
  rw [← HT1.out, ← HT2.out]
  rw [← HT1.out] at hcv1 y1 y2 y3
  rw [← HT2.out] at y3
  clear oP hTd v1 hbd
  have ad1 : ∀ wx, (Op.stringOp .add T1 X).run Tryd.prog wx = .ok (.string (T1 ++ X)) wx := fun wx => run_string_add_sum wx T1 X y1
  have ad2 : ∀ wx, (Op.stringOp .add (T1 ++ X) Y).run Tryd.prog wx = .ok (.string (T1 ++ X ++ Y)) wx := fun wx => run_string_add_sum wx (T1 ++ X) Y (by rw [ByteArray.size_append]; exact y2)
  have ad3 : ∀ wx, (Op.stringOp .add (T1 ++ X ++ Y) T2).run Tryd.prog wx = .ok (.string (T1 ++ X ++ Y ++ T2)) wx := fun wx => run_string_add_sum wx (T1 ++ X ++ Y) T2 (by rw [ByteArray.size_append, ByteArray.size_append]; exact y3)
  by_cases hck : cp = k
  · have hkt : t.length = k := by omega
    have hcv2 : ∀ wx, Below wy.drew.heap.size wy.drew wx → (convert 46 9 (.slice (some ⟨G, 0, none⟩) 0 0)).run Tryd.prog wx = .ok (.string T2) wx := fun wx hx => by
      have := conv_part wx (str t) cp G 0 0 0 ((hx.block G (lt_of_heap hG)).trans hG) (by omega)
      rw [HT2.out, List.drop_of_length_le (by omega)]
      simpa using this
    clear hG
    have toB : ∀ w', ((convert 46 9 (.slice (some ⟨G, 0, none⟩) k cp)).run Tryd.prog w' = .ok (.string T1) w' ∧ (convert 46 9 (.slice (some ⟨G, 0, none⟩) 0 0)).run Tryd.prog w' = .ok (.string T2) w' ∧ Below wy.drew.heap.size wy.drew w') → Below wy.drew.heap.size wy.drew w' := fun _ h => h.2.2
    have hS0 : (fun w' => ((convert 46 9 (.slice (some ⟨G, 0, none⟩) k cp)).run Tryd.prog w' = .ok (.string T1) w' ∧ (convert 46 9 (.slice (some ⟨G, 0, none⟩) 0 0)).run Tryd.prog w' = .ok (.string T2) w' ∧ Below wy.drew.heap.size wy.drew w')) wy.drew := ⟨hcv1 _ (Below.refl _ _), hcv2 _ (Below.refl _ _), Below.refl _ _⟩
    have keepS : ∀ w' w'', ((convert 46 9 (.slice (some ⟨G, 0, none⟩) k cp)).run Tryd.prog w' = .ok (.string T1) w' ∧ (convert 46 9 (.slice (some ⟨G, 0, none⟩) 0 0)).run Tryd.prog w' = .ok (.string T2) w' ∧ Below wy.drew.heap.size wy.drew w') → Below w'.heap.size w' w'' → (fun w' => ((convert 46 9 (.slice (some ⟨G, 0, none⟩) k cp)).run Tryd.prog w' = .ok (.string T1) w' ∧ (convert 46 9 (.slice (some ⟨G, 0, none⟩) 0 0)).run Tryd.prog w' = .ok (.string T2) w' ∧ Below wy.drew.heap.size wy.drew w')) w'' := fun w' w'' h hb => ⟨hcv1 _ (below_two h.2.2 hb (Nat.le_refl _)), hcv2 _ (below_two h.2.2 hb (Nat.le_refl _)), below_two h.2.2 hb (Nat.le_refl _)⟩
    clear hcv1 hcv2
    subst hck
    obtain rfl : t.length = cp := by omega
    go_region_held3 (fun w' => ((convert 46 9 (.slice (some ⟨G, 0, none⟩) t.length t.length)).run Tryd.prog w' = .ok (.string T1) w' ∧ (convert 46 9 (.slice (some ⟨G, 0, none⟩) 0 0)).run Tryd.prog w' = .ok (.string T2) w' ∧ Below wy.drew.heap.size wy.drew w')) (first | exact hS0 | exact keepS _ _ (by assumption) hbz) (first | (go_at_call 21; with_reducible refine Calls.mono (c1 _ (toB _ (by assumption))) ?_; rintro e wz ⟨rfl, hbz⟩))
    all_goals go_wp2_with fail
    all_goals go_ret
    all_goals exact ⟨rfl, below_two HB (toB _ (by assumption)) (Nat.le_refl _)⟩
  · have hcv2 : ∀ wx, Below wy.drew.heap.size wy.drew wx → (convert 46 9 (.slice (some ⟨G, k, none⟩) (t.length - k) (cp - k))).run Tryd.prog wx = .ok (.string T2) wx := fun wx hx => by
      have := conv_part wx (str t) cp G k (t.length - k) (cp - k) ((hx.block G (lt_of_heap hG)).trans hG) (by rw [hrs]; omega)
      rw [hrs, List.take_of_length_le (by simp)] at this
      rw [HT2.out]
      exact this
    clear hG
    have toB : ∀ w', ((convert 46 9 (.slice (some ⟨G, 0, none⟩) k cp)).run Tryd.prog w' = .ok (.string T1) w' ∧ (convert 46 9 (.slice (some ⟨G, k, none⟩) (t.length - k) (cp - k))).run Tryd.prog w' = .ok (.string T2) w' ∧ Below wy.drew.heap.size wy.drew w') → Below wy.drew.heap.size wy.drew w' := fun _ h => h.2.2
    have hS0 : (fun w' => ((convert 46 9 (.slice (some ⟨G, 0, none⟩) k cp)).run Tryd.prog w' = .ok (.string T1) w' ∧ (convert 46 9 (.slice (some ⟨G, k, none⟩) (t.length - k) (cp - k))).run Tryd.prog w' = .ok (.string T2) w' ∧ Below wy.drew.heap.size wy.drew w')) wy.drew := ⟨hcv1 _ (Below.refl _ _), hcv2 _ (Below.refl _ _), Below.refl _ _⟩
    have keepS : ∀ w' w'', ((convert 46 9 (.slice (some ⟨G, 0, none⟩) k cp)).run Tryd.prog w' = .ok (.string T1) w' ∧ (convert 46 9 (.slice (some ⟨G, k, none⟩) (t.length - k) (cp - k))).run Tryd.prog w' = .ok (.string T2) w' ∧ Below wy.drew.heap.size wy.drew w') → Below w'.heap.size w' w'' → (fun w' => ((convert 46 9 (.slice (some ⟨G, 0, none⟩) k cp)).run Tryd.prog w' = .ok (.string T1) w' ∧ (convert 46 9 (.slice (some ⟨G, k, none⟩) (t.length - k) (cp - k))).run Tryd.prog w' = .ok (.string T2) w' ∧ Below wy.drew.heap.size wy.drew w')) w'' := fun w' w'' h hb => ⟨hcv1 _ (below_two h.2.2 hb (Nat.le_refl _)), hcv2 _ (below_two h.2.2 hb (Nat.le_refl _)), below_two h.2.2 hb (Nat.le_refl _)⟩
    clear hcv1 hcv2
    go_region_held3 (fun w' => ((convert 46 9 (.slice (some ⟨G, 0, none⟩) k cp)).run Tryd.prog w' = .ok (.string T1) w' ∧ (convert 46 9 (.slice (some ⟨G, k, none⟩) (t.length - k) (cp - k))).run Tryd.prog w' = .ok (.string T2) w' ∧ Below wy.drew.heap.size wy.drew w')) (first | exact hS0 | exact keepS _ _ (by assumption) hbz) (first | (go_at_call 21; with_reducible refine Calls.mono (c1 _ (toB _ (by assumption))) ?_; rintro e wz ⟨rfl, hbz⟩))
    all_goals go_wp2_with fail
    all_goals go_ret
    all_goals exact ⟨rfl, below_two HB (toB _ (by assumption)) (Nat.le_refl _)⟩

end Go.Proofs.YtepehgjdepioeaaDoor
