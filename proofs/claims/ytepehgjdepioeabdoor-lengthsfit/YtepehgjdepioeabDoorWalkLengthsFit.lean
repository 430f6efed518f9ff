/-
  Walk: wherrykeep.LengthsFit.
-/
import Derived.Test.YtepehgjdepioeabDoorKComp
namespace Go.Proofs.YtepehgjdepioeabDoor
open Go.RowKit Go.Lib

set_option maxRecDepth 100000 in
set_option maxHeartbeats 2000000 in
theorem lengthsFit_walk (s : ByteArray) (l : List RawV) (al : Option Addr) (cl : Nat) (m : List RawV) (am : Option Addr) (cm : Nat) (w : World) (hs : s.size ≤ 9223372036854775807) (hl : RawsAt w al l) (kl : ∀ r ∈ l, RawOk r) (ll : l.length ≤ 9223372036854775807) (hm : RawsAt w am m) (km : ∀ r ∈ m, RawOk r) (lm : m.length ≤ 9223372036854775807) (hT : Tabs w) :
    Calls Tryd.prog 5 #[.string s, .slice al l.length cl, .slice am m.length cm] w fun e w' => e = .returned (.bool true) ∧ Below w.heap.size w w' := by
  have HB : Below w.heap.size w w := Below.refl _ _
  go_enter Tryd.func5, Tryd.ntmps5
  go_wp2_with fail
  refine (letters_any s 30 _ hs (by omega)).mono ?_
  rintro e w1 ⟨t, cpt, lht, rfl, hb⟩
  replace HB := below_two HB hb (Nat.le_refl _)
  clear hb
  go_wp2_with fail
  refine (runesCall t _ cpt (by omega)).mono ?_
  rintro e w2 ⟨rfl, hb⟩
  replace HB := below_two HB hb (Nat.le_refl _)
  clear hb
  go_wp2_with fail
  refine (opCall (t.length) l al cl _ (hl.below HB (Nat.le_refl _)) kl ll (by omega)).mono ?_
  rintro e w3 ⟨u, A, rfl, oA, eA, nA, hb, _⟩
  replace HB := below_two HB hb (Nat.le_refl _)
  clear hb
  go_wp2_with fail
  refine (lengthsCall A u _ _ oA (by omega)).mono ?_
  rintro e w4 ⟨rfl, hb⟩
  replace HB := below_two HB hb (Nat.le_refl _)
  replace oA := oA.below hb
  clear hb
  have n1 := newN_le A
  go_wp2_with fail
  refine (opCall (newN A) m am cm _ (hm.below HB (Nat.le_refl _)) km lm (by omega)).mono ?_
  rintro e w5 ⟨v, C, rfl, oC, eC, nC, hb, _⟩
  replace HB := below_two HB hb (Nat.le_refl _)
  replace oA := oA.below hb
  clear hb
  go_wp2_with fail
  refine (lengthsCall C v _ _ oC (by omega)).mono ?_
  rintro e w6 ⟨rfl, hb⟩
  replace HB := below_two HB hb (Nat.le_refl _)
  replace oA := oA.below hb
  replace oC := oC.below hb
  clear hb
  go_wp2_with fail
  refine (composeCall A C u v _ _ _ oA oC (by omega) eC.symm (hT.below HB)).mono ?_
  rintro e w7 ⟨x, P, rfl, oP, sP, hb⟩
  replace HB := below_two HB hb (Nat.le_refl _)
  replace oA := oA.below hb
  replace oC := oC.below hb
  clear hb
  obtain ⟨c1, c2⟩ := cf_counts A C oA.ok oC.ok eC.symm
  have p1 : oldN P = t.length := by rw [sP.olds, c1, eA]
  have p2 : newN P = newN C := by rw [sP.news, c2]
  have p3 := sP.len
  have k1 := cf_length A C
  clear c1 c2 sP
  go_wp2_with fail
  refine (lengthsCall P x _ _ oP (by omega)).mono ?_
  rintro e w8 ⟨rfl, hb⟩
  replace HB := below_two HB hb (Nat.le_refl _)
  replace oA := oA.below hb
  replace oC := oC.below hb
  replace oP := oP.below hb
  clear hb
  go_wp2_with fail
  refine (opCall (newN A + 1) [] none 0 _ (.inl rfl) (fun _ h => by cases h) (by simp) (by omega)).mono ?_
  rintro e w9 ⟨z, Z, rfl, oZ, _, _, hb, eZ⟩
  obtain rfl := eZ rfl
  replace HB := below_two HB hb (Nat.le_refl _)
  replace oA := oA.below hb
  replace oC := oC.below hb
  replace oP := oP.below hb
  clear hb
  generalize hZ : List.replicate (newN A + 1) ((1 : Int), (0 : Int)) = Z at *
  have z1 : newN A ≠ oldN Z := by rw [← hZ, oldN_rep _ _ _ (by decide)]; omega
  have z2 : Z.length ≤ 4000 := by rw [← hZ, List.length_replicate]; omega
  clear hZ
  go_wp2_with fail
  refine (composeMiss A Z u z _ _ _ oA oZ (by omega) z2 z1 (hT.below HB)).mono ?_
  rintro e w10 ⟨y, rfl, hb⟩
  replace HB := below_two HB hb (Nat.le_refl _)
  replace oA := oA.below hb
  replace oC := oC.below hb
  replace oP := oP.below hb
  replace oZ := oZ.below hb
  clear hb
  go_wp2_with fail
  go_ret
  exact ⟨rfl, HB⟩

end Go.Proofs.YtepehgjdepioeabDoor
