/-
  Walk: wherrykeep.InvertBack.
-/
import Derived.Test.YtepehgjdepioeaaDoorKInv
namespace Go.Proofs.YtepehgjdepioeaaDoor
open Go.RowKit Go.Lib

set_option maxRecDepth 100000 in
set_option maxHeartbeats 2000000 in
theorem invertBack_walk (s : ByteArray) (l : List RawV) (al : Option Addr) (cl : Nat) (w : World) (hs : s.size ≤ 9223372036854775807) (hl : RawsAt w al l) (kl : ∀ r ∈ l, RawOk r) (ll : l.length ≤ 9223372036854775807) (hT : Tabs w) :
    Calls Tryd.prog 4 #[.string s, .slice al l.length cl] w fun e w' => e = .returned (.bool true) ∧ Below w.heap.size w w' := by
  have HB : Below w.heap.size w w := Below.refl _ _
  go_enter Tryd.func4, Tryd.ntmps4
  go_wp2_with fail
  refine (letters_any s 30 _ hs (by omega)).mono ?_
  rintro e w1 ⟨t, cpt, lht, rfl, hb⟩
  replace HB := below_two HB hb (Nat.le_refl _)
  clear hb
  go_wp2_with fail
  refine (runesCall t _ cpt (by omega)).mono ?_
  rintro e w2 ⟨rfl, hb⟩
  replace HB := below_two HB hb (Nat.le_refl _)
  clear hb
  go_wp2_with fail
  refine (opCall (t.length) l al cl _ (hl.below HB (Nat.le_refl _)) kl ll (by omega)).mono ?_
  rintro e w3 ⟨v, A, rfl, oA, eA, nA, hb, _⟩
  replace HB := below_two HB hb (Nat.le_refl _)
  clear hb
  go_wp2_with fail
  refine (applyCall t A v _ _ cpt oA (by omega) eA (hT.below HB)).mono ?_
  rintro e w4 ⟨rfl, hb⟩
  replace HB := below_two HB hb (Nat.le_refl _)
  replace oA := oA.below hb
  clear hb
  go_wp2_with fail
  refine (invertCall t A v _ _ cpt oA (by omega) eA (hT.below HB)).mono ?_
  rintro e w5 ⟨x, P, rfl, oP, sP, hb⟩
  replace HB := below_two HB hb (Nat.le_refl _)
  replace oA := oA.below hb
  clear hb
  have hUc := applyS_ok oA.ok cpt
  have hUl := applyS_len A t oA.ok eA
  obtain ⟨i1, i2, i3, i4⟩ := inv_ok A t oA.ok cpt eA
  obtain ⟨b1, b2⟩ := inv_apply A t oA.ok eA
  have hPl := sP.len
  have hPo : oldN P = (applyS t A).length := by rw [sP.olds, i2, hUl]
  have hback : Hid (applyS (applyS t A) P = t) := (sP.apply _).trans b1
  go_wp2_with fail
  refine (applyCall (applyS t A) P x _ _ hUc oP (by omega) hPo (hT.below HB)).mono ?_
  rintro e w6 ⟨rfl, hb⟩
  replace HB := below_two HB hb (Nat.le_refl _)
  replace oA := oA.below hb
  replace oP := oP.below hb
  clear hb
  rw [hback.out]
  go_wp2_with fail
  refine (invertCall (applyS t A) P x _ _ hUc oP (by omega) hPo (hT.below HB)).mono ?_
  rintro e w7 ⟨y, R, rfl, oR, sR, hb⟩
  replace HB := below_two HB hb (Nat.le_refl _)
  replace oA := oA.below hb
  replace oP := oP.below hb
  clear hb
  have hsame : Hid (group R = group A) := by
    show group R = group A
    rw [sR.group, (sP.inv (applyS t A)).group, b2]
  have hRl := sR.len
  have hRl2 : R.length ≤ 4000 := by
    have h1 := (inv_ok P (applyS t A) oP.ok hUc hPo).2.2.2
    omega
  clear sP sR b1 b2 i1 i2 i3 i4 hPo hUc hUl hback eA
  go_wp2_with fail
  refine (sameCall R A y v _ _ _ oR oA hsame.out (by omega)).mono ?_
  rintro e w8 ⟨rfl, hb⟩
  replace HB := below_two HB hb (Nat.le_refl _)
  replace oA := oA.below hb
  replace oP := oP.below hb
  replace oR := oR.below hb
  clear hb
  go_wp2_with fail
  go_ret
  exact ⟨rfl, HB⟩

end Go.Proofs.YtepehgjdepioeaaDoor
