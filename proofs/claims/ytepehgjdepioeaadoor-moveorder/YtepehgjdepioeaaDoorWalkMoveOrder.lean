/-
  Walk: wherrykeep.MoveOrder.
-/
import Derived.Test.YtepehgjdepioeaaDoorKMove
namespace Go.Proofs.YtepehgjdepioeaaDoor
open Go.RowKit Go.Lib

set_option maxRecDepth 100000 in
set_option maxHeartbeats 4000000 in
theorem moveOrder_walk (s : ByteArray) (l : List RawV) (al : Option Addr) (cl : Nat) (a : Int) (b : Int) (push : Bool) (w : World) (hs : s.size ≤ 9223372036854775807) (hl : RawsAt w al l) (kl : ∀ r ∈ l, RawOk r) (ll : l.length ≤ 9223372036854775807) (ha : I64 a) (hb : I64 b) (hT : Tabs w) :
    Calls Tryd.prog 12 #[.string s, .slice al l.length cl, .int .i64 a, .int .i64 b, .bool push] w fun e w' => e = .returned (.bool true) ∧ Below w.heap.size w w' := by
  have HB : Below w.heap.size w w := Below.refl _ _
  go_enter Tryd.func12, Tryd.ntmps12
  go_wp2_with fail
  refine (letters_any s 30 _ hs (by omega)).mono ?_
  rintro e w1 ⟨t, cpt, lht, rfl, hb⟩
  replace HB := below_two HB hb (Nat.le_refl _)
  clear hb
  go_wp2_with fail
  refine (runesCall t _ cpt (by omega)).mono ?_
  rintro e w2 ⟨rfl, hb⟩
  replace HB := below_two HB hb (Nat.le_refl _)
  clear hb
  go_wp2_with fail
  refine (opCall (t.length) l al cl _ (hl.below HB (Nat.le_refl _)) kl ll (by omega)).mono ?_
  rintro e w3 ⟨u, A, rfl, oA, eA, nA, hb, _⟩
  replace HB := below_two HB hb (Nat.le_refl _)
  clear hb
  go_wp2_with fail
  refine (picked_any a ((t.length : Int) + 1) _ ha (by omega) (by omega)).mono ?_
  rintro e w4 ⟨i, hi, rfl, hb⟩
  replace HB := below_two HB hb (Nat.le_refl _)
  replace oA := oA.below hb
  clear hb
  go_wp2_with fail
  refine (picked_any b ((t.length : Int) + 1) _ hb (by omega) (by omega)).mono ?_
  rintro e w5 ⟨j, hj, rfl, hb⟩
  replace HB := below_two HB hb (Nat.le_refl _)
  replace oA := oA.below hb
  clear hb
  have hnl := newN_le A
  rcases Nat.lt_or_ge j i with hij | hij
  · have hg : (j : Int) < (i : Int) := by omega
    have h1 : ((moveAll j push A).2 : Int) ≤ ((moveAll i push A).2 : Int) := Int.ofNat_le.2 (move_mono A j i push push (by omega) (fun h => h) 0 0 0 (Nat.le_refl _))
    have h2 : ((moveAll i push A).2 : Int) ≤ (newN A : Int) := Int.ofNat_le.2 (by have := move_top A i push 0 0; unfold moveAll; omega)
    have h3 : ((moveAll j push A).2 : Int) ≤ ((moveAll j true A).2 : Int) := Int.ofNat_le.2 (move_mono A j j push true (Nat.le_refl _) (fun _ => rfl) 0 0 0 (Nat.le_refl _))
    have h4 : (0 : Int) ≤ ((moveAll j push A).2 : Int) := by omega
    go_wp2_with fail
    refine (moveCall j push A u _ _ oA (by omega) (by omega) (hT.below HB)).mono ?_
    rintro e w6 ⟨rfl, hb⟩
    replace HB := below_two HB hb (Nat.le_refl _)
    replace oA := oA.below hb
    clear hb
    go_wp2_with fail
    refine (moveCall i push A u _ _ oA (by omega) (by omega) (hT.below HB)).mono ?_
    rintro e w7 ⟨rfl, hb⟩
    replace HB := below_two HB hb (Nat.le_refl _)
    replace oA := oA.below hb
    clear hb
    go_wp2_with fail
    refine (moveCall j true A u _ _ oA (by omega) (by omega) (hT.below HB)).mono ?_
    rintro e w8 ⟨rfl, hb⟩
    replace HB := below_two HB hb (Nat.le_refl _)
    replace oA := oA.below hb
    clear hb
    go_wp2_with fail
    refine (moveMiss ((t.length : Int) + 1) push A u _ _ oA (by omega) (by omega) (hT.below HB)).mono ?_
    rintro e w9 ⟨rfl, hb⟩
    replace HB := below_two HB hb (Nat.le_refl _)
    replace oA := oA.below hb
    clear hb
    generalize (moveAll j push A).2 = r1 at *
    generalize (moveAll i push A).2 = r2 at *
    generalize (moveAll j true A).2 = r3 at *
    go_wp2_with fail
    refine (lengthsCall A u _ _ oA (by omega)).mono ?_
    rintro e w10 ⟨rfl, hb⟩
    replace HB := below_two HB hb (Nat.le_refl _)
    replace oA := oA.below hb
    clear hb
    go_wp2_with fail
    go_ret
    exact ⟨rfl, HB⟩
  · have hg : ¬ (j : Int) < (i : Int) := by omega
    have h1 : ((moveAll i push A).2 : Int) ≤ ((moveAll j push A).2 : Int) := Int.ofNat_le.2 (move_mono A i j push push (by omega) (fun h => h) 0 0 0 (Nat.le_refl _))
    have h2 : ((moveAll j push A).2 : Int) ≤ (newN A : Int) := Int.ofNat_le.2 (by have := move_top A j push 0 0; unfold moveAll; omega)
    have h3 : ((moveAll i push A).2 : Int) ≤ ((moveAll i true A).2 : Int) := Int.ofNat_le.2 (move_mono A i i push true (Nat.le_refl _) (fun _ => rfl) 0 0 0 (Nat.le_refl _))
    have h4 : (0 : Int) ≤ ((moveAll i push A).2 : Int) := by omega
    go_wp2_with fail
    refine (moveCall i push A u _ _ oA (by omega) (by omega) (hT.below HB)).mono ?_
    rintro e w6 ⟨rfl, hb⟩
    replace HB := below_two HB hb (Nat.le_refl _)
    replace oA := oA.below hb
    clear hb
    go_wp2_with fail
    refine (moveCall j push A u _ _ oA (by omega) (by omega) (hT.below HB)).mono ?_
    rintro e w7 ⟨rfl, hb⟩
    replace HB := below_two HB hb (Nat.le_refl _)
    replace oA := oA.below hb
    clear hb
    go_wp2_with fail
    refine (moveCall i true A u _ _ oA (by omega) (by omega) (hT.below HB)).mono ?_
    rintro e w8 ⟨rfl, hb⟩
    replace HB := below_two HB hb (Nat.le_refl _)
    replace oA := oA.below hb
    clear hb
    go_wp2_with fail
    refine (moveMiss ((t.length : Int) + 1) push A u _ _ oA (by omega) (by omega) (hT.below HB)).mono ?_
    rintro e w9 ⟨rfl, hb⟩
    replace HB := below_two HB hb (Nat.le_refl _)
    replace oA := oA.below hb
    clear hb
    generalize (moveAll i push A).2 = r1 at *
    generalize (moveAll j push A).2 = r2 at *
    generalize (moveAll i true A).2 = r3 at *
    go_wp2_with fail
    refine (lengthsCall A u _ _ oA (by omega)).mono ?_
    rintro e w10 ⟨rfl, hb⟩
    replace HB := below_two HB hb (Nat.le_refl _)
    replace oA := oA.below hb
    clear hb
    go_wp2_with fail
    go_ret
    exact ⟨rfl, HB⟩

end Go.Proofs.YtepehgjdepioeaaDoor
