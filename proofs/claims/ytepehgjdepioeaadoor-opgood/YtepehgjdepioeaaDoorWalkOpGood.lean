/-
  Walk: wherrykeep.OpGood.
-/
import Derived.Test.YtepehgjdepioeaaDoorKCalls
namespace Go.Proofs.YtepehgjdepioeaaDoor
open Go.RowKit Go.Lib

theorem cp_small {r : Nat} (h : r < 128) : CP r := by unfold CP; omega
theorem cp_append {a b : List Nat} (ha : ∀ r ∈ a, CP r) (hb : ∀ r ∈ b, CP r) : ∀ r ∈ a ++ b, CP r := fun r hr => by
  rcases List.mem_append.1 hr with h | h
  · exact ha r h
  · exact hb r h
theorem cp_one {r : Nat} (h : r < 128) : ∀ x ∈ [r], CP x := fun x hx => by
  rw [List.mem_singleton] at hx
  rw [hx]
  exact cp_small h

set_option maxRecDepth 100000 in
set_option maxHeartbeats 2000000 in
theorem opGood_walk (s : ByteArray) (l : List RawV) (al : Option Addr) (cl : Nat) (w : World) (hs : s.size ≤ 9223372036854775807) (hl : RawsAt w al l) (kl : ∀ r ∈ l, RawOk r) (ll : l.length ≤ 9223372036854775807) (hT : Tabs w) :
    Calls Tryd.prog 3 #[.string s, .slice al l.length cl] w fun e w' => e = .returned (.bool true) ∧ Below w.heap.size w w' := by
  have HB : Below w.heap.size w w := Below.refl _ _
  go_enter Tryd.func3, Tryd.ntmps3
  go_wp2_with fail
  refine (letters_any s 30 _ hs (by omega)).mono ?_
  rintro e w1 ⟨t, cpt, lht, rfl, hb⟩
  replace HB := below_two HB hb (Nat.le_refl _)
  clear hb
  go_wp2_with fail
  refine (runesCall t _ cpt (by omega)).mono ?_
  rintro e w2 ⟨rfl, hb⟩
  replace HB := below_two HB hb (Nat.le_refl _)
  clear hb
  go_wp2_with fail
  refine (opCall (t.length) l al cl _ (hl.below HB (Nat.le_refl _)) kl ll (by omega)).mono ?_
  rintro e w3 ⟨v, A, rfl, oA, eA, nA, hb, _⟩
  replace HB := below_two HB hb (Nat.le_refl _)
  clear hb
  go_wp2_with fail
  refine (lengthsCall A v _ _ oA (by omega)).mono ?_
  rintro e w4 ⟨rfl, hb⟩
  replace HB := below_two HB hb (Nat.le_refl _)
  replace oA := oA.below hb
  clear hb
  go_wp2_with fail
  refine (applyCall t A v _ _ cpt oA (by omega) eA (hT.below HB)).mono ?_
  rintro e w5 ⟨rfl, hb⟩
  replace HB := below_two HB hb (Nat.le_refl _)
  replace oA := oA.below hb
  clear hb
  have hsz := str_fits cpt (by omega)
  have hsum : (str t).size + 1 ≤ 9223372036854775807 := by omega
  have hx : str t ++ ⟨#[120]⟩ = str (t ++ [120]) := by rw [str_append]; rfl
  go_wp2_with fail
  refine (applyMiss (t ++ [120]) A v _ _ (cp_append cpt (cp_one (by omega))) (by simp; omega) oA (by omega) (by simp; omega) (hT.below HB)).mono ?_
  rintro e w6 ⟨rfl, hb⟩
  replace HB := below_two HB hb (Nat.le_refl _)
  replace oA := oA.below hb
  clear hb
  go_wp2_with fail
  refine (checkTextCall t _ cpt (by omega) (hT.below HB)).mono ?_
  rintro e w7 ⟨rfl, hb⟩
  replace HB := below_two HB hb (Nat.le_refl _)
  replace oA := oA.below hb
  clear hb
  go_wp2_with fail
  refine (checkCall A v _ _ oA (by omega) (hT.below HB)).mono ?_
  rintro e w8 ⟨rfl, hb⟩
  replace HB := below_two HB hb (Nat.le_refl _)
  replace oA := oA.below hb
  clear hb
  go_wp2_with fail
  refine (runesCall t _ cpt (by omega)).mono ?_
  rintro e w9 ⟨rfl, hb⟩
  replace HB := below_two HB hb (Nat.le_refl _)
  replace oA := oA.below hb
  clear hb
  have hU := applyS_len A t oA.ok eA
  have hUc := applyS_ok oA.ok cpt
  have hN := newN_le A
  go_wp2_with fail
  refine (runesCall (applyS t A) _ hUc (by omega)).mono ?_
  rintro e w10 ⟨rfl, hb⟩
  replace HB := below_two HB hb (Nat.le_refl _)
  replace oA := oA.below hb
  clear hb
  go_wp2_with fail
  go_ret
  exact ⟨rfl, HB⟩

end Go.Proofs.YtepehgjdepioeaaDoor
