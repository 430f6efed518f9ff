/-
  Walk: wherrykeep.EdgeAlone.
-/
import Derived.Test.YtibncdbffipbmaaDoorKEdge
import Derived.Test.YtibncdbffipbmaaDoorEdgeHearAll
namespace Go.Proofs.YtibncdbffipbmaaDoor
open Go.RowKit Go.Lib

/-- who did nothing hears all as it is -/
theorem hear_alone (up : Bool) (A : List Step) (u : Value) (w : World) (B : Nat) (oA : OpS w B u A) (h1 : A.length ≤ 4000) (hT : Tabs w) :
    Calls Tryd.prog 18 #[.agg #[.int .i64 0, .int .i64 0, .slice none 0 0], u, .int .i64 0, .bool up] w fun e w' => ∃ a c v, OpS w' w.heap.size v A ∧ e = .returned (.tuple #[.agg #[.int .i64 0, .int .i64 1, .slice a 0 c], v, .int .i64 0]) ∧ Below w.heap.size w w' := by
  have e0 : edgeErr 0 0 [] = 0 := by decide +kernel
  have he : hearErr 0 0 [] (group A) 0 = 0 := by
    unfold hearErr edgeBoth
    rw [e0, (group_ok oA.ok h1).err]
    simp
  refine (hear_any up 0 0 [] [] none 0 (group A) u 0 w (pend_nil w) (fun _ h => by cases h) (by simp) oA.val (group_small oA.ok h1) hT he).mono ?_
  rintro e w' ⟨hb, ⟨_, a, c, us, tv, rfl, hp, ht⟩ | ⟨h, _⟩⟩
  · exact ⟨a, c, tv, ⟨ht, oA.ok, oA.canon⟩, rfl, hb⟩
  · exact absurd rfl h

set_option maxRecDepth 100000 in
set_option maxHeartbeats 2000000 in
theorem edgeAlone_walk (s : ByteArray) (l : List RawV) (al : Option Addr) (cl : Nat) (up : Bool) (w : World) (hs : s.size ≤ 9223372036854775807) (hl : RawsAt w al l) (kl : ∀ r ∈ l, RawOk r) (ll : l.length ≤ 9223372036854775807) (hT : Tabs w) :
    Calls Tryd.prog 3 #[.string s, .slice al l.length cl, .bool up] w fun e w' => e = .returned (.bool true) ∧ Below w.heap.size w w' := by
  have HB : Below w.heap.size w w := Below.refl _ _
  go_enter Tryd.func3, Tryd.ntmps3
  go_wp2_with fail
  refine (letters_any s 20 _ hs (by omega)).mono ?_
  rintro e w1 ⟨t, cpt, lht, rfl, hb⟩
  replace HB := below_two HB hb (Nat.le_refl _)
  clear hb
  go_wp2_with fail
  refine (runesCall t _ cpt (by omega)).mono ?_
  rintro e w2 ⟨rfl, hb⟩
  replace HB := below_two HB hb (Nat.le_refl _)
  clear hb
  go_wp2_with fail
  refine (opCall (t.length) l al cl _ (hl.below HB (Nat.le_refl _)) kl ll (by omega)).mono ?_
  rintro e w3 ⟨u, A, rfl, oA, eA, nA, hb, _⟩
  replace HB := below_two HB hb (Nat.le_refl _)
  clear hb
  go_wp2_with fail
  refine (hear_alone up A u _ _ oA (by omega) (hT.below HB)).mono ?_
  rintro e w4 ⟨a, c, v, oV, rfl, hb⟩
  replace HB := below_two HB hb (Nat.le_refl _)
  replace oA := oA.below hb
  clear hb
  have hb := (Below.refl w4.heap.size w4).alloc (Nat.le_refl _) (.cells #[.int .i64 0, .int .i64 1, .slice a 0 c] 30)
  have hx := heap_alloc_new w4 (.cells #[.int .i64 0, .int .i64 1, .slice a 0 c] 30)
  have hxl : w4.heap.size < (w4.alloc (.cells #[.int .i64 0, .int .i64 1, .slice a 0 c] 30)).heap.size := by simp
  replace HB := below_two HB hb (Nat.le_refl _)
  replace oA := oA.below hb
  replace oV := oV.below hb
  have cS := sameCall A A u v _ _ _ oA oV rfl (by omega)
  obtain ⟨va, vc, rfl⟩ := own_form oV.own
  go_wp2_with fail
  refine cS.mono ?_
  rintro e w5 ⟨rfl, hb5⟩
  have hk := (hb5.block _ hxl).trans hx
  obtain ⟨q0, q1, q2⟩ := edge_cells hk
  clear cS oA oV hx hxl hk
  go_wp2_with fail
  go_ret
  exact ⟨rfl, below_two HB hb5 (Nat.le_refl _)⟩

end Go.Proofs.YtibncdbffipbmaaDoor
