/-
  Walk: wherrylaw.TapeReplays.
-/
import Derived.Test.YtknjnfknalfbdaaDoorRecsArg
import Derived.Test.YtknjnfknalfbdaaDoorTapeReplR
namespace Go.Proofs.YtknjnfknalfbdaaDoor
open Go.RowKit Go.Lib

set_option maxRecDepth 100000 in
set_option maxHeartbeats 2000000 in
theorem tapeReplays_walk (K : List RecK) (a : Option Addr) (c : Nat) (w : World) (hs : SrcRec w a c K) (hv : OpsV w K) (hsm : ∀ x ∈ K, OpSmall x.1.2) (hl : K.length ≤ 1048576) (hT : Tabs w) :
    Calls Tryd.prog 12 #[.slice a K.length c] w fun e w' => e = .returned (.bool true) ∧ Below w.heap.size w w' := by
  have hI := recsIn_of hs hv
  have hone := hv.one
  have hsz : ∀ r ∈ K.map (·.1), r.2.length ≤ 1048576 ∧ ∀ p ∈ r.2, p.text.size ≤ 1048576 := by
    intro r hr
    obtain ⟨x, hx, rfl⟩ := List.mem_map.1 hr
    exact ⟨(hsm x hx).1, fun p hp => ((hsm x hx).2 p hp).2.2⟩
  have hml : (K.map (·.1)).length = K.length := List.length_map ..
  have c1 : ∀ w1 v1, Below w.heap.size w w1 → w1.ownsRow w.heap.size 74 2 v1 K.length (cellsI K) → Calls Tryd.prog 48 #[v1] w1 fun e w' => e = .returned (.tuple #[.string (replayP ByteArray.empty 0 (K.map (·.1))).1, .int .i64 (replayP ByteArray.empty 0 (K.map (·.1))).2.1, .int .i64 (replayP ByteArray.empty 0 (K.map (·.1))).2.2]) ∧ Below w1.heap.size w1 w' := by
    intro w1 v1 hb ho
    have hsr : ∃ a1 c1, v1 = .slice a1 K.length c1 ∧ SrcRec w1 a1 c1 K := by
      rcases ho.2 with ⟨rfl, h0⟩ | ⟨g, cap, cur, rfl, _⟩
      · have hz : K = [] := List.length_eq_zero_iff.1 h0
        subst hz
        exact ⟨none, 0, rfl, .inl ⟨rfl, rfl, rfl⟩⟩
      · exact ⟨_, cap, rfl, .inr ⟨_, rfl, ho.cells (g := g) rfl⟩⟩
    obtain ⟨a1, c1, rfl, hs1⟩ := hsr
    have := replay_any (K.map (·.1)) a1 c1 w1 (recsIn_of hs1 (hv.below hb)) (by omega) hsz (hT.below hb)
    rw [hml] at this
    exact this
  have c2 : ∀ w1, Below w.heap.size w w1 → Calls Tryd.prog 49 #[.slice a K.length c] w1 fun e w' => e = .returned (.tuple #[.string (replayP ByteArray.empty 0 (K.map (·.1))).1, .int .i64 (replayP ByteArray.empty 0 (K.map (·.1))).2.1, .int .i64 (replayP ByteArray.empty 0 (K.map (·.1))).2.2]) ∧ Below w1.heap.size w1 w' := by
    intro w1 hb
    have := replayedOf_any (K.map (·.1)) a c w1 (hI.below hb) (by omega) hsz (hT.below hb)
    rw [hml] at this
    exact this
  generalize replayP ByteArray.empty 0 (K.map (·.1)) = R at *
  obtain ⟨S, n, E⟩ := R
  simp only at c1 c2
  clear hI hsz hml hsm hv hT
  have g2 : (S.toList == S.toList) = true := by simp
  go_enter Tryd.func12, Tryd.ntmps12
  go_wp2_with (at_builtin; refine wpList_append_recs rfl _ _ rfl w.heap.size (Nat.le_refl _) (.slice none 0 0) 0 [] rfl (World.ownsRow_nil _ _ _ _) a c K rfl hs hone (by omega) ?_; intro v1 w1 hown1 hgr1 hmv1)
  rw [Nat.zero_add, List.nil_append] at hown1
  have hb1 : Below w.heap.size w w1 := (Below.refl _ _).grown hgr1 (Nat.le_refl _) (fun k e => by cases e)
  replace c1 := c1 w1 v1 hb1 hown1
  obtain ⟨va, vc, rfl⟩ := own_form hown1
  clear hgr1 hmv1 hown1 hs hone
  refine c1.mono ?_
  rintro e w2 ⟨rfl, hb2⟩
  have HB2 := below_two hb1 hb2 (Nat.le_refl _)
  replace c2 := c2 w2 HB2
  clear c1 hb1 hb2
  go_wp2_with fail
  refine c2.mono ?_
  rintro e w3 ⟨rfl, hb3⟩
  have HB3 := below_two HB2 hb3 (Nat.le_refl _)
  go_wp2_with fail
  go_ret
  exact ⟨by simp, HB3⟩

end Go.Proofs.YtknjnfknalfbdaaDoor
