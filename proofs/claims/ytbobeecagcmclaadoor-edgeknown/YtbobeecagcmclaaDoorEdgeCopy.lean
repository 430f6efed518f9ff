/-
  Walks: edge.copyOf, checkBoth, checkSend.
-/
import Derived.Test.YtbobeecagcmclaaDoorEdgeCheckAll
namespace Go.Proofs.YtbobeecagcmclaaDoor
open Go.RowKit Go.Lib

set_option maxRecDepth 100000 in
set_option maxHeartbeats 1000000 in
theorem copyOf_any (ps : List Part) (v : Value) (w : World) (ho : OpVal w v ps) (hn : ps.length ≤ 1048576) :
    Calls Tryd.prog 21 #[v] w fun e w' => ∃ u, e = .returned u ∧ w'.ownsRow w.heap.size 75 3 u ps.length (partCells ps) ∧ Below w.heap.size w w' := by
  obtain ⟨a, c, rfl, _, _, hsrc⟩ := ho.form
  go_enter Tryd.func21, Tryd.ntmps21
  go_wp2_with (at_builtin; refine wpList_append_op rfl _ _ rfl w.heap.size (Nat.le_refl _) (.slice none 0 0) 0 [] rfl (World.ownsRow_nil _ _ _ _) a c ps rfl hsrc (by omega) ?_; intro v1 x1 hown1 hgr1 hmv1)
  go_ret
  have hb1 := (Below.refl w.heap.size w).grown hgr1 (Nat.le_refl _) (fun k e => by simp [Value.ownBlock] at e)
  exact ⟨v1, rfl, by simpa using hown1, hb1⟩

/-- what is refused of a side and an operation -/
def edgeBoth (sent heard : Int) (E : List (List Part)) (ps : List Part) : Int := if edgeErr sent heard E ≠ 0 then edgeErr sent heard E else opErr ps
set_option maxRecDepth 100000 in
set_option maxHeartbeats 1000000 in
theorem edgeBoth_any (sent heard : Int) (E : List (List Part)) (vs : List Value) (a : Option Addr) (c : Nat) (ps : List Part) (v : Value) (w : World) (hp : PendAt w a c E vs) (hE : ∀ q ∈ E, OpSmall q) (hlen : E.length ≤ 1048576) (hs : -9223372036854775808 ≤ sent ∧ sent ≤ 9223372036854775807) (ho : OpVal w v ps) (hso : OpSmall ps) (hT : Tabs w) :
    Calls Tryd.prog 41 #[.agg #[.int .i64 sent, .int .i64 heard, .slice a E.length c], v] w fun e w' => e = .returned (.int .i64 (edgeBoth sent heard E ps)) ∧ Below w.heap.size w w' := by
  have hb0 := (Below.refl w.heap.size w).alloc (Nat.le_refl _) (.cells #[.int .i64 sent, .int .i64 heard, .slice a E.length c] 26)
  have c1 := edgeCheck_any sent heard E vs a c _ (hp.below hb0) hE hlen hs (hT.below hb0)
  obtain ⟨oa, oc, rfl, hoo, _, _⟩ := ho.form
  have c2 := fun w1 (hb : Below w.heap.size w w1) => check_any ps oa oc w1 (hoo.below hb) (by have := hso.1; omega) (fun p hp => by have := (hso.2 p hp).2.2; omega) (hT.below hb)
  by_cases h1 : edgeErr sent heard E = 0
  · have e : edgeBoth sent heard E ps = opErr ps := by unfold edgeBoth; rw [h1]; simp
    rw [e]
    rw [h1] at c1
    clear e h1
    generalize opErr ps = er at *
    go_enter Tryd.func41, Tryd.ntmps41
    go_wp2_with fail
    refine c1.mono ?_
    rintro e w1 ⟨rfl, hb1⟩
    have HB := below_two hb0 hb1 (Nat.le_refl _)
    have c2' := c2 w1 HB
    clear c1 c2
    go_wp2_with fail
    refine c2'.mono ?_
    rintro e w2 ⟨rfl, hb2⟩
    go_wp2_with fail
    go_ret
    exact ⟨rfl, below_two HB hb2 (Nat.le_refl _)⟩
  · have e : edgeBoth sent heard E ps = edgeErr sent heard E := by unfold edgeBoth; rw [if_pos h1]
    rw [e]
    clear e c2
    generalize edgeErr sent heard E = er at *
    have g1 : (er != 0) = true := by simpa using h1
    clear h1
    go_enter Tryd.func41, Tryd.ntmps41
    go_wp2_with fail
    refine c1.mono ?_
    rintro e w1 ⟨rfl, hb1⟩
    have HB := below_two hb0 hb1 (Nat.le_refl _)
    clear c1
    go_wp2_with fail
    go_ret
    exact ⟨rfl, HB⟩

/-- P2.2: what is refused -/
def sendErr (sent heard : Int) (E : List (List Part)) (ps : List Part) : Int := if edgeBoth sent heard E ps ≠ 0 then edgeBoth sent heard E ps else if fitsB E ps = false then 10 else if sent = 1048576 then 8 else 0

end Go.Proofs.YtbobeecagcmclaaDoor
