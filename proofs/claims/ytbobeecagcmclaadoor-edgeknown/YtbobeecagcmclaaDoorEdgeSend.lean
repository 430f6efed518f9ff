/-
  Walk: edge.checkSend.
-/
import Derived.Test.YtbobeecagcmclaaDoorEdgeCopy
namespace Go.Proofs.YtbobeecagcmclaaDoor
open Go.RowKit Go.Lib

/-- the cells of a side that was laid as a parameter -/
theorem edge_cells {w : World} {b : Nat} {x y z : Value} (h : w.heap[b]? = some (.cells #[x, y, z] 26 (0, 0))) : w.cell? ⟨b, 0, none⟩ = some x ∧ w.cell? ⟨b, 1, none⟩ = some y ∧ w.cell? ⟨b, 2, none⟩ = some z :=
  ⟨by rw [cell_of_row _ _ _ _ _ _ h]; rfl, by rw [cell_of_row _ _ _ _ _ _ h]; rfl, by rw [cell_of_row _ _ _ _ _ _ h]; rfl⟩

set_option maxRecDepth 100000 in
set_option maxHeartbeats 1000000 in
theorem checkSend_any (sent heard : Int) (E : List (List Part)) (vs : List Value) (a : Option Addr) (c : Nat) (ps : List Part) (v : Value) (w : World) (hp : PendAt w a c E vs) (hE : ∀ q ∈ E, OpSmall q) (hlen : E.length ≤ 1048576) (hs : -9223372036854775808 ≤ sent ∧ sent ≤ 9223372036854775807) (ho : OpVal w v ps) (hso : OpSmall ps) (hT : Tabs w) :
    Calls Tryd.prog 20 #[.agg #[.int .i64 sent, .int .i64 heard, .slice a E.length c], v] w fun e w' => e = .returned (.int .i64 (sendErr sent heard E ps)) ∧ Below w.heap.size w w' := by
  have hb0 := (Below.refl w.heap.size w).alloc (Nat.le_refl _) (.cells #[.int .i64 sent, .int .i64 heard, .slice a E.length c] 26)
  have hblk := heap_alloc_new w (.cells #[.int .i64 sent, .int .i64 heard, .slice a E.length c] 26)
  have hsz : w.heap.size < (w.alloc (.cells #[.int .i64 sent, .int .i64 heard, .slice a E.length c] 26)).heap.size := by simp
  have c1 := edgeBoth_any sent heard E vs a c ps v _ (hp.below hb0) hE hlen hs (ho.below hb0) hso (hT.below hb0)
  have c2 := fun w1 (hb : Below w.heap.size w w1) => follows_any E vs a c E.length c ps v w1 (Nat.le_refl _) (hp.below hb) (ho.below hb) hE hso hlen
  rw [List.take_of_length_le (Nat.le_refl _)] at c2
  by_cases h1 : edgeBoth sent heard E ps = 0
  · rw [h1] at c1
    cases hf : fitsB E ps with
    | false =>
      have e : sendErr sent heard E ps = 10 := by unfold sendErr; rw [h1, hf]; simp
      rw [e]
      rw [hf] at c2
      clear e h1 hf
      go_enter Tryd.func20, Tryd.ntmps20
      go_wp2_with fail
      refine c1.mono ?_
      rintro e w1 ⟨rfl, hb1⟩
      have HB := below_two hb0 hb1 (Nat.le_refl _)
      obtain ⟨k0, k1, k2⟩ := edge_cells ((hb1.block _ hsz).trans hblk)
      have c2' := c2 w1 HB
      clear c1 c2
      go_wp2_with fail
      refine c2'.mono ?_
      rintro e w2 ⟨rfl, hb2⟩
      go_wp2_with fail
      go_ret
      exact ⟨rfl, below_two HB hb2 (Nat.le_refl _)⟩
    | true =>
      rw [hf] at c2
      by_cases h3 : sent = 1048576
      · have e : sendErr sent heard E ps = 8 := by unfold sendErr; rw [h1, hf, if_pos h3]; simp
        rw [e]
        clear e h1 hf
        subst h3
        go_enter Tryd.func20, Tryd.ntmps20
        go_wp2_with fail
        refine c1.mono ?_
        rintro e w1 ⟨rfl, hb1⟩
        have HB := below_two hb0 hb1 (Nat.le_refl _)
        have hk := (hb1.block _ hsz).trans hblk
        obtain ⟨k0, k1, k2⟩ := edge_cells hk
        have c2' := c2 w1 HB
        have hl1 : w.heap.size < w1.heap.size := Nat.lt_of_lt_of_le hsz hb1.size
        clear c1 c2
        go_wp2_with fail
        refine c2'.mono ?_
        rintro e w2 ⟨rfl, hb2⟩
        obtain ⟨m0, _, _⟩ := edge_cells ((hb2.block _ hl1).trans hk)
        clear k0 k1 k2 c2'
        go_wp2_with fail
        go_ret
        exact ⟨rfl, below_two HB hb2 (Nat.le_refl _)⟩
      · have e : sendErr sent heard E ps = 0 := by unfold sendErr; rw [h1, hf, if_neg h3]; simp
        rw [e]
        have g1 : (sent == 1048576) = false := by simpa using h3
        clear e h1 hf
        go_enter Tryd.func20, Tryd.ntmps20
        go_wp2_with fail
        refine c1.mono ?_
        rintro e w1 ⟨rfl, hb1⟩
        have HB := below_two hb0 hb1 (Nat.le_refl _)
        have hk := (hb1.block _ hsz).trans hblk
        obtain ⟨k0, k1, k2⟩ := edge_cells hk
        have c2' := c2 w1 HB
        have hl1 : w.heap.size < w1.heap.size := Nat.lt_of_lt_of_le hsz hb1.size
        clear c1 c2
        go_wp2_with fail
        refine c2'.mono ?_
        rintro e w2 ⟨rfl, hb2⟩
        obtain ⟨m0, _, _⟩ := edge_cells ((hb2.block _ hl1).trans hk)
        clear k0 k1 k2 c2'
        go_wp2_with fail
        go_ret
        exact ⟨rfl, below_two HB hb2 (Nat.le_refl _)⟩
  · have e : sendErr sent heard E ps = edgeBoth sent heard E ps := by unfold sendErr; rw [if_pos h1]
    rw [e]
    clear e c2
    generalize edgeBoth sent heard E ps = er at *
    have g1 : (er != 0) = true := by simpa using h1
    clear h1
    go_enter Tryd.func20, Tryd.ntmps20
    go_wp2_with fail
    refine c1.mono ?_
    rintro e w1 ⟨rfl, hb1⟩
    have HB := below_two hb0 hb1 (Nat.le_refl _)
    clear c1
    go_wp2_with fail
    go_ret
    exact ⟨rfl, HB⟩

end Go.Proofs.YtbobeecagcmclaaDoor
