/-
  Walk: wherrylaw.EdgeChecks.
-/
import Derived.Test.YtepehgjdepioeabDoorEdgeCheckAll
import Derived.Test.YtepehgjdepioeabDoorEdgeMay
namespace Go.Proofs.YtepehgjdepioeabDoor
open Go.RowKit Go.Lib

set_option maxRecDepth 100000 in
set_option maxHeartbeats 1000000 in
theorem edgeChecks_walk (sent heard : Int) (E : List (List Part)) (vs : List Value) (a : Option Addr) (c : Nat) (w : World) (hp : PendAt w a c E vs) (hE : ∀ q ∈ E, OpSmall q) (hlen : E.length ≤ 1048576) (hs : -9223372036854775808 ≤ sent ∧ sent ≤ 9223372036854775807) (hT : Tabs w) :
    Calls Tryd.prog 8 #[.agg #[.int .i64 sent, .int .i64 heard, .slice a E.length c]] w fun e w' => e = .returned (.bool true) ∧ Below w.heap.size w w' := by
  have hb0 := (Below.refl w.heap.size w).alloc (Nat.le_refl _) (.cells #[.int .i64 sent, .int .i64 heard, .slice a E.length c] 51)
  have c1 := edgeCheck_any sent heard E vs a c _ (hp.below hb0) hE hlen hs (hT.below hb0)
  have c2 := fun w1 (hb : Below (w.alloc (.cells #[.int .i64 sent, .int .i64 heard, .slice a E.length c] 51)).heap.size (w.alloc (.cells #[.int .i64 sent, .int .i64 heard, .slice a E.length c] 51)) w1) => edgeMay_any sent heard E vs a c w1 ((hp.below hb0).below hb) hE hlen hs ((hT.below hb0).below hb)
  have hblk := heap_alloc_new w (.cells #[.int .i64 sent, .int .i64 heard, .slice a E.length c] 51)
  have hcb : ∀ w1, Below (w.alloc (.cells #[.int .i64 sent, .int .i64 heard, .slice a E.length c] 51)).heap.size (w.alloc (.cells #[.int .i64 sent, .int .i64 heard, .slice a E.length c] 51)) w1 → w1.heap[w.heap.size]? = some (.cells #[.int .i64 sent, .int .i64 heard, .slice a E.length c] 51 (0, 0)) := fun w1 hb => (hb.block w.heap.size (by simp)).trans hblk
  have he : edgeErr sent heard E = if edgeOkB sent heard E = true then 0 else 9 := rfl
  rw [he] at c1
  cases hok : edgeOkB sent heard E with
  | true =>
    rw [hok] at c1 c2
    simp only [if_true] at c1
    clear he hok
    go_enter Tryd.func8, Tryd.ntmps8
    go_wp2_with fail
    refine c1.mono ?_
    rintro e w1 ⟨rfl, hb1⟩
    have hk := hcb w1 hb1
    have k0 : w1.cell? ⟨w.heap.size, 0, none⟩ = some (.int .i64 sent) := by rw [cell_of_row _ _ _ _ _ _ hk]; rfl
    have k1 : w1.cell? ⟨w.heap.size, 1, none⟩ = some (.int .i64 heard) := by rw [cell_of_row _ _ _ _ _ _ hk]; rfl
    have k2 : w1.cell? ⟨w.heap.size, 2, none⟩ = some (.slice a E.length c) := by rw [cell_of_row _ _ _ _ _ _ hk]; rfl
    have c2' := c2 w1 hb1
    clear c1 c2 hcb hblk hk
    go_wp2_with fail
    refine c2'.mono ?_
    rintro e w2 ⟨rfl, hb2⟩
    go_wp2_with fail
    go_ret
    exact ⟨rfl, below_two (below_two hb0 hb1 (Nat.le_refl _)) hb2 (Nat.le_refl _)⟩
  | false =>
    rw [hok] at c1 c2
    simp only [Bool.false_eq_true, if_false] at c1
    clear he hok
    go_enter Tryd.func8, Tryd.ntmps8
    go_wp2_with fail
    refine c1.mono ?_
    rintro e w1 ⟨rfl, hb1⟩
    have hk := hcb w1 hb1
    have k0 : w1.cell? ⟨w.heap.size, 0, none⟩ = some (.int .i64 sent) := by rw [cell_of_row _ _ _ _ _ _ hk]; rfl
    have k1 : w1.cell? ⟨w.heap.size, 1, none⟩ = some (.int .i64 heard) := by rw [cell_of_row _ _ _ _ _ _ hk]; rfl
    have k2 : w1.cell? ⟨w.heap.size, 2, none⟩ = some (.slice a E.length c) := by rw [cell_of_row _ _ _ _ _ _ hk]; rfl
    have c2' := c2 w1 hb1
    clear c1 c2 hcb hblk hk
    go_wp2_with fail
    refine c2'.mono ?_
    rintro e w2 ⟨rfl, hb2⟩
    go_wp2_with fail
    go_ret
    exact ⟨rfl, below_two (below_two hb0 hb1 (Nat.le_refl _)) hb2 (Nat.le_refl _)⟩

end Go.Proofs.YtepehgjdepioeabDoor
