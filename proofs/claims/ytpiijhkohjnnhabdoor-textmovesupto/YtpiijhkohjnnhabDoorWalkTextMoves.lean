/-
  Walk: wherrylaw.TextMoves.
-/
import Derived.Test.YtpiijhkohjnnhabDoorMoveWalk
import Derived.Test.YtpiijhkohjnnhabDoorMovedWalk
namespace Go.Proofs.YtpiijhkohjnnhabDoor
open Go.RowKit

set_option maxHeartbeats 400000 in
theorem textMoves_walk (n : Int) (ps : List Part) (a : Option Addr) (cap : Nat) (push : Bool) (w : World) (_hn : -9223372036854775808 ≤ n ∧ n ≤ 9223372036854775807) (hop : OpAt w a ps) (hl : ps.length ≤ 1048576) (hs : ∀ p ∈ ps, PartOk 1048576 p) (hT : Tabs w) :
    Calls Tryd.prog 4 #[.int .i64 n, .slice a ps.length cap, .bool push] w fun e w' => e = .returned (.bool true) ∧ Below w.heap.size w w' := by
  go_enter Tryd.func4, Tryd.ntmps4
  go_wp2_with fail
  refine (move_any n ps a cap push w hop hl hs hT).mono ?_
  rintro e w1 ⟨rfl, hb1⟩
  have hop1 := hop.below hb1
  clear hop
  go_wp2_with fail
  refine (moved_any n ps a cap push w1 hop1 hl hs (hT.below hb1)).mono ?_
  rintro e w2 ⟨rfl, hb2⟩
  generalize moveRes n ps push = R
  generalize moveErr n ps = E
  have g1 : (E == E) = true := by simp
  have g2 : (R == R) = true := by simp
  go_wp2
  go_ret
  exact ⟨rfl, below_two hb1 hb2 (Nat.le_refl _)⟩

end Go.Proofs.YtpiijhkohjnnhabDoor
