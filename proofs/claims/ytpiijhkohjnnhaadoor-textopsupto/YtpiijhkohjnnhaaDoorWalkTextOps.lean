/-
  Walk: wherrylaw.TextOps.
-/
import Derived.Test.YtpiijhkohjnnhaaDoorCheck
import Derived.Test.YtpiijhkohjnnhaaDoorOpFault
namespace Go.Proofs.YtpiijhkohjnnhaaDoor
open Go.RowKit

set_option maxHeartbeats 400000 in
theorem textOps_walk (ps : List Part) (a : Option Addr) (cap : Nat) (w : World) (hop : OpAt w a ps) (hn : ps.length ≤ 1048576) (hs : ∀ p ∈ ps, PartOk 1048576 p) (hT : Tabs w) :
    Calls Tryd.prog 4 #[.slice a ps.length cap] w fun e w' => e = .returned (.bool true) ∧ Below w.heap.size w w' := by
  go_enter Tryd.func4, Tryd.ntmps4
  go_wp2_with fail
  refine (check_any ps a cap w hop (by omega) (fun p hp => by have := (hs p hp).2.2; omega) hT).mono ?_
  rintro e w1 ⟨rfl, hb1⟩
  have hop1 := hop.below hb1
  clear hop
  go_wp2_with fail
  refine (opFault_any ps a cap w1 hop1 (by omega) (fun p hp => by have := (hs p hp).2.2; omega) (hT.below hb1)).mono ?_
  rintro e w2 ⟨rfl, hb2⟩
  generalize opErr ps = E
  have g1 : (E == E) = true := by simp
  go_wp2
  go_ret
  exact ⟨rfl, below_two hb1 hb2 (Nat.le_refl _)⟩

end Go.Proofs.YtpiijhkohjnnhaaDoor
