/-
  Walk: text.checkBoth.
-/
import Derived.Test.YtepehgjdepioeaaDoorPureTrans
import Derived.Test.YtepehgjdepioeaaDoorCheck
namespace Go.Proofs.YtepehgjdepioeaaDoor
open Go.RowKit Go.Lib

set_option maxHeartbeats 1000000 in
theorem checkBoth_any (ps qs : List Part) (a b : Option Addr) (ca cb : Nat) (w : World) (hopa : OpAt w a ps) (hopb : OpAt w b qs) (hna : ps.length ≤ 1048576) (hnb : qs.length ≤ 1048576) (hsa : ∀ p ∈ ps, p.text.size ≤ 1048576) (hsb : ∀ p ∈ qs, p.text.size ≤ 1048576) (hT : Tabs w) :
    Calls Tryd.prog 45 #[.slice a ps.length ca, .slice b qs.length cb] w fun e w' => e = .returned (.int .i64 (bothErr ps qs)) ∧ Below w.heap.size w w' := by
  have hs1 : ∀ p ∈ ps, p.text.size < 9223372036854775807 := fun p hp => by have := hsa p hp; omega
  have hs2 : ∀ p ∈ qs, p.text.size < 9223372036854775807 := fun p hp => by have := hsb p hp; omega
  have c1 := check_any ps a ca w hopa (by omega) hs1 hT
  have c2 := fun w1 hb1 => check_any qs b cb w1 (hopb.below hb1) (by omega) hs2 (hT.below (w' := w1) hb1)
  unfold bothErr
  generalize opErr qs = F at c2 ⊢
  generalize opErr ps = E at c1 ⊢
  by_cases h1 : E = 0
  · subst h1
    have e0 : (if (0 : Int) ≠ 0 then (0 : Int) else F) = F := by simp
    rw [e0]
    clear e0 hs1 hs2 hopa hopb hsa hsb
    go_enter Tryd.func45, Tryd.ntmps45
    go_wp2_with fail
    refine c1.mono ?_
    rintro e w1 ⟨rfl, hb1⟩
    go_wp2_with fail
    refine (c2 w1 hb1).mono ?_
    rintro e w2 ⟨rfl, hb2⟩
    clear c1 c2
    go_wp2
    go_ret
    exact ⟨rfl, below_two hb1 hb2 (Nat.le_refl _)⟩
  · rw [if_pos h1]
    have g1 : (E != 0) = true := by simpa using h1
    clear hs1 hs2 hopa hopb hsa hsb c2
    go_enter Tryd.func45, Tryd.ntmps45
    go_wp2_with fail
    refine c1.mono ?_
    rintro e w1 ⟨rfl, hb1⟩
    clear c1
    go_wp2
    go_ret
    exact ⟨rfl, hb1⟩

end Go.Proofs.YtepehgjdepioeaaDoor
