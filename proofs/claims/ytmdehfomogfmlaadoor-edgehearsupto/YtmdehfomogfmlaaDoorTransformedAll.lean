/-
  Walk: wherryref.Transformed, at every argument.
-/
import Derived.Test.YtmdehfomogfmlaaDoorTransformedWalk
namespace Go.Proofs.YtmdehfomogfmlaaDoor
open Go.RowKit

set_option maxRecDepth 100000 in
set_option maxHeartbeats 2000000 in
theorem transformed_any (ps qs : List Part) (a b : Option Addr) (ca cb : Nat) (w : World) (hopa : OpAt w a ps) (hopb : OpAt w b qs) (hna : ps.length ≤ 1048576) (hnb : qs.length ≤ 1048576) (hsa : ∀ p ∈ ps, p.text.size ≤ 1048576) (hsb : ∀ p ∈ qs, p.text.size ≤ 1048576) (hT : Tabs w) :
    Calls Tryd.prog 72 #[.slice a ps.length ca, .slice b qs.length cb] w fun e w' => ∃ u v, e = .returned (.tuple #[u, v, .int .i64 (transErr ps qs)]) ∧
      w'.ownsRow w.heap.size 68 3 u (transU ps qs).length (partCells (transU ps qs)) ∧ w'.ownsRow w.heap.size 68 3 v (transV ps qs).length (partCells (transV ps qs)) ∧ Below w.heap.size w w' := by
  have hs1 : ∀ p ∈ ps, p.text.size ≤ 70368744177664 := fun p hp => by have := hsa p hp; omega
  have hs2 : ∀ p ∈ qs, p.text.size ≤ 70368744177664 := fun p hp => by have := hsb p hp; omega
  have c1 := opFault_any ps a ca w hopa (by omega) hs1 hT
  have c2 := fun w1 hb1 => opFault_any qs b cb w1 (hopb.below (w' := w1) hb1) (by omega) hs2 (hT.below hb1)
  have c3 := fun w1 hb1 => lengthsOf_any ps a ca w1 (hopa.below (w' := w1) hb1) (by omega) hs1
  have c4 := fun w1 hb1 => lengthsOf_any qs b cb w1 (hopb.below (w' := w1) hb1) (by omega) hs2
  by_cases h1 : opErr ps = 0
  · by_cases h2 : opErr qs = 0
    · have hoka := opErr_zero h1
      have hokb := opErr_zero h2
      obtain ⟨ea, _⟩ := lens_from hoka
      obtain ⟨eb, _⟩ := lens_from hokb
      have hB : bothErr ps qs = 0 := by unfold bothErr; rw [if_neg (by omega)]; exact h2
      by_cases h3 : fromN ps = fromN qs
      · have hE : transErr ps qs = bothErr (xU ps qs) (xV ps qs) := by unfold transErr; rw [if_neg (by omega), if_neg (by rw [ea, eb]; omega)]
        have hU : transU ps qs = if bothErr (xU ps qs) (xV ps qs) ≠ 0 then [] else xU ps qs := by unfold transU; rw [hE]
        have hV : transV ps qs = if bothErr (xU ps qs) (xV ps qs) ≠ 0 then [] else xV ps qs := by unfold transV; rw [hE]
        rw [hE, hU, hV]
        exact transformed_ok ps qs a b ca cb w hopa hopb hna hnb hsa hsb hT h1 h2 h3
      · have hE : transErr ps qs = 10 := by unfold transErr; rw [if_neg (by omega), if_pos (by rw [ea, eb]; omega)]
        have hU : transU ps qs = [] := by unfold transU; rw [hE, if_pos (by omega)]
        have hV : transV ps qs = [] := by unfold transV; rw [hE, if_pos (by omega)]
        rw [hE, hU, hV]
        have hma := hoka.from_le
        have hmb := hokb.from_le
        rw [ea] at c3
        rw [eb] at c4
        rw [h1] at c1
        rw [h2] at c2
        clear hE hU hV ea eb h1 h2 hB hs1 hs2 hoka hokb hsa hsb
        generalize fromN ps = N at *
        generalize fromN qs = M at *
        generalize (lens ps).2 = t1 at c3
        generalize (lens qs).2 = t2 at c4
        have g1 : ((N : Int) != (M : Int)) = true := by simp; omega
        clear h3
        go_enter Tryd.func72, Tryd.ntmps72
        go_wp2_with fail
        refine c1.mono ?_
        rintro e w1 ⟨rfl, hb1⟩
        go_wp2_with fail
        refine (c2 w1 hb1).mono ?_
        rintro e w2 ⟨rfl, hb2⟩
        have hb12 := below_two hb1 hb2 (Nat.le_refl _)
        go_wp2_with fail
        refine (c3 w2 hb12).mono ?_
        rintro e w3 ⟨rfl, hb3⟩
        have hb13 := below_two hb12 hb3 (Nat.le_refl _)
        go_wp2_with fail
        refine (c4 w3 hb13).mono ?_
        rintro e w4 ⟨rfl, hb4⟩
        have hb14 := below_two hb13 hb4 (Nat.le_refl _)
        clear c1 c2 c3 c4
        go_wp2
        go_ret3
        exact ⟨_, _, rfl, World.ownsRow_nil _ _ _ _, World.ownsRow_nil _ _ _ _, hb14⟩
    · have hB : bothErr ps qs = opErr qs := by unfold bothErr; rw [if_neg (by omega)]
      have hE : transErr ps qs = opErr qs := by unfold transErr; rw [hB, if_pos h2]
      have hU : transU ps qs = [] := by unfold transU; rw [hE, if_pos h2]
      have hV : transV ps qs = [] := by unfold transV; rw [hE, if_pos h2]
      rw [hE, hU, hV]
      rw [h1] at c1
      generalize lens ps = L1 at c3
      generalize lens qs = L2 at c4
      generalize opErr qs = E at *
      have g1 : (E != 0) = true := by simpa using h2
      have g2 : (E == 0) = false := by simpa using h2
      obtain ⟨f1, t1⟩ := L1
      obtain ⟨f2, t2⟩ := L2
      simp only at c3 c4
      clear hE hU hV hB h1 h2 hs1 hs2 hsa hsb
      go_enter Tryd.func72, Tryd.ntmps72
      go_wp2_with fail
      refine c1.mono ?_
      rintro e w1 ⟨rfl, hb1⟩
      go_wp2_with fail
      refine (c2 w1 hb1).mono ?_
      rintro e w2 ⟨rfl, hb2⟩
      have hb12 := below_two hb1 hb2 (Nat.le_refl _)
      go_wp2_with fail
      refine (c3 w2 hb12).mono ?_
      rintro e w3 ⟨rfl, hb3⟩
      have hb13 := below_two hb12 hb3 (Nat.le_refl _)
      go_wp2_with fail
      refine (c4 w3 hb13).mono ?_
      rintro e w4 ⟨rfl, hb4⟩
      have hb14 := below_two hb13 hb4 (Nat.le_refl _)
      clear c1 c2 c3 c4
      go_wp2
      go_ret3
      exact ⟨_, _, rfl, World.ownsRow_nil _ _ _ _, World.ownsRow_nil _ _ _ _, hb14⟩
  · have hB : bothErr ps qs = opErr ps := by unfold bothErr; rw [if_pos h1]
    have hE : transErr ps qs = opErr ps := by unfold transErr; rw [hB, if_pos h1]
    have hU : transU ps qs = [] := by unfold transU; rw [hE, if_pos h1]
    have hV : transV ps qs = [] := by unfold transV; rw [hE, if_pos h1]
    rw [hE, hU, hV]
    generalize lens ps = L1 at c3
    generalize lens qs = L2 at c4
    generalize opErr ps = E at *
    have g1 : (E != 0) = true := by simpa using h1
    have g2 : (E == 0) = false := by simpa using h1
    obtain ⟨f1, t1⟩ := L1
    obtain ⟨f2, t2⟩ := L2
    simp only at c3 c4
    clear hE hU hV hB h1 hs1 hs2 hsa hsb c2
    go_enter Tryd.func72, Tryd.ntmps72
    go_wp2_with fail
    refine c1.mono ?_
    rintro e w2 ⟨rfl, hb12⟩
    go_wp2_with fail
    refine (c3 w2 hb12).mono ?_
    rintro e w3 ⟨rfl, hb3⟩
    have hb13 := below_two hb12 hb3 (Nat.le_refl _)
    go_wp2_with fail
    refine (c4 w3 hb13).mono ?_
    rintro e w4 ⟨rfl, hb4⟩
    have hb14 := below_two hb13 hb4 (Nat.le_refl _)
    clear c1 c3 c4
    go_wp2
    go_ret3
    exact ⟨_, _, rfl, World.ownsRow_nil _ _ _ _, World.ownsRow_nil _ _ _ _, hb14⟩

end Go.Proofs.YtmdehfomogfmlaaDoor
