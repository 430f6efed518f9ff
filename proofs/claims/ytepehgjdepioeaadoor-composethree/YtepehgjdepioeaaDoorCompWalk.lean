/-
  Walk: text.Compose.
-/
import Derived.Test.YtepehgjdepioeaaDoorComposeLoop
import Derived.Test.YtepehgjdepioeaaDoorBothWalk
namespace Go.Proofs.YtepehgjdepioeaaDoor
open Go.RowKit Go.Lib

set_option maxRecDepth 100000 in
set_option maxHeartbeats 2000000 in
theorem compose_text (ps qs : List Part) (a b : Option Addr) (ca cb : Nat) (w : World) (hopa : OpAt w a ps) (hopb : OpAt w b qs) (hca : ps.length ≤ ca) (hcb : qs.length ≤ cb) (hna : ps.length ≤ 1048576) (hnb : qs.length ≤ 1048576) (hsa : ∀ p ∈ ps, p.text.size ≤ 1048576) (hsb : ∀ p ∈ qs, p.text.size ≤ 1048576) (hT : Tabs w) :
    Calls Tryd.prog 29 #[.slice a ps.length ca, .slice b qs.length cb] w fun e w' => ∃ u, e = .returned (.tuple #[u, .int .i64 (compErr ps qs)]) ∧
      w'.ownsRow w.heap.size 42 3 u (compRes ps qs).length (partCells (compRes ps qs)) ∧ Below w.heap.size w w' := by
  have hs1 : ∀ p ∈ ps, p.text.size < 9223372036854775807 := fun p hp => by have := hsa p hp; omega
  have hs2 : ∀ p ∈ qs, p.text.size < 9223372036854775807 := fun p hp => by have := hsb p hp; omega
  have c1 := checkBoth_any ps qs a b ca cb w hopa hopb hna hnb hsa hsb hT
  by_cases h1 : bothErr ps qs = 0
  · obtain ⟨ha0, hb0⟩ := bothErr_zero h1
    have hoka := opErr_zero ha0
    have hokb := opErr_zero hb0
    rw [h1] at c1
    obtain ⟨_, ea⟩ := lens_from hoka
    obtain ⟨eb, _⟩ := lens_from hokb
    have hma := hoka.to_le
    have hmb := hokb.from_le
    have c2 := fun w1 hb1 => lengths_any ps a ca w1 (hopa.below (w' := w1) hb1) (by omega) hs1
    have c3 := fun w1 hb1 => lengths_any qs b cb w1 (hopb.below (w' := w1) hb1) (by omega) hs2
    rw [ea] at c2
    rw [eb] at c3
    by_cases h2 : toN ps = fromN qs
    · have hE : compErr ps qs = opErr (cO ps qs) := by unfold compErr; rw [if_neg (by omega), if_neg (by rw [ea, eb]; omega)]
      obtain ⟨ul, ut⟩ := cO_small hoka hokb
      have cX := fun w1 hb1 => compose_any ps qs a b ca cb w1 (hopa.below (w' := w1) hb1) (hopb.below hb1) hca hcb hoka hokb h2 hsa hsb
      obtain ⟨U, hU⟩ : ∃ U, U = cO ps qs := ⟨_, rfl⟩
      have HTU : Hid (compRes ps qs = if opErr U ≠ 0 then [] else U) := by show _ = _; unfold compRes; rw [hE, hU]
      rw [hE]
      have eU : group (cf (steps ps) (steps qs)) = U := hU.symm
      rw [eU] at cX
      rw [← hU] at ul ut ⊢
      rw [HTU.out]
      clear HTU hU eU hE ea eb h1 ha0 hb0 hs1 hs2 hoka hokb hsa hsb
      rw [← h2] at c3
      generalize toN ps = N at *
      generalize (lens ps).1 = t1 at c2
      generalize (lens qs).2 = t2 at c3
      clear h2
      have c4 := fun w1 a1 k1 ho1 hT1 => check_any U a1 k1 w1 ho1 (by omega) (fun p hp => by have := ut p hp; omega) hT1
      by_cases h3 : opErr U = 0
      · rw [h3] at c4 ⊢
        have e1 : ∀ X : List Part, (if (0 : Int) ≠ 0 then [] else X) = X := fun X => by simp
        rw [e1]
        clear e1 h3 ut
        go_enter Tryd.func29, Tryd.ntmps29
        go_wp2_with fail
        refine c1.mono ?_
        rintro e w1 ⟨rfl, hb1⟩
        go_wp2_with fail
        refine (c2 w1 hb1).mono ?_
        rintro e w2 ⟨rfl, hb2⟩
        have hb12 := below_two hb1 hb2 (Nat.le_refl _)
        go_wp2_with fail
        refine (c3 w2 hb12).mono ?_
        rintro e w3 ⟨rfl, hb3⟩
        have hb13 := below_two hb12 hb3 (Nat.le_refl _)
        clear c1 c2 c3
        go_wp2_with fail
        refine (cX w3 hb13).mono ?_
        rintro e w4 ⟨u, rfl, hu, hb4⟩
        have hb14 := below_two hb13 hb4 (Nat.le_refl _)
        obtain ⟨ua, uc, rfl, hou⟩ := own_opAt hu
        clear cX
        go_wp2_with fail
        refine (c4 w4 ua uc hou (hT.below hb14)).mono ?_
        rintro e w5 ⟨rfl, hb5⟩
        clear c4
        have hb15 := below_two hb14 hb5 (Nat.le_refl _)
        go_wp2
        go_ret2
        exact ⟨_, rfl, own_base (own_below hu hb5) hb13.size, hb15⟩
      · rw [if_pos h3]
        generalize opErr U = E at *
        have g1 : (E != 0) = true := by simpa using h3
        clear h3 ut
        go_enter Tryd.func29, Tryd.ntmps29
        go_wp2_with fail
        refine c1.mono ?_
        rintro e w1 ⟨rfl, hb1⟩
        go_wp2_with fail
        refine (c2 w1 hb1).mono ?_
        rintro e w2 ⟨rfl, hb2⟩
        have hb12 := below_two hb1 hb2 (Nat.le_refl _)
        go_wp2_with fail
        refine (c3 w2 hb12).mono ?_
        rintro e w3 ⟨rfl, hb3⟩
        have hb13 := below_two hb12 hb3 (Nat.le_refl _)
        clear c1 c2 c3
        go_wp2_with fail
        refine (cX w3 hb13).mono ?_
        rintro e w4 ⟨u, rfl, hu, hb4⟩
        have hb14 := below_two hb13 hb4 (Nat.le_refl _)
        obtain ⟨ua, uc, rfl, hou⟩ := own_opAt hu
        clear cX hu
        go_wp2_with fail
        refine (c4 w4 ua uc hou (hT.below hb14)).mono ?_
        rintro e w5 ⟨rfl, hb5⟩
        clear c4
        have hb15 := below_two hb14 hb5 (Nat.le_refl _)
        go_wp2
        go_ret2
        exact ⟨_, rfl, World.ownsRow_nil _ _ _ _, hb15⟩
    · have hE : compErr ps qs = 10 := by unfold compErr; rw [if_neg (by omega), if_pos (by rw [ea, eb]; omega)]
      have hU : compRes ps qs = [] := by unfold compRes; rw [hE, if_pos (by omega)]
      rw [hE, hU]
      clear hE hU ea eb h1 ha0 hb0 hs1 hs2 hoka hokb hsa hsb
      generalize toN ps = N at *
      generalize fromN qs = M at *
      generalize (lens ps).1 = t1 at c2
      generalize (lens qs).2 = t2 at c3
      have g1 : ((M : Int) != (N : Int)) = true := by simp; omega
      clear h2
      go_enter Tryd.func29, Tryd.ntmps29
      go_wp2_with fail
      refine c1.mono ?_
      rintro e w1 ⟨rfl, hb1⟩
      go_wp2_with fail
      refine (c2 w1 hb1).mono ?_
      rintro e w2 ⟨rfl, hb2⟩
      have hb12 := below_two hb1 hb2 (Nat.le_refl _)
      go_wp2_with fail
      refine (c3 w2 hb12).mono ?_
      rintro e w3 ⟨rfl, hb3⟩
      have hb13 := below_two hb12 hb3 (Nat.le_refl _)
      clear c1 c2 c3
      go_wp2
      go_ret2
      exact ⟨_, rfl, World.ownsRow_nil _ _ _ _, hb13⟩
  · have hE : compErr ps qs = bothErr ps qs := by unfold compErr; rw [if_pos h1]
    have hU : compRes ps qs = [] := by unfold compRes; rw [hE, if_pos h1]
    rw [hE, hU]
    clear hE hU hs1 hs2 hsa hsb
    generalize bothErr ps qs = E at *
    have g1 : (E != 0) = true := by simpa using h1
    clear h1
    go_enter Tryd.func29, Tryd.ntmps29
    go_wp2_with fail
    refine c1.mono ?_
    rintro e w1 ⟨rfl, hb1⟩
    clear c1
    go_wp2
    go_ret2
    exact ⟨_, rfl, World.ownsRow_nil _ _ _ _, hb1⟩

end Go.Proofs.YtepehgjdepioeaaDoor
