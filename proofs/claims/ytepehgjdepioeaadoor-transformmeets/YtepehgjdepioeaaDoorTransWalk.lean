/-
  Walk: text.Transform.
-/
import Derived.Test.YtepehgjdepioeaaDoorTransformWalk
import Derived.Test.YtepehgjdepioeaaDoorPureTrans
import Derived.Test.YtepehgjdepioeaaDoorBothWalk
namespace Go.Proofs.YtepehgjdepioeaaDoor
open Go.RowKit Go.Lib

set_option maxRecDepth 100000 in
set_option maxHeartbeats 2000000 in
theorem transform_text (ps qs : List Part) (a b : Option Addr) (ca cb : Nat) (w : World) (hopa : OpAt w a ps) (hopb : OpAt w b qs) (hca : ps.length ≤ ca) (hcb : qs.length ≤ cb) (hna : ps.length ≤ 1048576) (hnb : qs.length ≤ 1048576) (hsa : ∀ p ∈ ps, p.text.size ≤ 1048576) (hsb : ∀ p ∈ qs, p.text.size ≤ 1048576) (hT : Tabs w) :
    Calls Tryd.prog 24 #[.slice a ps.length ca, .slice b qs.length cb] w fun e w' => ∃ u v, e = .returned (.tuple #[u, v, .int .i64 (transErr ps qs)]) ∧
      w'.ownsRow w.heap.size 42 3 u (transU ps qs).length (partCells (transU ps qs)) ∧ w'.ownsRow w.heap.size 42 3 v (transV ps qs).length (partCells (transV ps qs)) ∧ Below w.heap.size w w' := by
  have hs1 : ∀ p ∈ ps, p.text.size < 9223372036854775807 := fun p hp => by have := hsa p hp; omega
  have hs2 : ∀ p ∈ qs, p.text.size < 9223372036854775807 := fun p hp => by have := hsb p hp; omega
  have c1 := checkBoth_any ps qs a b ca cb w hopa hopb hna hnb hsa hsb hT
  by_cases h1 : bothErr ps qs = 0
  · obtain ⟨ha0, hb0⟩ := bothErr_zero h1
    have hoka := opErr_zero ha0
    have hokb := opErr_zero hb0
    rw [h1] at c1
    obtain ⟨ea, _⟩ := lens_from hoka
    obtain ⟨eb, _⟩ := lens_from hokb
    have hma := hoka.from_le
    have hmb := hokb.from_le
    have c2 := fun w1 hb1 => lengths_any ps a ca w1 (hopa.below (w' := w1) hb1) (by omega) hs1
    have c3 := fun w1 hb1 => lengths_any qs b cb w1 (hopb.below (w' := w1) hb1) (by omega) hs2
    rw [ea] at c2
    rw [eb] at c3
    by_cases h2 : fromN ps = fromN qs
    · have hE : transErr ps qs = bothErr (xU ps qs) (xV ps qs) := by unfold transErr; rw [if_neg (by omega), if_neg (by rw [ea, eb]; omega)]
      obtain ⟨⟨ul, ut⟩, vl, vt⟩ := xUV_small hoka hokb
      have cX := fun w1 hb1 => transform_any ps qs a b ca cb w1 (hopa.below (w' := w1) hb1) (hopb.below hb1) hca hcb hoka hokb h2 hsa hsb
      obtain ⟨U, hU⟩ : ∃ U, U = xU ps qs := ⟨_, rfl⟩
      obtain ⟨V, hV⟩ : ∃ V, V = xV ps qs := ⟨_, rfl⟩
      have HTU : Hid (transU ps qs = if bothErr U V ≠ 0 then [] else U) := by show _ = _; unfold transU; rw [hE, hU, hV]
      have HTV : Hid (transV ps qs = if bothErr U V ≠ 0 then [] else V) := by show _ = _; unfold transV; rw [hE, hU, hV]
      rw [hE]
      have eU : group (xf (steps ps) (steps qs)).1 = U := hU.symm
      have eV : group (xf (steps ps) (steps qs)).2 = V := hV.symm
      rw [eU, eV] at cX
      rw [← hU] at ul ut ⊢
      rw [← hV] at vl vt ⊢
      rw [HTU.out, HTV.out]
      clear HTU HTV hU hV eU eV hE ea eb h1 ha0 hb0 hs1 hs2 hoka hokb hsa hsb
      rw [← h2] at c3
      generalize fromN ps = N at *
      generalize (lens ps).2 = t1 at c2
      generalize (lens qs).2 = t2 at c3
      clear h2
      have c4 := fun w1 a1 b1 k1 k2 ho1 ho2 hT1 => checkBoth_any U V a1 b1 k1 k2 w1 ho1 ho2 (by omega) (by omega) (fun p hp => by have := ut p hp; omega) (fun p hp => by have := vt p hp; omega) hT1
      by_cases h3 : bothErr U V = 0
      · rw [h3] at c4 ⊢
        have e1 : ∀ X : List Part, (if (0 : Int) ≠ 0 then [] else X) = X := fun X => by simp
        rw [e1, e1]
        clear e1 h3 ut vt
        go_enter Tryd.func24, Tryd.ntmps24
        go_wp2_with fail
        refine c1.mono ?_
        rintro e w1 ⟨rfl, hb1⟩
        go_wp2_with fail
        refine (c2 w1 hb1).mono ?_
        rintro e w2 ⟨rfl, hb2⟩
        have hb12 := below_two hb1 hb2 (Nat.le_refl _)
        go_wp2_with fail
        refine (c3 w2 hb12).mono ?_
        rintro e w3 ⟨rfl, hb3⟩
        have hb13 := below_two hb12 hb3 (Nat.le_refl _)
        clear c1 c2 c3
        go_wp2_with fail
        refine (cX w3 hb13).mono ?_
        rintro e w4 ⟨u, v, rfl, hu, hv, hb4⟩
        have hb14 := below_two hb13 hb4 (Nat.le_refl _)
        obtain ⟨ua, uc, rfl, hou⟩ := own_opAt hu
        obtain ⟨va, vc, rfl, hov⟩ := own_opAt hv
        clear cX
        go_wp2_with fail
        refine (c4 w4 ua va uc vc hou hov (hT.below hb14)).mono ?_
        rintro e w5 ⟨rfl, hb5⟩
        clear c4
        have hb15 := below_two hb14 hb5 (Nat.le_refl _)
        go_wp2
        go_ret3
        exact ⟨_, _, rfl, own_base (own_below hu hb5) hb13.size, own_base (own_below hv hb5) hb13.size, hb15⟩
      · rw [if_pos h3, if_pos h3]
        generalize bothErr U V = E at *
        have g1 : (E != 0) = true := by simpa using h3
        clear h3 ut vt
        go_enter Tryd.func24, Tryd.ntmps24
        go_wp2_with fail
        refine c1.mono ?_
        rintro e w1 ⟨rfl, hb1⟩
        go_wp2_with fail
        refine (c2 w1 hb1).mono ?_
        rintro e w2 ⟨rfl, hb2⟩
        have hb12 := below_two hb1 hb2 (Nat.le_refl _)
        go_wp2_with fail
        refine (c3 w2 hb12).mono ?_
        rintro e w3 ⟨rfl, hb3⟩
        have hb13 := below_two hb12 hb3 (Nat.le_refl _)
        clear c1 c2 c3
        go_wp2_with fail
        refine (cX w3 hb13).mono ?_
        rintro e w4 ⟨u, v, rfl, hu, hv, hb4⟩
        have hb14 := below_two hb13 hb4 (Nat.le_refl _)
        obtain ⟨ua, uc, rfl, hou⟩ := own_opAt hu
        obtain ⟨va, vc, rfl, hov⟩ := own_opAt hv
        clear cX hu hv
        go_wp2_with fail
        refine (c4 w4 ua va uc vc hou hov (hT.below hb14)).mono ?_
        rintro e w5 ⟨rfl, hb5⟩
        clear c4
        have hb15 := below_two hb14 hb5 (Nat.le_refl _)
        go_wp2
        go_ret3
        exact ⟨_, _, rfl, World.ownsRow_nil _ _ _ _, World.ownsRow_nil _ _ _ _, hb15⟩
    · have hE : transErr ps qs = 10 := by unfold transErr; rw [if_neg (by omega), if_pos (by rw [ea, eb]; omega)]
      have hU : transU ps qs = [] := by unfold transU; rw [hE, if_pos (by omega)]
      have hV : transV ps qs = [] := by unfold transV; rw [hE, if_pos (by omega)]
      rw [hE, hU, hV]
      clear hE hU hV ea eb h1 ha0 hb0 hs1 hs2 hoka hokb hsa hsb
      generalize fromN ps = N at *
      generalize fromN qs = M at *
      generalize (lens ps).2 = t1 at c2
      generalize (lens qs).2 = t2 at c3
      have g1 : ((N : Int) != (M : Int)) = true := by simp; omega
      clear h2
      go_enter Tryd.func24, Tryd.ntmps24
      go_wp2_with fail
      refine c1.mono ?_
      rintro e w1 ⟨rfl, hb1⟩
      go_wp2_with fail
      refine (c2 w1 hb1).mono ?_
      rintro e w2 ⟨rfl, hb2⟩
      have hb12 := below_two hb1 hb2 (Nat.le_refl _)
      go_wp2_with fail
      refine (c3 w2 hb12).mono ?_
      rintro e w3 ⟨rfl, hb3⟩
      have hb13 := below_two hb12 hb3 (Nat.le_refl _)
      clear c1 c2 c3
      go_wp2
      go_ret3
      exact ⟨_, _, rfl, World.ownsRow_nil _ _ _ _, World.ownsRow_nil _ _ _ _, hb13⟩
  · have hE : transErr ps qs = bothErr ps qs := by unfold transErr; rw [if_pos h1]
    have hU : transU ps qs = [] := by unfold transU; rw [hE, if_pos h1]
    have hV : transV ps qs = [] := by unfold transV; rw [hE, if_pos h1]
    rw [hE, hU, hV]
    clear hE hU hV hs1 hs2 hsa hsb
    generalize bothErr ps qs = E at *
    have g1 : (E != 0) = true := by simpa using h1
    clear h1
    go_enter Tryd.func24, Tryd.ntmps24
    go_wp2_with fail
    refine c1.mono ?_
    rintro e w1 ⟨rfl, hb1⟩
    clear c1
    go_wp2
    go_ret3
    exact ⟨_, _, rfl, World.ownsRow_nil _ _ _ _, World.ownsRow_nil _ _ _ _, hb1⟩

end Go.Proofs.YtepehgjdepioeaaDoor
