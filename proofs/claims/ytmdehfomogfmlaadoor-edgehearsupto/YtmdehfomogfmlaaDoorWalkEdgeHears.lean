/-
  Walk: wherrylaw.EdgeHears.
-/
import Derived.Test.YtmdehfomogfmlaaDoorHearAll
namespace Go.Proofs.YtmdehfomogfmlaaDoor
open Go.RowKit Go.Lib

theorem hearRun_small (up : Bool) : ∀ (L : List (List Part)) (t : List Part), OpSmall t → (∀ q ∈ (hearRun up L t).2.1, OpSmall q) ∧ OpSmall (hearRun up L t).2.2 ∧ (hearRun up L t).2.1.length ≤ L.length
  | [], t, ht => ⟨by simp [hearRun], ht, by simp [hearRun]⟩
  | q :: R, t, ht => by
    have e : hearRun up (q :: R) t = if passE up q t ≠ 0 then (passE up q t, [], []) else ((hearRun up R (passT up q t)).1, passM up q t :: (hearRun up R (passT up q t)).2.1, (hearRun up R (passT up q t)).2.2) := rfl
    rw [e]
    by_cases h : passE up q t = 0
    · rw [if_neg (by rw [h]; simp)]
      obtain ⟨⟨_, h1⟩, _, h2⟩ := pass_small h
      obtain ⟨k1, k2, k3⟩ := hearRun_small up R (passT up q t) h2
      refine ⟨fun x hx => ?_, k2, by simp only [List.length_cons]; omega⟩
      rcases List.mem_cons.1 hx with rfl | hx
      · exact h1
      · exact k1 x hx
    · rw [if_pos h]
      exact ⟨by simp, ⟨by simp, by simp⟩, by simp⟩
theorem hearP_small {up : Bool} {sent heard : Int} {E : List (List Part)} {ps : List Part} {hd : Int} (hlen : E.length ≤ 1048576) (hso : OpSmall ps) : (∀ q ∈ hearP up sent heard E ps hd, q.length ≤ 1048577) ∧ (hearP up sent heard E ps hd).length ≤ 1048577 ∧ (hearT up sent heard E ps hd).length ≤ 1048577 := by
  obtain ⟨k1, k2, k3⟩ := hearRun_small up (E.drop (hd - (sent - E.length)).toNat) ps hso
  rw [List.length_drop] at k3
  unfold hearP hearT
  split
  · exact ⟨fun q hq => by have := (k1 q hq).1; omega, by omega, by have := k2.1; omega⟩
  · exact ⟨by simp, by simp, by simp⟩
set_option maxRecDepth 100000 in
set_option maxHeartbeats 8000000 in
theorem edgeHears_walk (sent heard : Int) (E : List (List Part)) (vs : List Value) (a : Option Addr) (c : Nat) (ps : List Part) (oa : Option Addr) (oc : Nat) (hd : Int) (up : Bool) (w : World) (hp : PendAt w a c E vs) (hE : ∀ q ∈ E, OpSmall q) (hlen : E.length ≤ 1048576) (hs : -9223372036854775808 ≤ sent ∧ sent ≤ 9223372036854775807) (ho : OpVal w (.slice oa ps.length oc) ps) (hso : OpSmall ps) (_ : -9223372036854775808 ≤ hd ∧ hd ≤ 9223372036854775807) (hT : Tabs w) :
    Calls Tryd.prog 7 #[.agg #[.int .i64 sent, .int .i64 heard, .slice a E.length c], .slice oa ps.length oc, .int .i64 hd, .bool up] w fun r w' => r = .returned (.bool true) ∧ Below w.heap.size w w' := by
  have HB := (Below.refl w.heap.size w).alloc (Nat.le_refl _) (.cells #[.int .i64 sent, .int .i64 heard, .slice a E.length c] 26)
  have hx := heap_alloc_new w (.cells #[.int .i64 sent, .int .i64 heard, .slice a E.length c] 26)
  have cC := edgeCopy_any sent heard E vs a c _ (hp.below HB) (fun q hq => (hE q hq).1) hlen
  obtain ⟨x0, xl0, _⟩ := blk hx
  have hop : OpAt w oa ps := by
    obtain ⟨a', c', he, h, _, _⟩ := ho.form
    simp only [Value.slice.injEq, true_and] at he
    obtain ⟨rfl, rfl⟩ := he
    exact h
  go_enter Tryd.func7, Tryd.ntmps7
  go_wp2_with fail
  refine cC.mono ?_
  generalize (w.alloc (.cells #[.int .i64 sent, .int .i64 heard, .slice a E.length c] 26)) = w0 at *
  rintro r w1 ⟨ca, cc, rfl, ⟨us, hrow⟩, hbn⟩
  replace hrow := hrow.base HB.size
  replace HB := below_two HB hbn (Nat.le_refl _)
  replace hx := (hbn.block _ xl0).trans hx
  clear cC x0 xl0 hbn
  have hba := (Below.refl w1.heap.size w1).alloc (Nat.le_refl _) (.cells #[.int .i64 sent, .int .i64 heard, .slice ca E.length cc] 26)
  have hcb := heap_alloc_new w1 (.cells #[.int .i64 sent, .int .i64 heard, .slice ca E.length cc] 26)
  replace hrow := hrow.below hba
  replace hx := row_old hx (.cells #[.int .i64 sent, .int .i64 heard, .slice ca E.length cc] 26)
  replace HB := below_two HB hba (Nat.le_refl _)
  clear hba
  have cO := opCopy_any ps oa oc _ (hop.below HB) hso.1
  go_wp2_with fail
  refine cO.mono ?_
  generalize (w1.alloc (.cells #[.int .i64 sent, .int .i64 heard, .slice ca E.length cc] 26)) = w2 at *
  rintro r w3 ⟨u, rfl, hou, hbn⟩
  replace hou := own_base hou HB.size
  replace HB := below_two HB hbn (Nat.le_refl _)
  replace hx := (hbn.block _ (Array.getElem?_eq_some_iff.1 hx).1).trans hx
  replace hcb := (hbn.block _ (Array.getElem?_eq_some_iff.1 hcb).1).trans hcb
  replace hrow := hrow.below hbn
  obtain ⟨ka, kc, rfl⟩ := own_form hou
  clear cO hbn
  obtain ⟨c0, cl0, _⟩ := blk hcb
  have hdd : Below w3.heap.size w3 w3.drew := ⟨rfl, rfl, rfl, Nat.le_refl _, fun _ _ => rfl⟩
  have cS := fun (wx : World) (hx : Below w3.heap.size w3 wx) => hear_all up sent heard E us ca cc ps (.slice ka ps.length kc) hd wx ((RowOps.pend hrow).below hx) hE hlen hs (opVal_own (own_below hou hx)) hso (hT.below (below_two HB hx (Nat.le_refl _)))
  have cT := fun (wx : World) (hx : Below w.heap.size w wx) => heardOf_all up sent heard E vs a c ps _ hd wx (hp.below hx) hE hlen hs (ho.below hx) hso (hT.below hx)
  obtain ⟨hb1, hb2, hb3⟩ := hearP_small (up := up) (sent := sent) (heard := heard) (hd := hd) hlen hso
  generalize hearS up sent heard E ps hd = sS at *
  generalize hearH up sent heard E ps hd = sH at *
  generalize hearP up sent heard E ps hd = sE at *
  generalize hearT up sent heard E ps hd = sT at *
  generalize hearX up sent heard E ps hd = er at *
  have cS1 := cS w3 (Below.refl _ _)
  clear cS hdd
  generalize hpl : ps.length = pn at *
  have HPN : Hid (ps.length = pn) := hpl
  clear hpl
  go_wp2_with fail
  refine cS1.mono ?_
  rintro r w4 ⟨ra, rc, tv, rfl, ⟨rus, hrr⟩, htt, hbn⟩
  replace hrr := hrr.base HB.size
  replace htt := own_base htt HB.size
  obtain ⟨ta, tc, rfl⟩ := own_form htt
  replace HB := below_two HB hbn (Nat.le_refl _)
  replace hx := (hbn.block _ (Array.getElem?_eq_some_iff.1 hx).1).trans hx
  replace hcb := (hbn.block _ cl0).trans hcb
  replace hrow := hrow.below hbn
  replace hou := own_below hou hbn
  clear cS1 c0 cl0 hbn
  have hN := heap_alloc_new w4 (.cells #[.int .i64 sS, .int .i64 sH, .slice ra sE.length rc] 26)
  have hba := (Below.refl w4.heap.size w4).alloc (Nat.le_refl _) (.cells #[.int .i64 sS, .int .i64 sH, .slice ra sE.length rc] 26)
  replace hrr := hrr.below hba
  replace htt := own_below htt hba
  replace hrow := hrow.below hba
  replace hou := own_below hou hba
  replace hx := row_old hx (.cells #[.int .i64 sS, .int .i64 sH, .slice ra sE.length rc] 26)
  replace hcb := row_old hcb (.cells #[.int .i64 sS, .int .i64 sH, .slice ra sE.length rc] 26)
  replace HB := below_two HB hba (Nat.le_refl _)
  clear hba
  obtain ⟨x6, xl6, _⟩ := blk hx
  have cT6 := cT _ HB
  clear cT
  generalize htl : sT.length = tn at *
  have HTN : Hid (sT.length = tn) := htl
  clear htl
  go_wp2_with fail
  refine cT6.mono ?_
  clear x6 xl6 cT6
  generalize (w4.alloc (.cells #[.int .i64 sS, .int .i64 sH, .slice ra sE.length rc] 26)) = w6 at *
  rintro r w7 ⟨ba, bc, qv, rfl, ⟨bus, hbr⟩, hqq, hb7⟩
  obtain ⟨qa, qc, rfl⟩ := own_form hqq
  have hN8 := row_old ((hb7.block _ (Array.getElem?_eq_some_iff.1 hN).1).trans hN) (.cells #[.int .i64 sS, .int .i64 sH, .slice ba sE.length bc] 26)
  have hx8 := row_old ((hb7.block _ (Array.getElem?_eq_some_iff.1 hx).1).trans hx) (.cells #[.int .i64 sS, .int .i64 sH, .slice ba sE.length bc] 26)
  have hc8 := row_old ((hb7.block _ (Array.getElem?_eq_some_iff.1 hcb).1).trans hcb) (.cells #[.int .i64 sS, .int .i64 sH, .slice ba sE.length bc] 26)
  have hB8 := heap_alloc_new w7 (.cells #[.int .i64 sS, .int .i64 sH, .slice ba sE.length bc] 26)
  have hba := (Below.refl w7.heap.size w7).alloc (Nat.le_refl _) (.cells #[.int .i64 sS, .int .i64 sH, .slice ba sE.length bc] 26)
  have hR8 := (hrr.below hb7).below hba
  have hbr8 := hbr.below hba
  have hrow8 := (hrow.below hb7).below hba
  have htt8 := own_below (own_below htt hb7) hba
  have hqq8 := own_below hqq hba
  have hou8 := own_below (own_below hou hb7) hba
  have HB8 := below_two (below_two HB hb7 (Nat.le_refl _)) hba (Nat.le_refl _)
  clear hb7 hba hN hx hcb hrr hrow hbr htt hqq hou HB
  rw [← HTN.out] at htt8 hqq8
  rw [← HPN.out] at hou8
  obtain ⟨_, _, e3, hopT⟩ := own_opAt htt8
  obtain ⟨_, _, e4, hopQ⟩ := own_opAt hqq8
  obtain ⟨_, _, e5, hopK⟩ := own_opAt hou8
  simp only [Value.slice.injEq, true_and] at e3 e4 e5
  obtain ⟨rfl, rfl⟩ := e3
  obtain ⟨rfl, rfl⟩ := e4
  obtain ⟨rfl, rfl⟩ := e5
  obtain ⟨n8, nl8, _⟩ := blk hN8
  obtain ⟨b8, bl8, _⟩ := blk hB8
  have c1 := sameEdge_true sS sH sE rus bus ra ba rc bc _ (RowOps.pend hR8) (RowOps.pend hbr8) hb1 hb2
  clear htt8 hqq8 hou8 hR8 hbr8
  go_wp2_with fail
  refine c1.mono ?_
  generalize (w7.alloc (.cells #[.int .i64 sS, .int .i64 sH, .slice ba sE.length bc] 26)) = w8 at *
  rintro r w9 ⟨rfl, hb9⟩
  have hx9 := (hb9.block _ (Array.getElem?_eq_some_iff.1 hx8).1).trans hx8
  have hc9 := (hb9.block _ (Array.getElem?_eq_some_iff.1 hc8).1).trans hc8
  have HB9 := below_two HB8 hb9 (Nat.le_refl _)
  have c2 := sameOp_true sT ta qa tc qc w9 (hopT.below hb9) (hopQ.below hb9) (by have := HTN.out; omega)
  rw [HTN.out] at c2
  have hrow9 := hrow8.below hb9
  have hopK9 := hopK.below hb9
  clear c1 n8 nl8 b8 bl8 hb9 hx8 hc8 hrow8 hopT hopQ hopK
  go_wp2_with fail
  refine c2.mono ?_
  rintro r w10 ⟨rfl, hb10⟩
  have hx10 := (hb10.block _ (Array.getElem?_eq_some_iff.1 hx9).1).trans hx9
  have hc10 := (hb10.block _ (Array.getElem?_eq_some_iff.1 hc9).1).trans hc9
  have HB10 := below_two HB9 hb10 (Nat.le_refl _)
  have c3 := sameEdge_true sent heard E us vs ca a cc c w10 (RowOps.pend (hrow9.below hb10)) (hp.below HB10) (fun q hq => by have := (hE q hq).1; omega) (by omega)
  have hopK10 := hopK9.below hb10
  clear c2 hb10 hx9 hc9 hopK9 hrow9
  obtain ⟨x9, xl9, _⟩ := blk hx10
  obtain ⟨d9, dl9, _⟩ := blk hc10
  go_wp2_with fail
  refine c3.mono ?_
  rintro r w11 ⟨rfl, hb11⟩
  have HB11 := below_two HB10 hb11 (Nat.le_refl _)
  have c4 := sameOp_true ps ka oa kc oc w11 (hopK10.below hb11) (hop.below HB11) (by have := hso.1; omega)
  rw [HPN.out] at c4
  clear c3 x9 xl9 d9 dl9
  go_wp2_with fail
  refine c4.mono ?_
  rintro r w12 ⟨rfl, hb12⟩
  go_wp2_with fail
  go_ret
  exact ⟨by simp, below_two HB11 hb12 (Nat.le_refl _)⟩

end Go.Proofs.YtmdehfomogfmlaaDoor
