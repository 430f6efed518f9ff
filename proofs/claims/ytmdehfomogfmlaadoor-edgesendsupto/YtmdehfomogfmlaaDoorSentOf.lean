/-
  Walk: wherryref.SentOf.
-/
import Derived.Test.YtmdehfomogfmlaaDoorEdgeCopyR
import Derived.Test.YtmdehfomogfmlaaDoorEdgeMay
import Derived.Test.YtmdehfomogfmlaaDoorEdgeSend
import Derived.Test.YtmdehfomogfmlaaDoorOpFault
import Derived.Test.YtmdehfomogfmlaaDoorLensOf
namespace Go.Proofs.YtmdehfomogfmlaaDoor
open Go.RowKit Go.Lib

set_option maxRecDepth 100000 in
set_option maxHeartbeats 4000000 in
theorem sentOf_bad (sent heard : Int) (E : List (List Part)) (vs : List Value) (a : Option Addr) (c : Nat) (ps : List Part) (v : Value) (w : World) (hp : PendAt w a c E vs) (hE : ∀ q ∈ E, OpSmall q) (hlen : E.length ≤ 1048576) (hs : -9223372036854775808 ≤ sent ∧ sent ≤ 9223372036854775807) (ho : OpVal w v ps) (hso : OpSmall ps) (hT : Tabs w) (herr : sendErr sent heard E ps ≠ 0) :
    Calls Tryd.prog 30 #[.agg #[.int .i64 sent, .int .i64 heard, .slice a E.length c], v] w fun r w' => r = .returned (.tuple #[.agg #[.int .i64 0, .int .i64 0, .slice none 0 0], .int .i64 (sendErr sent heard E ps)]) ∧ Below w.heap.size w w' := by
  obtain ⟨X, hX⟩ : ∃ X, X = sendErr sent heard E ps := ⟨_, rfl⟩
  rw [← hX] at herr ⊢
  have hb1 := (Below.refl w.heap.size w).alloc (Nat.le_refl _) (.cells #[.int .i64 sent, .int .i64 heard, .slice a E.length c] 26)
  have hpar := row_old (heap_alloc_new w (.cells #[.int .i64 sent, .int .i64 heard, .slice a E.length c] 26)) (.cells #[.int .i64 0, .int .i64 0, .slice none 0 0] 26)
  have hres := heap_alloc_new (w.alloc (.cells #[.int .i64 sent, .int .i64 heard, .slice a E.length c] 26)) (.cells #[.int .i64 0, .int .i64 0, .slice none 0 0] 26)
  rw [show (w.alloc (.cells #[.int .i64 sent, .int .i64 heard, .slice a E.length c] 26)).heap.size = w.heap.size + 1 by simp] at hres
  have HB := hb1.alloc hb1.size (.cells #[.int .i64 0, .int .i64 0, .slice none 0 0] 26)
  obtain ⟨va, vc, rfl, hop, _, _⟩ := ho.form
  have hps := hso.1
  have hst : ∀ p ∈ ps, p.text.size ≤ 70368744177664 := fun p hp => by have := (hso.2 p hp).2.2; omega
  have cM := edgeMay_any sent heard E vs a c _ (hp.below HB) hE hlen hs (hT.below HB)
  obtain ⟨p0, pl0, _⟩ := blk hpar
  have HS : Hid (X = if edgeOkB sent heard E = false then 9 else if opErr ps ≠ 0 then opErr ps else if fitsB E ps = false then 10 else if sent = 1048576 then 8 else 0) := by
    show _ = _
    rw [hX]
    unfold sendErr edgeBoth edgeErr
    cases edgeOkB sent heard E with
    | false => simp
    | true =>
      by_cases h : opErr ps = 0
      · simp [h]
      · simp [h]
  clear hX hb1
  go_enter Tryd.func30, Tryd.ntmps30
  go_wp2_with fail
  refine cM.mono ?_
  generalize ((w.alloc (.cells #[.int .i64 sent, .int .i64 heard, .slice a E.length c] 26)).alloc (.cells #[.int .i64 0, .int .i64 0, .slice none 0 0] 26)) = w0 at *
  rintro r w1 ⟨rfl, hbn⟩
  replace HB := below_two HB hbn (Nat.le_refl _)
  replace hpar := (hbn.block _ (Array.getElem?_eq_some_iff.1 hpar).1).trans hpar
  replace hres := (hbn.block _ (Array.getElem?_eq_some_iff.1 hres).1).trans hres
  clear hbn
  clear cM p0 pl0
  cases hB : edgeOkB sent heard E with
  | false =>
    have HX : Hid (X = 9) := by show _ = _; rw [HS.out, if_pos hB]
    clear HS
    obtain ⟨r9, rl9, rf9⟩ := blk hres
    obtain ⟨hfin, hch⟩ := puts_all hres [.int .i64 0, .int .i64 0, .slice none 0 0] rfl
    simp only [puts, Nat.zero_add, Nat.reduceAdd] at hfin hch
    have HB9 := HB.trans (hch.below (fun k e => by omega) HB.size)
    clear hch
    go_wp2_with fail
    generalize (((w1.setCell ⟨w.heap.size + 1, 0, none⟩ (.int .i64 0)).setCell ⟨w.heap.size + 1, 1, none⟩ (.int .i64 0)).setCell ⟨w.heap.size + 1, 2, none⟩ (.slice none 0 0)) = w9 at *
    obtain ⟨t9, _, _⟩ := blk hfin
    exact bodyPost_ret (v := .tuple #[.agg #[.int .i64 0, .int .i64 0, .slice none 0 0], .int .i64 9]) (by simp [results, Tryd.results30, go_sem, t9]) rfl ⟨by rw [HX.out], HB9⟩
  | true =>
    rw [if_neg (by rw [hB]; simp)] at HS
    have cF := opFault_any ps va vc w1 (hop.below HB) (by omega) hst (hT.below HB)
    go_wp2_with fail
    refine cF.mono ?_
    rintro r w2 ⟨rfl, hbn⟩
    replace HB := below_two HB hbn (Nat.le_refl _)
    replace hpar := (hbn.block _ (Array.getElem?_eq_some_iff.1 hpar).1).trans hpar
    replace hres := (hbn.block _ (Array.getElem?_eq_some_iff.1 hres).1).trans hres
    clear hbn
    clear cF
    by_cases h1 : opErr ps = 0
    · rw [if_neg (by rw [h1]; simp)] at HS
      rw [h1]
      obtain ⟨p2, pl2, _⟩ := blk hpar
      by_cases hn : 0 < E.length
      · have hnz : (0 : Int) < (E.length : Int) := by omega
        have hlv : E.length - 1 < vs.length := by rw [hp.len]; omega
        have hov := hp.each (E.length - 1) (by omega) hlv
        rcases hp.vals with h0 | ⟨b, off, rfl, hbl, hcell⟩
        · rw [h0] at hlv; simp at hlv
        · have hc := hcell (E.length - 1) hlv
          obtain ⟨qa, qc, eq, hqop, _, _⟩ := hov.form
          rw [eq] at hc
          have hql := hE _ (List.getElem_mem (show E.length - 1 < E.length by omega))
          have hfit : fitsB E ps = decide ((lens ps).1 = (lens E[E.length - 1]).2) := by
            have := fitsB_succ E (E.length - 1) (by omega) ps
            rwa [show E.length - 1 + 1 = E.length by omega, List.take_length] at this
          rw [hfit] at HS
          have c1 := lengthsOf_any ps va vc w2 (hop.below HB) (by omega) hst
          have c2 := fun (wx : World) (hx : Below w.heap.size w wx) => lengthsOf_any E[E.length - 1] qa qc wx (hqop.below hx) (by have := hql.1; omega) (fun p hp => by have := (hql.2 p hp).2.2; omega)
          clear hcell eq hov hfit
          generalize E[E.length - 1] = q at *
          go_wp2_with fail
          refine c1.mono ?_
          rintro r w3 ⟨rfl, hbn⟩
          replace HB := below_two HB hbn (Nat.le_refl _)
          replace hpar := (hbn.block _ (Array.getElem?_eq_some_iff.1 hpar).1).trans hpar
          replace hres := (hbn.block _ (Array.getElem?_eq_some_iff.1 hres).1).trans hres
          clear hbn
          clear c1 p2 pl2
          obtain ⟨p3, pl3, _⟩ := blk hpar
          have hq3 : w3.cell? ⟨b, off + (E.length - 1), none⟩ = some (.slice qa q.length qc) := (HB.cell (p := ⟨b, off + (E.length - 1), none⟩) hbl).trans hc
          have c2' := c2 w3 HB
          have e1 : (E.length : Int) - 1 = ((E.length - 1 : Nat) : Int) := by omega
          have hi1 : ((E.length : Int) - 1) < (E.length : Int) := by omega
          have hi0 : (0 : Int) ≤ (E.length : Int) - 1 := by omega
          have e2 : ((E.length : Int) - 1).toNat = E.length - 1 := by omega
          clear c2
          go_wp2_with fail
          refine c2'.mono ?_
          rintro r w4 ⟨rfl, hbn⟩
          replace HB := below_two HB hbn (Nat.le_refl _)
          replace hpar := (hbn.block _ (Array.getElem?_eq_some_iff.1 hpar).1).trans hpar
          replace hres := (hbn.block _ (Array.getElem?_eq_some_iff.1 hres).1).trans hres
          clear hbn
          clear c2' p3 pl3 hq3 e1 e2 hi1 hi0
          obtain ⟨p4, pl4, _⟩ := blk hpar
          by_cases h2 : (lens ps).1 = (lens q).2
          · have g2 : ((lens ps).1 != (lens q).2) = false := by simpa using h2
            rw [if_neg (by simpa using h2)] at HS
            by_cases h3 : sent = 1048576
            · have HX : Hid (X = 8) := by show _ = _; rw [HS.out, if_pos h3]
              subst h3
              clear HS
              obtain ⟨r9, rl9, rf9⟩ := blk hres
              obtain ⟨hfin, hch⟩ := puts_all hres [.int .i64 0, .int .i64 0, .slice none 0 0] rfl
              simp only [puts, Nat.zero_add, Nat.reduceAdd] at hfin hch
              have HB9 := HB.trans (hch.below (fun k e => by omega) HB.size)
              clear hch
              go_wp2_with fail
              generalize (((w4.setCell ⟨w.heap.size + 1, 0, none⟩ (.int .i64 0)).setCell ⟨w.heap.size + 1, 1, none⟩ (.int .i64 0)).setCell ⟨w.heap.size + 1, 2, none⟩ (.slice none 0 0)) = w9 at *
              obtain ⟨t9, _, _⟩ := blk hfin
              exact bodyPost_ret (v := .tuple #[.agg #[.int .i64 0, .int .i64 0, .slice none 0 0], .int .i64 8]) (by simp [results, Tryd.results30, go_sem, t9]) rfl ⟨by rw [HX.out], HB9⟩
            · exact absurd (by rw [HS.out, if_neg h3]) herr
          · have g2 : ((lens ps).1 != (lens q).2) = true := by simpa using h2
            have HX : Hid (X = 10) := by show _ = _; rw [HS.out, if_pos (by simpa using h2)]
            clear HS
            obtain ⟨r9, rl9, rf9⟩ := blk hres
            obtain ⟨hfin, hch⟩ := puts_all hres [.int .i64 0, .int .i64 0, .slice none 0 0] rfl
            simp only [puts, Nat.zero_add, Nat.reduceAdd] at hfin hch
            have HB9 := HB.trans (hch.below (fun k e => by omega) HB.size)
            clear hch
            go_wp2_with fail
            generalize (((w4.setCell ⟨w.heap.size + 1, 0, none⟩ (.int .i64 0)).setCell ⟨w.heap.size + 1, 1, none⟩ (.int .i64 0)).setCell ⟨w.heap.size + 1, 2, none⟩ (.slice none 0 0)) = w9 at *
            obtain ⟨t9, _, _⟩ := blk hfin
            exact bodyPost_ret (v := .tuple #[.agg #[.int .i64 0, .int .i64 0, .slice none 0 0], .int .i64 10]) (by simp [results, Tryd.results30, go_sem, t9]) rfl ⟨by rw [HX.out], HB9⟩
      · have hE0 : E = [] := List.length_eq_zero_iff.1 (by omega)
        subst hE0
        rw [if_neg (by simp [fitsB])] at HS
        simp only [List.length_nil] at p2
        by_cases h3 : sent = 1048576
        · have HX : Hid (X = 8) := by show _ = _; rw [HS.out, if_pos h3]
          subst h3
          clear HS
          obtain ⟨r9, rl9, rf9⟩ := blk hres
          obtain ⟨hfin, hch⟩ := puts_all hres [.int .i64 0, .int .i64 0, .slice none 0 0] rfl
          simp only [puts, Nat.zero_add, Nat.reduceAdd] at hfin hch
          have HB9 := HB.trans (hch.below (fun k e => by omega) HB.size)
          clear hch
          go_wp2_with fail
          generalize (((w2.setCell ⟨w.heap.size + 1, 0, none⟩ (.int .i64 0)).setCell ⟨w.heap.size + 1, 1, none⟩ (.int .i64 0)).setCell ⟨w.heap.size + 1, 2, none⟩ (.slice none 0 0)) = w9 at *
          obtain ⟨t9, _, _⟩ := blk hfin
          exact bodyPost_ret (v := .tuple #[.agg #[.int .i64 0, .int .i64 0, .slice none 0 0], .int .i64 8]) (by simp [results, Tryd.results30, go_sem, t9]) rfl ⟨by rw [HX.out], HB9⟩
        · exact absurd (by rw [HS.out, if_neg h3]) herr
    · have g1 : (opErr ps != 0) = true := by simpa using h1
      have HX : Hid (X = opErr ps) := by show _ = _; rw [HS.out, if_pos h1]
      clear HS
      generalize opErr ps = er at *
      obtain ⟨r9, rl9, rf9⟩ := blk hres
      obtain ⟨hfin, hch⟩ := puts_all hres [.int .i64 0, .int .i64 0, .slice none 0 0] rfl
      simp only [puts, Nat.zero_add, Nat.reduceAdd] at hfin hch
      have HB9 := HB.trans (hch.below (fun k e => by omega) HB.size)
      clear hch
      go_wp2_with fail
      generalize (((w2.setCell ⟨w.heap.size + 1, 0, none⟩ (.int .i64 0)).setCell ⟨w.heap.size + 1, 1, none⟩ (.int .i64 0)).setCell ⟨w.heap.size + 1, 2, none⟩ (.slice none 0 0)) = w9 at *
      obtain ⟨t9, _, _⟩ := blk hfin
      exact bodyPost_ret (v := .tuple #[.agg #[.int .i64 0, .int .i64 0, .slice none 0 0], .int .i64 er]) (by simp [results, Tryd.results30, go_sem, t9]) rfl ⟨by rw [HX.out], HB9⟩

set_option maxRecDepth 100000 in
set_option maxHeartbeats 4000000 in
theorem sentOf_ok (sent heard : Int) (E : List (List Part)) (vs : List Value) (a : Option Addr) (c : Nat) (ps : List Part) (v : Value) (w : World) (hp : PendAt w a c E vs) (hE : ∀ q ∈ E, OpSmall q) (hlen : E.length ≤ 1048576) (hs : 0 ≤ sent ∧ sent ≤ 1048576) (ho : OpVal w v ps) (hso : OpSmall ps) (hT : Tabs w) (herr : sendErr sent heard E ps = 0) :
    Calls Tryd.prog 30 #[.agg #[.int .i64 sent, .int .i64 heard, .slice a E.length c], v] w fun r w' => ∃ a' c', r = .returned (.tuple #[.agg #[.int .i64 (sent + 1), .int .i64 heard, .slice a' (E.length + 1) c'], .int .i64 0]) ∧ (∃ us, RowOps w' w.heap.size (.slice a' (E.length + 1) c') (E ++ [ps]) us) ∧ Below w.heap.size w w' := by
  obtain ⟨i0, hi, hz0, hz1, hz2⟩ := info_parts info_opR
  have hb1 := (Below.refl w.heap.size w).alloc (Nat.le_refl _) (.cells #[.int .i64 sent, .int .i64 heard, .slice a E.length c] 26)
  have hpar := row_old (heap_alloc_new w (.cells #[.int .i64 sent, .int .i64 heard, .slice a E.length c] 26)) (.cells #[.int .i64 0, .int .i64 0, .slice none 0 0] 26)
  have hres := heap_alloc_new (w.alloc (.cells #[.int .i64 sent, .int .i64 heard, .slice a E.length c] 26)) (.cells #[.int .i64 0, .int .i64 0, .slice none 0 0] 26)
  rw [show (w.alloc (.cells #[.int .i64 sent, .int .i64 heard, .slice a E.length c] 26)).heap.size = w.heap.size + 1 by simp] at hres
  have HB := hb1.alloc hb1.size (.cells #[.int .i64 0, .int .i64 0, .slice none 0 0] 26)
  obtain ⟨va, vc, rfl, hop, _, _⟩ := ho.form
  have hps := hso.1
  have hst : ∀ p ∈ ps, p.text.size ≤ 70368744177664 := fun p hp => by have := (hso.2 p hp).2.2; omega
  have cM := edgeMay_any sent heard E vs a c _ (hp.below HB) hE hlen (by omega) (hT.below HB)
  obtain ⟨p0, pl0, _⟩ := blk hpar
  have hk : edgeOkB sent heard E = true ∧ opErr ps = 0 ∧ fitsB E ps = true ∧ sent ≠ 1048576 := by
    unfold sendErr edgeBoth edgeErr at herr
    cases hB : edgeOkB sent heard E with
    | false => rw [hB] at herr; simp at herr
    | true =>
      rw [hB] at herr
      by_cases h : opErr ps = 0
      · cases hF : fitsB E ps with
        | false => rw [hF] at herr; simp [h] at herr
        | true =>
          rw [hF] at herr
          simp [h] at herr
          exact ⟨rfl, h, rfl, herr⟩
      · simp [h] at herr
  obtain ⟨hB, hF, hfit, hns⟩ := hk
  rw [hB] at cM
  clear herr hb1
  have hsz : ¬ (1048576 : Int) ≤ sent := by omega
  go_enter Tryd.func30, Tryd.ntmps30
  go_wp2_with fail
  refine cM.mono ?_
  generalize ((w.alloc (.cells #[.int .i64 sent, .int .i64 heard, .slice a E.length c] 26)).alloc (.cells #[.int .i64 0, .int .i64 0, .slice none 0 0] 26)) = w0 at *
  rintro r w1 ⟨rfl, hbn⟩
  replace HB := below_two HB hbn (Nat.le_refl _)
  replace hpar := (hbn.block _ (Array.getElem?_eq_some_iff.1 hpar).1).trans hpar
  replace hres := (hbn.block _ (Array.getElem?_eq_some_iff.1 hres).1).trans hres
  clear hbn
  clear cM p0 pl0
  have cF := opFault_any ps va vc w1 (hop.below HB) (by omega) hst (hT.below HB)
  rw [hF] at cF
  go_wp2_with fail
  refine cF.mono ?_
  rintro r w2 ⟨rfl, hbn⟩
  replace HB := below_two HB hbn (Nat.le_refl _)
  replace hpar := (hbn.block _ (Array.getElem?_eq_some_iff.1 hpar).1).trans hpar
  replace hres := (hbn.block _ (Array.getElem?_eq_some_iff.1 hres).1).trans hres
  clear hbn
  clear cF
  obtain ⟨p2, pl2, _⟩ := blk hpar
  have cE := fun (wx : World) (hx : Below w.heap.size w wx) => edgeCopy_any sent heard E vs a c wx (hp.below hx) (fun q hq => (hE q hq).1) hlen
  by_cases hn : 0 < E.length
  · have hnz : (0 : Int) < (E.length : Int) := by omega
    have hlv : E.length - 1 < vs.length := by rw [hp.len]; omega
    have hov := hp.each (E.length - 1) (by omega) hlv
    rcases hp.vals with h0 | ⟨b, off, rfl, hbl, hcell⟩
    · rw [h0] at hlv; simp at hlv
    · have hc := hcell (E.length - 1) hlv
      obtain ⟨qa, qc, eq, hqop, _, _⟩ := hov.form
      rw [eq] at hc
      have hql := hE _ (List.getElem_mem (show E.length - 1 < E.length by omega))
      have hfit2 : fitsB E ps = decide ((lens ps).1 = (lens E[E.length - 1]).2) := by
        have := fitsB_succ E (E.length - 1) (by omega) ps
        rwa [show E.length - 1 + 1 = E.length by omega, List.take_length] at this
      rw [hfit2] at hfit
      have hll : (lens ps).1 = (lens E[E.length - 1]).2 := of_decide_eq_true hfit
      have c1 := lengthsOf_any ps va vc w2 (hop.below HB) (by omega) hst
      have c2 := fun (wx : World) (hx : Below w.heap.size w wx) => lengthsOf_any E[E.length - 1] qa qc wx (hqop.below hx) (by have := hql.1; omega) (fun p hp => by have := (hql.2 p hp).2.2; omega)
      rw [← hll] at c2
      clear hcell eq hov hfit2 hfit hll
      generalize E[E.length - 1] = q at *
      generalize (lens ps).1 = lf at *
      generalize (lens q).1 = lq at *
      go_wp2_with fail
      refine c1.mono ?_
      rintro r w3 ⟨rfl, hbn⟩
      replace HB := below_two HB hbn (Nat.le_refl _)
      replace hpar := (hbn.block _ (Array.getElem?_eq_some_iff.1 hpar).1).trans hpar
      replace hres := (hbn.block _ (Array.getElem?_eq_some_iff.1 hres).1).trans hres
      clear hbn
      clear c1 p2 pl2
      obtain ⟨p3, pl3, _⟩ := blk hpar
      have hq3 : w3.cell? ⟨b, off + (E.length - 1), none⟩ = some (.slice qa q.length qc) := (HB.cell (p := ⟨b, off + (E.length - 1), none⟩) hbl).trans hc
      have c2' := c2 w3 HB
      have hi1 : ((E.length : Int) - 1) < (E.length : Int) := by omega
      have hi0 : (0 : Int) ≤ (E.length : Int) - 1 := by omega
      have e2 : ((E.length : Int) - 1).toNat = E.length - 1 := by omega
      clear c2
      go_wp2_with fail
      refine c2'.mono ?_
      rintro r w7 ⟨rfl, hbn⟩
      replace HB := below_two HB hbn (Nat.le_refl _)
      replace hpar := (hbn.block _ (Array.getElem?_eq_some_iff.1 hpar).1).trans hpar
      replace hres := (hbn.block _ (Array.getElem?_eq_some_iff.1 hres).1).trans hres
      clear hbn
      clear c2' p3 pl3 hq3 e2 hi1 hi0 hc
      have hpar0 := hpar
      obtain ⟨p7, pl7, _⟩ := blk hpar
      have cE1 := cE w7 HB
      have hzr := (Array.getElem?_eq_some_iff.1 hres).1
      clear cE
      go_wp2_with fail
      refine cE1.mono ?_
      rintro r w5 ⟨xa, xc, rfl, ⟨us, hrow⟩, hbn⟩
      have hzl : w.heap.size + 1 < w5.heap.size := Nat.lt_of_lt_of_le hzr hbn.size
      replace hrow := hrow.base HB.size
      replace HB := below_two HB hbn (Nat.le_refl _)
      replace hpar := row_old ((hbn.block _ (Array.getElem?_eq_some_iff.1 hpar).1).trans hpar) (.cells #[.int .i64 (sent + 1), .int .i64 heard, .slice xa E.length xc] 26)
      replace hres := row_old ((hbn.block _ (Array.getElem?_eq_some_iff.1 hres).1).trans hres) (.cells #[.int .i64 (sent + 1), .int .i64 heard, .slice xa E.length xc] 26)
      have hpar5 := (hbn.block _ (Array.getElem?_eq_some_iff.1 hpar0).1).trans hpar0
      clear hbn cE1 hzr hpar0
      obtain ⟨p5, pl5, _⟩ := blk hpar5
      have hloc := heap_alloc_new w5 (.cells #[.int .i64 (sent + 1), .int .i64 heard, .slice xa E.length xc] 26)
      have hba := (Below.refl w5.heap.size w5).alloc (Nat.le_refl _) (.cells #[.int .i64 (sent + 1), .int .i64 heard, .slice xa E.length xc] 26)
      replace hrow := hrow.below hba
      replace HB := below_two HB hba (Nat.le_refl _)
      clear hba
      obtain ⟨l6, ll6, lf6⟩ := blk hloc
      have cO := opCopy_any ps va vc (w5.alloc (.cells #[.int .i64 (sent + 1), .int .i64 heard, .slice xa E.length xc] 26)).drew (hop.below (HB.trans ⟨rfl, rfl, rfl, Nat.le_refl _, fun _ _ => rfl⟩)) hps
      have hrw := hrow.row
      have hrl := hrow.len
      generalize hpl : ps.length = pn at *
      have HPN : Hid (ps.length = pn) := hpl
      clear hpl
      go_wp2_with fail
      clear p5 pl5 hpar5
      generalize (w5.alloc (.cells #[.int .i64 (sent + 1), .int .i64 heard, .slice xa E.length xc] 26)) = w6 at *
      have hlocd : w6.drew.heap[w5.heap.size]? = some (.cells #[.int .i64 (sent + 1), .int .i64 heard, .slice xa E.length xc] 26 (0, 0)) := hloc
      have hz6 := HB.size
      go_region_law (first | (go_simp; go_at_call 29; with_reducible refine Calls.mono cO ?_; rintro e wz ⟨u, rfl, hou, hbz⟩; have hlz := (hbz.block _ (Array.getElem?_eq_some_iff.1 hlocd).1).trans hlocd; have hbkz := blk hlz; obtain ⟨lz, llz, lfz⟩ := hbkz; have hof := own_form hou; obtain ⟨ua, uc, rfl⟩ := hof; have hrz := own_below (own_drew hrw) hbz) | (refine step_append_lies _ (by rfl) _ _ _ (by rfl) w.heap.size 31 i0 _ 1 24 Tryd.underlying24 hi hz0 hz1 hz2 rfl (by omega) (.slice xa E.length xc) E.length us (by rfl) (hrz.alloc _) ⟨wz.heap.size, 0, none⟩ 1 1 [.slice ua pn uc] (by rfl) (by rfl) (World.news_of_block (cs := #[.slice ua pn uc]) (t := 31) (fr := (0, 0)) (heap_alloc_new wz _)) (by simp [Value.oneCell']) (by omega) (by unfold maxLen; omega) (by omega) (by have := hbz.size; have : w6.drew.heap.size = w6.heap.size := rfl; simp; omega) (wz.heap.size + 1) (by simp) ?_; intro g1 cap1 w4 hown4 hgr4 hat4 hlt4; have blk4 := row_kept (hrz.alloc _) (row_old hlz _) (by decide) hgr4; have hbk4 := blk blk4; obtain ⟨l4, ll4, lf4⟩ := hbk4))
      all_goals
        have hzz : w6.heap.size ≤ wz.heap.size := hbz.size
        have hloc5 : (w4.setCell ⟨w5.heap.size, 2, none⟩ (.slice (some ⟨g1, 0, none⟩) (E.length + 1) cap1)).heap[w5.heap.size]? = some (.cells #[.int .i64 (sent + 1), .int .i64 heard, .slice (some ⟨g1, 0, none⟩) (E.length + 1) cap1] 26 (0, 0)) := (blk_put blk4 2 (.slice (some ⟨g1, 0, none⟩) (E.length + 1) cap1)).1
        have hs5 := (blk_put blk4 2 (.slice (some ⟨g1, 0, none⟩) (E.length + 1) cap1)).2
        have hres4 := row_kept (hrz.alloc _) (row_old ((hbz.block _ (Array.getElem?_eq_some_iff.1 hres).1).trans hres) _) (by decide) hgr4
        have hres5 := hs5.row hres4 (by omega)
        have hdd : Below w6.heap.size w6 w6.drew := ⟨rfl, rfl, rfl, Nat.le_refl _, fun _ _ => rfl⟩
        have hrowz := hrow.below (below_two hdd hbz (Nat.le_refl _))
        have hou' := own_base hou (show w.heap.size ≤ w6.drew.heap.size from hz6)
        rw [← HPN.out] at hou'
        have hown4' : w4.ownsRow w.heap.size 31 1 (.slice (some ⟨g1, 0, none⟩) (E.length + 1) cap1) (E.length + 1) (us ++ [.slice ua ps.length uc]) := by rw [HPN.out]; exact hown4
        rw [← HPN.out] at hgr4
        have hrow4 := (hrowz.app hou' hown4' hgr4).stored blk4 (by decide) (by decide) hs5
        have HB4 : Below w.heap.size w w4 := (((below_two HB (below_two hdd hbz (Nat.le_refl _)) (Nat.le_refl _)).alloc (by omega) _).grown hgr4 (by simp; omega) (fun k e => (hrw.lt k e).1))
        have HB5 := HB4.trans (hs5.below (B := w.heap.size) (fun k e => by omega) HB4.size)
        obtain ⟨l5, ll5, lf5⟩ := blk hloc5
        obtain ⟨r5, rl5, rf5⟩ := blk hres5
        obtain ⟨hfin, hch⟩ := puts_all hres5 [.int .i64 (sent + 1), .int .i64 heard, .slice (some ⟨g1, 0, none⟩) (E.length + 1) cap1] rfl
        simp only [puts, Nat.zero_add, Nat.reduceAdd] at hfin hch
        have hrow9 := hrow4.stored hres5 (by decide) (by decide) hch
        have HB9 := HB5.trans (hch.below (B := w.heap.size) (fun k e => by omega) HB5.size)
        clear hrz hown4 hgr4 hat4 blk4 hs5 hrowz hou hou' hown4' hbz lz llz lfz hlz hrow4 HB4 HB5 hch hres4 hres5 hloc5 hdd
        go_wp2_with fail
        generalize ((((w4.setCell ⟨w5.heap.size, 2, none⟩ (.slice (some ⟨g1, 0, none⟩) (E.length + 1) cap1)).setCell ⟨w.heap.size + 1, 0, none⟩ (.int .i64 (sent + 1))).setCell ⟨w.heap.size + 1, 1, none⟩ (.int .i64 heard)).setCell ⟨w.heap.size + 1, 2, none⟩ (.slice (some ⟨g1, 0, none⟩) (E.length + 1) cap1)) = w9 at *
        obtain ⟨t9, _, _⟩ := blk hfin
        exact bodyPost_ret (v := .tuple #[.agg #[.int .i64 (sent + 1), .int .i64 heard, .slice (some ⟨g1, 0, none⟩) (E.length + 1) cap1], .int .i64 0]) (by simp [results, Tryd.results30, go_sem, t9]) rfl ⟨_, _, rfl, ⟨_, hrow9⟩, HB9⟩
  · have hE0 : E = [] := List.length_eq_zero_iff.1 (by omega)
    have hnz : ¬ (0 : Int) < (E.length : Int) := by omega
    clear hE0
    have hpar0 := hpar
    have cE1 := cE w2 HB
    have hzr := (Array.getElem?_eq_some_iff.1 hres).1
    clear cE
    go_wp2_with fail
    refine cE1.mono ?_
    rintro r w5 ⟨xa, xc, rfl, ⟨us, hrow⟩, hbn⟩
    have hzl : w.heap.size + 1 < w5.heap.size := Nat.lt_of_lt_of_le hzr hbn.size
    replace hrow := hrow.base HB.size
    replace HB := below_two HB hbn (Nat.le_refl _)
    replace hpar := row_old ((hbn.block _ (Array.getElem?_eq_some_iff.1 hpar).1).trans hpar) (.cells #[.int .i64 (sent + 1), .int .i64 heard, .slice xa E.length xc] 26)
    replace hres := row_old ((hbn.block _ (Array.getElem?_eq_some_iff.1 hres).1).trans hres) (.cells #[.int .i64 (sent + 1), .int .i64 heard, .slice xa E.length xc] 26)
    have hpar5 := (hbn.block _ (Array.getElem?_eq_some_iff.1 hpar0).1).trans hpar0
    clear hbn cE1 hzr hpar0
    obtain ⟨p5, pl5, _⟩ := blk hpar5
    have hloc := heap_alloc_new w5 (.cells #[.int .i64 (sent + 1), .int .i64 heard, .slice xa E.length xc] 26)
    have hba := (Below.refl w5.heap.size w5).alloc (Nat.le_refl _) (.cells #[.int .i64 (sent + 1), .int .i64 heard, .slice xa E.length xc] 26)
    replace hrow := hrow.below hba
    replace HB := below_two HB hba (Nat.le_refl _)
    clear hba
    obtain ⟨l6, ll6, lf6⟩ := blk hloc
    have cO := opCopy_any ps va vc (w5.alloc (.cells #[.int .i64 (sent + 1), .int .i64 heard, .slice xa E.length xc] 26)).drew (hop.below (HB.trans ⟨rfl, rfl, rfl, Nat.le_refl _, fun _ _ => rfl⟩)) hps
    have hrw := hrow.row
    have hrl := hrow.len
    generalize hpl : ps.length = pn at *
    have HPN : Hid (ps.length = pn) := hpl
    clear hpl
    go_wp2_with fail
    clear p5 pl5 hpar5
    generalize (w5.alloc (.cells #[.int .i64 (sent + 1), .int .i64 heard, .slice xa E.length xc] 26)) = w6 at *
    have hlocd : w6.drew.heap[w5.heap.size]? = some (.cells #[.int .i64 (sent + 1), .int .i64 heard, .slice xa E.length xc] 26 (0, 0)) := hloc
    have hz6 := HB.size
    go_region_law (first | (go_simp; go_at_call 29; with_reducible refine Calls.mono cO ?_; rintro e wz ⟨u, rfl, hou, hbz⟩; have hlz := (hbz.block _ (Array.getElem?_eq_some_iff.1 hlocd).1).trans hlocd; have hbkz := blk hlz; obtain ⟨lz, llz, lfz⟩ := hbkz; have hof := own_form hou; obtain ⟨ua, uc, rfl⟩ := hof; have hrz := own_below (own_drew hrw) hbz) | (refine step_append_lies _ (by rfl) _ _ _ (by rfl) w.heap.size 31 i0 _ 1 24 Tryd.underlying24 hi hz0 hz1 hz2 rfl (by omega) (.slice xa E.length xc) E.length us (by rfl) (hrz.alloc _) ⟨wz.heap.size, 0, none⟩ 1 1 [.slice ua pn uc] (by rfl) (by rfl) (World.news_of_block (cs := #[.slice ua pn uc]) (t := 31) (fr := (0, 0)) (heap_alloc_new wz _)) (by simp [Value.oneCell']) (by omega) (by unfold maxLen; omega) (by omega) (by have := hbz.size; have : w6.drew.heap.size = w6.heap.size := rfl; simp; omega) (wz.heap.size + 1) (by simp) ?_; intro g1 cap1 w4 hown4 hgr4 hat4 hlt4; have blk4 := row_kept (hrz.alloc _) (row_old hlz _) (by decide) hgr4; have hbk4 := blk blk4; obtain ⟨l4, ll4, lf4⟩ := hbk4))
    all_goals
      have hzz : w6.heap.size ≤ wz.heap.size := hbz.size
      have hloc5 : (w4.setCell ⟨w5.heap.size, 2, none⟩ (.slice (some ⟨g1, 0, none⟩) (E.length + 1) cap1)).heap[w5.heap.size]? = some (.cells #[.int .i64 (sent + 1), .int .i64 heard, .slice (some ⟨g1, 0, none⟩) (E.length + 1) cap1] 26 (0, 0)) := (blk_put blk4 2 (.slice (some ⟨g1, 0, none⟩) (E.length + 1) cap1)).1
      have hs5 := (blk_put blk4 2 (.slice (some ⟨g1, 0, none⟩) (E.length + 1) cap1)).2
      have hres4 := row_kept (hrz.alloc _) (row_old ((hbz.block _ (Array.getElem?_eq_some_iff.1 hres).1).trans hres) _) (by decide) hgr4
      have hres5 := hs5.row hres4 (by omega)
      have hdd : Below w6.heap.size w6 w6.drew := ⟨rfl, rfl, rfl, Nat.le_refl _, fun _ _ => rfl⟩
      have hrowz := hrow.below (below_two hdd hbz (Nat.le_refl _))
      have hou' := own_base hou (show w.heap.size ≤ w6.drew.heap.size from hz6)
      rw [← HPN.out] at hou'
      have hown4' : w4.ownsRow w.heap.size 31 1 (.slice (some ⟨g1, 0, none⟩) (E.length + 1) cap1) (E.length + 1) (us ++ [.slice ua ps.length uc]) := by rw [HPN.out]; exact hown4
      rw [← HPN.out] at hgr4
      have hrow4 := (hrowz.app hou' hown4' hgr4).stored blk4 (by decide) (by decide) hs5
      have HB4 : Below w.heap.size w w4 := (((below_two HB (below_two hdd hbz (Nat.le_refl _)) (Nat.le_refl _)).alloc (by omega) _).grown hgr4 (by simp; omega) (fun k e => (hrw.lt k e).1))
      have HB5 := HB4.trans (hs5.below (B := w.heap.size) (fun k e => by omega) HB4.size)
      obtain ⟨l5, ll5, lf5⟩ := blk hloc5
      obtain ⟨r5, rl5, rf5⟩ := blk hres5
      obtain ⟨hfin, hch⟩ := puts_all hres5 [.int .i64 (sent + 1), .int .i64 heard, .slice (some ⟨g1, 0, none⟩) (E.length + 1) cap1] rfl
      simp only [puts, Nat.zero_add, Nat.reduceAdd] at hfin hch
      have hrow9 := hrow4.stored hres5 (by decide) (by decide) hch
      have HB9 := HB5.trans (hch.below (B := w.heap.size) (fun k e => by omega) HB5.size)
      clear hrz hown4 hgr4 hat4 blk4 hs5 hrowz hou hou' hown4' hbz lz llz lfz hlz hrow4 HB4 HB5 hch hres4 hres5 hloc5 hdd
      go_wp2_with fail
      generalize ((((w4.setCell ⟨w5.heap.size, 2, none⟩ (.slice (some ⟨g1, 0, none⟩) (E.length + 1) cap1)).setCell ⟨w.heap.size + 1, 0, none⟩ (.int .i64 (sent + 1))).setCell ⟨w.heap.size + 1, 1, none⟩ (.int .i64 heard)).setCell ⟨w.heap.size + 1, 2, none⟩ (.slice (some ⟨g1, 0, none⟩) (E.length + 1) cap1)) = w9 at *
      obtain ⟨t9, _, _⟩ := blk hfin
      exact bodyPost_ret (v := .tuple #[.agg #[.int .i64 (sent + 1), .int .i64 heard, .slice (some ⟨g1, 0, none⟩) (E.length + 1) cap1], .int .i64 0]) (by simp [results, Tryd.results30, go_sem, t9]) rfl ⟨_, _, rfl, ⟨_, hrow9⟩, HB9⟩

end Go.Proofs.YtmdehfomogfmlaaDoor
