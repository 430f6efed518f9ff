/-
  Walk: wherryref.HeardOf.
-/
import Derived.Test.YtmdehfomogfmlaaDoorHeardOfBad
import Derived.Test.YtmdehfomogfmlaaDoorEdgeHearAll
import Derived.Test.YtmdehfomogfmlaaDoorTransformedAll
import Derived.Deep.LoopGhost
import Derived.Deep.RegionLaw
namespace Go.Proofs.YtmdehfomogfmlaaDoor
open Go.RowKit Go.Lib

set_option maxRecDepth 100000 in
set_option maxHeartbeats 8000000 in
theorem heardOf_own (up : Bool) (sent heard : Int) (E : List (List Part)) (vs : List Value) (a : Option Addr) (c : Nat) (ps : List Part) (v : Value) (hd : Int) (w : World) (hp : PendAt w a c E vs) (hE : ∀ q ∈ E, OpSmall q) (hlen : E.length ≤ 1048576) (ho : OpVal w v ps) (hso : OpSmall ps) (hT : Tabs w) (herr : hearErr sent heard E ps hd = 0) :
    Calls Tryd.prog 32 #[.agg #[.int .i64 sent, .int .i64 heard, .slice a E.length c], v, .int .i64 hd, .bool up] w fun e w' => Below w.heap.size w w' ∧
      (((hearRun up (E.drop (hd - (sent - E.length)).toNat) ps).1 = 0 ∧ ∃ a' c' tv, e = .returned (.tuple #[.agg #[.int .i64 sent, .int .i64 (heard + 1), .slice a' (hearRun up (E.drop (hd - (sent - E.length)).toNat) ps).2.1.length c'], tv, .int .i64 0]) ∧ (∃ us, RowOps w' w.heap.size (.slice a' (hearRun up (E.drop (hd - (sent - E.length)).toNat) ps).2.1.length c') (hearRun up (E.drop (hd - (sent - E.length)).toNat) ps).2.1 us) ∧ w'.ownsRow w.heap.size 68 3 tv (hearRun up (E.drop (hd - (sent - E.length)).toNat) ps).2.2.length (partCells (hearRun up (E.drop (hd - (sent - E.length)).toNat) ps).2.2)) ∨
      ((hearRun up (E.drop (hd - (sent - E.length)).toNat) ps).1 ≠ 0 ∧ e = .returned (.tuple #[.agg #[.int .i64 0, .int .i64 0, .slice none 0 0], .slice none 0 0, .int .i64 (hearRun up (E.drop (hd - (sent - E.length)).toNat) ps).1]))) := by
  obtain ⟨i0, hi, hz0, hz1, hz2⟩ := info_parts info_opR
  have hk : edgeOkB sent heard E = true ∧ opErr ps = 0 ∧ ¬ (sent < hd ∨ hd < sent - E.length) ∧ heard ≠ 1048576 := by
    unfold hearErr edgeBoth edgeErr at herr
    cases hB : edgeOkB sent heard E with
    | false => rw [hB] at herr; simp at herr
    | true =>
      rw [hB] at herr
      by_cases h : opErr ps = 0
      · simp only [if_true, h, ne_eq, not_true_eq_false, if_false] at herr
        by_cases h2 : sent < hd ∨ hd < sent - E.length
        · rw [if_pos h2] at herr; cases herr
        · rw [if_neg h2] at herr
          refine ⟨rfl, h, h2, fun h3 => ?_⟩
          rw [if_pos h3] at herr; cases herr
      · simp [h] at herr
  obtain ⟨hB, hF, hrg, hhd⟩ := hk
  have hkk : (0 ≤ sent ∧ sent ≤ 1048576) ∧ (0 ≤ heard ∧ heard ≤ 1048576) ∧ (E.length : Int) ≤ sent := by unfold edgeOkB at hB; simp at hB; omega
  obtain ⟨K, hK⟩ : ∃ K, K = (hd - (sent - E.length)).toNat := ⟨_, rfl⟩
  rw [← hK]
  have hKa : hd ≤ sent - E.length + K := by omega
  have hKb : sent - E.length + K ≤ hd := by omega
  have hKl : K ≤ E.length := by omega
  obtain ⟨RE, hRE⟩ : ∃ RE, RE = (hearRun up (E.drop K) ps).1 := ⟨_, rfl⟩
  obtain ⟨RM, hRM⟩ : ∃ RM, RM = (hearRun up (E.drop K) ps).2.1 := ⟨_, rfl⟩
  obtain ⟨RT, hRT⟩ : ∃ RT, RT = (hearRun up (E.drop K) ps).2.2 := ⟨_, rfl⟩
  rw [← hRE, ← hRM, ← hRT]
  have HRE : Hid (RE = (hearRun up (E.drop (max 0 K)) ps).1) := by show _ = _; rw [hRE, Nat.zero_max]
  have HRM : Hid (RM = [] ++ (hearRun up (E.drop (max 0 K)) ps).2.1) := by show _ = _; rw [hRM, Nat.zero_max]; rfl
  have HRT : Hid (RT = (hearRun up (E.drop (max 0 K)) ps).2.2) := by show _ = _; rw [hRT, Nat.zero_max]
  clear hRE hRM hRT hK
  have hb1 := (Below.refl w.heap.size w).alloc (Nat.le_refl _) (.cells #[.int .i64 sent, .int .i64 heard, .slice a E.length c] 26)
  have hpar := row_old (heap_alloc_new w (.cells #[.int .i64 sent, .int .i64 heard, .slice a E.length c] 26)) (.cells #[.int .i64 0, .int .i64 0, .slice none 0 0] 26)
  have hres := heap_alloc_new (w.alloc (.cells #[.int .i64 sent, .int .i64 heard, .slice a E.length c] 26)) (.cells #[.int .i64 0, .int .i64 0, .slice none 0 0] 26)
  rw [show (w.alloc (.cells #[.int .i64 sent, .int .i64 heard, .slice a E.length c] 26)).heap.size = w.heap.size + 1 by simp] at hres
  have HB := hb1.alloc hb1.size (.cells #[.int .i64 0, .int .i64 0, .slice none 0 0] 26)
  obtain ⟨va, vc, rfl, hop, _, _⟩ := ho.form
  have hps := hso.1
  have hst : ∀ p ∈ ps, p.text.size ≤ 70368744177664 := fun p hp => by have := (hso.2 p hp).2.2; omega
  have cM := edgeMay_any sent heard E vs a c _ (hp.below HB) hE hlen (by omega) (hT.below HB)
  obtain ⟨p0, pl0, _⟩ := blk hpar
  rw [hB] at cM
  have hhz : ¬ (1048576 : Int) ≤ heard := by omega
  clear herr hb1 ho hB
  go_enter Tryd.func32, Tryd.ntmps32
  go_wp2_with fail
  refine cM.mono ?_
  generalize ((w.alloc (.cells #[.int .i64 sent, .int .i64 heard, .slice a E.length c] 26)).alloc (.cells #[.int .i64 0, .int .i64 0, .slice none 0 0] 26)) = w0 at *
  rintro r w1 ⟨rfl, hbn⟩
  replace HB := below_two HB hbn (Nat.le_refl _)
  replace hpar := (hbn.block _ (Array.getElem?_eq_some_iff.1 hpar).1).trans hpar
  replace hres := (hbn.block _ (Array.getElem?_eq_some_iff.1 hres).1).trans hres
  clear hbn
  clear cM p0 pl0
  have cF := opFault_any ps va vc w1 (hop.below HB) (by omega) hst (hT.below HB)
  rw [hF] at cF
  go_wp2_with fail
  refine cF.mono ?_
  rintro r w2 ⟨rfl, hbn⟩
  replace HB := below_two HB hbn (Nat.le_refl _)
  replace hpar := (hbn.block _ (Array.getElem?_eq_some_iff.1 hpar).1).trans hpar
  replace hres := (hbn.block _ (Array.getElem?_eq_some_iff.1 hres).1).trans hres
  clear hbn
  clear cF
  obtain ⟨p2, pl2, _⟩ := blk hpar
  have cI := in_any hd (sent - E.length) sent w2
  rw [show decide (sent - (E.length : Int) ≤ hd ∧ hd ≤ sent) = true from decide_eq_true (by omega)] at cI
  go_wp2_with fail
  refine cI.mono ?_
  rintro r w3 ⟨rfl, rfl⟩
  clear cI
  have hzr := (Array.getElem?_eq_some_iff.1 hres).1
  have hloc := heap_alloc_new w3 (.cells #[.int .i64 sent, .int .i64 (heard + 1), .slice none 0 0] 26)
  have hba := (Below.refl w3.heap.size w3).alloc (Nat.le_refl _) (.cells #[.int .i64 sent, .int .i64 (heard + 1), .slice none 0 0] 26)
  have hpar3 := row_old hpar (.cells #[.int .i64 sent, .int .i64 (heard + 1), .slice none 0 0] 26)
  have hres3 := row_old hres (.cells #[.int .i64 sent, .int .i64 (heard + 1), .slice none 0 0] 26)
  have HB3 := below_two HB hba (Nat.le_refl _)
  have cO := opCopy_any ps va vc _ (hop.below HB3) hps
  go_wp2_with fail
  refine cO.mono ?_
  clear p2 pl2 hpar hres HB hba cO
  generalize hLL : w3.heap.size = LL at *
  generalize (w3.alloc (.cells #[.int .i64 sent, .int .i64 (heard + 1), .slice none 0 0] 26)) = w4 at *
  rintro r w5 ⟨tv, rfl, htv, hbn⟩
  have hpar := (hbn.block _ (Array.getElem?_eq_some_iff.1 hpar3).1).trans hpar3
  have hres := (hbn.block _ (Array.getElem?_eq_some_iff.1 hres3).1).trans hres3
  replace hloc := (hbn.block _ (Array.getElem?_eq_some_iff.1 hloc).1).trans hloc
  have HB := below_two HB3 hbn (Nat.le_refl _)
  replace htv := own_base htv HB3.size
  clear hbn hpar3 hres3 HB3 hLL
  obtain ⟨ta, tc, rfl⟩ := own_form htv
  go_wp2_with fail
  go_loopg [13, 14] E.length (fun g tv iv wr => ∃ (i : Nat) (us : List Value) (M : List (List Part)) (U : List Part) (oa : Option Addr) (oc : Nat), i + g = E.length ∧ iv = .int .i64 (i : Int) ∧ M.length ≤ i ∧ Hid (RE = (hearRun up (E.drop (max i K)) U).1) ∧ Hid (RM = M ++ (hearRun up (E.drop (max i K)) U).2.1) ∧ Hid (RT = (hearRun up (E.drop (max i K)) U).2.2) ∧ OpSmall U ∧ wr.ownsRow w.heap.size 68 3 tv U.length (partCells U) ∧ wr.heap[w.heap.size]? = some (.cells #[.int .i64 sent, .int .i64 heard, .slice a E.length c] 26 (0, 0)) ∧ wr.heap[w.heap.size + 1]? = some (.cells #[.int .i64 0, .int .i64 0, .slice none 0 0] 26 (0, 0)) ∧ wr.heap[LL]? = some (.cells #[.int .i64 sent, .int .i64 (heard + 1), .slice oa M.length oc] 26 (0, 0)) ∧ RowOps wr w.heap.size (.slice oa M.length oc) M us ∧ Below w.heap.size w wr)
  case atStart => exact ⟨0, [], [], ps, none, 0, by omega, rfl, by simp, HRE, HRM, HRT, hso, htv, hpar, hres, hloc, rowOps_nil _ _, HB⟩
  case round =>
    clear HRE HRM HRT htv hpar hres hloc HB
    obtain ⟨i, us, M, U, oa, oc, hig, rfl, hMi, HE, HM, HT, hUs, htv, hpar, hres, hloc, hrow, HB⟩ := hrel
    obtain ⟨ta, tc, rfl⟩ := own_form htv
    obtain ⟨p5, pl5, _⟩ := blk hpar
    by_cases hlt : i < E.length
    · have hiz : (i : Int) < (E.length : Int) := by omega
      have hi0 : (0 : Int) ≤ (i : Int) := by omega
      by_cases hsk : i < K
      · have hskz : sent - (E.length : Int) + (i : Int) < hd := by omega
        have em : max i K = max (i + 1) K := by omega
        rw [em] at HE HM HT
        clear em
        generalize hul : U.length = ul at *
        have HUL : Hid (U.length = ul) := hul
        clear hul
        go_wp2_with fail
        go_roundg (E.length - i - 1)
        case measure => omega
        case rel => exact ⟨i + 1, us, M, U, oa, oc, by omega, by go_num, by omega, HE, HM, HT, hUs, by rw [HUL.out]; exact htv, hpar, hres, hloc, hrow, HB⟩
      · have hskz : ¬ sent - (E.length : Int) + (i : Int) < hd := by omega
        have em : max i K = i := by omega
        have em2 : max (i + 1) K = i + 1 := by omega
        rw [em, List.drop_eq_getElem_cons hlt] at HE HM HT
        clear em
        have hjv : i < vs.length := by rw [hp.len]; exact hlt
        have hov := hp.each i hlt hjv
        rcases hp.vals with h0 | ⟨b, off, rfl, hbl, hcell⟩
        · rw [h0] at hjv; simp at hjv
        · have hc := hcell i hjv
          obtain ⟨qa, qc, eq, hqop0, _, _⟩ := hov.form
          rw [eq] at hc
          have hql := hE _ (List.getElem_mem hlt)
          have hq1 : wr.cell? ⟨b, off + i, none⟩ = some (.slice qa E[i].length qc) := (HB.cell (p := ⟨b, off + i, none⟩) hbl).trans hc
          have hqop := hqop0.below HB
          obtain ⟨_, _, eU, hUop⟩ := own_opAt htv
          simp only [Value.slice.injEq, true_and] at eU
          obtain ⟨rfl, rfl⟩ := eU
          clear hcell eq hov hc hqop0
          generalize E[i] = Q at *
          have step : ∀ (R : List (List Part)), hearRun up (Q :: R) U = if passE up Q U ≠ 0 then (passE up Q U, [], []) else ((hearRun up R (passT up Q U)).1, passM up Q U :: (hearRun up R (passT up Q U)).2.1, (hearRun up R (passT up Q U)).2.2) := fun _ => rfl
          rw [step] at HE HM HT
          clear step
          cases up with
          | true =>
            have cT := (transformed_any Q U qa ta qc tc wr hqop hUop hql.1 hUs.1 (fun p hp => (hql.2 p hp).2.2) (fun p hp => (hUs.2 p hp).2.2) (hT.below HB))
            have eE : passE true Q U = transErr Q U := rfl
            have eM : passM true Q U = transU Q U := rfl
            have eT : passT true Q U = transV Q U := rfl
            rw [eE, eM, eT] at HE HM HT
            have hsm := fun h : transErr Q U = 0 => trans_small h
            generalize transErr Q U = er at *
            generalize transU Q U = mine at *
            generalize transV Q U = told at *
            clear eE eM eT
            generalize hul : U.length = ul at *
            generalize hql' : Q.length = ql at *
            go_wp2_with fail
            refine cT.mono ?_
            rintro r w6 ⟨u, v, rfl, hm, ht, hbn⟩
            replace hm := own_base hm HB.size
            replace ht := own_base ht HB.size
            have hpar6 := (hbn.block _ (Array.getElem?_eq_some_iff.1 hpar).1).trans hpar
            have hres6 := (hbn.block _ (Array.getElem?_eq_some_iff.1 hres).1).trans hres
            have hloc6 := (hbn.block _ (Array.getElem?_eq_some_iff.1 hloc).1).trans hloc
            have hrow6 := hrow.below hbn
            have HB6 := below_two HB hbn (Nat.le_refl _)
            clear hbn hpar hres hloc hrow HB cT p5 pl5 hq1 hqop hUop htv hul hql'
            obtain ⟨ma, mc, rfl⟩ := own_form hm
            obtain ⟨na, nc, rfl⟩ := own_form ht
            by_cases her : er = 0
            · subst her
              have hss : OpSmall told := (hsm rfl).2.2
              clear hsm
              rw [if_neg (by simp)] at HE HM HT
              obtain ⟨l6, ll6, lf6⟩ := blk hloc6
              have hrw := hrow6.row
              have hz6 := HB6.size
              generalize hml : mine.length = ml at *
              have HML : Hid (mine.length = ml) := hml
              clear hml
              generalize hnl : told.length = nl at *
              have HNL : Hid (told.length = nl) := hnl
              clear hnl
              go_wp2_with (at_builtin; refine wpList_append_lies _ rfl _ _ 24 rfl w.heap.size 31 i0 _ 1 24 Tryd.underlying24 hi hz0 hz1 hz2 rfl (by decide) (.slice oa M.length oc) M.length us rfl (hrw.alloc _) ⟨w6.heap.size, 0, none⟩ 1 1 [.slice ma ml mc] rfl rfl (World.news_of_block (cs := #[.slice ma ml mc]) (t := 31) (fr := (0, 0)) (heap_alloc_new w6 _)) (by simp [Value.oneCell']) (by omega) (by unfold maxLen; omega) (by omega) (by simp; omega) _ rfl ?_; intro g1 cap1 w7 hown7 hgr7 hat7 hlt7; have blk7 := row_kept (hrw.alloc _) (row_old hloc6 _) (by decide) hgr7; have hbk7 := blk blk7; obtain ⟨l7, ll7, lf7⟩ := hbk7)
              have hloc8 : (w7.setCell ⟨LL, 2, none⟩ (.slice (some ⟨g1, 0, none⟩) (M.length + 1) cap1)).heap[LL]? = some (.cells #[.int .i64 sent, .int .i64 (heard + 1), .slice (some ⟨g1, 0, none⟩) (M.length + 1) cap1] 26 (0, 0)) := (blk_put blk7 2 (.slice (some ⟨g1, 0, none⟩) (M.length + 1) cap1)).1
              have hs8 := (blk_put blk7 2 (.slice (some ⟨g1, 0, none⟩) (M.length + 1) cap1)).2
              have hpar8 := hs8.row (row_kept (hrw.alloc _) (row_old hpar6 _) (by decide) hgr7) (by omega)
              have hres8 := hs8.row (row_kept (hrw.alloc _) (row_old hres6 _) (by decide) hgr7) (by omega)
              have hch7 : Chg (fun k => (Value.slice oa M.length oc).ownBlock = some k) w6 w7 := ((Chg.refl _ w6).alloc _).grown hgr7 (fun k _ e => e)
              have ht7 := own_chg ht hch7 (own_ne ht hrw (by decide))
              have ht8 := own_chg ht7 hs8 (fun k hk e => row_ne ht7 blk7 (by decide) (by rw [← e]; exact hk.symm))
              rw [← HML.out] at hm hgr7
              have hown7' : w7.ownsRow w.heap.size 31 1 (.slice (some ⟨g1, 0, none⟩) (M.length + 1) cap1) (M.length + 1) (us ++ [.slice ma mine.length mc]) := by rw [HML.out]; exact hown7
              have hrow8 := (hrow6.app hm hown7' hgr7).stored blk7 (by decide) (by decide) hs8
              have HB7 := (HB6.alloc hz6 (.cells #[.slice ma mine.length mc] 31)).grown hgr7 (by simp; omega) (fun k e => (hrw.lt k e).1)
              have HB8 := HB7.trans (hs8.below (B := w.heap.size) (fun k e => by omega) HB7.size)
              have eML : (M ++ [mine]).length = M.length + 1 := by simp
              go_roundg (E.length - i - 1)
              case measure => omega
              case rel => exact ⟨i + 1, us ++ [.slice ma mine.length mc], M ++ [mine], told, some ⟨g1, 0, none⟩, cap1, by omega, by go_num, by rw [eML]; omega, by rw [em2]; exact HE, by rw [em2]; show _ = _; rw [HM.out]; simp, by rw [em2]; exact HT, hss, by rw [HNL.out]; exact ht8, hpar8, hres8, by rw [eML]; exact hloc8, by rw [eML]; exact hrow8, HB8⟩
            · skip
              have g7 : (er != 0) = true := by simpa using her
              rw [if_pos her] at HE
              have HX : Hid (RE = er) := HE
              clear HE HM HT
              obtain ⟨r9, rl9, rf9⟩ := blk hres6
              obtain ⟨hfin, hch⟩ := puts_all hres6 [.int .i64 0, .int .i64 0, .slice none 0 0] rfl
              simp only [puts, Nat.zero_add, Nat.reduceAdd] at hfin hch
              have HB9 := HB6.trans (hch.below (fun k e => by omega) HB6.size)
              clear hch
              generalize hml : mine.length = ml at *
              generalize hnl : told.length = nl at *
              go_wp2_with fail
              generalize (((w6.setCell ⟨w.heap.size + 1, 0, none⟩ (.int .i64 0)).setCell ⟨w.heap.size + 1, 1, none⟩ (.int .i64 0)).setCell ⟨w.heap.size + 1, 2, none⟩ (.slice none 0 0)) = w9 at *
              obtain ⟨t9, _, _⟩ := blk hfin
              exact bodyPost_ret (v := .tuple #[.agg #[.int .i64 0, .int .i64 0, .slice none 0 0], .slice none 0 0, .int .i64 er]) (by simp [results, Tryd.results32, go_sem, t9]) rfl ⟨HB9, .inr ⟨by rw [HX.out]; exact her, by rw [HX.out]⟩⟩
          | false =>
            have cT := (transformed_any U Q ta qa tc qc wr hUop hqop hUs.1 hql.1 (fun p hp => (hUs.2 p hp).2.2) (fun p hp => (hql.2 p hp).2.2) (hT.below HB))
            have eE : passE false Q U = transErr U Q := rfl
            have eM : passM false Q U = transV U Q := rfl
            have eT : passT false Q U = transU U Q := rfl
            rw [eE, eM, eT] at HE HM HT
            have hsm := fun h : transErr U Q = 0 => trans_small h
            generalize transErr U Q = er at *
            generalize transV U Q = mine at *
            generalize transU U Q = told at *
            clear eE eM eT
            generalize hul : U.length = ul at *
            generalize hql' : Q.length = ql at *
            go_wp2_with fail
            refine cT.mono ?_
            rintro r w6 ⟨u, v, rfl, ht, hm, hbn⟩
            replace hm := own_base hm HB.size
            replace ht := own_base ht HB.size
            have hpar6 := (hbn.block _ (Array.getElem?_eq_some_iff.1 hpar).1).trans hpar
            have hres6 := (hbn.block _ (Array.getElem?_eq_some_iff.1 hres).1).trans hres
            have hloc6 := (hbn.block _ (Array.getElem?_eq_some_iff.1 hloc).1).trans hloc
            have hrow6 := hrow.below hbn
            have HB6 := below_two HB hbn (Nat.le_refl _)
            clear hbn hpar hres hloc hrow HB cT p5 pl5 hq1 hqop hUop htv hul hql'
            obtain ⟨ma, mc, rfl⟩ := own_form hm
            obtain ⟨na, nc, rfl⟩ := own_form ht
            by_cases her : er = 0
            · subst her
              have hss : OpSmall told := (hsm rfl).1.2
              clear hsm
              rw [if_neg (by simp)] at HE HM HT
              obtain ⟨l6, ll6, lf6⟩ := blk hloc6
              have hrw := hrow6.row
              have hz6 := HB6.size
              generalize hml : mine.length = ml at *
              have HML : Hid (mine.length = ml) := hml
              clear hml
              generalize hnl : told.length = nl at *
              have HNL : Hid (told.length = nl) := hnl
              clear hnl
              go_wp2_with (at_builtin; refine wpList_append_lies _ rfl _ _ 24 rfl w.heap.size 31 i0 _ 1 24 Tryd.underlying24 hi hz0 hz1 hz2 rfl (by decide) (.slice oa M.length oc) M.length us rfl (hrw.alloc _) ⟨w6.heap.size, 0, none⟩ 1 1 [.slice ma ml mc] rfl rfl (World.news_of_block (cs := #[.slice ma ml mc]) (t := 31) (fr := (0, 0)) (heap_alloc_new w6 _)) (by simp [Value.oneCell']) (by omega) (by unfold maxLen; omega) (by omega) (by simp; omega) _ rfl ?_; intro g1 cap1 w7 hown7 hgr7 hat7 hlt7; have blk7 := row_kept (hrw.alloc _) (row_old hloc6 _) (by decide) hgr7; have hbk7 := blk blk7; obtain ⟨l7, ll7, lf7⟩ := hbk7)
              have hloc8 : (w7.setCell ⟨LL, 2, none⟩ (.slice (some ⟨g1, 0, none⟩) (M.length + 1) cap1)).heap[LL]? = some (.cells #[.int .i64 sent, .int .i64 (heard + 1), .slice (some ⟨g1, 0, none⟩) (M.length + 1) cap1] 26 (0, 0)) := (blk_put blk7 2 (.slice (some ⟨g1, 0, none⟩) (M.length + 1) cap1)).1
              have hs8 := (blk_put blk7 2 (.slice (some ⟨g1, 0, none⟩) (M.length + 1) cap1)).2
              have hpar8 := hs8.row (row_kept (hrw.alloc _) (row_old hpar6 _) (by decide) hgr7) (by omega)
              have hres8 := hs8.row (row_kept (hrw.alloc _) (row_old hres6 _) (by decide) hgr7) (by omega)
              have hch7 : Chg (fun k => (Value.slice oa M.length oc).ownBlock = some k) w6 w7 := ((Chg.refl _ w6).alloc _).grown hgr7 (fun k _ e => e)
              have ht7 := own_chg ht hch7 (own_ne ht hrw (by decide))
              have ht8 := own_chg ht7 hs8 (fun k hk e => row_ne ht7 blk7 (by decide) (by rw [← e]; exact hk.symm))
              rw [← HML.out] at hm hgr7
              have hown7' : w7.ownsRow w.heap.size 31 1 (.slice (some ⟨g1, 0, none⟩) (M.length + 1) cap1) (M.length + 1) (us ++ [.slice ma mine.length mc]) := by rw [HML.out]; exact hown7
              have hrow8 := (hrow6.app hm hown7' hgr7).stored blk7 (by decide) (by decide) hs8
              have HB7 := (HB6.alloc hz6 (.cells #[.slice ma mine.length mc] 31)).grown hgr7 (by simp; omega) (fun k e => (hrw.lt k e).1)
              have HB8 := HB7.trans (hs8.below (B := w.heap.size) (fun k e => by omega) HB7.size)
              have eML : (M ++ [mine]).length = M.length + 1 := by simp
              go_roundg (E.length - i - 1)
              case measure => omega
              case rel => exact ⟨i + 1, us ++ [.slice ma mine.length mc], M ++ [mine], told, some ⟨g1, 0, none⟩, cap1, by omega, by go_num, by rw [eML]; omega, by rw [em2]; exact HE, by rw [em2]; show _ = _; rw [HM.out]; simp, by rw [em2]; exact HT, hss, by rw [HNL.out]; exact ht8, hpar8, hres8, by rw [eML]; exact hloc8, by rw [eML]; exact hrow8, HB8⟩
            · skip
              have g7 : (er != 0) = true := by simpa using her
              rw [if_pos her] at HE
              have HX : Hid (RE = er) := HE
              clear HE HM HT
              obtain ⟨r9, rl9, rf9⟩ := blk hres6
              obtain ⟨hfin, hch⟩ := puts_all hres6 [.int .i64 0, .int .i64 0, .slice none 0 0] rfl
              simp only [puts, Nat.zero_add, Nat.reduceAdd] at hfin hch
              have HB9 := HB6.trans (hch.below (fun k e => by omega) HB6.size)
              clear hch
              generalize hml : mine.length = ml at *
              generalize hnl : told.length = nl at *
              go_wp2_with fail
              generalize (((w6.setCell ⟨w.heap.size + 1, 0, none⟩ (.int .i64 0)).setCell ⟨w.heap.size + 1, 1, none⟩ (.int .i64 0)).setCell ⟨w.heap.size + 1, 2, none⟩ (.slice none 0 0)) = w9 at *
              obtain ⟨t9, _, _⟩ := blk hfin
              exact bodyPost_ret (v := .tuple #[.agg #[.int .i64 0, .int .i64 0, .slice none 0 0], .slice none 0 0, .int .i64 er]) (by simp [results, Tryd.results32, go_sem, t9]) rfl ⟨HB9, .inr ⟨by rw [HX.out]; exact her, by rw [HX.out]⟩⟩
    · have hiz : ¬ (i : Int) < (E.length : Int) := by omega
      rw [show max i K = E.length by omega, List.drop_length] at HE HM HT
      have HE' : Hid (RE = 0) := HE
      have HM' : Hid (RM = M) := by show _ = _; rw [HM.out]; simp [hearRun]
      have HT' : Hid (RT = U) := HT
      clear HE HM HT
      obtain ⟨l9, ll9, lf9⟩ := blk hloc
      obtain ⟨r9, rl9, rf9⟩ := blk hres
      obtain ⟨hfin, hch⟩ := puts_all hres [.int .i64 sent, .int .i64 (heard + 1), .slice oa M.length oc] rfl
      simp only [puts, Nat.zero_add, Nat.reduceAdd] at hfin hch
      have hrow9 := hrow.stored hres (by decide) (by decide) hch
      have ht9 := own_chg htv hch (fun k hk e => row_ne htv hres (by decide) (by rw [← e]; exact hk.symm))
      have HB9 := HB.trans (hch.below (fun k e => by omega) HB.size)
      clear hch
      generalize hul : U.length = ul at *
      have HUL : Hid (U.length = ul) := hul
      clear hul
      generalize hml : M.length = ml at *
      have HML : Hid (M.length = ml) := hml
      clear hml
      go_wp2_with fail
      generalize (((wr.setCell ⟨w.heap.size + 1, 0, none⟩ (.int .i64 sent)).setCell ⟨w.heap.size + 1, 1, none⟩ (.int .i64 (heard + 1))).setCell ⟨w.heap.size + 1, 2, none⟩ (.slice oa ml oc)) = w9 at *
      obtain ⟨t9, _, _⟩ := blk hfin
      exact bodyPost_ret (v := .tuple #[.agg #[.int .i64 sent, .int .i64 (heard + 1), .slice oa ml oc], .slice ta ul tc, .int .i64 0]) (by simp [results, Tryd.results32, go_sem, t9]) rfl ⟨HB9, .inl ⟨HE'.out, oa, oc, .slice ta ul tc, by rw [HM'.out, HML.out], ⟨us, by rw [HM'.out, HML.out]; exact hrow9⟩, by rw [HT'.out, HUL.out]; exact ht9⟩⟩

end Go.Proofs.YtmdehfomogfmlaaDoor
