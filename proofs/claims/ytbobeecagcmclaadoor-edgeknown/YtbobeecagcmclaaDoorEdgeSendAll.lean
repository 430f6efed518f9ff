/-
  Walk: edge.Send.
-/
import Derived.Test.YtbobeecagcmclaaDoorEdgeSend
import Derived.Test.YtbobeecagcmclaaDoorPenWalk
import Derived.Test.YtbobeecagcmclaaDoorRowOps
import Derived.OwnWalk
namespace Go.Proofs.YtbobeecagcmclaaDoor
open Go.RowKit Go.Lib

theorem info_op : (Tryd.prog.info? 31).map (fun i => (i.zero, i.size, i.bytes)) = some (some (.slice none 0 0), 1, 24) := by kernel_rfl

set_option maxRecDepth 100000 in
set_option maxHeartbeats 2000000 in
theorem send_own (sent heard : Int) (E : List (List Part)) (vs : List Value) (a : Option Addr) (c : Nat) (ps : List Part) (v : Value) (w : World) (hp : PendAt w a c E vs) (hE : ∀ q ∈ E, OpSmall q) (hlen : E.length ≤ 1048576) (hs : 0 ≤ sent ∧ sent ≤ 1048576) (ho : OpVal w v ps) (hso : OpSmall ps) (hT : Tabs w) (herr : sendErr sent heard E ps = 0) :
    Calls Tryd.prog 8 #[.agg #[.int .i64 sent, .int .i64 heard, .slice a E.length c], v] w fun e w' => ∃ a' c', e = .returned (.tuple #[.agg #[.int .i64 (sent + 1), .int .i64 heard, .slice a' (E.length + 1) c'], .int .i64 0]) ∧ (∃ us, RowOps w' w.heap.size (.slice a' (E.length + 1) c') (E ++ [ps]) us) ∧ Below w.heap.size w w' := by
  obtain ⟨i0, hi, hz0, hz1, hz2⟩ := info_parts info_op
  have hb00 := (Below.refl w.heap.size w).alloc (Nat.le_refl _) (.cells #[.int .i64 sent, .int .i64 heard, .slice a E.length c] 26)
  have hb0 := hb00.alloc hb00.size (.cells #[.int .i64 0, .int .i64 0, .slice none 0 0] 26)
  have hblk := row_old (heap_alloc_new w (.cells #[.int .i64 sent, .int .i64 heard, .slice a E.length c] 26)) (.cells #[.int .i64 0, .int .i64 0, .slice none 0 0] 26)
  have hres := heap_alloc_new (w.alloc (.cells #[.int .i64 sent, .int .i64 heard, .slice a E.length c] 26)) (.cells #[.int .i64 0, .int .i64 0, .slice none 0 0] 26)
  have hsz : ((w.alloc (.cells #[.int .i64 sent, .int .i64 heard, .slice a E.length c] 26)).alloc (.cells #[.int .i64 0, .int .i64 0, .slice none 0 0] 26)).heap.size = w.heap.size + 2 := by simp
  rw [show (w.alloc (.cells #[.int .i64 sent, .int .i64 heard, .slice a E.length c] 26)).heap.size = w.heap.size + 1 by simp] at hres
  have hp0 := hp.below hb0
  have ho0 := ho.below hb0
  have c1 := checkSend_any sent heard E vs a c ps v _ hp0 hE (by omega) (by omega) ho0 hso (hT.below hb0)
  rw [herr] at c1
  clear herr hp ho hb00
  go_enter Tryd.func8, Tryd.ntmps8
  go_wp2_with fail
  generalize ((w.alloc (.cells #[.int .i64 sent, .int .i64 heard, .slice a E.length c] 26)).alloc (.cells #[.int .i64 0, .int .i64 0, .slice none 0 0] 26)) = w0 at *
  refine c1.mono ?_
  rintro e w1 ⟨rfl, hb1⟩
  clear c1
  have hbk : ∀ w', Below w0.heap.size w0 w' → w'.heap[w.heap.size]? = some (.cells #[.int .i64 sent, .int .i64 heard, .slice a E.length c] 26 (0, 0)) := fun w' hb => (hb.block _ (by omega)).trans hblk
  have hrk : ∀ w', Below w0.heap.size w0 w' → w'.heap[w.heap.size + 1]? = some (.cells #[.int .i64 0, .int .i64 0, .slice none 0 0] 26 (0, 0)) := fun w' hb => (hb.block _ (by omega)).trans hres
  obtain ⟨k0, k1, k2⟩ := edge_cells (hbk w1 hb1)
  have hbz := hb1.size
  go_wp2_with (at_make; refine wpList_make_own _ rfl _ _ 24 rfl w0.heap.size 31 i0 _ 1 Tryd.underlying24 hi hz0 hz1 .i64 .i64 ((E.length : Int) + 1) (E.length + 1) rfl rfl (by omega) (by rw [hz2]; omega) (by unfold maxLen; omega) (by omega) ?_; intro w2 hown2 hgr2; have hb2 := hb1.grown hgr2 hbz (fun k e => by cases e); have hk2 := edge_cells (hbk w2 hb2); have q2 := hk2.2.2)
  clear hk2
  go_loopw [7, 25] (fun ov i wr => ∃ (j : Nat) (us : List Value), j ≤ E.length ∧ i = .int .i64 j ∧ us.length = j ∧ (∀ m (h : m < us.length) (h' : m < E.length), wr.ownsRow w0.heap.size 75 3 us[m] E[m].length (partCells E[m])) ∧ wr.ownsRow w0.heap.size 31 1 ov j us ∧ Below w0.heap.size w0 wr) (fun _ i _ => E.length - (RowKit.intOf i).toNat)
  case atStart => exact ⟨0, [], Nat.zero_le _, rfl, rfl, fun m h => by simp at h, hown2, hb2⟩
  case round =>
    obtain ⟨j, us, hj, rfl, hul, hus, hown, hbr⟩ := hrel
    have hbrz := hbr.size
    obtain ⟨oa, oc, rfl⟩ := own_form hown
    by_cases hlt : j < E.length
    · have hjz : (j : Int) < (E.length : Int) := by omega
      have hl' : j < vs.length := by rw [hp0.len]; exact hlt
      have hpr := hp0.below hbr
      have cC := copyOf_any E[j] vs[j] wr (hpr.each j hlt hl') (hE _ (List.getElem_mem hlt)).1
      rcases hpr.vals with h0 | ⟨b, off, rfl, hbl, hcell⟩
      · rw [h0] at hl'; simp at hl'
      · have hc := hcell j hl'
        obtain ⟨qa, qc, eq, _, _, _⟩ := (hpr.each j hlt hl').form
        rw [eq] at hc cC
        clear hcell hpr eq
        obtain ⟨el, hel⟩ : ∃ el, el = E[j].length := ⟨_, rfl⟩
        have HEL : Hid (el = E[j].length) := hel
        rw [← hel] at hc
        have cC' := cC
        rw [← hel] at cC'
        clear cC hel
        go_wp2_with fail
        refine cC'.mono ?_
        rintro e w3 ⟨u, rfl, hu, hb3⟩
        have hb03 := below_two hbr hb3 (Nat.le_refl _)
        have hz3 := hb03.size
        obtain ⟨ua, uc, rfl⟩ := own_form hu
        have hown3 := own_below hown hb3
        go_wp2_with (at_builtin; refine wpList_append_lies _ rfl _ _ 24 rfl w0.heap.size 31 i0 _ 1 24 Tryd.underlying24 hi hz0 hz1 hz2 rfl (by decide) (.slice oa j oc) j us rfl (hown3.alloc _) ⟨w3.heap.size, 0, none⟩ 1 1 [.slice ua el uc] rfl rfl (World.news_of_block (cs := #[.slice ua el uc]) (t := 31) (fr := (0, 0)) (heap_alloc_new w3 _)) (by simp [Value.oneCell']) (by omega) (by unfold maxLen; omega) (by omega) (by simp; omega) _ rfl ?_; intro g1 cap1 w4 hown4 hgr4 hat4 hlt4)
        go_roundw
        case rel =>
          rw [HEL.out] at hown4 hu hgr4
          have hch : Chg (fun k => (Value.slice oa j oc).ownBlock = some k) w3 w4 := ((Chg.refl _ w3).alloc _).grown hgr4 (fun k _ e => e)
          refine ⟨j + 1, us ++ [.slice ua E[j].length uc], hlt, by go_num, by simp [hul], fun m h h' => ?_, hown4, ?_⟩
          · by_cases hm : m < us.length
            · rw [List.getElem_append_left hm]
              exact own_chg (own_below (hus m hm h') hb3) hch (own_ne (own_below (hus m hm h') hb3) hown3 (by decide))
            · have hmj : m = j := by simp at h; omega
              subst hmj
              rw [List.getElem_append_right (by omega)]
              simp only [hul, Nat.sub_self, List.getElem_cons_zero]
              exact own_chg (own_base hu hbrz) hch (own_ne (own_base hu hbrz) hown3 (by decide))
          · exact (hb03.alloc hz3 _).grown hgr4 (by simp; omega) (fun k e => (hown.lt k e).1)
        case measure => simp [RowKit.intOf]; omega
    · obtain rfl : j = E.length := by omega
      have cC := copyOf_any ps v wr (ho0.below hbr) hso.1
      have hkr := edge_cells (hbk wr hbr)
      obtain ⟨k0, k1, k2⟩ := hkr
      clear hp0
      go_wp2_with fail
      refine cC.mono ?_
      rintro e w3 ⟨u, rfl, hu, hb3⟩
      have hb03 := below_two hbr hb3 (Nat.le_refl _)
      have hz3 := hb03.size
      obtain ⟨ua, uc, rfl⟩ := own_form hu
      have hown3 := own_below hown hb3
      obtain ⟨pl, hpl⟩ : ∃ pl, pl = ps.length := ⟨_, rfl⟩
      have HPL : Hid (pl = ps.length) := hpl
      rw [← hpl]
      clear cC hpl
      go_wp2_with (at_builtin; refine wpList_append_lies _ rfl _ _ 24 rfl w0.heap.size 31 i0 _ 1 24 Tryd.underlying24 hi hz0 hz1 hz2 rfl (by decide) (.slice oa E.length oc) E.length us rfl (hown3.alloc _) ⟨w3.heap.size, 0, none⟩ 1 1 [.slice ua pl uc] rfl rfl (World.news_of_block (cs := #[.slice ua pl uc]) (t := 31) (fr := (0, 0)) (heap_alloc_new w3 _)) (by simp [Value.oneCell']) (by omega) (by unfold maxLen; omega) (by omega) (by simp; omega) _ rfl ?_; intro g1 cap1 w4 hown4 hgr4 hat4 hlt4; have hb4 := (hb03.alloc hz3 _).grown hgr4 (by simp; omega) (fun k e => (hown.lt k e).1); have hk4 := edge_cells (hbk w4 hb4); have q0 := hk4.1; have q1 := hk4.2.1; have hr4 := hrk w4 hb4; have hrl : w.heap.size + 1 < w4.heap.size := (by have := hb4.size; omega); have r4 := edge_cells hr4; have r0 := r4.1; have r1 := r4.2.1; have r2 := r4.2.2; have hf : ∀ j, w4.frozen? ⟨w.heap.size + 1, j, none⟩ = false := (fun j => by simp [World.frozen?, hr4]); have f0 := hf 0; have f1 := hf 1; have f2 := hf 2)
      rw [HPL.out] at hown4 hgr4
      have hch : Chg (fun k => (Value.slice oa E.length oc).ownBlock = some k) w3 w4 := ((Chg.refl _ w3).alloc _).grown hgr4 (fun k _ e => e)
      have hus4 : ∀ m (h : m < (us ++ [Value.slice ua ps.length uc]).length) (h' : m < (E ++ [ps]).length), w4.ownsRow w0.heap.size 75 3 (us ++ [Value.slice ua ps.length uc])[m] (E ++ [ps])[m].length (partCells (E ++ [ps])[m]) := by
        intro m h h'
        by_cases hm : m < us.length
        · have hm' : m < E.length := by omega
          rw [List.getElem_append_left hm, List.getElem_append_left hm']
          exact own_chg (own_below (hus m hm hm') hb3) hch (own_ne (own_below (hus m hm hm') hb3) hown3 (by decide))
        · have hmj : m = E.length := by simp at h'; omega
          subst hmj
          rw [List.getElem_append_right (by omega), List.getElem_append_right (by omega)]
          simp only [hul, Nat.sub_self, List.getElem_cons_zero]
          exact own_chg (own_base hu hbrz) hch (own_ne (own_base hu hbrz) hown3 (by decide))
      have hB4 : Below w.heap.size w w4 := below_two hb0 hb4 (Nat.le_refl _)
      have s1 : (w4.setCell ⟨w.heap.size + 1, 0, none⟩ (.int .i64 (sent + 1))).heap[w.heap.size + 1]? = some (.cells #[.int .i64 (sent + 1), .int .i64 0, .slice none 0 0] 26 (0, 0)) := by rw [heap_setCell_same w4 (w.heap.size + 1) 0 _ _ _ hr4]; rfl
      have s2 : ((w4.setCell ⟨w.heap.size + 1, 0, none⟩ (.int .i64 (sent + 1))).setCell ⟨w.heap.size + 1, 1, none⟩ (.int .i64 heard)).heap[w.heap.size + 1]? = some (.cells #[.int .i64 (sent + 1), .int .i64 heard, .slice none 0 0] 26 (0, 0)) := by rw [heap_setCell_same _ (w.heap.size + 1) 1 _ _ _ s1]; rfl
      have s3 : (((w4.setCell ⟨w.heap.size + 1, 0, none⟩ (.int .i64 (sent + 1))).setCell ⟨w.heap.size + 1, 1, none⟩ (.int .i64 heard)).setCell ⟨w.heap.size + 1, 2, none⟩ (.slice (some ⟨g1, 0, none⟩) (E.length + 1) cap1)).heap[w.heap.size + 1]? = some (.cells #[.int .i64 (sent + 1), .int .i64 heard, .slice (some ⟨g1, 0, none⟩) (E.length + 1) cap1] 26 (0, 0)) := by rw [heap_setCell_same _ (w.heap.size + 1) 2 _ _ _ s2]; rfl
      have hchR : Chg (fun k => k = w.heap.size + 1) w4 (((w4.setCell ⟨w.heap.size + 1, 0, none⟩ (.int .i64 (sent + 1))).setCell ⟨w.heap.size + 1, 1, none⟩ (.int .i64 heard)).setCell ⟨w.heap.size + 1, 2, none⟩ (.slice (some ⟨g1, 0, none⟩) (E.length + 1) cap1)) := (((Chg.refl (fun k => k = w.heap.size + 1) w4).setCell (p := ⟨w.heap.size + 1, 0, none⟩) rfl _).setCell (p := ⟨w.heap.size + 1, 1, none⟩) rfl _).setCell (p := ⟨w.heap.size + 1, 2, none⟩) rfl _
      generalize hw5 : (((w4.setCell ⟨w.heap.size + 1, 0, none⟩ (.int .i64 (sent + 1))).setCell ⟨w.heap.size + 1, 1, none⟩ (.int .i64 heard)).setCell ⟨w.heap.size + 1, 2, none⟩ (.slice (some ⟨g1, 0, none⟩) (E.length + 1) cap1)) = w5 at *
      clear hw5
      obtain ⟨t0, t1, t2⟩ := edge_cells s3
      have hown5 := own_chg hown4 hchR (fun k hk e => row_ne hown4 hr4 (by decide) (by rw [← e]; exact hk.symm))
      have hB5 : Below w.heap.size w w5 := hB4.trans (hchR.below (fun k e => by omega) (by omega))
      have hRO : RowOps w5 w.heap.size (.slice (some ⟨g1, 0, none⟩) (E.length + 1) cap1) (E ++ [ps]) (us ++ [Value.slice ua ps.length uc]) :=
        ⟨by simp [hul], own_base (by rw [List.length_append]; exact hown5) hb0.size, fun m h h' => own_base (own_chg (hus4 m h h') hchR (fun k hk e => row_ne (hus4 m h h') hr4 (by decide) (by rw [← e]; exact hk.symm))) hb0.size⟩
      exact bodyPost_ret (v := .tuple #[.agg #[.int .i64 (sent + 1), .int .i64 heard, .slice (some ⟨g1, 0, none⟩) (E.length + 1) cap1], .int .i64 0]) (by simp [results, Tryd.results8, go_sem, t0, t1, t2]) rfl ⟨some ⟨g1, 0, none⟩, cap1, rfl, ⟨_, hRO⟩, hB5⟩
theorem send_ok (sent heard : Int) (E : List (List Part)) (vs : List Value) (a : Option Addr) (c : Nat) (ps : List Part) (v : Value) (w : World) (hp : PendAt w a c E vs) (hE : ∀ q ∈ E, OpSmall q) (hlen : E.length ≤ 1048576) (hs : 0 ≤ sent ∧ sent ≤ 1048576) (ho : OpVal w v ps) (hso : OpSmall ps) (hT : Tabs w) (herr : sendErr sent heard E ps = 0) :
    Calls Tryd.prog 8 #[.agg #[.int .i64 sent, .int .i64 heard, .slice a E.length c], v] w fun e w' => ∃ a' c' us, e = .returned (.tuple #[.agg #[.int .i64 (sent + 1), .int .i64 heard, .slice a' (E.length + 1) c'], .int .i64 0]) ∧ PendAt w' a' c' (E ++ [ps]) us ∧ Below w.heap.size w w' :=
  (send_own sent heard E vs a c ps v w hp hE hlen hs ho hso hT herr).mono fun _ _ ⟨a', c', he, ⟨us, hr⟩, hb⟩ => ⟨a', c', us, he, RowOps.pend (E := E ++ [ps]) (by rw [List.length_append]; exact hr), hb⟩

end Go.Proofs.YtbobeecagcmclaaDoor
