/-
  Walk: edge.Hear.
-/
import Derived.Test.YtbobeecagcmclaaDoorEdgeHear
import Derived.Test.YtbobeecagcmclaaDoorPenWalk
import Derived.OwnWalk
import Derived.Test.YtbobeecagcmclaaDoorRowOps
namespace Go.Proofs.YtbobeecagcmclaaDoor
open Go.RowKit Go.Lib

theorem info_opH : (Tryd.prog.info? 31).map (fun i => (i.zero, i.size, i.bytes)) = some (some (.slice none 0 0), 1, 24) := by kernel_rfl

/-- 'e.Pending[k:]' -/
theorem cut_pend {w : World} {a : Option Addr} {c : Nat} {E : List (List Part)} {vs : List Value} (hp : PendAt w a c E vs) (k : Nat) (hk : k ≤ E.length) (z : Int) (hz : z = (k : Int)) :
    ∃ la lc, (∀ wx : World, (Instr.slice 24 (.slice a E.length c) (some (.int .i64 z)) none none).run Tryd.prog wx = .ok (.slice la (E.drop k).length lc) wx) ∧ PendAt w la lc (E.drop k) (vs.drop k) := by
  subst hz
  refine ⟨if c = k then a else a.map (·.add (k * 1)), c - k, fun wx => ?_, ?_, ?_, ?_, ?_⟩
  · have e : Tryd.prog.underlying 24 = some (.slice (Tryd.prog.elem 24)) := by kernel_rfl
    rw [run_slice_l wx 24 a E.length c e .i64 (k : Int) (by omega) (by omega)]
    have hs : (sizeOf (Tryd.prog.elem 24)).run Tryd.prog wx = .ok 1 wx := by kernel_rfl
    rw [hs]
    simp [Result.andThen, sliced]
  · rw [List.length_drop, List.length_drop, hp.len]
  · rw [List.length_drop]; have := hp.cap; omega
  · by_cases h0 : vs.drop k = []
    · exact .inl h0
    · have hl : k < vs.length := by
        apply Nat.lt_of_not_le
        intro h
        exact h0 (List.drop_of_length_le h)
      have h1 := hp.len
      have h2 := hp.cap
      rcases hp.vals with h | ⟨b, off, rfl, hb, hc⟩
      · rw [h] at hl; simp at hl
      · refine .inr ⟨b, off + k, by rw [if_neg (by omega)]; simp [Addr.add], hb, fun i hi => ?_⟩
        rw [List.length_drop] at hi
        have := hc (k + i) (by omega)
        rw [List.getElem_drop]
        rw [← this, Nat.add_assoc]
  · intro i hi hi'
    rw [List.length_drop] at hi hi'
    rw [List.getElem_drop, List.getElem_drop]
    exact hp.each (k + i) (by omega) (by omega)

/-- what is heard, behind all that is left pending -/
def hearRun (up : Bool) : List (List Part) → List Part → Int × List (List Part) × List Part
  | [], t => (0, [], t)
  | q :: R, t => if passE up q t ≠ 0 then (passE up q t, [], []) else ((hearRun up R (passT up q t)).1, passM up q t :: (hearRun up R (passT up q t)).2.1, (hearRun up R (passT up q t)).2.2)

set_option maxRecDepth 100000 in
set_option maxHeartbeats 4000000 in
theorem hear_own (up : Bool) (sent heard : Int) (E : List (List Part)) (vs : List Value) (a : Option Addr) (c : Nat) (ps : List Part) (v : Value) (hd : Int) (w : World) (hp : PendAt w a c E vs) (hE : ∀ q ∈ E, OpSmall q) (hlen : E.length ≤ 1048576) (ho : OpVal w v ps) (hso : OpSmall ps) (hT : Tabs w) (herr : hearErr sent heard E ps hd = 0) :
    Calls Tryd.prog 11 #[.agg #[.int .i64 sent, .int .i64 heard, .slice a E.length c], v, .int .i64 hd, .bool up] w fun e w' => Below w.heap.size w w' ∧
      (((hearRun up (E.drop (hd - (sent - E.length)).toNat) ps).1 = 0 ∧ ∃ a' c' tv, e = .returned (.tuple #[.agg #[.int .i64 sent, .int .i64 (heard + 1), .slice a' (hearRun up (E.drop (hd - (sent - E.length)).toNat) ps).2.1.length c'], tv, .int .i64 0]) ∧
        (∃ us, RowOps w' w.heap.size (.slice a' (hearRun up (E.drop (hd - (sent - E.length)).toNat) ps).2.1.length c') (hearRun up (E.drop (hd - (sent - E.length)).toNat) ps).2.1 us) ∧ w'.ownsRow w.heap.size 75 3 tv (hearRun up (E.drop (hd - (sent - E.length)).toNat) ps).2.2.length (partCells (hearRun up (E.drop (hd - (sent - E.length)).toNat) ps).2.2)) ∨
      ((hearRun up (E.drop (hd - (sent - E.length)).toNat) ps).1 ≠ 0 ∧ e = .returned (.tuple #[.agg #[.int .i64 0, .int .i64 0, .slice none 0 0], .slice none 0 0, .int .i64 (hearRun up (E.drop (hd - (sent - E.length)).toNat) ps).1]))) := by
  obtain ⟨i0, hi, hz0, hz1, hz2⟩ := info_parts info_opH
  have hz : edgeBoth sent heard E ps = 0 ∧ ¬ (sent < hd ∨ hd < sent - E.length) ∧ heard ≠ 1048576 := by
    unfold hearErr at herr
    by_cases h1 : edgeBoth sent heard E ps = 0
    · rw [if_neg (by omega)] at herr
      by_cases h2 : sent < hd ∨ hd < sent - E.length
      · rw [if_pos h2] at herr; omega
      · rw [if_neg h2] at herr
        by_cases h3 : heard = 1048576
        · rw [if_pos h3] at herr; omega
        · exact ⟨h1, h2, h3⟩
    · rw [if_pos h1] at herr; exact absurd herr h1
  obtain ⟨hz3, hrng, hne⟩ := hz
  obtain ⟨bs, bh, bl, _, _⟩ := edgeBoth_zero hz3
  clear hz3
  have hb00 := (Below.refl w.heap.size w).alloc (Nat.le_refl _) (.cells #[.int .i64 sent, .int .i64 heard, .slice a E.length c] 26)
  have hb0 := hb00.alloc hb00.size (.cells #[.int .i64 0, .int .i64 0, .slice none 0 0] 26)
  have hblk := row_old (heap_alloc_new w (.cells #[.int .i64 sent, .int .i64 heard, .slice a E.length c] 26)) (.cells #[.int .i64 0, .int .i64 0, .slice none 0 0] 26)
  have hres := heap_alloc_new (w.alloc (.cells #[.int .i64 sent, .int .i64 heard, .slice a E.length c] 26)) (.cells #[.int .i64 0, .int .i64 0, .slice none 0 0] 26)
  have hsz : ((w.alloc (.cells #[.int .i64 sent, .int .i64 heard, .slice a E.length c] 26)).alloc (.cells #[.int .i64 0, .int .i64 0, .slice none 0 0] 26)).heap.size = w.heap.size + 2 := by simp
  rw [show (w.alloc (.cells #[.int .i64 sent, .int .i64 heard, .slice a E.length c] 26)).heap.size = w.heap.size + 1 by simp] at hres
  have hp0 := hp.below hb0
  have ho0 := ho.below hb0
  have c1 := checkHear_any sent heard E vs a c ps v hd _ hp0 hE (by omega) (by omega) ho0 hso (hT.below hb0)
  rw [herr] at c1
  have c2 := fun w1 => known_any sent heard E.length a c w1 bs bl
  obtain ⟨k, hk⟩ : ∃ k : Nat, (k : Int) = hd - (sent - E.length) := ⟨(hd - (sent - E.length)).toNat, by omega⟩
  have hkn : (hd - (sent - E.length)).toNat = k := by omega
  have hkl : k ≤ E.length := by omega
  rw [hkn]
  obtain ⟨la, lc, hcut, hpl⟩ := cut_pend hp0 k hkl (IntKind.i64.wrap (hd - (sent - E.length))) (by rw [IntKind.wrap_i64]; omega)
  obtain ⟨L, hL⟩ : ∃ L, L = E.drop k := ⟨_, rfl⟩
  obtain ⟨ls, hls⟩ : ∃ ls, ls = vs.drop k := ⟨_, rfl⟩
  have hLs : ∀ q ∈ L, OpSmall q := fun q hq => hE q (by rw [hL] at hq; exact List.mem_of_mem_drop hq)
  have hLl : L.length ≤ 1048576 := by rw [hL, List.length_drop]; omega
  rw [← hL, ← hls] at hpl
  rw [← hL] at hcut ⊢
  obtain ⟨RE, HRE⟩ : ∃ RE, Hid (RE = (hearRun up L ps).1) := ⟨_, rfl⟩
  obtain ⟨RM, HRM⟩ : ∃ RM, Hid (RM = (hearRun up L ps).2.1) := ⟨_, rfl⟩
  obtain ⟨RT, HRT⟩ : ∃ RT, Hid (RT = (hearRun up L ps).2.2) := ⟨_, rfl⟩
  rw [← HRE.out, ← HRM.out, ← HRT.out]
  clear herr hp ho hb00 hL hls hkn hk hE hp0
  generalize E.length = n at *
  have cO := fun w1 hb => copyOf_any ps v w1 (ho0.below hb) hso.1
  have hT0 := hT.below hb0
  clear ho0 hT
  go_enter Tryd.func11, Tryd.ntmps11
  go_wp2_with fail
  generalize ((w.alloc (.cells #[.int .i64 sent, .int .i64 heard, .slice a n c] 26)).alloc (.cells #[.int .i64 0, .int .i64 0, .slice none 0 0] 26)) = w0 at *
  refine c1.mono ?_
  rintro e w1 ⟨rfl, hb1⟩
  clear c1
  have hbk : ∀ w', Below w0.heap.size w0 w' → w'.heap[w.heap.size]? = some (.cells #[.int .i64 sent, .int .i64 heard, .slice a n c] 26 (0, 0)) := fun w' hb => (hb.block _ (by omega)).trans hblk
  have hrk : ∀ w', Below w0.heap.size w0 w' → w'.heap[w.heap.size + 1]? = some (.cells #[.int .i64 0, .int .i64 0, .slice none 0 0] 26 (0, 0)) := fun w' hb => (hb.block _ (by omega)).trans hres
  obtain ⟨k0, k1, k2⟩ := edge_cells (hbk w1 hb1)
  have hs1 := hb1.size
  have hS0 : (fun w' => (w'.cell? ⟨w.heap.size, 0, none⟩ = some (.int .i64 sent) ∧ w'.cell? ⟨w.heap.size, 1, none⟩ = some (.int .i64 heard) ∧ w'.cell? ⟨w.heap.size, 2, none⟩ = some (.slice a n c) ∧ Below w0.heap.size w0 w')) w1.drew := ⟨k0, k1, k2, hb1.trans ⟨rfl, rfl, rfl, Nat.le_refl _, fun _ _ => rfl⟩⟩
  have keepS : ∀ w' w'', (w'.cell? ⟨w.heap.size, 0, none⟩ = some (.int .i64 sent) ∧ w'.cell? ⟨w.heap.size, 1, none⟩ = some (.int .i64 heard) ∧ w'.cell? ⟨w.heap.size, 2, none⟩ = some (.slice a n c) ∧ Below w0.heap.size w0 w') → Below w'.heap.size w' w'' → (fun w' => (w'.cell? ⟨w.heap.size, 0, none⟩ = some (.int .i64 sent) ∧ w'.cell? ⟨w.heap.size, 1, none⟩ = some (.int .i64 heard) ∧ w'.cell? ⟨w.heap.size, 2, none⟩ = some (.slice a n c) ∧ Below w0.heap.size w0 w')) w'' := fun w' w'' h hb => by
    have hB := below_two h.2.2.2 hb (Nat.le_refl _)
    obtain ⟨q0, q1, q2⟩ := edge_cells (hbk w'' hB)
    exact ⟨q0, q1, q2, hB⟩
  go_wp2_with fail
  go_region_held3 (fun w' => (w'.cell? ⟨w.heap.size, 0, none⟩ = some (.int .i64 sent) ∧ w'.cell? ⟨w.heap.size, 1, none⟩ = some (.int .i64 heard) ∧ w'.cell? ⟨w.heap.size, 2, none⟩ = some (.slice a n c) ∧ Below w0.heap.size w0 w')) (with_reducible first | exact hS0 | exact keepS _ _ (by assumption) hbz) (first | (go_at_call 24; with_reducible refine Calls.mono (c2 _) ?_; rintro e wz ⟨rfl, hbz⟩))
  obtain ⟨_, _, _, HB2⟩ := keepS _ _ hS0 hbz
  have hbz2 := HB2.size
  clear k0 k1 k2 c2 hS0 keepS hbz hb1 hs1 hcut
  go_wp2_with (at_make; refine wpList_make_own _ rfl _ _ 24 rfl w0.heap.size 31 i0 _ 1 Tryd.underlying24 hi hz0 hz1 .i64 .i64 (L.length : Int) L.length rfl rfl (by omega) (by rw [hz2]; omega) (by unfold maxLen; omega) (by omega) ?_; intro w3 hown3 hgr3)
  have HB3 := HB2.grown hgr3 hbz2 (fun k e => by cases e)
  refine (cO _ HB3).mono ?_
  rintro e w4 ⟨tv, rfl, hown4, hb4⟩
  have HB4 := below_two HB3 hb4 (Nat.le_refl _)
  have hs3 := HB3.size
  have hown3' := own_below hown3 hb4
  have hown4' := own_base hown4 hs3
  clear cO hown3 hown4
  obtain ⟨pa, pc, rfl⟩ := own_form hown4'
  go_wp2_with fail
  go_loopw [13, 14, 42] (fun ov tv i wr => ∃ (j : Nat) (us : List Value) (M : List (List Part)) (T : List Part), j ≤ L.length ∧ i = .int .i64 j ∧ us.length = j ∧ M.length = j ∧ Hid (RE = (hearRun up (L.drop j) T).1) ∧ Hid (RM = M ++ (hearRun up (L.drop j) T).2.1) ∧ Hid (RT = (hearRun up (L.drop j) T).2.2) ∧ OpSmall T ∧ (∀ m (h : m < us.length) (h' : m < M.length), wr.ownsRow w0.heap.size 75 3 us[m] M[m].length (partCells M[m])) ∧ wr.ownsRow w0.heap.size 75 3 tv T.length (partCells T) ∧ wr.ownsRow w0.heap.size 31 1 ov j us ∧ Below w0.heap.size w0 wr) (fun _ _ i _ => L.length - (RowKit.intOf i).toNat)
  case atStart => exact ⟨0, [], [], ps, Nat.zero_le _, rfl, rfl, rfl, HRE, by simpa using HRM, HRT, hso, fun m h => by simp at h, hown4', hown3', HB4⟩
  case round =>
    obtain ⟨j, us, M, T, hj, rfl, hul, hml, HE, HM, HT, hTs, hus, htv, hown, hbr⟩ := hrel
    have hbrz := hbr.size
    obtain ⟨oa, oc, rfl⟩ := own_form hown
    obtain ⟨ta, tc, rfl⟩ := own_form htv
    by_cases hlt : j < L.length
    · have hjz : (j : Int) < (L.length : Int) := by omega
      have hl' : j < ls.length := by rw [hpl.len]; exact hlt
      have hpr := hpl.below hbr
      have cP := pass_any up L[j] T ls[j] _ wr (hpr.each j hlt hl') (opVal_own htv) (hLs _ (List.getElem_mem hlt)) hTs (hT0.below hbr)
      have hst : hearRun up (L.drop j) T = if passE up L[j] T ≠ 0 then (passE up L[j] T, [], []) else ((hearRun up (L.drop (j + 1)) (passT up L[j] T)).1, passM up L[j] T :: (hearRun up (L.drop (j + 1)) (passT up L[j] T)).2.1, (hearRun up (L.drop (j + 1)) (passT up L[j] T)).2.2) := by
        rw [List.drop_eq_getElem_cons hlt]; rfl
      have hsm := fun (h : passE up L[j] T = 0) => pass_small h
      rcases hpr.vals with h0 | ⟨b, off, rfl, hbl, hcell⟩
      · rw [h0] at hl'; simp at hl'
      · have hc := hcell j hl'
        obtain ⟨qa, qc, eq, _, _, _⟩ := (hpr.each j hlt hl').form
        rw [eq] at hc cP
        clear hcell hpr eq
        generalize L[j].length = el at *
        generalize passE up L[j] T = pe at *
        generalize passM up L[j] T = M1 at *
        generalize passT up L[j] T = T1 at *
        generalize T.length = tl at *
        by_cases he : pe = 0
        · subst he
          rw [if_neg (by simp)] at hst
          obtain ⟨_, _, hT1s⟩ := hsm rfl
          have HE' : Hid (RE = (hearRun up (L.drop (j + 1)) T1).1) := by show _ = _; rw [HE.out, hst]
          have HM' : Hid (RM = (M ++ [M1]) ++ (hearRun up (L.drop (j + 1)) T1).2.1) := by show _ = _; rw [HM.out, hst]; simp
          have HT' : Hid (RT = (hearRun up (L.drop (j + 1)) T1).2.2) := by show _ = _; rw [HT.out, hst]
          clear HE HM HT hst hsm
          go_wp2_with fail
          refine cP.mono ?_
          rintro e w5 ⟨x, y, rfl, hx, hy, hb5⟩
          have hb05 := below_two hbr hb5 (Nat.le_refl _)
          have hz5 := hb05.size
          obtain ⟨xa, xc, rfl⟩ := own_form hx
          obtain ⟨ya, yc, rfl⟩ := own_form hy
          have hown5 := own_below hown hb5
          obtain ⟨ml, hml1⟩ : ∃ ml, ml = M1.length := ⟨_, rfl⟩
          have HML : Hid (ml = M1.length) := hml1
          rw [← hml1]
          clear cP hml1
          go_wp2_with (at_builtin; refine wpList_append_lies _ rfl _ _ 24 rfl w0.heap.size 31 i0 _ 1 24 Tryd.underlying24 hi hz0 hz1 hz2 rfl (by decide) (.slice oa j oc) j us rfl (hown5.alloc _) ⟨w5.heap.size, 0, none⟩ 1 1 [.slice xa ml xc] rfl rfl (World.news_of_block (cs := #[.slice xa ml xc]) (t := 31) (fr := (0, 0)) (heap_alloc_new w5 _)) (by simp [Value.oneCell']) (by omega) (by unfold maxLen; omega) (by omega) (by simp; omega) _ rfl ?_; intro g1 cap1 w6 hown6 hgr6 hat6 hlt6)
          go_roundw
          case rel =>
            rw [HML.out] at hown6 hgr6
            have hch : Chg (fun k => (Value.slice oa j oc).ownBlock = some k) w5 w6 := ((Chg.refl _ w5).alloc _).grown hgr6 (fun k _ e => e)
            refine ⟨j + 1, us ++ [.slice xa M1.length xc], M ++ [M1], T1, hlt, by go_num, by simp [hul], by simp [hml], HE', HM', HT', hT1s, fun m h h' => ?_, own_chg (own_base hy hbrz) hch (own_ne (own_base hy hbrz) hown5 (by decide)), hown6, ?_⟩
            · by_cases hm : m < us.length
              · have hm' : m < M.length := by omega
                rw [List.getElem_append_left hm, List.getElem_append_left hm']
                exact own_chg (own_below (hus m hm hm') hb5) hch (own_ne (own_below (hus m hm hm') hb5) hown5 (by decide))
              · have hmj : m = j := by simp at h; omega
                subst hmj
                rw [List.getElem_append_right (by omega), List.getElem_append_right (by omega)]
                simp only [hul, hml, Nat.sub_self, List.getElem_cons_zero]
                exact own_chg (own_base hx hbrz) hch (own_ne (own_base hx hbrz) hown5 (by decide))
            · exact (hb05.alloc hz5 _).grown hgr6 (by simp; omega) (fun k e => (hown.lt k e).1)
          case measure => simp [RowKit.intOf]; omega
        · rw [if_pos he] at hst
          have HE' : Hid (RE = pe) := by show _ = _; rw [HE.out, hst]
          have g1 : (pe != 0) = true := by simpa using he
          clear HE HM HT hst hsm
          go_wp2_with fail
          refine cP.mono ?_
          rintro e w5 ⟨x, y, rfl, hx, hy, hb5⟩
          have hb05 := below_two hbr hb5 (Nat.le_refl _)
          obtain ⟨xa, xc, rfl⟩ := own_form hx
          obtain ⟨ya, yc, rfl⟩ := own_form hy
          generalize M1.length = ml at *
          generalize T1.length = tl1 at *
          clear cP hc
          have hr1 := hrk w5 hb05
          have hrl : w.heap.size + 1 < w5.heap.size := by have := hb05.size; omega
          obtain ⟨r0, r1, r2⟩ := edge_cells hr1
          have hf : ∀ j, w5.frozen? ⟨w.heap.size + 1, j, none⟩ = false := fun j => by simp [World.frozen?, hr1]
          have f0 := hf 0
          have f1 := hf 1
          have f2 := hf 2
          have HB : Below w.heap.size w w5 := below_two hb0 hb05 (Nat.le_refl _)
          go_wp2_with fail
          have hchR : Chg (fun k => k = w.heap.size + 1) w5 (((w5.setCell ⟨w.heap.size + 1, 0, none⟩ (.int .i64 0)).setCell ⟨w.heap.size + 1, 1, none⟩ (.int .i64 0)).setCell ⟨w.heap.size + 1, 2, none⟩ (.slice none 0 0)) := (((Chg.refl (fun k => k = w.heap.size + 1) w5).setCell (p := ⟨w.heap.size + 1, 0, none⟩) rfl _).setCell (p := ⟨w.heap.size + 1, 1, none⟩) rfl _).setCell (p := ⟨w.heap.size + 1, 2, none⟩) rfl _
          have s1 : (w5.setCell ⟨w.heap.size + 1, 0, none⟩ (.int .i64 0)).heap[w.heap.size + 1]? = some (.cells #[.int .i64 0, .int .i64 0, .slice none 0 0] 26 (0, 0)) := by rw [heap_setCell_same w5 (w.heap.size + 1) 0 _ _ _ hr1]; rfl
          have s2 : ((w5.setCell ⟨w.heap.size + 1, 0, none⟩ (.int .i64 0)).setCell ⟨w.heap.size + 1, 1, none⟩ (.int .i64 0)).heap[w.heap.size + 1]? = some (.cells #[.int .i64 0, .int .i64 0, .slice none 0 0] 26 (0, 0)) := by rw [heap_setCell_same _ (w.heap.size + 1) 1 _ _ _ s1]; rfl
          have s3 : (((w5.setCell ⟨w.heap.size + 1, 0, none⟩ (.int .i64 0)).setCell ⟨w.heap.size + 1, 1, none⟩ (.int .i64 0)).setCell ⟨w.heap.size + 1, 2, none⟩ (.slice none 0 0)).heap[w.heap.size + 1]? = some (.cells #[.int .i64 0, .int .i64 0, .slice none 0 0] 26 (0, 0)) := by rw [heap_setCell_same _ (w.heap.size + 1) 2 _ _ _ s2]; rfl
          obtain ⟨t0, t1, t2⟩ := edge_cells s3
          have hB5 := HB.trans (hchR.below (fun k e => by omega) (by omega : w.heap.size ≤ w5.heap.size))
          generalize (((w5.setCell ⟨w.heap.size + 1, 0, none⟩ (.int .i64 0)).setCell ⟨w.heap.size + 1, 1, none⟩ (.int .i64 0)).setCell ⟨w.heap.size + 1, 2, none⟩ (.slice none 0 0)) = w6 at *
          exact bodyPost_ret (v := .tuple #[.agg #[.int .i64 0, .int .i64 0, .slice none 0 0], .slice none 0 0, .int .i64 pe]) (by simp [results, Tryd.results11, go_sem, t0, t1, t2]) rfl ⟨hB5, .inr ⟨by rw [HE'.out]; exact he, by rw [HE'.out]⟩⟩
    · obtain rfl : j = L.length := by omega
      have hend : hearRun up (L.drop L.length) T = (0, [], T) := by rw [List.drop_of_length_le (Nat.le_refl _)]; rfl
      have HE' : Hid (RE = 0) := by show _ = _; rw [HE.out, hend]
      have HM' : Hid (RM = M) := by show _ = _; rw [HM.out, hend]; simp
      have HT' : Hid (RT = T) := by show _ = _; rw [HT.out, hend]
      clear HE HM HT hend
      have hkr := edge_cells (hbk wr hbr)
      obtain ⟨k0, k1, k2⟩ := hkr
      have hr4 := hrk wr hbr
      have hrl : w.heap.size + 1 < wr.heap.size := by omega
      have r4 := edge_cells hr4
      obtain ⟨r0, r1, r2⟩ := r4
      have hf : ∀ j, wr.frozen? ⟨w.heap.size + 1, j, none⟩ = false := fun j => by simp [World.frozen?, hr4]
      have f0 := hf 0
      have f1 := hf 1
      have f2 := hf 2
      generalize hTL : T.length = tl at *
      have HTL : Hid (T.length = tl) := hTL
      clear hTL
      go_wp2_with fail
      have hB4 : Below w.heap.size w wr := below_two hb0 hbr (Nat.le_refl _)
      have s1 : (wr.setCell ⟨w.heap.size + 1, 0, none⟩ (.int .i64 sent)).heap[w.heap.size + 1]? = some (.cells #[.int .i64 sent, .int .i64 0, .slice none 0 0] 26 (0, 0)) := by rw [heap_setCell_same wr (w.heap.size + 1) 0 _ _ _ hr4]; rfl
      have s2 : ((wr.setCell ⟨w.heap.size + 1, 0, none⟩ (.int .i64 sent)).setCell ⟨w.heap.size + 1, 1, none⟩ (.int .i64 (heard + 1))).heap[w.heap.size + 1]? = some (.cells #[.int .i64 sent, .int .i64 (heard + 1), .slice none 0 0] 26 (0, 0)) := by rw [heap_setCell_same _ (w.heap.size + 1) 1 _ _ _ s1]; rfl
      have s3 : (((wr.setCell ⟨w.heap.size + 1, 0, none⟩ (.int .i64 sent)).setCell ⟨w.heap.size + 1, 1, none⟩ (.int .i64 (heard + 1))).setCell ⟨w.heap.size + 1, 2, none⟩ (.slice oa L.length oc)).heap[w.heap.size + 1]? = some (.cells #[.int .i64 sent, .int .i64 (heard + 1), .slice oa L.length oc] 26 (0, 0)) := by rw [heap_setCell_same _ (w.heap.size + 1) 2 _ _ _ s2]; rfl
      have hchR : Chg (fun k => k = w.heap.size + 1) wr (((wr.setCell ⟨w.heap.size + 1, 0, none⟩ (.int .i64 sent)).setCell ⟨w.heap.size + 1, 1, none⟩ (.int .i64 (heard + 1))).setCell ⟨w.heap.size + 1, 2, none⟩ (.slice oa L.length oc)) := (((Chg.refl (fun k => k = w.heap.size + 1) wr).setCell (p := ⟨w.heap.size + 1, 0, none⟩) rfl _).setCell (p := ⟨w.heap.size + 1, 1, none⟩) rfl _).setCell (p := ⟨w.heap.size + 1, 2, none⟩) rfl _
      generalize hw5 : (((wr.setCell ⟨w.heap.size + 1, 0, none⟩ (.int .i64 sent)).setCell ⟨w.heap.size + 1, 1, none⟩ (.int .i64 (heard + 1))).setCell ⟨w.heap.size + 1, 2, none⟩ (.slice oa L.length oc)) = w5 at *
      clear hw5
      obtain ⟨t0, t1, t2⟩ := edge_cells s3
      have hown5 := own_chg hown hchR (fun k hk e => row_ne hown hr4 (by decide) (by rw [← e]; exact hk.symm))
      have htv5 := own_chg htv hchR (fun k hk e => row_ne htv hr4 (by decide) (by rw [← e]; exact hk.symm))
      have hB5 : Below w.heap.size w w5 := hB4.trans (hchR.below (fun k e => by omega) (by omega))
      have hbase : w.heap.size ≤ w0.heap.size := by omega
      refine bodyPost_ret (v := .tuple #[.agg #[.int .i64 sent, .int .i64 (heard + 1), .slice oa L.length oc], .slice ta tl tc, .int .i64 0]) (by simp [results, Tryd.results11, go_sem, t0, t1, t2]) rfl ⟨hB5, .inl ⟨HE'.out, oa, oc, .slice ta tl tc, by rw [HM'.out, hml], ⟨us, ?_⟩, ?_⟩⟩
      · rw [HM'.out]
        exact ⟨by rw [hul, hml], own_base (by rw [hml]; exact hown5) hbase, fun m h h' => own_base (own_chg (hus m h h') hchR (fun k hk e => row_ne (hus m h h') hr4 (by decide) (by rw [← e]; exact hk.symm))) hbase⟩
      · rw [HT'.out, HTL.out]
        exact own_base htv5 hbase

theorem hear_any (up : Bool) (sent heard : Int) (E : List (List Part)) (vs : List Value) (a : Option Addr) (c : Nat) (ps : List Part) (v : Value) (hd : Int) (w : World) (hp : PendAt w a c E vs) (hE : ∀ q ∈ E, OpSmall q) (hlen : E.length ≤ 1048576) (ho : OpVal w v ps) (hso : OpSmall ps) (hT : Tabs w) (herr : hearErr sent heard E ps hd = 0) :
    Calls Tryd.prog 11 #[.agg #[.int .i64 sent, .int .i64 heard, .slice a E.length c], v, .int .i64 hd, .bool up] w fun e w' => Below w.heap.size w w' ∧
      (((hearRun up (E.drop (hd - (sent - E.length)).toNat) ps).1 = 0 ∧ ∃ a' c' us tv, e = .returned (.tuple #[.agg #[.int .i64 sent, .int .i64 (heard + 1), .slice a' (hearRun up (E.drop (hd - (sent - E.length)).toNat) ps).2.1.length c'], tv, .int .i64 0]) ∧
        PendAt w' a' c' (hearRun up (E.drop (hd - (sent - E.length)).toNat) ps).2.1 us ∧ w'.ownsRow w.heap.size 75 3 tv (hearRun up (E.drop (hd - (sent - E.length)).toNat) ps).2.2.length (partCells (hearRun up (E.drop (hd - (sent - E.length)).toNat) ps).2.2)) ∨
      ((hearRun up (E.drop (hd - (sent - E.length)).toNat) ps).1 ≠ 0 ∧ e = .returned (.tuple #[.agg #[.int .i64 0, .int .i64 0, .slice none 0 0], .slice none 0 0, .int .i64 (hearRun up (E.drop (hd - (sent - E.length)).toNat) ps).1]))) := by
  refine (hear_own up sent heard E vs a c ps v hd w hp hE hlen ho hso hT herr).mono ?_
  rintro e w' ⟨hb, h⟩
  refine ⟨hb, ?_⟩
  rcases h with ⟨h0, a', c', tv, he, ⟨us, hr⟩, ht⟩ | h
  · exact .inl ⟨h0, a', c', us, tv, he, RowOps.pend hr, ht⟩
  · exact .inr h

end Go.Proofs.YtbobeecagcmclaaDoor
