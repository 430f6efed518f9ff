/-
  Walk: wherrykeep.TapeKeeps.
-/
import Derived.Test.YtknjnfknalfbdaaDoorKTaped
import Derived.Test.YtknjnfknalfbdaaDoorTapePure
import Derived.Test.YtknjnfknalfbdaaDoorTapeRecov
import Derived.Test.YtknjnfknalfbdaaDoorKBegins
namespace Go.Proofs.YtknjnfknalfbdaaDoor
open Go.RowKit Go.Lib

theorem bArg_rowK {w : World} {B n : Nat} {a : Option Addr} {c : Nat} {l : List Nat} (h : w.ownsRow B 5 1 (.slice a n c) n (octs l)) : BArg w a c l := by
  have e : n = l.length := by have := h.1; rw [octs_length] at this; omega
  subst e
  obtain ⟨_, _, e5, hA⟩ := bArg_own h
  simp only [Value.slice.injEq, true_and] at e5
  obtain ⟨rfl, rfl⟩ := e5
  exact hA
theorem kmap_okK {K : List RecC} (h : RecsOk K) : ∀ r ∈ K.map (·.1), RecOk r.1 r.2 := by
  intro r hr
  obtain ⟨x, hx, rfl⟩ := List.mem_map.1 hr
  exact h x hx
/-- 'rs[:k:k]', 'rs[k:]' -/
theorem cut_recs (a : Option Addr) (L c k : Nat) (hk : k ≤ L) (hc : L ≤ c) :
    (∀ wx : World, (Instr.slice 86 (.slice a L c) none (some (.int .i64 (k : Int))) (some (.int .i64 (k : Int)))).run Tryd.prog wx = .ok (.slice a k k) wx) ∧
    (∀ wx : World, (Instr.slice 86 (.slice a L c) (some (.int .i64 (k : Int))) none none).run Tryd.prog wx = .ok (.slice (if c = k then a else a.map (·.add (k * 2))) (L - k) (c - k)) wx) := by
  have e : Tryd.prog.underlying 86 = some (.slice (Tryd.prog.elem 86)) := by kernel_rfl
  have hs : ∀ wx, (sizeOf (Tryd.prog.elem 86)).run Tryd.prog wx = .ok 2 wx := fun wx => by kernel_rfl
  refine ⟨fun wx => ?_, fun wx => ?_⟩
  · rw [run_slice_hm wx 86 a L c e .i64 .i64 (k : Int) (k : Int) (by omega) (by omega) (by omega), hs]
    simp [Result.andThen, sliced, Addr.add]
  · rw [run_slice_l wx 86 a L c e .i64 (k : Int) (by omega) (by omega), hs]
    simp [Result.andThen, sliced]
theorem RecsAt.take {w : World} {a : Option Addr} {R : List RecV} (h : RecsAt w a R) (k : Nat) : RecsAt w a (R.take k) := by
  rcases h with rfl | ⟨b, off, rfl, hb, hx⟩
  · exact .inl (by simp)
  · refine .inr ⟨b, off, rfl, hb, fun i hi => ?_⟩
    rw [List.length_take] at hi
    simp only [List.getElem_take]
    exact hx i (by omega)
theorem RecsAt.drop {w : World} {a : Option Addr} {R : List RecV} (h : RecsAt w a R) (c k : Nat) (hc : R.length ≤ c) : RecsAt w (if c = k then a else a.map (·.add (k * 2))) (R.drop k) := by
  by_cases h0 : R.drop k = []
  · exact .inl h0
  · have hl : k < R.length := by
      apply Nat.lt_of_not_le
      intro hh
      exact h0 (List.drop_of_length_le hh)
    rcases h with rfl | ⟨b, off, rfl, hb, hx⟩
    · simp at hl
    · refine .inr ⟨b, off + k * 2, by rw [if_neg (by omega)]; simp [Addr.add], hb, fun i hi => ?_⟩
      rw [List.length_drop] at hi
      simp only [List.getElem_drop]
      obtain ⟨oa, oc, h1, h2, h3⟩ := hx (k + i) (by omega)
      refine ⟨oa, oc, ?_, ?_, h3⟩
      · rw [show off + k * 2 + i * 2 = off + (k + i) * 2 by omega]; exact h1
      · rw [show off + k * 2 + i * 2 + 1 = off + (k + i) * 2 + 1 by omega]; exact h2

set_option maxRecDepth 100000 in
set_option maxHeartbeats 4000000 in
theorem tapeKeeps_walk (rs : List RawV) (a : Option Addr) (cap : Nat) (at_ keep : Int) (w : World) (hr : RawsAt w a rs) (hok : ∀ r ∈ rs, RawOk r) (hlen : rs.length ≤ 9223372036854775807) (hcap : rs.length ≤ cap) (ha : -9223372036854775808 ≤ at_ ∧ at_ ≤ 9223372036854775807) (hk : -9223372036854775808 ≤ keep ∧ keep ≤ 9223372036854775807) (hT : Tabs w) :
    Calls Tryd.prog 13 #[.slice a rs.length cap, .int .i64 at_, .int .i64 keep] w fun e w' => e = .returned (.bool true) ∧ Below w.heap.size w w' := by
  have cR := records_any rs a cap 25 w hr hok hlen hcap (by decide)
  clear hr hok
  go_enter Tryd.func13, Tryd.ntmps13
  go_wp2_with fail
  refine cR.mono ?_
  rintro e w1 ⟨v1, rfl, K, hK, hKok, hKl, hb1⟩
  obtain ⟨ka, kc, rfl, hkc, -, hKa⟩ := hK.recs
  have hRok := kmap_okK hKok
  have hRl : (K.map (·.1)).length ≤ 25 := by rw [List.length_map]; exact hKl
  clear hK hKok hKl cR
  generalize K.map (·.1) = R at *
  have hL : (tapeT R).length ≤ 2000150 := by
    have h1 := tapeT_bound R hRok
    omega
  have hp := pick_lt at_ ((R.length : Int) + 1) (by omega)
  have cP := picked_same at_ ((R.length : Int) + 1) w1 ha (by omega) (by omega)
  go_wp2_with fail
  refine cP.mono ?_
  rintro e w2 ⟨rfl, rfl⟩
  generalize pick at_ ((R.length : Int) + 1) = k at *
  have hkl : k ≤ R.length := by omega
  obtain ⟨hcut1, hcut2⟩ := cut_recs ka R.length kc k hkl hkc
  have hlk : (R.take k).length = k := by rw [List.length_take]; omega
  have cT := taped_any (R.take k) ka k w2 (hKa.take k) (fun r hr => hRok r (List.mem_of_mem_take hr)) (by omega) (hT.below hb1)
  rw [hlk] at cT
  clear cP
  go_wp2_with fail
  refine cT.mono ?_
  rintro e w3 ⟨v2, rfl, hown2, hb2⟩
  obtain ⟨va, vc, rfl, hA⟩ := bArg_own hown2
  have HB2 := below_two hb1 hb2 (Nat.le_refl _)
  have ht := heap_alloc_new w3 (.cells #[.slice va (tapeT (R.take k)).length vc, .int .i64 0] 80)
  have hba := (Below.refl w3.heap.size w3).alloc (Nat.le_refl _) (.cells #[.slice va (tapeT (R.take k)).length vc, .int .i64 0] 80)
  have HB3 := below_two HB2 hba (Nat.le_refl _)
  have hz03 := HB2.size
  have hA3 := hA.below hba
  have hK3 := hKa.below hb2
  have hbw := hba
  have hPl : (tapeT (R.take k)).length ≤ (tapeT R).length := by
    have := tapeT_take_mono R (show k ≤ R.length from hkl)
    rwa [List.take_length] at this
  have hsy : syncT (tapeT (R.take k)) 0 = (tapeT (R.take k), ((tapeT (R.take k)).length : Int), 0) := by
    unfold syncT
    rw [if_pos ⟨by omega, by omega, by omega⟩]
  have cS := sync_any (tapeT (R.take k)) va vc 0 _ hA3 (by omega)
  rw [hsy] at cS
  simp only at cS
  clear cT hown2 hba hb1 hb2 HB2 hA hKa hsy
  obtain ⟨q0, ql0, qf0⟩ := blk ht
  go_wp2_with fail
  refine cS.mono ?_
  generalize (w3.alloc (.cells #[.slice va (tapeT (R.take k)).length vc, .int .i64 0] 80)) = w4 at *
  rintro e w5 ⟨v5, rfl, hown5, hb5⟩
  obtain ⟨xa, xc, rfl⟩ := own_form hown5
  have HB5 := below_two HB3 hb5 (Nat.le_refl _)
  replace ht := (hb5.block _ ql0).trans ht
  obtain ⟨hts, hch⟩ := tape_store ht (x := .slice xa (tapeT (R.take k)).length xc) (y := .int .i64 ((tapeT (R.take k)).length : Int))
  have hown6 := own_chg hown5 hch (fun k hk e => row_ne hown5 ht (by decide) (by rw [← e]; exact hk.symm))
  have HB6 := HB5.trans (hch.below (B := w.heap.size) (fun i e => by have := hz03; omega) HB5.size)
  have hbw6 : Below w3.heap.size w3 ((w5.setCell ⟨w3.heap.size, 0, none⟩ (.slice xa (tapeT (R.take k)).length xc)).setCell ⟨w3.heap.size, 1, none⟩ (.int .i64 ((tapeT (R.take k)).length : Int))) := (below_two hbw hb5 (Nat.le_refl _)).trans (hch.below (B := w3.heap.size) (fun i e => by omega) (Nat.le_trans hbw.size hb5.size))
  clear hown5 hch HB5 cS q0 ql0 hA3 hb5 HB3
  obtain ⟨q0, ql0, qf0⟩ := blk ht
  obtain ⟨y0, yl0, yf0⟩ := blk hts
  have hKd := fun wx (hx : Below w3.heap.size w3 wx) => (hK3.below hx).drop kc k hkc
  generalize (if kc = k then ka else ka.map (·.add (k * 2))) = da at *
  have hdl : (R.drop k).length = R.length - k := List.length_drop ..
  go_wp2_with fail
  generalize ((w5.setCell ⟨w3.heap.size, 0, none⟩ (.slice xa (tapeT (R.take k)).length xc)).setCell ⟨w3.heap.size, 1, none⟩ (.int .i64 ((tapeT (R.take k)).length : Int))) = w6 at *
  have hown7 := own_base hown6 (show w.heap.size ≤ w4.heap.size by have := hbw.size; omega)
  clear q0 ql0 qf0 ht y0 yl0 yf0 hown6 hbw
  obtain ⟨P, hP⟩ : ∃ P, P = (tapeT (R.take k)).length := ⟨_, rfl⟩
  rw [← hP] at hts hown7 hPl ⊢
  have HP : Hid (P = (tapeT (R.take k)).length) := hP
  clear hP
  go_loopg [48] (R.length - k) (fun g iv wr => ∃ (i : Nat) (v : Value), i + g = R.length - k ∧ iv = .int .i64 (i : Int) ∧ wr.heap[w3.heap.size]? = some (.cells #[v, .int .i64 (P : Int)] 80 (0, 0)) ∧ wr.ownsRow w.heap.size 5 1 v (tapeT (R.take (k + i))).length (octs (tapeT (R.take (k + i)))) ∧ Below w.heap.size w wr ∧ Below w3.heap.size w3 wr)
  case atStart => exact ⟨0, .slice xa P xc, by omega, rfl, hts, by rw [Nat.add_zero, ← HP.out]; exact hown7, HB6, hbw6⟩
  case round =>
    clear hts hown7 HB6 hbw6
    obtain ⟨i, v, hi, rfl, ht, hown, hb, hbw⟩ := hrel
    obtain ⟨va, vc, rfl, hA⟩ := bArg_own hown
    have hPll : P ≤ (tapeT (R.take (k + i))).length := by
      rw [HP.out]
      exact tapeT_take_mono R (by omega)
    have hz3 := hb.size
    by_cases hlt : i < R.length - k
    · have hiz : (i : Int) < ((R.length - k : Nat) : Int) := by omega
      have hi0 : (0 : Int) ≤ (i : Int) := by omega
      have hki : k + i < R.length := by omega
      have hrk := hRok R[k + i] (List.getElem_mem hki)
      have HN : Hid (tapeT (R.take (k + (i + 1))) = tapeT (R.take (k + i)) ++ recT R[k + i]) := tapeT_next R hki
      have hml := recT_many hrk
      have hll : (tapeT (R.take (k + i))).length ≤ 2000150 := by
        have := tapeT_take_mono R (show k + i ≤ R.length by omega)
        rw [List.take_length] at this
        omega
      rcases hKd wr hbw with h0 | ⟨b, off, rfl, hbl, hc⟩
      · exfalso
        have : (R.drop k).length = 0 := by rw [h0]; rfl
        omega
      · obtain ⟨oa, oc, c0, c1, hop⟩ := hc i (by omega)
        simp only [List.getElem_drop] at c0 c1 hop
        have hap := appendT_ok (l := tapeT (R.take (k + i))) (s := (P : Int)) (n := R[k + i].1) (ps := R[k + i].2) ⟨by omega, by omega, by omega⟩ hrk (by omega)
        have hps := recOk_small hrk
        have hst := hrk.text
        generalize tapeT (R.take (k + i)) = L at *
        clear hc
        generalize R[k + i] = rc at *
        obtain ⟨n, ps⟩ := rc
        simp only at c0 c1 hop hap hps hst hml
        have hba := (Below.refl wr.heap.size wr).alloc (Nat.le_refl _) (.cells #[.int .i64 (n : Int), .slice oa ps.length oc] 74)
        have hrb := heap_alloc_new wr (.cells #[.int .i64 (n : Int), .slice oa ps.length oc] 74)
        have hb1 := below_two hb hba (Nat.le_refl _)
        have hbw1 := below_two hbw hba (Nat.le_refl _)
        have ht1 := row_old ht (.cells #[.int .i64 (n : Int), .slice oa ps.length oc] 74)
        have cA := append_any L va vc (P : Int) (n : Int) ps oa oc _ (hA.below hba) (by omega) (hop.below hba) hps hst (hT.below hb1)
        rw [hap] at cA
        simp only at cA
        clear hap hown hA hba ht
        obtain ⟨q1, ql1, _⟩ := blk ht1
        obtain ⟨q2, ql2, _⟩ := blk hrb
        go_wp2_with fail
        refine cA.mono ?_
        generalize (wr.alloc (.cells #[.int .i64 (n : Int), .slice oa ps.length oc] 74)) = w1 at *
        rintro r w2 ⟨v2, rfl, hown2, hb2⟩
        obtain ⟨va2, vc2, rfl⟩ := own_form hown2
        have HB2 := below_two hb1 hb2 (Nat.le_refl _)
        have hB2 := hb1.size
        replace ht1 := row_old ((hb2.block _ ql1).trans ht1) (.cells #[.slice va2 (L ++ recT (n, ps)).length vc2, .int .i64 (P : Int)] 80)
        have hnb := heap_alloc_new w2 (.cells #[.slice va2 (L ++ recT (n, ps)).length vc2, .int .i64 (P : Int)] 80)
        have hba := (Below.refl w2.heap.size w2).alloc (Nat.le_refl _) (.cells #[.slice va2 (L ++ recT (n, ps)).length vc2, .int .i64 (P : Int)] 80)
        have hb3 := below_two HB2 hba (Nat.le_refl _)
        have hbw3 := below_two (below_two hbw1 hb2 (Nat.le_refl _)) hba (Nat.le_refl _)
        have hown3 := own_below hown2 hba
        generalize L ++ recT (n, ps) = L3 at *
        clear cA q1 q2 ql1 ql2 hrb hb1 hb2 hba hown2
        obtain ⟨q1, ql1, qf1⟩ := blk ht1
        obtain ⟨q2, ql2, _⟩ := blk hnb
        obtain ⟨hfin, hch⟩ := tape_store ht1 (x := .slice va2 L3.length vc2) (y := .int .i64 (P : Int))
        have hown4 := own_chg hown3 hch (fun k hk e => row_ne hown3 ht1 (by decide) (by rw [← e]; exact hk.symm))
        have hz33 : w.heap.size ≤ w3.heap.size := hz03
        have hb4 := hb3.trans (hch.below (B := w.heap.size) (fun i e => by omega) hb3.size)
        have hbw4 := hbw3.trans (hch.below (B := w3.heap.size) (fun i e => by omega) hbw3.size)
        clear hown3
        go_wp2_with fail
        go_roundg (R.length - k - i - 1)
        case measure => omega
        case rel => exact ⟨i + 1, .slice va2 L3.length vc2, by omega, by go_num, hfin, by rw [HN.out]; exact own_base hown4 hB2, hb4, hbw4⟩
    · have hiz : ¬ (i : Int) < ((R.length - k : Nat) : Int) := by omega
      have HQ : Hid (R.take (k + i) = R) := List.take_of_length_le (by omega)
      rw [HQ.out] at ht hown hA hPll
      obtain ⟨q0, ql0, qf0⟩ := blk ht
      have hp := pick_lt keep 200 (by omega)
      have cP := fun wx => picked_same keep 200 wx hk (by omega) (by omega)
      generalize pick keep 200 = m at *
      obtain ⟨M, hM⟩ : ∃ M, M = min (P + m) (tapeT R).length := ⟨_, rfl⟩
      have hMl : M ≤ (tapeT R).length := by omega
      have hMP : P ≤ M := by omega
      have hcr : crashT (tapeT R) (P : Int) (m : Int) = ((tapeT R).take M, (M : Int), 0) := by
        unfold crashT
        rw [if_pos ⟨by omega, by omega, by omega⟩, if_neg (by omega)]
        have e : (P : Int) + min (m : Int) (((tapeT R).length : Int) - (P : Int)) = (M : Int) := by omega
        rw [e, Int.toNat_natCast]
      have HBd := below_two hb (below_drew wr) (Nat.le_refl _)
      have cC := crash_any (tapeT R) va vc (P : Int) (m : Int) wr.drew (hA.below (below_drew wr)) (by omega) (by omega)
      rw [hcr] at cC
      simp only at cC
      have hlM : ((tapeT R).take M).length = M := by rw [List.length_take]; omega
      rw [hlM] at cC
      have htd : wr.drew.heap[w3.heap.size]? = some (.cells #[.slice va (tapeT R).length vc, .int .i64 (P : Int)] 80 (0, 0)) := ht
      have hKr := hK3.below hbw
      have hRd := hKr.below (below_drew wr)
      clear hM hcr
      go_wp2_with fail
      go_region_law (first | (go_simp; go_at_call 21; with_reducible refine Calls.mono (cP _) ?_; rintro e wz ⟨rfl, rfl⟩) | (go_simp; go_at_call 53; with_reducible refine Calls.mono cC ?_; rintro e wz ⟨v, rfl, hown', hbz⟩; have hof := own_form hown'; obtain ⟨xa', xc', rfl⟩ := hof; have htz := (hbz.block _ (Array.getElem?_eq_some_iff.1 htd).1).trans htd; have hbk := blk htz; obtain ⟨tz, tlz, tfz⟩ := hbk))
      all_goals
        obtain ⟨hts, hch⟩ := tape_store htz (x := .slice xa' M xc') (y := .int .i64 (M : Int))
        have hz33 : w.heap.size ≤ w3.heap.size := hz03
        have HBz := below_two HBd hbz (Nat.le_refl _)
        have HB5 := HBz.trans (hch.below (B := w.heap.size) (fun i e => by omega) HBz.size)
        have hown5 := own_chg hown' hch (fun k hk e => row_ne hown' htz (by decide) (by rw [← e]; exact hk.symm))
        have hA5 := bArg_rowK hown5
        have hbw5 : Below w3.heap.size w3 ((wz.setCell ⟨w3.heap.size, 0, none⟩ (.slice xa' M xc')).setCell ⟨w3.heap.size, 1, none⟩ (.int .i64 (M : Int))) := (below_two (below_two hbw (below_drew wr) (Nat.le_refl _)) hbz (Nat.le_refl _)).trans (hch.below (B := w3.heap.size) (fun i e => by omega) (Nat.le_trans (Nat.le_trans hbw.size (Nat.le_refl _)) hbz.size))
        have hK5 := hK3.below hbw5
        clear hown hown' hown5 hbz htz tz tlz tfz hch HBz cC htd hA q0 ql0 qf0 ht hbw5 hKr hRd HBd
        have h256 := tapeT_small hRok
        obtain ⟨j, j1, j2, j3, j4, -, j6⟩ := recAll_torn hRok hMl
        have hkj : k ≤ j := j6 k hkl (by rw [← HP.out]; exact hMP)
        have hRj : ∀ r ∈ R.take j, RecOk r.1 r.2 := fun r hr => hRok r (List.mem_of_mem_take hr)
        go_simp
        generalize ((wz.setCell ⟨w3.heap.size, 0, none⟩ (.slice xa' M xc')).setCell ⟨w3.heap.size, 1, none⟩ (.int .i64 (M : Int))) = w5 at *
        have c1 := recover_any ((tapeT R).take M) xa' xc' (M : Int) w5 hA5 (fun x hx => h256 x (List.mem_of_mem_take hx)) (by omega) (hT.below HB5) ⟨by omega, by omega, by omega⟩
        rw [j2] at c1
        simp only at c1
        rw [j3, hlM] at c1
        have hmin : min (M : Int) ((tapeT (R.take j)).length : Int) = ((tapeT (R.take j)).length : Int) := by omega
        rw [hmin] at c1
        have hPT : P ≤ (tapeT (R.take j)).length := by rw [HP.out]; exact tapeT_take_mono R hkj
        have hkP : k = 0 ∨ 0 < P := by
          by_cases h0 : k = 0
          · exact .inl h0
          · right
            have h1 := tapeT_take_mono R (show 1 ≤ k by omega)
            have h2 := tapeT_next R (show 0 < R.length by omega)
            have h3 := recT_many (hRok R[0] (List.getElem_mem (by omega)))
            have h4 : (R[0].1, R[0].2) = R[0] := rfl
            rw [h4] at h3
            rw [h2, List.length_append] at h1
            rw [HP.out]
            omega
        have hjl : (R.take j).length = j := by rw [List.length_take]; omega
        have hpre : ∀ i (h : i < (R.take j).length), R[i]? = some (R.take j)[i] := by
          intro i h
          rw [hjl] at h
          rw [List.getElem_take, List.getElem?_eq_getElem (by omega)]
        have hsml : ∀ r ∈ R.take j, r.2.length ≤ 10000 := fun r hr => by
          have := hRj r hr
          exact (opErr_parts (recordErr_zero this.err).2.2 this.text).1
        have hJl : (R.take j).length ≤ R.length := by omega
        have hJk : k ≤ (R.take j).length := by omega
        obtain ⟨y0, yl0, _⟩ := blk hts
        clear hmin hA5 hlM h256 j2 j3 hjl hRj
        generalize tapeT (R.take j) = T at *
        generalize R.take j = J at *
        go_wp2_with fail
        refine c1.mono ?_
        rintro e w6 ⟨rv, uv, rfl, ⟨K1, hK1, HK1⟩, hown6, hb6⟩
        obtain ⟨ga, gc, eg, -, -, hGa⟩ := hK1.recs
        rw [HK1.out] at eg hGa
        subst eg
        obtain ⟨ua, uc, rfl⟩ := own_form hown6
        have HB6 := below_two HB5 hb6 (Nat.le_refl _)
        have hu := heap_alloc_new w6 (.cells #[.slice ua T.length uc, .int .i64 (T.length : Int)] 80)
        have hba := (Below.refl w6.heap.size w6).alloc (Nat.le_refl _) (.cells #[.slice ua T.length uc, .int .i64 (T.length : Int)] 80)
        have HB7 := below_two HB6 hba (Nat.le_refl _)
        have hK7 := (hK5.below hb6).below hba
        have cB := begins_true J R ga ka gc kc _ (hGa.below hba) hK7 hpre hJl (by omega) hsml
        have hg1 : decide ((k : Int) ≤ (J.length : Int)) = true := decide_eq_true (by omega)
        have hg2 : decide ((P : Int) ≤ (T.length : Int)) = true := decide_eq_true (by omega)
        clear hK1 HK1 hown6 hba hb6 HB6 HB5 y0 yl0 hts c1 hGa hK5 hK7 hpre hsml
        obtain ⟨q0, ql0, _⟩ := blk hu
        go_wp2_with fail
        refine cB.mono ?_
        generalize (w6.alloc (.cells #[.slice ua T.length uc, .int .i64 (T.length : Int)] 80)) = w7 at *
        rintro e w8 ⟨rfl, hb8⟩
        have HB8 := below_two HB7 hb8 (Nat.le_refl _)
        replace hu := (hb8.block _ ql0).trans hu
        clear cB q0 ql0 hb8
        obtain ⟨q0, ql0, _⟩ := blk hu
        rcases hkP with rfl | hP0
        · go_wp2_with fail
          go_ret
          exact ⟨by simp, HB8⟩
        · by_cases hk0 : k = 0
          · subst hk0
            go_wp2_with fail
            go_ret
            exact ⟨by simp, HB8⟩
          · have hkz : ((k : Int) == 0) = false := by simp; omega
            have hPz : (0 : Int) < (P : Int) := by omega
            go_wp2_with fail
            go_ret
            exact ⟨by simp, HB8⟩

end Go.Proofs.YtknjnfknalfbdaaDoor
