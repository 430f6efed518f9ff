/-
  Walk: wherrykeep.TapeOn.
-/
import Derived.Test.YtknjnfknalfbdaaDoorKTaped
import Derived.Test.YtknjnfknalfbdaaDoorTapePure
import Derived.Test.YtknjnfknalfbdaaDoorTapeRecov
import Derived.Test.YtknjnfknalfbdaaDoorKBegins
namespace Go.Proofs.YtknjnfknalfbdaaDoor
open Go.RowKit Go.Lib

theorem to_keep {gb ob n : Nat} {J : List RecV} {ps : List Part} {ta oa : Option Addr} {tc oc : Nat} {w8 w13 w' w'' : World} (h : (fun w' : World => w'.cell? ⟨gb, ob + J.length * 2, none⟩ = some (.int .i64 (n : Int)) ∧ w'.cell? ⟨gb, ob + J.length * 2 + 1, none⟩ = some (.slice ta ps.length tc) ∧ w'.cell? ⟨w8.heap.size, 0, none⟩ = some (.int .i64 (n : Int)) ∧ w'.cell? ⟨w8.heap.size, 1, none⟩ = some (.slice oa ps.length oc) ∧ Below w13.drew.heap.size w13.drew w') w') (hg : gb < w13.drew.heap.size) (hx : w8.heap.size < w13.drew.heap.size) (hb : Below w'.heap.size w' w'') : (fun w' : World => w'.cell? ⟨gb, ob + J.length * 2, none⟩ = some (.int .i64 (n : Int)) ∧ w'.cell? ⟨gb, ob + J.length * 2 + 1, none⟩ = some (.slice ta ps.length tc) ∧ w'.cell? ⟨w8.heap.size, 0, none⟩ = some (.int .i64 (n : Int)) ∧ w'.cell? ⟨w8.heap.size, 1, none⟩ = some (.slice oa ps.length oc) ∧ Below w13.drew.heap.size w13.drew w') w'' := by
  have hz := h.2.2.2.2.size
  exact ⟨(hb.cell (p := ⟨gb, ob + J.length * 2, none⟩) (Nat.lt_of_lt_of_le hg hz)).trans h.1, (hb.cell (p := ⟨gb, ob + J.length * 2 + 1, none⟩) (Nat.lt_of_lt_of_le hg hz)).trans h.2.1, (hb.cell (p := ⟨w8.heap.size, 0, none⟩) (Nat.lt_of_lt_of_le hx hz)).trans h.2.2.1, (hb.cell (p := ⟨w8.heap.size, 1, none⟩) (Nat.lt_of_lt_of_le hx hz)).trans h.2.2.2.1, below_two h.2.2.2.2 hb (Nat.le_refl _)⟩
theorem bArg_row {w : World} {B n : Nat} {a : Option Addr} {c : Nat} {l : List Nat} (h : w.ownsRow B 5 1 (.slice a n c) n (octs l)) : BArg w a c l := by
  have e : n = l.length := by have := h.1; rw [octs_length] at this; omega
  subst e
  obtain ⟨_, _, e5, hA⟩ := bArg_own h
  simp only [Value.slice.injEq, true_and] at e5
  obtain ⟨rfl, rfl⟩ := e5
  exact hA
theorem kmap_okO {K : List RecC} (h : RecsOk K) : ∀ r ∈ K.map (·.1), RecOk r.1 r.2 := by
  intro r hr
  obtain ⟨x, hx, rfl⟩ := List.mem_map.1 hr
  exact h x hx

set_option maxRecDepth 100000 in
set_option maxHeartbeats 4000000 in
theorem tapeOn_walk (rs : List RawV) (a : Option Addr) (cap : Nat) (keep : Int) (r : RawV) (w : World) (hr : RawsAt w a rs) (hok : ∀ r ∈ rs, RawOk r) (hlen : rs.length ≤ 9223372036854775807) (hcap : rs.length ≤ cap) (hk : -9223372036854775808 ≤ keep ∧ keep ≤ 9223372036854775807) (hrr : RawOk r) (hT : Tabs w) :
    Calls Tryd.prog 15 #[.slice a rs.length cap, .int .i64 keep, .agg #[.int .i64 r.kind, .int .i64 r.a, .int .i64 r.b, .int .i64 r.c, .string r.text]] w fun e w' => e = .returned (.bool true) ∧ Below w.heap.size w w' := by
  have hb0 := (Below.refl w.heap.size w).alloc (Nat.le_refl _) (.cells #[.int .i64 r.kind, .int .i64 r.a, .int .i64 r.b, .int .i64 r.c, .string r.text] 63)
  have hpb := heap_alloc_new w (.cells #[.int .i64 r.kind, .int .i64 r.a, .int .i64 r.b, .int .i64 r.c, .string r.text] 63)
  have cR := records_any rs a cap 15 _ (hr.below hb0 (Nat.le_refl _)) hok hlen hcap (by decide)
  go_enter Tryd.func15, Tryd.ntmps15
  go_wp2_with fail
  refine cR.mono ?_
  rintro e w1 ⟨v1, rfl, K, hK, hKok, hKl, hb1⟩
  obtain ⟨ka, kc, rfl, -, -, hKa⟩ := hK.recs
  have hRok := kmap_okO hKok
  have hRl : (K.map (·.1)).length ≤ 15 := by rw [List.length_map]; exact hKl
  replace hpb := (hb1.block _ (Array.getElem?_eq_some_iff.1 hpb).1).trans hpb
  replace hb1 := below_two hb0 hb1 (Nat.le_refl _)
  clear hK hKok hKl cR hb0
  generalize K.map (·.1) = R at *
  have cT := taped_any R ka kc w1 hKa hRok (by omega) (hT.below hb1)
  have hL : (tapeT R).length ≤ 2000150 := by
    have h1 := tapeT_bound R hRok
    omega
  clear hKa
  go_wp2_with fail
  refine cT.mono ?_
  rintro e w2 ⟨v2, rfl, hown2, hb2⟩
  obtain ⟨va, vc, rfl, hA⟩ := bArg_own hown2
  have HB2 := below_two hb1 hb2 (Nat.le_refl _)
  have hpb2 := (hb2.block _ (Array.getElem?_eq_some_iff.1 hpb).1).trans hpb
  replace hpb := row_old hpb2 (.cells #[.slice va (tapeT R).length vc, .int .i64 0] 80)
  have ht := heap_alloc_new w2 (.cells #[.slice va (tapeT R).length vc, .int .i64 0] 80)
  have hba := (Below.refl w2.heap.size w2).alloc (Nat.le_refl _) (.cells #[.slice va (tapeT R).length vc, .int .i64 0] 80)
  have HB3 := below_two HB2 hba (Nat.le_refl _)
  have hz2 := HB2.size
  have hz02 : w.heap.size < w2.heap.size := (Array.getElem?_eq_some_iff.1 hpb2).1
  have hA3 := hA.below hba
  have hp := pick_lt keep 200 (by omega)
  have cP := fun wx => picked_same keep 200 wx hk (by omega) (by omega)
  clear cT hown2 hba hb1 hb2 HB2 hA hpb2
  generalize pick keep 200 = m at *
  obtain ⟨q0, ql0, qf0⟩ := blk ht
  go_wp2_with fail
  generalize (w2.alloc (.cells #[.slice va (tapeT R).length vc, .int .i64 0] 80)) = w3 at *
  obtain ⟨M, hM⟩ : ∃ M, M = min m (tapeT R).length := ⟨_, rfl⟩
  have hMl : M ≤ (tapeT R).length := by omega
  have hcr : crashT (tapeT R) 0 (m : Int) = ((tapeT R).take M, (M : Int), 0) := by
    unfold crashT
    rw [if_pos ⟨by omega, by omega, by omega⟩, if_neg (by omega)]
    have e : (0 : Int) + min (m : Int) (((tapeT R).length : Int) - 0) = (M : Int) := by omega
    rw [e, Int.toNat_natCast]
  have HBd := below_two HB3 (below_drew w3) (Nat.le_refl _)
  have cC := crash_any (tapeT R) va vc 0 (m : Int) w3.drew (hA3.below (below_drew w3)) (by omega) (by omega)
  rw [hcr] at cC
  simp only at cC
  have hlM : ((tapeT R).take M).length = M := by rw [List.length_take]; omega
  rw [hlM] at cC
  clear hM hcr
  have htd : w3.drew.heap[w2.heap.size]? = some (.cells #[.slice va (tapeT R).length vc, .int .i64 0] 80 (0, 0)) := ht
  go_region_law (first | (go_simp; go_at_call 21; with_reducible refine Calls.mono (cP _) ?_; rintro e wz ⟨rfl, rfl⟩) | (go_simp; go_at_call 53; with_reducible refine Calls.mono cC ?_; rintro e wz ⟨v, rfl, hown, hbz⟩; have hof := own_form hown; obtain ⟨xa, xc, rfl⟩ := hof; have htz := (hbz.block _ (Array.getElem?_eq_some_iff.1 htd).1).trans htd; have hbk := blk htz; obtain ⟨tz, tlz, tfz⟩ := hbk))
  all_goals
    obtain ⟨hts, hch⟩ := tape_store htz (x := .slice xa M xc) (y := .int .i64 (M : Int))
    have hpz := (hbz.block _ (Array.getElem?_eq_some_iff.1 (show w3.drew.heap[w.heap.size]? = _ from hpb)).1).trans (show w3.drew.heap[w.heap.size]? = _ from hpb)
    have hwz : w.heap.size < w2.heap.size := hz02
    have hp5 := hch.row hpz (by omega)
    have HBz := below_two HBd hbz (Nat.le_refl _)
    have HB5 := HBz.trans (hch.below (B := w.heap.size) (fun i e => by omega) HBz.size)
    have hown5 := own_chg hown hch (fun k hk e => row_ne hown htz (by decide) (by rw [← e]; exact hk.symm))
    have hA5 := bArg_row hown5
    clear hown hown5 hbz htz tz tlz tfz hch hpz HBz cC htd hA3 q0 ql0 qf0 ht hpb HB3 HBd
    have h256 := tapeT_small hRok
    obtain ⟨j, j1, j2, j3, j4, -, -⟩ := recAll_torn hRok hMl
    have hRj : ∀ r ∈ R.take j, RecOk r.1 r.2 := fun r hr => hRok r (List.mem_of_mem_take hr)
    go_simp
    generalize ((wz.setCell ⟨w2.heap.size, 0, none⟩ (.slice xa M xc)).setCell ⟨w2.heap.size, 1, none⟩ (.int .i64 (M : Int))) = w5 at *
    have c1 := recover_any ((tapeT R).take M) xa xc (M : Int) w5 hA5 (fun x hx => h256 x (List.mem_of_mem_take hx)) (by omega) (hT.below HB5) ⟨by omega, by omega, by omega⟩
    rw [j2] at c1
    simp only at c1
    rw [j3, hlM] at c1
    have hmin : min (M : Int) ((tapeT (R.take j)).length : Int) = ((tapeT (R.take j)).length : Int) := by omega
    rw [hmin] at c1
    obtain ⟨q0, ql0, _⟩ := blk hts
    clear hmin hA5 hlM h256
    go_wp2_with fail
    refine c1.mono ?_
    have hTl : (tapeT (R.take j)).length ≤ 2000150 := by omega
    have hJl : (R.take j).length ≤ 15 := by rw [List.length_take]; omega
    clear c1 j2 j3 j4 hRok
    generalize R.take j = J at *
    rintro e w6 ⟨rv, uv, rfl, ⟨K1, hK1, HK1⟩, hown6, hb6⟩
    obtain ⟨ga, gc, eg, -, -, hGa⟩ := hK1.recs
    rw [HK1.out] at eg hGa
    subst eg
    obtain ⟨ua, uc, rfl, hU⟩ := bArg_own hown6
    have HB6 := below_two HB5 hb6 (Nat.le_refl _)
    replace hp5 := row_old ((hb6.block _ (Array.getElem?_eq_some_iff.1 hp5).1).trans hp5) (.cells #[.slice ua (tapeT J).length uc, .int .i64 ((tapeT J).length : Int)] 80)
    have hu := heap_alloc_new w6 (.cells #[.slice ua (tapeT J).length uc, .int .i64 ((tapeT J).length : Int)] 80)
    have hba := (Below.refl w6.heap.size w6).alloc (Nat.le_refl _) (.cells #[.slice ua (tapeT J).length uc, .int .i64 ((tapeT J).length : Int)] 80)
    have HB7 := below_two HB6 hba (Nat.le_refl _)
    replace hU := hU.below hba
    replace hGa := hGa.below hba
    clear hK1 HK1 hown6 hba hb6 HB6 HB5 q0 ql0 hts
    have cX := fun wx (hx : Below w.heap.size w wx) => krecord_any r rs a cap wx hrr (hr.below hx (Nat.le_refl _)) hok hlen
    obtain ⟨q0, ql0, _⟩ := blk hp5
    obtain ⟨q1, ql1, _⟩ := blk hu
    go_wp2_with fail
    refine (cX _ HB7).mono ?_
    generalize (w6.alloc (.cells #[.slice ua (tapeT J).length uc, .int .i64 ((tapeT J).length : Int)] 80)) = w7 at *
    rintro e w8 ⟨n, xv, ps, rfl, hox, hxk, hb8⟩
    obtain ⟨oa, oc, rfl⟩ := own_form hox
    have HB8 := below_two HB7 hb8 (Nat.le_refl _)
    replace hu := row_old ((hb8.block _ ql1).trans hu) (.cells #[.int .i64 (n : Int), .slice oa ps.length oc] 74)
    have hx := heap_alloc_new w8 (.cells #[.int .i64 (n : Int), .slice oa ps.length oc] 74)
    have hba := (Below.refl w8.heap.size w8).alloc (Nat.le_refl _) (.cells #[.int .i64 (n : Int), .slice oa ps.length oc] 74)
    have HB9 := below_two HB8 hba (Nat.le_refl _)
    replace hU := (hU.below hb8).below hba
    replace hGa := (hGa.below hb8).below hba
    replace hox := own_below hox hba
    obtain ⟨_, _, eo, hoX⟩ := own_opAt hox
    simp only [Value.slice.injEq, true_and] at eo
    obtain ⟨rfl, rfl⟩ := eo
    have hmy := recT_many hxk
    have hps := recOk_small hxk
    have hap := appendT_ok (l := tapeT J) (s := ((tapeT J).length : Int)) (n := n) (ps := ps) ⟨by omega, by omega, by omega⟩ hxk (by omega)
    have cA := append_any (tapeT J) ua uc ((tapeT J).length : Int) (n : Int) ps oa oc _ hU (by omega) hoX hps hxk.text (hT.below HB9)
    rw [hap] at cA
    simp only at cA
    have hJx : ∀ q ∈ J ++ [(n, ps)], RecOk q.1 q.2 := by
      intro q hq
      rcases List.mem_append.1 hq with hq | hq
      · exact hRj q hq
      · simp only [List.mem_singleton] at hq
        subst hq
        exact hxk
    have hTx : tapeT J ++ recT (n, ps) = tapeT (J ++ [(n, ps)]) := by rw [tapeT_append, tapeT_one]
    have hTxl : (tapeT J ++ recT (n, ps)).length ≤ 2100000 := by rw [List.length_append]; omega
    have hTxg : (tapeT J).length ≤ (tapeT J ++ recT (n, ps)).length := by rw [List.length_append]; omega
    rw [hTx] at cA hTxl hTxg
    have c2 := fun wx ux uc (hx : Below w.heap.size w wx) (hB : BArg wx ux uc (tapeT (J ++ [(n, ps)]))) => recover_any (tapeT (J ++ [(n, ps)])) ux uc ((tapeT J).length : Int) wx hB (tapeT_small hJx) (by omega) (hT.below hx) ⟨by omega, by omega, by omega⟩
    rw [recAll_full hJx] at c2
    simp only at c2
    rw [List.take_length, show min ((tapeT J).length : Int) ((tapeT (J ++ [(n, ps)])).length : Int) = ((tapeT J).length : Int) by omega] at c2
    have hpsl : ps.length ≤ 10000 := (opErr_parts (recordErr_zero hxk.err).2.2 hxk.text).1
    have hsml : ∀ q ∈ J, q.2.length ≤ 10000 := fun q hq => by
      have := hRj q hq
      exact (opErr_parts (recordErr_zero this.err).2.2 this.text).1
    have hpre : ∀ i (h : i < J.length), (J ++ [(n, ps)])[i]? = some J[i] := by
      intro i h
      rw [List.getElem?_append_left h, List.getElem?_eq_getElem h]
    have hlast : ∀ h, (J ++ [(n, ps)])[J.length]'h = (n, ps) := fun h => by simp
    have hAl : (J ++ [(n, ps)]).length = J.length + 1 := by simp
    have hA1 : J.length < (J ++ [(n, ps)]).length := by omega
    have hA2 : (J ++ [(n, ps)]).length ≤ J.length + 1 := by omega
    clear hap hTx hmy hJx hRj hxk cX q0 ql0 q1 ql1 hb8 hba HB7 HB8 hp5 hox hAl
    generalize tapeT (J ++ [(n, ps)]) = X at *
    generalize J ++ [(n, ps)] = A at *
    obtain ⟨q1, ql1, _⟩ := blk hu
    obtain ⟨q2, ql2, _⟩ := blk hx
    go_wp2_with fail
    refine cA.mono ?_
    generalize (w8.alloc (.cells #[.int .i64 (n : Int), .slice oa ps.length oc] 74)) = w9 at *
    rintro e w10 ⟨vv, rfl, hown10, hb10⟩
    obtain ⟨ya, yc, rfl, hY⟩ := bArg_own hown10
    have HB10 := below_two HB9 hb10 (Nat.le_refl _)
    replace hx := row_old ((hb10.block _ ql2).trans hx) (.cells #[.slice ya X.length yc, .int .i64 ((tapeT J).length : Int)] 80)
    have hv := heap_alloc_new w10 (.cells #[.slice ya X.length yc, .int .i64 ((tapeT J).length : Int)] 80)
    have hba := (Below.refl w10.heap.size w10).alloc (Nat.le_refl _) (.cells #[.slice ya X.length yc, .int .i64 ((tapeT J).length : Int)] 80)
    have HB11 := below_two HB10 hba (Nat.le_refl _)
    replace hGa := (hGa.below hb10).below hba
    replace hoX := (hoX.below hb10).below hba
    have c2' := c2 _ ya yc HB11 (hY.below hba)
    clear cA c2 q1 ql1 q2 ql2 hb10 hba HB9 HB10 hY hown10 hu hU
    obtain ⟨q2, ql2, _⟩ := blk hx
    obtain ⟨q3, ql3, _⟩ := blk hv
    go_wp2_with fail
    refine c2'.mono ?_
    generalize (w10.alloc (.cells #[.slice ya X.length yc, .int .i64 ((tapeT J).length : Int)] 80)) = w11 at *
    rintro e w12 ⟨rv, zv, rfl, ⟨K2, hK2, HK2⟩, hown12, hb12⟩
    obtain ⟨aa, ac, ea, -, -, hAa⟩ := hK2.recs
    rw [HK2.out] at ea hAa
    subst ea
    obtain ⟨za, zc, rfl⟩ := own_form hown12
    have HB12 := below_two HB11 hb12 (Nat.le_refl _)
    replace hx := row_old ((hb12.block _ ql2).trans hx) (.cells #[.slice za X.length zc, .int .i64 ((tapeT J).length : Int)] 80)
    have hba := (Below.refl w12.heap.size w12).alloc (Nat.le_refl _) (.cells #[.slice za X.length zc, .int .i64 ((tapeT J).length : Int)] 80)
    have HB13 := below_two HB12 hba (Nat.le_refl _)
    replace hGa := (hGa.below hb12).below hba
    replace hoX := (hoX.below hb12).below hba
    replace hAa := hAa.below hba
    clear c2' q2 ql2 q3 ql3 hb12 hba HB11 HB12 hv hK2 HK2 hown12
    have hge : ((A.length : Int) == (J.length : Int) + 1) = true := by simp; omega
    have hww : IntKind.i64.wrap ((J.length : Int) + 1) = (J.length : Int) + 1 := by rw [IntKind.wrap_i64]; omega
    have hJz : (J.length : Int) < (A.length : Int) := by omega
    have hJ0 : (0 : Int) ≤ (J.length : Int) := by omega
    rcases hAa with h0 | ⟨gb, ob, rfl, hgb, hcb⟩
    · subst h0; simp at hA1
    · obtain ⟨ta, tc, b0, b1, hob⟩ := hcb J.length hA1
      rw [hlast hA1] at b0 b1 hob
      simp only at b0 b1 hob
      go_wp2_with fail
      generalize (w12.alloc (.cells #[.slice za X.length zc, .int .i64 ((tapeT J).length : Int)] 80)) = w13 at *
      have k2 := tp_of hx
      have hbd := below_drew w13
      have hS0 : (fun w' : World => w'.cell? ⟨gb, ob + J.length * 2, none⟩ = some (.int .i64 (n : Int)) ∧ w'.cell? ⟨gb, ob + J.length * 2 + 1, none⟩ = some (.slice ta ps.length tc) ∧ w'.cell? ⟨w8.heap.size, 0, none⟩ = some (.int .i64 (n : Int)) ∧ w'.cell? ⟨w8.heap.size, 1, none⟩ = some (.slice oa ps.length oc) ∧ Below w13.drew.heap.size w13.drew w') w13.drew := ⟨b0, b1, k2.1, k2.2, Below.refl _ _⟩
      have hAa' : RecsAt w13.drew (some ⟨gb, ob, none⟩) A := RecsAt.below (w := w13) (.inr ⟨gb, ob, rfl, hgb, hcb⟩) hbd
      have cB := begins_true J A ga (some ⟨gb, ob, none⟩) gc ac w13.drew (hGa.below hbd) hAa' hpre (by omega) (by omega) hsml
      have cS := fun wx (hx : Below w13.drew.heap.size w13.drew wx) => sameRecord_true (n : Int) ps ta oa tc oc wx ((hob.below hbd).below hx) ((hoX.below hbd).below hx) hpsl
      have hlx : w8.heap.size < w13.drew.heap.size := (Array.getElem?_eq_some_iff.1 hx).1
      have HB14 := below_two HB13 hbd (Nat.le_refl _)
      have hgd : gb < w13.drew.heap.size := hgb
      clear hcb hlast hAa' hGa hoX hob b0 b1 k2 hx hpre hsml hbd HB13
      go_region_held3 (fun w' : World => w'.cell? ⟨gb, ob + J.length * 2, none⟩ = some (.int .i64 (n : Int)) ∧ w'.cell? ⟨gb, ob + J.length * 2 + 1, none⟩ = some (.slice ta ps.length tc) ∧ w'.cell? ⟨w8.heap.size, 0, none⟩ = some (.int .i64 (n : Int)) ∧ w'.cell? ⟨w8.heap.size, 1, none⟩ = some (.slice oa ps.length oc) ∧ Below w13.drew.heap.size w13.drew w') (with_reducible first | exact hS0 | assumption | exact to_keep (by assumption) hgd hlx hbz | exact to_keep (by assumption) hgd hlx hby) (first | (go_at_call 54; with_reducible refine Calls.mono cB ?_; rintro e wz ⟨rfl, hbz⟩) | (go_at_call 56; with_reducible refine Calls.mono (cS _ hbz) ?_; rintro e wy ⟨rfl, hby⟩))
      have HB15 := below_two (below_two HB14 hbz (Nat.le_refl _)) hby (Nat.le_refl _)
      go_wp2_with fail
      go_ret
      exact ⟨by simp, HB15⟩

end Go.Proofs.YtknjnfknalfbdaaDoor
