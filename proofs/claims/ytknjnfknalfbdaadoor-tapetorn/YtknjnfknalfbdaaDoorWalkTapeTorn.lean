/-
  Walk: wherrykeep.TapeTorn.
-/
import Derived.Test.YtknjnfknalfbdaaDoorKTaped
import Derived.Test.YtknjnfknalfbdaaDoorTapePure
import Derived.Test.YtknjnfknalfbdaaDoorTapeRecov
import Derived.Test.YtknjnfknalfbdaaDoorKBegins
namespace Go.Proofs.YtknjnfknalfbdaaDoor
open Go.RowKit Go.Lib

theorem kmap_okT {K : List RecC} (h : RecsOk K) : ∀ r ∈ K.map (·.1), RecOk r.1 r.2 := by
  intro r hr
  obtain ⟨x, hx, rfl⟩ := List.mem_map.1 hr
  exact h x hx

set_option maxRecDepth 100000 in
set_option maxHeartbeats 2000000 in
theorem tapeTorn_walk (rs : List RawV) (a : Option Addr) (cap : Nat) (at_ : Int) (w : World) (hr : RawsAt w a rs) (hok : ∀ r ∈ rs, RawOk r) (hlen : rs.length ≤ 9223372036854775807) (hcap : rs.length ≤ cap) (ha : -9223372036854775808 ≤ at_ ∧ at_ ≤ 9223372036854775807) (hT : Tabs w) :
    Calls Tryd.prog 14 #[.slice a rs.length cap, .int .i64 at_] w fun e w' => e = .returned (.bool true) ∧ Below w.heap.size w w' := by
  have cR := records_any rs a cap 15 w hr hok hlen hcap (by decide)
  clear hr hok
  go_enter Tryd.func14, Tryd.ntmps14
  go_wp2_with fail
  refine cR.mono ?_
  rintro e w1 ⟨v1, rfl, K, hK, hKok, hKl, hb1⟩
  obtain ⟨ka, kc, rfl, -, -, hKa⟩ := hK.recs
  have hRok := kmap_okT hKok
  have hRl : (K.map (·.1)).length ≤ 15 := by rw [List.length_map]; exact hKl
  clear hK hKok hKl cR
  generalize K.map (·.1) = R at *
  have cT := taped_any R ka kc w1 hKa hRok (by omega) (hT.below hb1)
  have hL : (tapeT R).length ≤ 2000150 := by
    have h1 := tapeT_bound R hRok
    omega
  go_wp2_with fail
  refine cT.mono ?_
  rintro e w2 ⟨v2, rfl, hown2, hb2⟩
  obtain ⟨va, vc, rfl, hA⟩ := bArg_own hown2
  have HB2 := below_two hb1 hb2 (Nat.le_refl _)
  have ht := heap_alloc_new w2 (.cells #[.slice va (tapeT R).length vc, .int .i64 0] 80)
  have hba := (Below.refl w2.heap.size w2).alloc (Nat.le_refl _) (.cells #[.slice va (tapeT R).length vc, .int .i64 0] 80)
  have HB3 := below_two HB2 hba (Nat.le_refl _)
  have hA3 := hA.below hba
  have hK3 := (hKa.below hb2).below hba
  have hp := pick_lt at_ (((tapeT R).length : Int) + 1) (by omega)
  have cP := picked_same at_ (((tapeT R).length : Int) + 1) (w2.alloc (.cells #[.slice va (tapeT R).length vc, .int .i64 0] 80)) ha (by omega) (by omega)
  clear cT hown2 hba hb1 hb2 HB2 hA hKa
  obtain ⟨q0, ql0, _⟩ := blk ht
  go_wp2_with fail
  refine cP.mono ?_
  generalize (w2.alloc (.cells #[.slice va (tapeT R).length vc, .int .i64 0] 80)) = w3 at *
  rintro e w4 ⟨rfl, rfl⟩
  generalize pick at_ (((tapeT R).length : Int) + 1) = k at *
  have hk : k ≤ (tapeT R).length := by omega
  obtain ⟨j, j1, j2, j3, j4, j5, -⟩ := recAll_torn hRok hk
  have hRj : ∀ r ∈ R.take j, RecOk r.1 r.2 := fun r hr => hRok r (List.mem_of_mem_take hr)
  have hcut := cut_hm va (tapeT R).length vc k hk hA3.cap (k : Int) rfl
  have hlk : ((tapeT R).take k).length = k := by rw [List.length_take]; omega
  have h256 := tapeT_small hRok
  have c1 := recover_any ((tapeT R).take k) va k 0 w4 (hA3.take k hk) (fun x hx => h256 x (List.mem_of_mem_take hx)) (by omega) (hT.below HB3) ⟨by omega, by omega, by omega⟩
  rw [j2] at c1
  simp only at c1
  rw [j3, hlk] at c1
  have hTl : (tapeT (R.take j)).length ≤ 2000150 := by omega
  have hm0 : min (0 : Int) ((tapeT (R.take j)).length : Int) = 0 := by omega
  rw [hm0] at c1
  have c2 : ∀ wx ux uc, Below w.heap.size w wx → BArg wx ux uc (tapeT (R.take j)) → _ := fun wx ux uc hx hB => recover_any (tapeT (R.take j)) ux uc 0 wx hB (tapeT_small hRj) (by omega) (hT.below hx) ⟨by omega, by omega, by omega⟩
  rw [recAll_full hRj] at c2
  simp only at c2
  rw [List.take_length, hm0] at c2
  have c3 := fun wx => recover_bad [] none 0 1 wx (by simp) (fun h => by have := h.2.2; simp at this)
  simp only [List.length_nil] at c3
  have hjl : (R.take j).length = j := by rw [List.length_take]; omega
  have hpre : ∀ i (h : i < (R.take j).length), R[i]? = some (R.take j)[i] := by
    intro i h
    rw [hjl] at h
    rw [List.getElem_take, List.getElem?_eq_getElem (by omega)]
  have hsml : ∀ r ∈ R.take j, r.2.length ≤ 10000 := fun r hr => by
    have := hRj r hr
    exact (opErr_parts (recordErr_zero this.err).2.2 this.text).1
  have hJl : (R.take j).length ≤ R.length := by omega
  have HF : Hid ((((R.take j).length : Int) == (R.length : Int)) = ((k : Int) == ((tapeT R).length : Int))) := by
    show _ = _
    rw [hjl]
    by_cases hj : j = R.length
    · have := j5.1 hj
      simp [hj, this]
    · have h9 : ¬ k = (tapeT R).length := fun e => hj (j5.2 e)
      have e1 : ((j : Int) == (R.length : Int)) = false := by simp; omega
      have e2 : ((k : Int) == ((tapeT R).length : Int)) = false := by simp; omega
      rw [e1, e2]
  have hg4 : decide (((tapeT (R.take j)).length : Int) ≤ (k : Int)) = true := decide_eq_true (by omega)
  clear j2 j3 j5 hm0 hlk hjl hRj hRok h256 cP
  generalize tapeT (R.take j) = T at *
  generalize R.take j = J at *
  generalize tapeT R = L at *
  go_wp2_with fail
  refine c1.mono ?_
  rintro e w5 ⟨rv, uv, rfl, ⟨K1, hK1, HK1⟩, hown5, hb5⟩
  obtain ⟨ga, gc, eg, -, -, hGa⟩ := hK1.recs
  rw [HK1.out] at eg hGa
  subst eg
  obtain ⟨ua, uc, rfl, hU⟩ := bArg_own hown5
  have HB5 := below_two HB3 hb5 (Nat.le_refl _)
  replace ht := row_old ((hb5.block _ ql0).trans ht) (.cells #[.slice ua T.length uc, .int .i64 0] 80)
  have hu := heap_alloc_new w5 (.cells #[.slice ua T.length uc, .int .i64 0] 80)
  have hba := (Below.refl w5.heap.size w5).alloc (Nat.le_refl _) (.cells #[.slice ua T.length uc, .int .i64 0] 80)
  have HB6 := below_two HB5 hba (Nat.le_refl _)
  replace hU := hU.below hba
  replace hGa := hGa.below hba
  replace hK3 := (hK3.below hb5).below hba
  have c2' := c2 _ ua uc HB6 hU
  clear c1 c2 q0 ql0 hK1 HK1 hown5 hba hb5 HB5 HB3
  obtain ⟨q0, ql0, _⟩ := blk ht
  obtain ⟨q1, ql1, _⟩ := blk hu
  go_wp2_with fail
  refine c2'.mono ?_
  generalize (w5.alloc (.cells #[.slice ua T.length uc, .int .i64 0] 80)) = w6 at *
  rintro e w7 ⟨rv, vv, rfl, ⟨K2, hK2, HK2⟩, hown7, hb7⟩
  obtain ⟨na, nc, en, -, -, -⟩ := hK2.recs
  rw [HK2.out] at en
  subst en
  obtain ⟨xa, xc, rfl, hX⟩ := bArg_own hown7
  have HB7 := below_two HB6 hb7 (Nat.le_refl _)
  replace ht := row_old ((hb7.block _ ql0).trans ht) (.cells #[.slice xa T.length xc, .int .i64 0] 80)
  replace hu := row_old ((hb7.block _ ql1).trans hu) (.cells #[.slice xa T.length xc, .int .i64 0] 80)
  have hv := heap_alloc_new w7 (.cells #[.slice xa T.length xc, .int .i64 0] 80)
  have hba := (Below.refl w7.heap.size w7).alloc (Nat.le_refl _) (.cells #[.slice xa T.length xc, .int .i64 0] 80)
  have HB8 := below_two HB7 hba (Nat.le_refl _)
  replace hU := (hU.below hb7).below hba
  replace hX := hX.below hba
  replace hGa := (hGa.below hb7).below hba
  replace hK3 := (hK3.below hb7).below hba
  clear c2' q0 ql0 q1 ql1 hK2 HK2 hown7 hba hb7 HB7 HB6
  obtain ⟨q0, ql0, _⟩ := blk ht
  obtain ⟨q1, ql1, _⟩ := blk hu
  obtain ⟨q2, ql2, _⟩ := blk hv
  go_wp2_with fail
  refine (c3 _).mono ?_
  generalize (w7.alloc (.cells #[.slice xa T.length xc, .int .i64 0] 80)) = w8 at *
  rintro e w9 ⟨rfl, hb9⟩
  replace ht := row_old ((hb9.block _ ql0).trans ht) (.cells #[.slice none 0 0, .int .i64 0] 80)
  replace hu := row_old ((hb9.block _ ql1).trans hu) (.cells #[.slice none 0 0, .int .i64 0] 80)
  replace hv := row_old ((hb9.block _ ql2).trans hv) (.cells #[.slice none 0 0, .int .i64 0] 80)
  have hba := (Below.refl w9.heap.size w9).alloc (Nat.le_refl _) (.cells #[.slice none 0 0, .int .i64 0] 80)
  have hb10 := below_two hb9 hba (Nat.le_refl _)
  have HB10 := below_two HB8 hb10 (Nat.le_refl _)
  replace hU := hU.below hb10
  replace hX := hX.below hb10
  replace hGa := hGa.below hb10
  replace hK3 := hK3.below hb10
  clear c3 q0 ql0 q1 ql1 q2 ql2 hba hb9 hb10 HB8
  have cB := begins_true J R ga ka gc kc _ hGa hK3 hpre hJl (by omega) hsml
  clear hGa hK3 hpre hsml
  go_wp2_with fail
  refine cB.mono ?_
  generalize (w9.alloc (.cells #[.slice none 0 0, .int .i64 0] 80)) = w10 at *
  rintro e w11 ⟨rfl, hb11⟩
  replace ht := (hb11.block _ (Array.getElem?_eq_some_iff.1 ht).1).trans ht
  replace hu := (hb11.block _ (Array.getElem?_eq_some_iff.1 hu).1).trans hu
  replace hv := (hb11.block _ (Array.getElem?_eq_some_iff.1 hv).1).trans hv
  replace hU := hU.below hb11
  replace hX := hX.below hb11
  have HB11 := below_two HB10 hb11 (Nat.le_refl _)
  clear cB hb11 HB10
  have hc1 := conv_bytes hU.by_ uc
  have hc2 := conv_bytes hX.by_ xc
  clear hU hX
  obtain ⟨q0, _, _⟩ := blk ht
  obtain ⟨q1, _, _⟩ := blk hu
  obtain ⟨q2, _, _⟩ := blk hv
  go_wp2_with fail
  go_ret
  exact ⟨by simp [HF.out], HB11⟩

end Go.Proofs.YtknjnfknalfbdaaDoor
