/-
  Walk: wherryref.TapeRecovered.
-/
import Derived.Test.YtknjnfknalfbdaaDoorTapeRow
import Derived.Test.YtknjnfknalfbdaaDoorTapeRef
import Derived.Test.YtknjnfknalfbdaaDoorEyeRec
import Derived.Deep.RegionHeld3
import Derived.Deep.LoopGhost
namespace Go.Proofs.YtknjnfknalfbdaaDoor
open Go.RowKit Go.Lib

/-- 'b[i:j]' -/
theorem cut_lh (a : Option Addr) (L c i j : Nat) (hi : i ≤ j) (hj : j ≤ L) (hc : L ≤ c) (y z : Int) (hy : y = (i : Int)) (hz : z = (j : Int)) :
    ∀ wx : World, (Instr.slice 75 (.slice a L c) (some (.int .i64 y)) (some (.int .i64 z)) none).run Tryd.prog wx = .ok (.slice (if c = i then a else a.map (·.add i)) (j - i) (c - i)) wx := by
  have e : Tryd.prog.underlying 75 = some (.slice (Tryd.prog.elem 75)) := by kernel_rfl
  have hs : ∀ wx, (sizeOf (Tryd.prog.elem 75)).run Tryd.prog wx = .ok 1 wx := fun wx => by kernel_rfl
  subst hy hz
  intro wx
  rw [run_slice_lh wx 75 a L c e .i64 .i64 (i : Int) (j : Int) (by omega) (by omega) (by omega), hs]
  simp [Result.andThen, sliced]

set_option maxRecDepth 100000 in
set_option maxHeartbeats 8000000 in
theorem tapeRecovered_any (l : List Nat) (a : Option Addr) (c : Nat) (s : Int) (w : World) (h : BArg w a c l) (hl : ∀ x ∈ l, x < 256) (hlen : l.length ≤ 140737488351232) (hT : Tabs w) (hok : tapeOk l.length s) :
    Calls Tryd.prog 46 #[.agg #[.slice a l.length c, .int .i64 s]] w fun r w' => ∃ rv v, r = .returned (.tuple #[rv, .agg #[v, .int .i64 (min s ((recAll l).2 : Int))], .int .i64 0]) ∧ (∃ K : List RecC, RowRecs w' w.heap.size rv K ∧ Hid (K.map (·.1) = (recAll l).1)) ∧ w'.ownsRow w.heap.size 5 1 v (l.take (recAll l).2).length (octs (l.take (recAll l).2)) ∧ Below w.heap.size w w' := by
  obtain ⟨hpar, hres, HB0, hz⟩ := tape_two w (.cells #[.slice a l.length c, .int .i64 s] 80) (.cells #[.slice none 0 0, .int .i64 0] 80)
  have cM := tapeMay_any l.length s a c ((w.alloc (.cells #[.slice a l.length c, .int .i64 s] 80)).alloc (.cells #[.slice none 0 0, .int .i64 0] 80)) (by omega)
  rw [decide_eq_true hok] at cM
  have hz1 : w.heap.size < ((w.alloc (.cells #[.slice a l.length c, .int .i64 s] 80)).alloc (.cells #[.slice none 0 0, .int .i64 0] 80)).heap.size := by omega
  have hz2 : w.heap.size + 1 < ((w.alloc (.cells #[.slice a l.length c, .int .i64 s] 80)).alloc (.cells #[.slice none 0 0, .int .i64 0] 80)).heap.size := by omega
  have hzb : w.heap.size ≤ ((w.alloc (.cells #[.slice a l.length c, .int .i64 s] 80)).alloc (.cells #[.slice none 0 0, .int .i64 0] 80)).heap.size := by omega
  clear hz
  obtain ⟨i0, hi0, hzz0, hzz1, hzz2⟩ := info_parts info_rec
  obtain ⟨RR, hRR⟩ : ∃ RR, RR = recAll l := ⟨_, rfl⟩
  rw [← hRR]
  have HRR : Hid (RR = recAll l) := hRR
  clear hRR
  have hs1 := hok.1
  have hs2 := hok.2.1
  have hs3 := hok.2.2
  obtain ⟨q0, _, _⟩ := blk hpar
  go_enter Tryd.func46, Tryd.ntmps46
  go_wp2_with fail
  refine cM.mono ?_
  generalize ((w.alloc (.cells #[.slice a l.length c, .int .i64 s] 80)).alloc (.cells #[.slice none 0 0, .int .i64 0] 80)) = w0 at *
  rintro r w1 ⟨rfl, hb1⟩
  have HB1 := below_two HB0 hb1 (Nat.le_refl _)
  replace hpar := (hb1.block _ hz1).trans hpar
  replace hres := (hb1.block _ hz2).trans hres
  clear cM q0 hb1
  go_wp2_with fail
  go_loopg [5, 6] l.length (fun g ov iv wr => ∃ (e : Nat) (K : List RecC), e + g = l.length ∧ iv = .int .i64 (e : Int) ∧ RowRecs wr w1.heap.size ov K ∧ Hid (recAll l = (K.map (·.1) ++ (recAll (l.drop e)).1, e + (recAll (l.drop e)).2)) ∧ K.length ≤ e ∧ Below w1.heap.size w1 wr)
  case atStart => exact ⟨0, [], by omega, rfl, rowRecs_nil _ _, by show _ = _; rw [List.drop_zero]; simp, Nat.zero_le _, Below.refl _ _⟩
  case round =>
    obtain ⟨e, K, he, rfl, hK, HI, hKe, hb⟩ := hrel
    obtain ⟨oa, oc, rfl⟩ := own_form hK.row
    have hel : e ≤ l.length := by omega
    have hpar' := (hb.block _ (Array.getElem?_eq_some_iff.1 hpar).1).trans hpar
    have hres' := (hb.block _ (Array.getElem?_eq_some_iff.1 hres).1).trans hres
    have HBr := below_two HB1 hb (Nat.le_refl _)
    have hdl : (l.drop e).length = l.length - e := List.length_drop ..
    have he0 : (0 : Int) ≤ (e : Int) := by omega
    have hez : (e : Int) ≤ (l.length : Int) := by omega
    have hA' := h.below HBr
    have hcutE := (cut_bytes a l.length c e hel h.cap (e : Int) rfl).1
    have hlt : (l.take e).length = e := by rw [List.length_take]; omega
    by_cases h3 : e + 3 ≤ l.length
    · have h3z : (e : Int) + 3 ≤ (l.length : Int) := by omega
      obtain ⟨x, y, z, t, hxyz⟩ : ∃ x y z t, l.drop e = x :: y :: z :: t := by
        match hd : l.drop e with
        | x :: y :: z :: t => exact ⟨x, y, z, t, rfl⟩
        | [] => rw [hd] at hdl; simp at hdl; omega
        | [_] => rw [hd] at hdl; simp at hdl; omega
        | [_, _] => rw [hd] at hdl; simp at hdl; omega
      have hget : ∀ m (v : Nat), (x :: y :: z :: t)[m]? = some v → l[e + m]? = some v := by
        intro m v hv
        rw [← hxyz, List.getElem?_drop] at hv
        exact hv
      have hn3 : num3 (l.drop e) = 65536 * x + 256 * y + z := by rw [hxyz]; rfl
      have bx : x < 256 := hl x (List.mem_of_mem_drop (i := e) (by rw [hxyz]; simp))
      have by_ : y < 256 := hl y (List.mem_of_mem_drop (i := e) (by rw [hxyz]; simp))
      have bz : z < 256 := hl z (List.mem_of_mem_drop (i := e) (by rw [hxyz]; simp))
      obtain ⟨EN, hEN⟩ : ∃ EN, EN = e + 3 + num3 (l.drop e) := ⟨_, rfl⟩
      rcases hA'.by_ with h0 | ⟨g, off, rfl, hgl, hx⟩
      · exfalso
        have : l.length = 0 := by rw [h0]; rfl
        omega
      · have hcell : ∀ m (v : Nat), (x :: y :: z :: t)[m]? = some v → wr.cell? ⟨g, off + (e + m), none⟩ = some (.int .u8 (v : Int)) := by
          intro m v hv
          obtain ⟨hm, hme⟩ := List.getElem?_eq_some_iff.1 (hget m v hv)
          rw [hx (e + m) hm, hme]
        have c0 := hcell 0 x rfl
        have c1 := hcell 1 y rfl
        have c2 := hcell 2 z rfl
        rw [Nat.add_zero] at c0
        have HF : Hid (firstT (l.drop e) = if l.length < EN then none else if recFault ((l.drop (e + 3)).take (EN - (e + 3))) ≠ 0 then none else some (recOf ((l.drop (e + 3)).take (EN - (e + 3))), EN - e)) := by
          show _ = _
          unfold firstT
          rw [if_neg (by omega), List.drop_drop, show EN - (e + 3) = num3 (l.drop e) by omega, show EN - e = 3 + num3 (l.drop e) by omega]
          by_cases h9 : l.length < EN
          · rw [if_pos h9, if_pos (by omega)]
          · rw [if_neg h9, if_neg (by omega)]
        have k0 := tp_of hpar'
        have hS0 : (fun w' : World => w'.cell? ⟨w.heap.size, 0, none⟩ = some (.slice (some ⟨g, off, none⟩) l.length c) ∧ w'.cell? ⟨g, off + e, none⟩ = some (.int .u8 (x : Int)) ∧ w'.cell? ⟨g, off + (e + 1), none⟩ = some (.int .u8 (y : Int)) ∧ w'.cell? ⟨g, off + (e + 2), none⟩ = some (.int .u8 (z : Int))) wr.drew := ⟨k0.1, c0, c1, c2⟩
        have r0 : IntKind.i64.wrap ((e : Int) + 3) = (e : Int) + 3 := by rw [IntKind.wrap_i64]; omega
        have r1 : IntKind.i64.wrap (x : Int) = (x : Int) := by rw [IntKind.wrap_i64]; omega
        have r2 : IntKind.i64.wrap (65536 * (x : Int)) = 65536 * (x : Int) := by rw [IntKind.wrap_i64]; omega
        have r3 : IntKind.i64.wrap ((e : Int) + 3 + 65536 * (x : Int)) = (e : Int) + 3 + 65536 * (x : Int) := by rw [IntKind.wrap_i64]; omega
        have r4 : IntKind.i64.wrap (y : Int) = (y : Int) := by rw [IntKind.wrap_i64]; omega
        have r5 : IntKind.i64.wrap (256 * (y : Int)) = 256 * (y : Int) := by rw [IntKind.wrap_i64]; omega
        have r6 : IntKind.i64.wrap ((e : Int) + 3 + 65536 * (x : Int) + 256 * (y : Int)) = (e : Int) + 3 + 65536 * (x : Int) + 256 * (y : Int) := by rw [IntKind.wrap_i64]; omega
        have r7 : IntKind.i64.wrap (z : Int) = (z : Int) := by rw [IntKind.wrap_i64]; omega
        have r8 : IntKind.i64.wrap ((e : Int) + 3 + 65536 * (x : Int) + 256 * (y : Int) + (z : Int)) = (EN : Int) := by rw [IntKind.wrap_i64]; omega
        have r9 : IntKind.i64.wrap ((e : Int) + 1) = (e : Int) + 1 := by rw [IntKind.wrap_i64]; omega
        have r10 : IntKind.i64.wrap ((e : Int) + 2) = (e : Int) + 2 := by rw [IntKind.wrap_i64]; omega
        have t1 : ((e : Int) + 1).toNat = e + 1 := by omega
        have t2 : ((e : Int) + 2).toNat = e + 2 := by omega
        have i0' : (e : Int) < (l.length : Int) := by omega
        have i1 : (e : Int) + 1 < (l.length : Int) := by omega
        have i2 : (e : Int) + 2 < (l.length : Int) := by omega
        have p1 : (0 : Int) ≤ (e : Int) + 1 := by omega
        have p2 : (0 : Int) ≤ (e : Int) + 2 := by omega
        have hENl : EN ≤ e + 16777300 := by omega
        have hENg : e + 3 ≤ EN := by omega
        obtain ⟨q0, ql0, _⟩ := blk hpar'
        clear hcell hget hx hxyz hn3 hEN c0 c1 c2 k0
        go_wp2_with fail
        go_region_held3 (fun w' : World => w'.cell? ⟨w.heap.size, 0, none⟩ = some (.slice (some ⟨g, off, none⟩) l.length c) ∧ w'.cell? ⟨g, off + e, none⟩ = some (.int .u8 (x : Int)) ∧ w'.cell? ⟨g, off + (e + 1), none⟩ = some (.int .u8 (y : Int)) ∧ w'.cell? ⟨g, off + (e + 2), none⟩ = some (.int .u8 (z : Int))) (with_reducible first | exact hS0 | assumption) (fail)
        clear r0 r1 r2 r3 r4 r5 r6 r7 r8 r9 r10 t1 t2 hS0 i0' i1 i2 p1 p2 q0 ql0
        have hpd : wr.drew.heap[w.heap.size]? = some (.cells #[.slice (some ⟨g, off, none⟩) l.length c, .int .i64 s] 80 (0, 0)) := hpar'
        have hrd : wr.drew.heap[w.heap.size + 1]? = some (.cells #[.slice none 0 0, .int .i64 0] 80 (0, 0)) := hres'
        have hKd0 := hK.below (below_drew wr)
        have hAd := hA'.below (below_drew wr)
        have HBd0 := below_two HBr (below_drew wr) (Nat.le_refl _)
        have hbd0 := below_two hb (below_drew wr) (Nat.le_refl _)
        clear hpar' hres' hK hA' HBr hb
        generalize wr.drew = wd at *
        by_cases h4 : l.length < EN
        · have h4z : (l.length : Int) < (EN : Int) := by omega
          have HE : Hid (RR = (K.map (·.1), e)) := by
            show _ = _
            rw [HRR.out]
            refine recAll_end ?_ HI.out
            rw [HF.out, if_pos h4]
          clear HI hdl HF
          obtain ⟨q0, ql0, _⟩ := blk hpd
          by_cases hse : (e : Int) < s
          · have cC : Calls Tryd.prog 82 #[.slice (some ⟨wd.heap.size, 0, none⟩) 1 1] (wd.alloc (.cells #[.slice (some ⟨g, off, none⟩) e c] 75)) fun r w' => ∃ v, r = .returned v ∧ w'.ownsRow wd.heap.size 5 1 v e (octs (l.take e)) ∧ Below wd.heap.size wd w' := by
              have := join1 (hAd.keep e hel) (by omega)
              rw [hlt] at this
              first | (rw [← hsz.out]; exact this) | exact this
            obtain ⟨q1, ql1, qf1⟩ := blk hrd
            go_wp2_with fail
            refine cC.mono ?_
            rintro r wz ⟨v, rfl, hown, hbz⟩
            obtain ⟨va, vc, rfl⟩ := own_form hown
            have hresz := (hbz.block _ ql1).trans hrd
            have HBz := below_two HBd0 hbz (Nat.le_refl _)
            obtain ⟨hfin, hch⟩ := tape_store hresz (x := .slice va e vc) (y := .int .i64 (e : Int))
            have hown2 := own_chg hown hch (fun k hk e => row_ne hown hresz (by decide) (by rw [← e]; exact hk.symm))
            have hK9 := (hKd0.below hbz).stored hresz (by decide) (by decide) hch
            have hB1 := HBd0.size
            have hwB := HB1.size
            clear q0 ql0 q1 ql1 qf1 cC
            obtain ⟨q1, ql1, qf1⟩ := blk hresz
            go_wp2_with fail
            generalize ((wz.setCell ⟨w.heap.size + 1, 0, none⟩ (.slice va e vc)).setCell ⟨w.heap.size + 1, 1, none⟩ (.int .i64 (e : Int))) = w9 at *
            obtain ⟨t0, _, _⟩ := blk hfin
            refine bodyPost_ret (v := .tuple #[.slice oa K.length oc, .agg #[.slice va e vc, .int .i64 (e : Int)], .int .i64 0]) (by simp [results, Tryd.results46, go_sem, t0]) rfl ⟨.slice oa K.length oc, .slice va e vc, ?_, ⟨K, hK9.base hwB, ?_⟩, ?_, HBz.trans (hch.below (fun i e => by omega) HBz.size)⟩
            · rw [HE.out]
              simp only
              rw [show min s (e : Int) = (e : Int) by omega]
            · show _ = _
              rw [HE.out]
            · rw [HE.out]
              simp only
              rw [hlt]
              exact own_base hown2 hB1
          · have cC : Calls Tryd.prog 82 #[.slice (some ⟨wd.heap.size, 0, none⟩) 1 1] (wd.alloc (.cells #[.slice (some ⟨g, off, none⟩) e c] 75)) fun r w' => ∃ v, r = .returned v ∧ w'.ownsRow wd.heap.size 5 1 v e (octs (l.take e)) ∧ Below wd.heap.size wd w' := by
              have := join1 (hAd.keep e hel) (by omega)
              rw [hlt] at this
              first | (rw [← hsz.out]; exact this) | exact this
            obtain ⟨q1, ql1, qf1⟩ := blk hrd
            go_wp2_with fail
            refine cC.mono ?_
            rintro r wz ⟨v, rfl, hown, hbz⟩
            obtain ⟨va, vc, rfl⟩ := own_form hown
            have hresz := (hbz.block _ ql1).trans hrd
            have HBz := below_two HBd0 hbz (Nat.le_refl _)
            obtain ⟨hfin, hch⟩ := tape_store hresz (x := .slice va e vc) (y := .int .i64 s)
            have hown2 := own_chg hown hch (fun k hk e => row_ne hown hresz (by decide) (by rw [← e]; exact hk.symm))
            have hK9 := (hKd0.below hbz).stored hresz (by decide) (by decide) hch
            have hB1 := HBd0.size
            have hwB := HB1.size
            clear q0 ql0 q1 ql1 qf1 cC
            obtain ⟨q1, ql1, qf1⟩ := blk hresz
            go_wp2_with fail
            generalize ((wz.setCell ⟨w.heap.size + 1, 0, none⟩ (.slice va e vc)).setCell ⟨w.heap.size + 1, 1, none⟩ (.int .i64 s)) = w9 at *
            obtain ⟨t0, _, _⟩ := blk hfin
            refine bodyPost_ret (v := .tuple #[.slice oa K.length oc, .agg #[.slice va e vc, .int .i64 s], .int .i64 0]) (by simp [results, Tryd.results46, go_sem, t0]) rfl ⟨.slice oa K.length oc, .slice va e vc, ?_, ⟨K, hK9.base hwB, ?_⟩, ?_, HBz.trans (hch.below (fun i e => by omega) HBz.size)⟩
            · rw [HE.out]
              simp only
              rw [show min s (e : Int) = s by omega]
            · show _ = _
              rw [HE.out]
            · rw [HE.out]
              simp only
              rw [hlt]
              exact own_base hown2 hB1

        · have h4z : ¬ (l.length : Int) < (EN : Int) := by omega
          rw [if_neg h4] at HF
          have hmid := ((hAd.drop (e + 3)).keep (EN - (e + 3)) (by rw [List.length_drop]; omega))
          have hml : ((l.drop (e + 3)).take (EN - (e + 3))).length = EN - (e + 3) := by rw [List.length_take, List.length_drop]; omega
          have hm256 : ∀ x ∈ (l.drop (e + 3)).take (EN - (e + 3)), x < 256 := fun x hx => hl x (List.mem_of_mem_drop (List.mem_of_mem_take hx))
          have hcutM := cut_lh (some ⟨g, off, none⟩) l.length c (e + 3) EN (by omega) (by omega) h.cap ((e : Int) + 3) (EN : Int) (by omega) rfl
          have cD := recordOf_any ((l.drop (e + 3)).take (EN - (e + 3))) _ (c - (e + 3)) wd hmid.by_ hm256 hmid.cap (hT.below HBd0)
          rw [hml] at cD
          generalize (if c = e + 3 then some (⟨g, off, none⟩ : Addr) else (some (⟨g, off, none⟩ : Addr)).map (·.add (e + 3))) = am at *
          generalize (l.drop (e + 3)).take (EN - (e + 3)) = B at *
          clear hmid hml hm256
          obtain ⟨q0, ql0, _⟩ := blk hpd
          have he3 : (0 : Int) ≤ (e : Int) + 3 := by omega
          go_wp2_with fail
          refine cD.mono ?_
          rintro r w3 ⟨v3, rfl, hov, hb3⟩
          by_cases hff : recFault B = 0
          · obtain ⟨⟨n, ps⟩, hrec⟩ : ∃ q, recOf B = q := ⟨_, rfl⟩
            rw [if_neg (by rw [hff]; simp), hrec] at HF
            have HI2 : Hid (recAll l = ((K.map (·.1) ++ [(n, ps)]) ++ (recAll (l.drop (e + (EN - e)))).1, (e + (EN - e)) + (recAll (l.drop (e + (EN - e)))).2)) := recAll_step HF.out HI.out
            rw [show e + (EN - e) = EN by omega] at HI2
            rw [hff, hrec]
            rw [hrec] at hov
            simp only at hov ⊢
            obtain ⟨ua, uc, rfl⟩ := own_form hov
            clear hrec hff HF HI cD q0 ql0
            have hrb := heap_alloc_new w3 (.cells #[.int .i64 (n : Int), .slice ua ps.length uc] 74)
            have hba := (Below.refl w3.heap.size w3).alloc (Nat.le_refl _) (.cells #[.int .i64 (n : Int), .slice ua ps.length uc] 74)
            have hb4 := below_two hb3 hba (Nat.le_refl _)
            have hb13 := below_two hbd0 hb4 (Nat.le_refl _)
            have hK3 := hKd0.below hb4
            have ho3 := own_below (own_base hov hbd0.size) hba
            clear hba hov
            obtain ⟨y0, yl0, _⟩ := blk hrb
            have hown5 := hK3.row
            have hnew := cell_two_new (w3.alloc (.cells #[.int .i64 (n : Int), .slice ua ps.length uc] 74)) (.int .i64 (n : Int)) (.slice ua ps.length uc) 74
            rw [show (w3.alloc (.cells #[.int .i64 (n : Int), .slice ua ps.length uc] 74)).heap.size = w3.heap.size + 1 by simp] at hnew
            go_wp2_with (at_builtin; refine wpList_append_lies _ rfl _ _ 86 rfl w1.heap.size 74 i0 (.agg #[.int .i64 0, .slice none 0 0]) 2 32 Tryd.underlying86 hi0 hzz0 hzz1 hzz2 rfl (by decide) _ _ _ rfl (hown5.alloc _) ⟨w3.heap.size + 1, 0, none⟩ 1 1 [.int .i64 (n : Int), .slice ua ps.length uc] rfl rfl hnew (by intro u hu; simp at hu; rcases hu with rfl | rfl <;> rfl) (by decide) (by unfold maxLen; omega) (by omega) (by have := hb13.size; simp at this ⊢; omega) _ rfl ?_; intro g1 cap1 w6 hown6 hgr6 hat6 hlt6)
            have hK6 := hK3.app ho3 hown6 hgr6
            have hb6 : Below w1.heap.size w1 w6 := (hb13.alloc hb13.size _).grown hgr6 (by have := hb13.size; simp at this ⊢; omega) (fun k e => (hown5.lt k e).1)
            go_roundg (l.length - EN)
            case measure => omega
            case rel =>
              refine ⟨EN, K ++ [((n, ps), .slice ua ps.length uc)], by omega, by go_num, hK6, ?_, by simp; omega, hb6⟩
              show _ = _
              rw [List.map_append, HI2.out]
              rfl
          · have hrec : recOf B = (0, []) := by unfold recOf; rw [if_pos hff]
            have hfg : (recFault B != 0) = true := by simpa using hff
            rw [if_pos hff] at HF
            have HE : Hid (RR = (K.map (·.1), e)) := by
              show _ = _
              rw [HRR.out]
              exact recAll_end HF.out HI.out
            rw [hrec]
            rw [hrec] at hov
            simp only [List.length_nil] at hov ⊢
            obtain ⟨ua, uc, rfl⟩ := own_form hov
            clear hrec HF HI cD q0 ql0
            generalize recFault B = FF at *
            have hba := (Below.refl w3.heap.size w3).alloc (Nat.le_refl _) (.cells #[.int .i64 0, .slice ua 0 uc] 74)
            have hb4 := below_two hb3 hba (Nat.le_refl _)
            have hpe := (hb4.block _ (Array.getElem?_eq_some_iff.1 hpd).1).trans hpd
            have hre := (hb4.block _ (Array.getElem?_eq_some_iff.1 hrd).1).trans hrd
            have hKe4 := hKd0.below hb4
            have hAe := hAd.below hb4
            have HBe := below_two HBd0 hb4 (Nat.le_refl _)
            have hsz : Hid ((w3.alloc (.cells #[.int .i64 0, .slice ua 0 uc] 74)).heap.size = w3.heap.size + 1) := by show _ = _; simp
            clear hpd hrd hKd0 hAd hba hb4 hov hb3 hbd0
            obtain ⟨q0, ql0, _⟩ := blk hpe
            by_cases hse : (e : Int) < s
            · have cC : Calls Tryd.prog 82 #[.slice (some ⟨w3.heap.size + 1, 0, none⟩) 1 1] ((w3.alloc (.cells #[.int .i64 0, .slice ua 0 uc] 74)).alloc (.cells #[.slice (some ⟨g, off, none⟩) e c] 75)) fun r w' => ∃ v, r = .returned v ∧ w'.ownsRow (w3.alloc (.cells #[.int .i64 0, .slice ua 0 uc] 74)).heap.size 5 1 v e (octs (l.take e)) ∧ Below (w3.alloc (.cells #[.int .i64 0, .slice ua 0 uc] 74)).heap.size (w3.alloc (.cells #[.int .i64 0, .slice ua 0 uc] 74)) w' := by
                have := join1 (hAe.keep e hel) (by omega)
                rw [hlt] at this
                first | (rw [← hsz.out]; exact this) | exact this
              obtain ⟨q1, ql1, qf1⟩ := blk hre
              go_wp2_with fail
              refine cC.mono ?_
              rintro r wz ⟨v, rfl, hown, hbz⟩
              obtain ⟨va, vc, rfl⟩ := own_form hown
              have hresz := (hbz.block _ ql1).trans hre
              have HBz := below_two HBe hbz (Nat.le_refl _)
              obtain ⟨hfin, hch⟩ := tape_store hresz (x := .slice va e vc) (y := .int .i64 (e : Int))
              have hown2 := own_chg hown hch (fun k hk e => row_ne hown hresz (by decide) (by rw [← e]; exact hk.symm))
              have hK9 := (hKe4.below hbz).stored hresz (by decide) (by decide) hch
              have hB1 := HBe.size
              have hwB := HB1.size
              clear q0 ql0 q1 ql1 qf1 cC
              obtain ⟨q1, ql1, qf1⟩ := blk hresz
              go_wp2_with fail
              generalize ((wz.setCell ⟨w.heap.size + 1, 0, none⟩ (.slice va e vc)).setCell ⟨w.heap.size + 1, 1, none⟩ (.int .i64 (e : Int))) = w9 at *
              obtain ⟨t0, _, _⟩ := blk hfin
              refine bodyPost_ret (v := .tuple #[.slice oa K.length oc, .agg #[.slice va e vc, .int .i64 (e : Int)], .int .i64 0]) (by simp [results, Tryd.results46, go_sem, t0]) rfl ⟨.slice oa K.length oc, .slice va e vc, ?_, ⟨K, hK9.base hwB, ?_⟩, ?_, HBz.trans (hch.below (fun i e => by omega) HBz.size)⟩
              · rw [HE.out]
                simp only
                rw [show min s (e : Int) = (e : Int) by omega]
              · show _ = _
                rw [HE.out]
              · rw [HE.out]
                simp only
                rw [hlt]
                exact own_base hown2 hB1
            · have cC : Calls Tryd.prog 82 #[.slice (some ⟨w3.heap.size + 1, 0, none⟩) 1 1] ((w3.alloc (.cells #[.int .i64 0, .slice ua 0 uc] 74)).alloc (.cells #[.slice (some ⟨g, off, none⟩) e c] 75)) fun r w' => ∃ v, r = .returned v ∧ w'.ownsRow (w3.alloc (.cells #[.int .i64 0, .slice ua 0 uc] 74)).heap.size 5 1 v e (octs (l.take e)) ∧ Below (w3.alloc (.cells #[.int .i64 0, .slice ua 0 uc] 74)).heap.size (w3.alloc (.cells #[.int .i64 0, .slice ua 0 uc] 74)) w' := by
                have := join1 (hAe.keep e hel) (by omega)
                rw [hlt] at this
                first | (rw [← hsz.out]; exact this) | exact this
              obtain ⟨q1, ql1, qf1⟩ := blk hre
              go_wp2_with fail
              refine cC.mono ?_
              rintro r wz ⟨v, rfl, hown, hbz⟩
              obtain ⟨va, vc, rfl⟩ := own_form hown
              have hresz := (hbz.block _ ql1).trans hre
              have HBz := below_two HBe hbz (Nat.le_refl _)
              obtain ⟨hfin, hch⟩ := tape_store hresz (x := .slice va e vc) (y := .int .i64 s)
              have hown2 := own_chg hown hch (fun k hk e => row_ne hown hresz (by decide) (by rw [← e]; exact hk.symm))
              have hK9 := (hKe4.below hbz).stored hresz (by decide) (by decide) hch
              have hB1 := HBe.size
              have hwB := HB1.size
              clear q0 ql0 q1 ql1 qf1 cC
              obtain ⟨q1, ql1, qf1⟩ := blk hresz
              go_wp2_with fail
              generalize ((wz.setCell ⟨w.heap.size + 1, 0, none⟩ (.slice va e vc)).setCell ⟨w.heap.size + 1, 1, none⟩ (.int .i64 s)) = w9 at *
              obtain ⟨t0, _, _⟩ := blk hfin
              refine bodyPost_ret (v := .tuple #[.slice oa K.length oc, .agg #[.slice va e vc, .int .i64 s], .int .i64 0]) (by simp [results, Tryd.results46, go_sem, t0]) rfl ⟨.slice oa K.length oc, .slice va e vc, ?_, ⟨K, hK9.base hwB, ?_⟩, ?_, HBz.trans (hch.below (fun i e => by omega) HBz.size)⟩
              · rw [HE.out]
                simp only
                rw [show min s (e : Int) = s by omega]
              · show _ = _
                rw [HE.out]
              · rw [HE.out]
                simp only
                rw [hlt]
                exact own_base hown2 hB1

    · have h3z : ¬ (e : Int) + 3 ≤ (l.length : Int) := by omega
      have HE : Hid (RR = (K.map (·.1), e)) := by
        show _ = _
        rw [HRR.out]
        refine recAll_end ?_ HI.out
        unfold firstT
        rw [if_pos (by omega)]
      clear HI hdl
      obtain ⟨q0, ql0, _⟩ := blk hpar'
      by_cases hse : (e : Int) < s
      · have cC : Calls Tryd.prog 82 #[.slice (some ⟨wr.heap.size, 0, none⟩) 1 1] (wr.alloc (.cells #[.slice a e c] 75)) fun r w' => ∃ v, r = .returned v ∧ w'.ownsRow wr.heap.size 5 1 v e (octs (l.take e)) ∧ Below wr.heap.size wr w' := by
          have := join1 (hA'.keep e hel) (by omega)
          rw [hlt] at this
          first | (rw [← hsz.out]; exact this) | exact this
        obtain ⟨q1, ql1, qf1⟩ := blk hres'
        go_wp2_with fail
        refine cC.mono ?_
        rintro r wz ⟨v, rfl, hown, hbz⟩
        obtain ⟨va, vc, rfl⟩ := own_form hown
        have hresz := (hbz.block _ ql1).trans hres'
        have HBz := below_two HBr hbz (Nat.le_refl _)
        obtain ⟨hfin, hch⟩ := tape_store hresz (x := .slice va e vc) (y := .int .i64 (e : Int))
        have hown2 := own_chg hown hch (fun k hk e => row_ne hown hresz (by decide) (by rw [← e]; exact hk.symm))
        have hK9 := (hK.below hbz).stored hresz (by decide) (by decide) hch
        have hB1 := HBr.size
        have hwB := HB1.size
        clear q0 ql0 q1 ql1 qf1 cC
        obtain ⟨q1, ql1, qf1⟩ := blk hresz
        go_wp2_with fail
        generalize ((wz.setCell ⟨w.heap.size + 1, 0, none⟩ (.slice va e vc)).setCell ⟨w.heap.size + 1, 1, none⟩ (.int .i64 (e : Int))) = w9 at *
        obtain ⟨t0, _, _⟩ := blk hfin
        refine bodyPost_ret (v := .tuple #[.slice oa K.length oc, .agg #[.slice va e vc, .int .i64 (e : Int)], .int .i64 0]) (by simp [results, Tryd.results46, go_sem, t0]) rfl ⟨.slice oa K.length oc, .slice va e vc, ?_, ⟨K, hK9.base hwB, ?_⟩, ?_, HBz.trans (hch.below (fun i e => by omega) HBz.size)⟩
        · rw [HE.out]
          simp only
          rw [show min s (e : Int) = (e : Int) by omega]
        · show _ = _
          rw [HE.out]
        · rw [HE.out]
          simp only
          rw [hlt]
          exact own_base hown2 hB1
      · have cC : Calls Tryd.prog 82 #[.slice (some ⟨wr.heap.size, 0, none⟩) 1 1] (wr.alloc (.cells #[.slice a e c] 75)) fun r w' => ∃ v, r = .returned v ∧ w'.ownsRow wr.heap.size 5 1 v e (octs (l.take e)) ∧ Below wr.heap.size wr w' := by
          have := join1 (hA'.keep e hel) (by omega)
          rw [hlt] at this
          first | (rw [← hsz.out]; exact this) | exact this
        obtain ⟨q1, ql1, qf1⟩ := blk hres'
        go_wp2_with fail
        refine cC.mono ?_
        rintro r wz ⟨v, rfl, hown, hbz⟩
        obtain ⟨va, vc, rfl⟩ := own_form hown
        have hresz := (hbz.block _ ql1).trans hres'
        have HBz := below_two HBr hbz (Nat.le_refl _)
        obtain ⟨hfin, hch⟩ := tape_store hresz (x := .slice va e vc) (y := .int .i64 s)
        have hown2 := own_chg hown hch (fun k hk e => row_ne hown hresz (by decide) (by rw [← e]; exact hk.symm))
        have hK9 := (hK.below hbz).stored hresz (by decide) (by decide) hch
        have hB1 := HBr.size
        have hwB := HB1.size
        clear q0 ql0 q1 ql1 qf1 cC
        obtain ⟨q1, ql1, qf1⟩ := blk hresz
        go_wp2_with fail
        generalize ((wz.setCell ⟨w.heap.size + 1, 0, none⟩ (.slice va e vc)).setCell ⟨w.heap.size + 1, 1, none⟩ (.int .i64 s)) = w9 at *
        obtain ⟨t0, _, _⟩ := blk hfin
        refine bodyPost_ret (v := .tuple #[.slice oa K.length oc, .agg #[.slice va e vc, .int .i64 s], .int .i64 0]) (by simp [results, Tryd.results46, go_sem, t0]) rfl ⟨.slice oa K.length oc, .slice va e vc, ?_, ⟨K, hK9.base hwB, ?_⟩, ?_, HBz.trans (hch.below (fun i e => by omega) HBz.size)⟩
        · rw [HE.out]
          simp only
          rw [show min s (e : Int) = s by omega]
        · show _ = _
          rw [HE.out]
        · rw [HE.out]
          simp only
          rw [hlt]
          exact own_base hown2 hB1

end Go.Proofs.YtknjnfknalfbdaaDoor
