/-
  Walk: tape.Recover.
-/
import Derived.Test.YtknjnfknalfbdaaDoorTapeFirst
namespace Go.Proofs.YtknjnfknalfbdaaDoor
open Go.RowKit Go.Lib

/-- 'b[n:]' -/
theorem cut_tail (a : Option Addr) (L c n : Nat) (hn : n ≤ L) (hc : L ≤ c) : ∀ wx : World, (Instr.slice 75 (.slice a L c) (some (.int .i64 (n : Int))) none none).run Tryd.prog wx = .ok (.slice (if c = n then a else a.map (·.add n)) (L - n) (c - n)) wx := (cut_bytes a L c n hn hc (n : Int) rfl).2

set_option maxRecDepth 100000 in
set_option maxHeartbeats 2000000 in
theorem recover_any (l : List Nat) (a : Option Addr) (c : Nat) (s : Int) (w : World) (h : BArg w a c l) (hl : ∀ x ∈ l, x < 256) (hlen : l.length ≤ 140737488351232) (hT : Tabs w) (hok : tapeOk l.length s) :
    Calls Tryd.prog 45 #[.agg #[.slice a l.length c, .int .i64 s]] w fun r w' => ∃ rv v, r = .returned (.tuple #[rv, .agg #[v, .int .i64 (min s ((recAll l).2 : Int))], .int .i64 0]) ∧ (∃ K : List RecC, RowRecs w' w.heap.size rv K ∧ Hid (K.map (·.1) = (recAll l).1)) ∧ w'.ownsRow w.heap.size 5 1 v (l.take (recAll l).2).length (octs (l.take (recAll l).2)) ∧ Below w.heap.size w w' := by
  obtain ⟨hpar, hres, HB0, hz⟩ := tape_two w (.cells #[.slice a l.length c, .int .i64 s] 80) (.cells #[.slice none 0 0, .int .i64 0] 80)
  have cM := mayBe_any l.length s a c ((w.alloc (.cells #[.slice a l.length c, .int .i64 s] 80)).alloc (.cells #[.slice none 0 0, .int .i64 0] 80)) (by omega)
  rw [decide_eq_true hok] at cM
  have hz1 : w.heap.size < ((w.alloc (.cells #[.slice a l.length c, .int .i64 s] 80)).alloc (.cells #[.slice none 0 0, .int .i64 0] 80)).heap.size := by omega
  have hz2 : w.heap.size + 1 < ((w.alloc (.cells #[.slice a l.length c, .int .i64 s] 80)).alloc (.cells #[.slice none 0 0, .int .i64 0] 80)).heap.size := by omega
  have hzb : w.heap.size ≤ ((w.alloc (.cells #[.slice a l.length c, .int .i64 s] 80)).alloc (.cells #[.slice none 0 0, .int .i64 0] 80)).heap.size := by omega
  clear hz
  obtain ⟨i0, hi0, hzz0, hzz1, hzz2⟩ := info_parts info_rec
  obtain ⟨RR, hRR⟩ : ∃ RR, RR = recAll l := ⟨_, rfl⟩
  rw [← hRR]
  have HRR : Hid (RR = recAll l) := hRR
  clear hRR
  have hs1 := hok.1
  have hs2 := hok.2.1
  have hs3 := hok.2.2
  obtain ⟨q0, _, _⟩ := blk hpar
  go_enter Tryd.func45, Tryd.ntmps45
  go_wp2_with fail
  refine cM.mono ?_
  generalize ((w.alloc (.cells #[.slice a l.length c, .int .i64 s] 80)).alloc (.cells #[.slice none 0 0, .int .i64 0] 80)) = w0 at *
  rintro r w1 ⟨rfl, hb1⟩
  have HB1 := below_two HB0 hb1 (Nat.le_refl _)
  replace hpar := (hb1.block _ hz1).trans hpar
  replace hres := (hb1.block _ hz2).trans hres
  clear cM q0 hb1
  go_wp2_with fail
  go_loopg [5, 6] l.length (fun g ov iv wr => ∃ (e : Nat) (K : List RecC), e + g = l.length ∧ iv = .int .i64 (e : Int) ∧ RowRecs wr w1.heap.size ov K ∧ Hid (recAll l = (K.map (·.1) ++ (recAll (l.drop e)).1, e + (recAll (l.drop e)).2)) ∧ K.length ≤ e ∧ Below w1.heap.size w1 wr)
  case atStart => exact ⟨0, [], by omega, rfl, rowRecs_nil _ _, by show _ = _; rw [List.drop_zero]; simp, Nat.zero_le _, Below.refl _ _⟩
  case round =>
    obtain ⟨e, K, he, rfl, hK, HI, hKe, hb⟩ := hrel
    obtain ⟨oa, oc, rfl⟩ := own_form hK.row
    have hel : e ≤ l.length := by omega
    have hpar' := (hb.block _ (Array.getElem?_eq_some_iff.1 hpar).1).trans hpar
    have hres' := (hb.block _ (Array.getElem?_eq_some_iff.1 hres).1).trans hres
    have HBr := below_two HB1 hb (Nat.le_refl _)
    have hcut := cut_tail a l.length c e hel h.cap
    have hdl : (l.drop e).length = l.length - e := List.length_drop ..
    have h256 : ∀ x ∈ l.drop e, x < 256 := fun x hx => hl x (List.mem_of_mem_drop hx)
    have hbd := (h.below HBr).drop e
    have he0 : (0 : Int) ≤ (e : Int) := by omega
    have hez : (e : Int) ≤ (l.length : Int) := by omega
    cases hf : firstT (l.drop e) with
    | none =>
      have HE : Hid (RR = (K.map (·.1), e)) := by show _ = _; rw [HRR.out]; exact recAll_end hf HI.out
      have cF := first_none (l.drop e) _ _ wr hbd h256 (by omega) (hT.below HBr) hf
      rw [hdl] at cF
      generalize (if c = e then a else a.map (·.add e)) = ae at *
      have hA1 := h.below HBr
      clear hf HI hbd h256 hdl h hl
      obtain ⟨q0, ql0, _⟩ := blk hpar'
      obtain ⟨q1, ql1, _⟩ := blk hres'
      go_wp2_with fail
      refine cF.mono ?_
      rintro r w2 ⟨rfl, hb2⟩
      have hba := (Below.refl w2.heap.size w2).alloc (Nat.le_refl _) (.cells #[.int .i64 0, .slice none 0 0] 74)
      have hb3 := below_two hb2 hba (Nat.le_refl _)
      replace hpar' := (hb3.block _ ql0).trans hpar'
      replace hres' := (hb3.block _ ql1).trans hres'
      have HB3 := below_two HBr hb3 (Nat.le_refl _)
      have hK3 := hK.below hb3
      have cC := tcut_any l a c e (min s (e : Int)) _ (hA1.below hb3) hel (by omega)
      have hlt : (l.take e).length = e := by rw [List.length_take]; omega
      rw [hlt] at cC
      clear cF q0 q1 ql0 ql1 hb2 hba hK
      obtain ⟨q0, ql0, _⟩ := blk hpar'
      obtain ⟨q1, ql1, qf1⟩ := blk hres'
      go_wp2_with fail
      refine cC.mono ?_
      generalize (w2.alloc (.cells #[.int .i64 0, .slice none 0 0] 74)) = w3 at *
      rintro r w4 ⟨v4, rfl, hown4, hb4⟩
      obtain ⟨va, vc, rfl⟩ := own_form hown4
      have HB4 := below_two HB3 hb4 (Nat.le_refl _)
      replace hres' := (hb4.block _ ql1).trans hres'
      obtain ⟨hfin, hch⟩ := tape_store hres' (x := .slice va e vc) (y := .int .i64 (min s (e : Int)))
      have hown5 := own_chg hown4 hch (fun k hk e => row_ne hown4 hres' (by decide) (by rw [← e]; exact hk.symm))
      have hK5 := (hK3.below hb4).stored hres' (by decide) (by decide) hch
      have hB3 := HB3.size
      have hwB := HB1.size
      clear cC q0 q1 ql0 ql1 qf1 hK3 hown4
      obtain ⟨q1, ql1, qf1⟩ := blk hres'
      go_wp2_with fail
      generalize ((w4.setCell ⟨w.heap.size + 1, 0, none⟩ (.slice va e vc)).setCell ⟨w.heap.size + 1, 1, none⟩ (.int .i64 (min s (e : Int)))) = w9 at *
      obtain ⟨t0, _, _⟩ := blk hfin
      refine bodyPost_ret (v := .tuple #[.slice oa K.length oc, .agg #[.slice va e vc, .int .i64 (min s (e : Int))], .int .i64 0]) (by simp [results, Tryd.results45, go_sem, t0]) rfl ⟨.slice oa K.length oc, .slice va e vc, ?_, ⟨K, hK5.base hwB, ?_⟩, ?_, HB4.trans (hch.below (fun i e => by omega) HB4.size)⟩
      · rw [HE.out]
      · show _ = _
        rw [HE.out]
      · rw [HE.out]
        simp only
        rw [hlt]
        exact own_base hown5 hB3
    | some x =>
      obtain ⟨⟨n, ps⟩, k⟩ := x
      have HI2 : Hid (recAll l = ((K.map (·.1) ++ [(n, ps)]) ++ (recAll (l.drop (e + k))).1, (e + k) + (recAll (l.drop (e + k))).2)) := recAll_step hf HI.out
      have hkz := firstT_size hf
      have cF := first_some (l.drop e) _ _ wr hbd h256 (by omega) (hT.below HBr) n ps k hf
      rw [hdl] at cF hkz
      generalize (if c = e then a else a.map (·.add e)) = ae at *
      clear hf HI hbd h256 hdl
      obtain ⟨q0, ql0, _⟩ := blk hpar'
      go_wp2_with fail
      refine cF.mono ?_
      rintro r w2 ⟨v2, rfl, hov, hb2⟩
      obtain ⟨ua, uc, rfl⟩ := own_form hov
      have hrb := heap_alloc_new w2 (.cells #[.int .i64 (n : Int), .slice ua ps.length uc] 74)
      have hba := (Below.refl w2.heap.size w2).alloc (Nat.le_refl _) (.cells #[.int .i64 (n : Int), .slice ua ps.length uc] 74)
      have hb3 := below_two hb2 hba (Nat.le_refl _)
      have HB3 := below_two HBr hb3 (Nat.le_refl _)
      have hb13 := below_two hb hb3 (Nat.le_refl _)
      have hK3 := hK.below hb3
      have ho3 := own_below (own_base hov hb.size) hba
      clear cF q0 ql0 hb2 hba hK hov
      obtain ⟨y0, yl0, _⟩ := blk hrb
      have hown5 := hK3.row
      have hwB := HB1.size
      have hnew := cell_two_new (w2.alloc (.cells #[.int .i64 (n : Int), .slice ua ps.length uc] 74)) (.int .i64 (n : Int)) (.slice ua ps.length uc) 74
      rw [show (w2.alloc (.cells #[.int .i64 (n : Int), .slice ua ps.length uc] 74)).heap.size = w2.heap.size + 1 by simp] at hnew
      go_wp2_with (at_builtin; refine wpList_append_lies _ rfl _ _ 86 rfl w1.heap.size 74 i0 (.agg #[.int .i64 0, .slice none 0 0]) 2 32 Tryd.underlying86 hi0 hzz0 hzz1 hzz2 rfl (by decide) _ _ _ rfl (hown5.alloc _) ⟨w2.heap.size + 1, 0, none⟩ 1 1 [.int .i64 (n : Int), .slice ua ps.length uc] rfl rfl hnew (by intro u hu; simp at hu; rcases hu with rfl | rfl <;> rfl) (by decide) (by unfold maxLen; omega) (by omega) (by have := hb13.size; simp at this ⊢; omega) _ rfl ?_; intro g1 cap1 w6 hown6 hgr6 hat6 hlt6)
      have hK6 := hK3.app ho3 hown6 hgr6
      have hb6 : Below w1.heap.size w1 w6 := (hb13.alloc hb13.size _).grown hgr6 (by have := hb13.size; simp at this ⊢; omega) (fun k e => (hown5.lt k e).1)
      go_roundg (l.length - e - k)
      case measure => omega
      case rel =>
        refine ⟨e + k, K ++ [((n, ps), .slice ua ps.length uc)], by omega, by go_num, hK6, ?_, by simp; omega, hb6⟩
        show _ = _
        rw [List.map_append, HI2.out]
        rfl

set_option maxRecDepth 100000 in
set_option maxHeartbeats 2000000 in
theorem recover_bad (l : List Nat) (a : Option Addr) (c : Nat) (s : Int) (w : World) (hlen : l.length ≤ 140737488351232) (hok : ¬ tapeOk l.length s) :
    Calls Tryd.prog 45 #[.agg #[.slice a l.length c, .int .i64 s]] w fun r w' => r = .returned (.tuple #[.slice none 0 0, .agg #[.slice none 0 0, .int .i64 0], .int .i64 9]) ∧ Below w.heap.size w w' := by
  obtain ⟨hpar, hres, HB0, hz⟩ := tape_two w (.cells #[.slice a l.length c, .int .i64 s] 80) (.cells #[.slice none 0 0, .int .i64 0] 80)
  have cM := mayBe_any l.length s a c ((w.alloc (.cells #[.slice a l.length c, .int .i64 s] 80)).alloc (.cells #[.slice none 0 0, .int .i64 0] 80)) (by omega)
  rw [decide_eq_false hok] at cM
  have hz1 : w.heap.size < ((w.alloc (.cells #[.slice a l.length c, .int .i64 s] 80)).alloc (.cells #[.slice none 0 0, .int .i64 0] 80)).heap.size := by omega
  have hz2 : w.heap.size + 1 < ((w.alloc (.cells #[.slice a l.length c, .int .i64 s] 80)).alloc (.cells #[.slice none 0 0, .int .i64 0] 80)).heap.size := by omega
  have hzb : w.heap.size ≤ ((w.alloc (.cells #[.slice a l.length c, .int .i64 s] 80)).alloc (.cells #[.slice none 0 0, .int .i64 0] 80)).heap.size := by omega
  clear hz hok
  obtain ⟨q0, _, _⟩ := blk hpar
  go_enter Tryd.func45, Tryd.ntmps45
  go_wp2_with fail
  refine cM.mono ?_
  generalize ((w.alloc (.cells #[.slice a l.length c, .int .i64 s] 80)).alloc (.cells #[.slice none 0 0, .int .i64 0] 80)) = w0 at *
  rintro r w1 ⟨rfl, hb1⟩
  have HB1 := below_two HB0 hb1 (Nat.le_refl _)
  replace hres := (hb1.block _ hz2).trans hres
  obtain ⟨hfin, hch⟩ := tape_store hres (x := .slice none 0 0) (y := .int .i64 0)
  clear cM q0 hpar
  obtain ⟨q1, ql1, qf1⟩ := blk hres
  go_wp2_with fail
  generalize ((w1.setCell ⟨w.heap.size + 1, 0, none⟩ (.slice none 0 0)).setCell ⟨w.heap.size + 1, 1, none⟩ (.int .i64 0)) = w9 at *
  obtain ⟨t0, _, _⟩ := blk hfin
  refine bodyPost_ret (v := .tuple #[.slice none 0 0, .agg #[.slice none 0 0, .int .i64 0], .int .i64 9]) (by simp [results, Tryd.results45, go_sem, t0]) rfl ⟨rfl, HB1.trans (hch.below (fun i e => by omega) HB1.size)⟩

end Go.Proofs.YtknjnfknalfbdaaDoor
