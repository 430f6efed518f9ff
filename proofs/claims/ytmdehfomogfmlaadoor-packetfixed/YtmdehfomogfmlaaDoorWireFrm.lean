/-
  Walk: wire.reader.frame.
-/
import Derived.Test.YtmdehfomogfmlaaDoorBlk
namespace Go.Proofs.YtmdehfomogfmlaaDoor
open Go.RowKit Go.Lib

set_option maxRecDepth 100000 in
set_option maxHeartbeats 4000000 in
theorem frame_any (w : World) (B b : Nat) (st : Except Int (List Nat)) (h : RdSt w B b st) :
    Calls Tryd.prog 112 #[.pointer (some ⟨b, 0, none⟩)] w fun r w' => ∃ (f : FrameV) (v : Value), r = .returned (.agg #[.int .i64 (f.kind : Int), .int .i64 (f.heard : Int), .int .i64 (f.epoch : Int), v, .string f.text]) ∧ w'.ownsRow w.heap.size 68 3 v f.op.length (partCells f.op) ∧ RdSt w' B b (rest (andR st frameP)) ∧ (∀ x, andR st frameP = .ok x → x.1 = f) ∧ FrameSmall f ∧ Chg (fun k => k = b) w w' := by
  have hb := h.base
  have hc0 : Chg (fun k => k = b) w (w.alloc (.cells #[.int .i64 0, .int .i64 0, .int .i64 0, .slice none 0 0, .string ⟨#[]⟩] 74)) := (Chg.refl _ _).alloc _
  have hr0 := heap_alloc_new w (.cells #[.int .i64 0, .int .i64 0, .int .i64 0, .slice none 0 0, .string ⟨#[]⟩] 74)
  have cN := number_any _ B b st (h.chg ((Chg.refl (fun _ => False) w).alloc (.cells #[.int .i64 0, .int .i64 0, .int .i64 0, .slice none 0 0, .string ⟨#[]⟩] 74)) (fun _ h => h.elim))
  obtain ⟨R, hR⟩ : ∃ R, R = andR st frameP := ⟨_, rfl⟩
  rw [← hR]
  have HK : Hid (R = andR st frameP) := hR
  clear hR
  have HN : Hid (andR st numP = andR st numP) := rfl
  go_enter Tryd.func112, Tryd.ntmps112
  go_wp2_with fail
  refine cN.mono ?_
  rintro r w1 ⟨n, rfl, hn, hst, hx, hc1⟩
  replace HK : Hid (R = andR (rest (andR st numP)) (if n = 1 then seqP numP fun h => seqP opP fun ps => pureP ⟨1, h, 0, ps, ByteArray.empty⟩ else if n = 3 then seqP numP fun e => seqP textP fun s => pureP ⟨3, 0, e, [], s⟩ else seqP numP fun e => seqP numP fun h => pureP ⟨n, h, e, [], ByteArray.empty⟩)) := HK.out.trans (seq_at hx)
  generalize rest (andR st numP) = st1 at *
  clear cN hx HN
  have hres := hc1.row hr0 (by omega)
  replace hc1 := hc0.trans hc1 (fun _ _ h => h)
  have hz1 := hc1.size
  have hrl := (Array.getElem?_eq_some_iff.1 hres).1
  clear hr0 hc0 h
  by_cases h1 : n = 1
  · subst h1
    rw [if_pos rfl] at HK
    have hres1 := row_old hres (.cells #[.int .i64 1, .int .i64 0, .int .i64 0, .slice none 0 0, .string ⟨#[]⟩] 74)
    have hp := heap_alloc_new w1 (.cells #[.int .i64 1, .int .i64 0, .int .i64 0, .slice none 0 0, .string ⟨#[]⟩] 74)
    have hca : Chg (fun k => k = b) w1 (w1.alloc (.cells #[.int .i64 1, .int .i64 0, .int .i64 0, .slice none 0 0, .string ⟨#[]⟩] 74)) := (Chg.refl _ _).alloc _
    have cN := number_any _ B b _ (hst.chg ((Chg.refl (fun _ => False) w1).alloc (.cells #[.int .i64 1, .int .i64 0, .int .i64 0, .slice none 0 0, .string ⟨#[]⟩] 74)) (fun _ h => h.elim))
    clear hres hst
    go_wp2_with fail
    refine cN.mono ?_
    rintro r w2 ⟨m, rfl, hm, hst, hx, hc2⟩
    replace HK : Hid (R = andR (rest (andR st1 numP)) (seqP opP fun ps => pureP ⟨1, m, 0, ps, ByteArray.empty⟩)) := HK.out.trans (seq_at hx)
    generalize rest (andR st1 numP) = st2 at *
    have hp2 := hc2.row hp (by omega)
    have hres2 := hc2.row hres1 (by omega)
    have hcc := hc1.trans (hca.trans hc2 (fun _ _ h => h)) (fun _ _ h => h)
    have hz2 := hcc.size
    have hL2 := hca.trans hc2 (fun _ _ h => h) |>.size
    clear cN hx hc1 hca hc2 hp hres1
    obtain ⟨p2, pl2, pf2⟩ := blk hp2
    have hp3 : (w2.setCell ⟨w1.heap.size, 1, none⟩ (.int .i64 (m : Int))).heap[w1.heap.size]? = some (.cells #[.int .i64 1, .int .i64 (m : Int), .int .i64 0, .slice none 0 0, .string ⟨#[]⟩] 74 (0, 0)) := (blk_put hp2 1 (.int .i64 (m : Int))).1
    have hs3 := (blk_put hp2 1 (.int .i64 (m : Int))).2
    have hres3 := hs3.row hres2 (by omega)
    have hst3 := hst.chg hs3 (fun k hk => by omega)
    have hc3 := hcc.trans hs3 (fun i hi h => by omega)
    have hz3 := hs3.size
    clear hp2 hres2 hst hcc hs3
    have cT := rop_any _ B b _ hst3
    go_wp2_with fail
    refine cT.mono ?_
    generalize (w2.setCell ⟨w1.heap.size, 1, none⟩ (.int .i64 (m : Int))) = w3 at *
    rintro r w4 ⟨v, ps, rfl, hown, hst4, hx, hpl, hpk, hc4⟩
    obtain ⟨va, vc, rfl⟩ := own_form hown
    replace HK : Hid (R = andR (rest (andR st2 opP)) (pureP ⟨1, m, 0, ps, ByteArray.empty⟩)) := HK.out.trans (seq_at hx)
    generalize rest (andR st2 opP) = st3 at *
    generalize hpn : ps.length = pn at *
    have HPN : Hid (ps.length = pn) := hpn
    clear hpn
    have hp4 := hc4.row hp3 (by omega)
    have hres4 := hc4.row hres3 (by omega)
    have hcc := hc3.trans hc4 (fun _ _ h => h)
    have hz4 := hc4.size
    clear cT hx p2 pl2 pf2 hp3 hres3 hst3 hc3 hc4
    obtain ⟨p4, pl4, pf4⟩ := blk hp4
    have hp5 : (w4.setCell ⟨w1.heap.size, 3, none⟩ (.slice va pn vc)).heap[w1.heap.size]? = some (.cells #[.int .i64 1, .int .i64 (m : Int), .int .i64 0, .slice va pn vc, .string ⟨#[]⟩] 74 (0, 0)) := (blk_put hp4 3 (.slice va pn vc)).1
    have hs5 := (blk_put hp4 3 (.slice va pn vc)).2
    have hres5 := hs5.row hres4 (by omega)
    obtain ⟨p5, pl5, pf5⟩ := blk hp5
    obtain ⟨r5, rl5, rf5⟩ := blk hres5
    obtain ⟨hfin, hch6⟩ := puts_all hres5 [.int .i64 1, .int .i64 (m : Int), .int .i64 0, .slice va pn vc, .string ⟨#[]⟩] rfl
    simp only [puts, Nat.zero_add, Nat.reduceAdd] at hfin hch6
    have hst6 := (hst4.chg hs5 (fun k hk => by omega)).chg hch6 (fun k hk => by omega)
    have hc6 := (hcc.trans hs5 (fun i hi h => by omega)).trans hch6 (fun i hi h => by omega)
    have hown6 := own_base (own_chg (own_chg hown hs5 (fun k hk e => row_ne hown hp4 (by decide) (by rw [← e]; exact hk.symm))) hch6 (fun k hk e => row_ne (own_chg hown hs5 (fun k hk e => row_ne hown hp4 (by decide) (by rw [← e]; exact hk.symm))) hres5 (by decide) (by rw [← e]; exact hk.symm))) (show w.heap.size ≤ w3.heap.size by omega)
    clear hp4 hres4 hp5 hres5 hs5 hch6 hst4 hcc
    go_wp2_with fail
    generalize ((((((w4.setCell ⟨w1.heap.size, 3, none⟩ (.slice va pn vc)).setCell ⟨w.heap.size, 0, none⟩ (.int .i64 1)).setCell ⟨w.heap.size, 1, none⟩ (.int .i64 (m : Int))).setCell ⟨w.heap.size, 2, none⟩ (.int .i64 0)).setCell ⟨w.heap.size, 3, none⟩ (.slice va pn vc)).setCell ⟨w.heap.size, 4, none⟩ (.string ⟨#[]⟩)) = w9 at *
    obtain ⟨t9, _, _⟩ := blk hfin
    refine bodyPost_ret (v := .agg #[.int .i64 1, .int .i64 (m : Int), .int .i64 0, .slice va pn vc, .string ⟨#[]⟩]) (by simp [results, Tryd.results112, go_sem, t9]) rfl ⟨⟨1, m, 0, ps, ByteArray.empty⟩, .slice va pn vc, rfl, by simp only; rw [HPN.out]; exact hown6, ?_, ?_, ⟨by simp, by simp only; omega, by simp, by simp only; rw [HPN.out]; omega, hpk, by simp⟩, hc6⟩
    · rw [HK.out, pure_rest]; exact hst6
    · rw [HK.out]; exact pure_val _ _
  · by_cases h3 : n = 3
    · subst h3
      rw [if_neg (by decide), if_pos rfl] at HK
      have hres1 := row_old hres (.cells #[.int .i64 3, .int .i64 0, .int .i64 0, .slice none 0 0, .string ⟨#[]⟩] 74)
      have hp := heap_alloc_new w1 (.cells #[.int .i64 3, .int .i64 0, .int .i64 0, .slice none 0 0, .string ⟨#[]⟩] 74)
      have hca : Chg (fun k => k = b) w1 (w1.alloc (.cells #[.int .i64 3, .int .i64 0, .int .i64 0, .slice none 0 0, .string ⟨#[]⟩] 74)) := (Chg.refl _ _).alloc _
      have cN := number_any _ B b _ (hst.chg ((Chg.refl (fun _ => False) w1).alloc (.cells #[.int .i64 3, .int .i64 0, .int .i64 0, .slice none 0 0, .string ⟨#[]⟩] 74)) (fun _ h => h.elim))
      clear hres hst
      go_wp2_with fail
      refine cN.mono ?_
      rintro r w2 ⟨m, rfl, hm, hst, hx, hc2⟩
      replace HK : Hid (R = andR (rest (andR st1 numP)) (seqP textP fun s => pureP ⟨3, 0, m, [], s⟩)) := HK.out.trans (seq_at hx)
      generalize rest (andR st1 numP) = st2 at *
      have hp2 := hc2.row hp (by omega)
      have hres2 := hc2.row hres1 (by omega)
      have hcc := hc1.trans (hca.trans hc2 (fun _ _ h => h)) (fun _ _ h => h)
      have hz2 := hcc.size
      have hL2 := hca.trans hc2 (fun _ _ h => h) |>.size
      clear cN hx hc1 hca hc2 hp hres1
      obtain ⟨p2, pl2, pf2⟩ := blk hp2
      have hp3 : (w2.setCell ⟨w1.heap.size, 2, none⟩ (.int .i64 (m : Int))).heap[w1.heap.size]? = some (.cells #[.int .i64 3, .int .i64 0, .int .i64 (m : Int), .slice none 0 0, .string ⟨#[]⟩] 74 (0, 0)) := (blk_put hp2 2 (.int .i64 (m : Int))).1
      have hs3 := (blk_put hp2 2 (.int .i64 (m : Int))).2
      have hres3 := hs3.row hres2 (by omega)
      have hst3 := hst.chg hs3 (fun k hk => by omega)
      have hc3 := hcc.trans hs3 (fun i hi h => by omega)
      have hz3 := hs3.size
      clear hp2 hres2 hst hcc hs3
      have cT := rtext_any _ B b _ hst3
      go_wp2_with fail
      refine cT.mono ?_
      generalize (w2.setCell ⟨w1.heap.size, 2, none⟩ (.int .i64 (m : Int))) = w3 at *
      rintro r w4 ⟨s, rfl, hst4, hx, hsz, hc4⟩
      replace HK : Hid (R = andR (rest (andR st2 textP)) (pureP ⟨3, 0, m, [], s⟩)) := HK.out.trans (seq_at hx)
      generalize rest (andR st2 textP) = st3 at *
      have hp4 := hc4.row hp3 (by omega)
      have hres4 := hc4.row hres3 (by omega)
      have hcc := hc3.trans hc4 (fun _ _ h => h)
      have hz4 := hc4.size
      clear cT hx p2 pl2 pf2 hp3 hres3 hst3 hc3 hc4
      obtain ⟨p4, pl4, pf4⟩ := blk hp4
      have hp5 : (w4.setCell ⟨w1.heap.size, 4, none⟩ (.string s)).heap[w1.heap.size]? = some (.cells #[.int .i64 3, .int .i64 0, .int .i64 (m : Int), .slice none 0 0, .string s] 74 (0, 0)) := (blk_put hp4 4 (.string s)).1
      have hs5 := (blk_put hp4 4 (.string s)).2
      have hres5 := hs5.row hres4 (by omega)
      obtain ⟨p5, pl5, pf5⟩ := blk hp5
      obtain ⟨r5, rl5, rf5⟩ := blk hres5
      obtain ⟨hfin, hch6⟩ := puts_all hres5 [.int .i64 3, .int .i64 0, .int .i64 (m : Int), .slice none 0 0, .string s] rfl
      simp only [puts, Nat.zero_add, Nat.reduceAdd] at hfin hch6
      have hst6 := (hst4.chg hs5 (fun k hk => by omega)).chg hch6 (fun k hk => by omega)
      have hc6 := (hcc.trans hs5 (fun i hi h => by omega)).trans hch6 (fun i hi h => by omega)
      clear hp4 hres4 hp5 hres5 hs5 hch6 hst4 hcc
      go_wp2_with fail
      generalize ((((((w4.setCell ⟨w1.heap.size, 4, none⟩ (.string s)).setCell ⟨w.heap.size, 0, none⟩ (.int .i64 3)).setCell ⟨w.heap.size, 1, none⟩ (.int .i64 0)).setCell ⟨w.heap.size, 2, none⟩ (.int .i64 (m : Int))).setCell ⟨w.heap.size, 3, none⟩ (.slice none 0 0)).setCell ⟨w.heap.size, 4, none⟩ (.string s)) = w9 at *
      obtain ⟨t9, _, _⟩ := blk hfin
      refine bodyPost_ret (v := .agg #[.int .i64 3, .int .i64 0, .int .i64 (m : Int), .slice none 0 0, .string s]) (by simp [results, Tryd.results112, go_sem, t9]) rfl ⟨⟨3, 0, m, [], s⟩, .slice none 0 0, rfl, World.ownsRow_nil _ _ _ _, ?_, ?_, ⟨by simp, by simp, by simp only; omega, by simp, by simp, hsz⟩, hc6⟩
      · rw [HK.out, pure_rest]; exact hst6
      · rw [HK.out]; exact pure_val _ _
    · rw [if_neg h1, if_neg h3] at HK
      have g1 : ((n : Int) == 1) = false := by simp; omega
      have g3 : ((n : Int) == 3) = false := by simp; omega
      have hres1 := row_old hres (.cells #[.int .i64 (n : Int), .int .i64 0, .int .i64 0, .slice none 0 0, .string ⟨#[]⟩] 74)
      have hp := heap_alloc_new w1 (.cells #[.int .i64 (n : Int), .int .i64 0, .int .i64 0, .slice none 0 0, .string ⟨#[]⟩] 74)
      have hca : Chg (fun k => k = b) w1 (w1.alloc (.cells #[.int .i64 (n : Int), .int .i64 0, .int .i64 0, .slice none 0 0, .string ⟨#[]⟩] 74)) := (Chg.refl _ _).alloc _
      have cN := number_any _ B b _ (hst.chg ((Chg.refl (fun _ => False) w1).alloc (.cells #[.int .i64 (n : Int), .int .i64 0, .int .i64 0, .slice none 0 0, .string ⟨#[]⟩] 74)) (fun _ h => h.elim))
      clear hres hst
      go_wp2_with fail
      refine cN.mono ?_
      rintro r w2 ⟨m, rfl, hm, hst, hx, hc2⟩
      replace HK : Hid (R = andR (rest (andR st1 numP)) (seqP numP fun h => pureP ⟨n, h, m, [], ByteArray.empty⟩)) := HK.out.trans (seq_at hx)
      generalize rest (andR st1 numP) = st2 at *
      have hp2 := hc2.row hp (by omega)
      have hres2 := hc2.row hres1 (by omega)
      have hcc := hc1.trans (hca.trans hc2 (fun _ _ h => h)) (fun _ _ h => h)
      have hz2 := hcc.size
      have hL2 := hca.trans hc2 (fun _ _ h => h) |>.size
      clear cN hx hc1 hca hc2 hp hres1
      obtain ⟨p2, pl2, pf2⟩ := blk hp2
      have hp3 : (w2.setCell ⟨w1.heap.size, 2, none⟩ (.int .i64 (m : Int))).heap[w1.heap.size]? = some (.cells #[.int .i64 (n : Int), .int .i64 0, .int .i64 (m : Int), .slice none 0 0, .string ⟨#[]⟩] 74 (0, 0)) := (blk_put hp2 2 (.int .i64 (m : Int))).1
      have hs3 := (blk_put hp2 2 (.int .i64 (m : Int))).2
      have hres3 := hs3.row hres2 (by omega)
      have hst3 := hst.chg hs3 (fun k hk => by omega)
      have hc3 := hcc.trans hs3 (fun i hi h => by omega)
      have hz3 := hs3.size
      clear hp2 hres2 hst hcc hs3
      have cT := number_any _ B b _ hst3
      go_wp2_with fail
      refine cT.mono ?_
      generalize (w2.setCell ⟨w1.heap.size, 2, none⟩ (.int .i64 (m : Int))) = w3 at *
      rintro r w4 ⟨q, rfl, hq, hst4, hx, hc4⟩
      replace HK : Hid (R = andR (rest (andR st2 numP)) (pureP ⟨n, q, m, [], ByteArray.empty⟩)) := HK.out.trans (seq_at hx)
      generalize rest (andR st2 numP) = st3 at *
      have hp4 := hc4.row hp3 (by omega)
      have hres4 := hc4.row hres3 (by omega)
      have hcc := hc3.trans hc4 (fun _ _ h => h)
      have hz4 := hc4.size
      clear cT hx p2 pl2 pf2 hp3 hres3 hst3 hc3 hc4
      obtain ⟨p4, pl4, pf4⟩ := blk hp4
      have hp5 : (w4.setCell ⟨w1.heap.size, 1, none⟩ (.int .i64 (q : Int))).heap[w1.heap.size]? = some (.cells #[.int .i64 (n : Int), .int .i64 (q : Int), .int .i64 (m : Int), .slice none 0 0, .string ⟨#[]⟩] 74 (0, 0)) := (blk_put hp4 1 (.int .i64 (q : Int))).1
      have hs5 := (blk_put hp4 1 (.int .i64 (q : Int))).2
      have hres5 := hs5.row hres4 (by omega)
      obtain ⟨p5, pl5, pf5⟩ := blk hp5
      obtain ⟨r5, rl5, rf5⟩ := blk hres5
      obtain ⟨hfin, hch6⟩ := puts_all hres5 [.int .i64 (n : Int), .int .i64 (q : Int), .int .i64 (m : Int), .slice none 0 0, .string ⟨#[]⟩] rfl
      simp only [puts, Nat.zero_add, Nat.reduceAdd] at hfin hch6
      have hst6 := (hst4.chg hs5 (fun k hk => by omega)).chg hch6 (fun k hk => by omega)
      have hc6 := (hcc.trans hs5 (fun i hi h => by omega)).trans hch6 (fun i hi h => by omega)
      clear hp4 hres4 hp5 hres5 hs5 hch6 hst4 hcc
      go_wp2_with fail
      generalize ((((((w4.setCell ⟨w1.heap.size, 1, none⟩ (.int .i64 (q : Int))).setCell ⟨w.heap.size, 0, none⟩ (.int .i64 (n : Int))).setCell ⟨w.heap.size, 1, none⟩ (.int .i64 (q : Int))).setCell ⟨w.heap.size, 2, none⟩ (.int .i64 (m : Int))).setCell ⟨w.heap.size, 3, none⟩ (.slice none 0 0)).setCell ⟨w.heap.size, 4, none⟩ (.string ⟨#[]⟩)) = w9 at *
      obtain ⟨t9, _, _⟩ := blk hfin
      refine bodyPost_ret (v := .agg #[.int .i64 (n : Int), .int .i64 (q : Int), .int .i64 (m : Int), .slice none 0 0, .string ⟨#[]⟩]) (by simp [results, Tryd.results112, go_sem, t9]) rfl ⟨⟨n, q, m, [], ByteArray.empty⟩, .slice none 0 0, rfl, World.ownsRow_nil _ _ _ _, ?_, ?_, ⟨hn, by simp only; omega, by simp only; omega, by simp, by simp, by simp⟩, hc6⟩
      · rw [HK.out, pure_rest]; exact hst6
      · rw [HK.out]; exact pure_val _ _

end Go.Proofs.YtmdehfomogfmlaaDoor
