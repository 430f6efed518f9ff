/-
  Walks: node.numbersMayBe, undoMayBe, marks, marksMayBe.
-/
import Derived.Test.YtpgcjpiabciekaaDoorNodeMem
namespace Go.Proofs.YtpgcjpiabciekaaDoor
open Go.RowKit Go.Lib

set_option maxRecDepth 100000 in
set_option maxHeartbeats 1000000 in
theorem marks_any (s : ByteArray) (x y : Int) (w : World) (hs : s.size ≤ 1048576) :
    Calls Tryd.prog 78 #[.string s, .agg #[.int .i64 x, .int .i64 y]] w fun e w' => e = .returned (.bool (markB s (x, y))) ∧ Below w.heap.size w w' := by
  have hb0 := (Below.refl w.heap.size w).alloc (Nat.le_refl _) (.cells #[.int .i64 x, .int .i64 y] 84)
  have hm := heap_alloc_new w (.cells #[.int .i64 x, .int .i64 y] 84)
  have cC := fun wx => count_any s wx (by omega)
  obtain ⟨R, hR⟩ : ∃ R, markB s (x, y) = R := ⟨_, rfl⟩
  rw [hR]
  unfold markB lenT at hR
  generalize ((runes s).length : Int) = L at *
  have hcase : (¬ 0 ≤ x) ∧ R = false ∨ 0 ≤ x ∧ (¬ x ≤ L) ∧ R = false ∨ 0 ≤ x ∧ x ≤ L ∧ (¬ 0 ≤ y) ∧ R = false ∨ 0 ≤ x ∧ x ≤ L ∧ 0 ≤ y ∧ (¬ y ≤ L) ∧ R = false ∨ 0 ≤ x ∧ x ≤ L ∧ 0 ≤ y ∧ y ≤ L ∧ R = true := by
    subst hR
    simp only [Bool.and_eq_false_iff, Bool.and_eq_true, decide_eq_true_eq, decide_eq_false_iff_not]
    omega
  clear hR
  obtain ⟨m0, ml0, _⟩ := blk hm
  rcases hcase with ⟨g1, hR⟩ | ⟨g1, g2, hR⟩ | ⟨g1, g2, g3, hR⟩ | ⟨g1, g2, g3, g4, hR⟩ | ⟨g1, g2, g3, g4, hR⟩
  all_goals
    subst hR
    go_enter Tryd.func78, Tryd.ntmps78
    go_wp2_with fail
    refine (cC _).mono ?_
    rintro r w1 ⟨rfl, hb1⟩
    have hm1 := (hb1.block _ ml0).trans hm
    clear m0 ml0
    obtain ⟨m0, ml0, _⟩ := blk hm1
    go_wp2_with fail
    go_ret
    exact ⟨by first | rfl | (rw [decide_eq_true g4]; rfl) | (rw [decide_eq_false (by omega : ¬ y ≤ L)]; rfl), below_two hb0 hb1 (Nat.le_refl _)⟩

set_option maxRecDepth 100000 in
set_option maxHeartbeats 1000000 in
theorem marksMay_any (n : NodeV) (w : World) (h : NodeAt w n) :
    Calls Tryd.prog 95 #[.agg #[.int .i64 n.me, .int .i64 n.ep, .int .i64 n.up, .bool n.ready, .string n.text, .slice n.sa n.sides.length n.sc, .slice n.ua n.undo.length n.uc, .slice n.ma n.marks.length n.mc]] w fun e w' => e = .returned (.bool (marksB n)) ∧ Below w.heap.size w w' := by
  obtain ⟨R, hR⟩ : ∃ R, marksB n = R := ⟨_, rfl⟩
  rw [hR]
  unfold marksB at hR
  obtain ⟨me, ep, up, ready, text, sides, sa, sc, undo, uvs, ua, uc, marks, ma, mc⟩ := n
  have hh := h
  obtain ⟨htext, hsides, hundo, husm, hmarks, _, _, _⟩ := hh
  simp only at *
  have hb0 := (Below.refl w.heap.size w).alloc (Nat.le_refl _) (.cells #[.int .i64 me, .int .i64 ep, .int .i64 up, .bool ready, .string text, .slice sa sides.length sc, .slice ua undo.length uc, .slice ma marks.length mc] 74)
  have hn := heap_alloc_new w (.cells #[.int .i64 me, .int .i64 ep, .int .i64 up, .bool ready, .string text, .slice sa sides.length sc, .slice ua undo.length uc, .slice ma marks.length mc] 74)
  obtain ⟨n0, nl0, _⟩ := blk hn
  by_cases h1 : 1 < marks.length
  · have h1z : (1 : Int) < (marks.length : Int) := by omega
    rw [decide_eq_false (by omega), Bool.false_and] at hR
    subst hR
    clear h hundo husm hmarks hsides
    go_enter Tryd.func95, Tryd.ntmps95
    go_wp2_with fail
    go_ret
    exact ⟨rfl, hb0⟩
  · have h1z : ¬ (1 : Int) < (marks.length : Int) := by omega
    rw [decide_eq_true (by omega), Bool.true_and] at hR
    have hmk := hmarks.below hb0
    have htx := htext
    have hzz : (w.alloc (.cells #[.int .i64 me, .int .i64 ep, .int .i64 up, .bool ready, .string text, .slice sa sides.length sc, .slice ua undo.length uc, .slice ma marks.length mc] 74)).heap.size = w.heap.size + 1 := by simp
    have HR : Hid ((marks.drop 0).all (markB text) = R) := hR
    clear h hR hundo husm hmarks hsides
    go_enter Tryd.func95, Tryd.ntmps95
    go_wp2_with fail
    generalize (w.alloc (.cells #[.int .i64 me, .int .i64 ep, .int .i64 up, .bool ready, .string text, .slice sa sides.length sc, .slice ua undo.length uc, .slice ma marks.length mc] 74)) = w0 at *
    go_loopg [12] marks.length (fun g iv wr => ∃ i : Nat, i + g = marks.length ∧ iv = .int .i64 (i : Int) ∧ Hid ((marks.drop i).all (markB text) = R) ∧ Below w0.heap.size w0 wr)
    case atStart => exact ⟨0, by omega, rfl, HR, Below.refl _ _⟩
    case round =>
      obtain ⟨i, hi, rfl, HI, hbr⟩ := hrel
      have HBr := below_two hb0 hbr (Nat.le_refl _)
      by_cases hlt : i < marks.length
      · have hiz : (i : Int) < (marks.length : Int) := by omega
        have hi0 : (0 : Int) ≤ (i : Int) := by omega
        obtain ⟨b, off, ea, hb, c0, c1⟩ := (hmk.below hbr).get hlt
        subst ea
        have hst : Hid ((markB text marks[i] && (marks.drop (i + 1)).all (markB text)) = R) := by show _ = _; rw [← HI.out, List.drop_eq_getElem_cons hlt]; rfl
        have hn1 := (hbr.block _ nl0).trans hn
        have hr1 := row_old hn1 (.cells #[.int .i64 marks[i].1, .int .i64 marks[i].2] 84)
        have hbA := (Below.refl wr.heap.size wr).alloc (Nat.le_refl _) (.cells #[.int .i64 marks[i].1, .int .i64 marks[i].2] 84)
        have hm1 := heap_alloc_new wr (.cells #[.int .i64 marks[i].1, .int .i64 marks[i].2] 84)
        have cM := fun wx => marks_any text marks[i].1 marks[i].2 wx htx
        have e2 : (marks[i].1, marks[i].2) = marks[i] := rfl
        rw [e2] at cM
        generalize marks[i] = m at *
        obtain ⟨x, y⟩ := m
        simp only at c0 c1 hr1 hbA hm1 cM hst
        generalize markB text (x, y) = M at *
        have hz0 : w.heap.size < wr.heap.size := by have := hbr.size; omega
        obtain ⟨m0, ml0, _⟩ := blk hm1
        obtain ⟨q0, ql0, _⟩ := blk hr1
        obtain ⟨p0, pl0, _⟩ := blk hn1
        clear hmk HI n0 nl0 hn hn1 e2
        cases M with
        | true =>
          have HI2 : Hid ((marks.drop (i + 1)).all (markB text) = R) := by show _ = _; rw [← hst.out, Bool.true_and]
          clear hst
          go_wp2_with fail
          refine (cM _).mono ?_
          rintro r w2 ⟨rfl, hb2⟩
          have HB2 := below_two hbr (below_two hbA hb2 (Nat.le_refl _)) (Nat.le_refl _)
          go_wp2_with fail
          go_roundg (marks.length - i - 1)
          case measure => omega
          case rel => exact ⟨i + 1, by omega, by go_num, HI2, HB2⟩
        | false =>
          have hRf : false = R := by rw [← hst.out, Bool.false_and]
          subst hRf
          clear hst
          go_wp2_with fail
          refine (cM _).mono ?_
          rintro r w2 ⟨rfl, hb2⟩
          have HB2 := below_two HBr (below_two hbA hb2 (Nat.le_refl _)) (Nat.le_refl _)
          go_wp2_with fail
          go_ret
          exact ⟨rfl, HB2⟩
      · obtain rfl : i = marks.length := by omega
        have hiz : ¬ (marks.length : Int) < (marks.length : Int) := by omega
        have hRt : true = R := by rw [← HI.out, List.drop_of_length_le (Nat.le_refl _)]; rfl
        subst hRt
        clear HI
        go_wp2_with fail
        go_ret
        exact ⟨rfl, HBr⟩

theorem undoRB_step (x : Int) {U : List (List Part)} {g : Nat} (h : g < U.length) : undoRB x (U.take (g + 1)).reverse = (decide (opErr U[g] = 0) && decide (((lens U[g]).1 : Int) = x) && undoRB (lens U[g]).2 (U.take g).reverse) := by
  rw [List.take_succ_eq_append_getElem h, List.reverse_append]
  rfl
set_option maxRecDepth 100000 in
set_option maxHeartbeats 1000000 in
theorem undoMay_any (n : NodeV) (w : World) (h : NodeAt w n) (hT : Tabs w) :
    Calls Tryd.prog 94 #[.agg #[.int .i64 n.me, .int .i64 n.ep, .int .i64 n.up, .bool n.ready, .string n.text, .slice n.sa n.sides.length n.sc, .slice n.ua n.undo.length n.uc, .slice n.ma n.marks.length n.mc]] w fun e w' => e = .returned (.bool (undoB n)) ∧ Below w.heap.size w w' := by
  obtain ⟨R, hR⟩ : ∃ R, undoB n = R := ⟨_, rfl⟩
  rw [hR]
  unfold undoB at hR
  obtain ⟨me, ep, up, ready, text, sides, sa, sc, undo, uvs, ua, uc, marks, ma, mc⟩ := n
  have hh := h
  obtain ⟨htext, hsides, hundo, husm, hmarks, _, _, _⟩ := hh
  simp only at *
  have hb0 := (Below.refl w.heap.size w).alloc (Nat.le_refl _) (.cells #[.int .i64 me, .int .i64 ep, .int .i64 up, .bool ready, .string text, .slice sa sides.length sc, .slice ua undo.length uc, .slice ma marks.length mc] 74)
  have hn := heap_alloc_new w (.cells #[.int .i64 me, .int .i64 ep, .int .i64 up, .bool ready, .string text, .slice sa sides.length sc, .slice ua undo.length uc, .slice ma marks.length mc] 74)
  obtain ⟨n0, nl0, _⟩ := blk hn
  by_cases h1 : 12 < undo.length
  · have h1z : (12 : Int) < (undo.length : Int) := by omega
    rw [decide_eq_false (by omega), Bool.false_and] at hR
    subst hR
    clear h hundo husm hmarks hsides
    go_enter Tryd.func94, Tryd.ntmps94
    go_wp2_with fail
    go_ret
    exact ⟨rfl, hb0⟩
  have h1z : ¬ (12 : Int) < (undo.length : Int) := by omega
  rw [decide_eq_true (by omega), Bool.true_and] at hR
  have cC := fun wx => count_any text wx (by have := htext; omega)
  have hU := hundo
  have hsm := husm
  have hul := hU.len
  have HR : Hid (undoRB (lenT text) undo.reverse = R) := hR
  have hz : undo.length ≤ 12 := by omega
  clear h hR hundo husm hmarks hsides
  go_enter Tryd.func94, Tryd.ntmps94
  go_wp2_with fail
  refine (cC _).mono ?_
  generalize (w.alloc (.cells #[.int .i64 me, .int .i64 ep, .int .i64 up, .bool ready, .string text, .slice sa sides.length sc, .slice ua undo.length uc, .slice ma marks.length mc] 74)) = w0 at *
  rintro r w1 ⟨rfl, hb1⟩
  have HB1 := below_two hb0 hb1 (Nat.le_refl _)
  have hn1 := (hb1.block _ nl0).trans hn
  have hU1 := hU.below HB1
  have hT1 := hT.below HB1
  clear n0 nl0 hn hU hT cC hb1 hb0
  obtain ⟨n0, nl0, _⟩ := blk hn1
  have HL : Hid (undoRB ((runes text).length : Int) (undo.take undo.length).reverse = R) := by show _ = _; rw [List.take_length]; exact HR.out
  clear HR
  go_wp2_with fail
  go_loopg [3, 4] undo.length (fun g lv iv wr => ∃ x : Int, lv = .int .i64 x ∧ iv = .int .i64 ((g : Int) - 1) ∧ g ≤ undo.length ∧ Hid (undoRB x (undo.take g).reverse = R) ∧ Below w1.heap.size w1 wr)
  case atStart => exact ⟨_, rfl, rfl, Nat.le_refl _, HL, Below.refl _ _⟩
  case round =>
    obtain ⟨x, rfl, rfl, hg, HX, hbr⟩ := hrel
    have HBr := below_two HB1 hbr (Nat.le_refl _)
    cases gk with
    | zero =>
      have hRt : true = R := by rw [← HX.out]; rfl
      subst hRt
      have hz9 : ¬ (0 : Int) ≤ ((0 : Nat) : Int) - 1 := by omega
      clear HX
      go_wp2_with fail
      go_ret
      exact ⟨rfl, HBr⟩
    | succ g =>
      have hlt : g < undo.length := hg
      have hiz : (0 : Int) ≤ ((g + 1 : Nat) : Int) - 1 := by omega
      have e1 : ((g + 1 : Nat) : Int) - 1 = (g : Int) := by omega
      have hgl : (g : Int) < (undo.length : Int) := by omega
      have hg0 : (0 : Int) ≤ (g : Int) := by omega
      have hst := HX.out
      rw [undoRB_step x hlt] at hst
      have hUr := hU1.below hbr
      have hlv : g < uvs.length := by rw [hul]; exact hlt
      have hv := hUr.each g hlt hlv
      have hsmg := hsm undo[g] (List.getElem_mem hlt)
      have hcell : ∃ b off, ua = some ⟨b, off, none⟩ ∧ b < wr.heap.size ∧ wr.cell? ⟨b, off + g, none⟩ = some uvs[g] := by
        rcases hUr.vals with h | ⟨b, off, e, hb, hc⟩
        · rw [h] at hlv; simp at hlv
        · exact ⟨b, off, e, hb, hc _ hlv⟩
      obtain ⟨b, off, ea, hb, hc⟩ := hcell
      subst ea
      have hn2 := (hbr.block _ nl0).trans hn1
      generalize undo[g] = o at *
      generalize uvs[g] = v at *
      obtain ⟨va, vc, rfl, hop, _, _⟩ := hv.form
      have cK := fun (wx : World) (hx : Below wr.heap.size wr wx) => check_any o va vc wx (hop.below hx) (by have := hsmg.1; omega) (fun p hp => by have := (hsmg.2 p hp).2.2; omega) (hT1.below (below_two hbr hx (Nat.le_refl _)))
      have cL := fun (wx : World) (hx : Below wr.heap.size wr wx) => lengths_any o va vc wx (hop.below hx) (by have := hsmg.1; omega) (fun p hp => by have := (hsmg.2 p hp).2.2; omega)
      have cK0 := cK wr (Below.refl _ _)
      have HU := HX
      clear hU1 hUr hv hsm hlv hop hsmg HX
      by_cases h2 : opErr o = 0
      rotate_left
      · have g2 : (opErr o != 0) = true := by simpa using h2
        rw [decide_eq_false h2, Bool.false_and, Bool.false_and] at hst
        subst hst
        clear HU cK cL
        generalize opErr o = E at *
        obtain ⟨p0, pl0, _⟩ := blk hn2
        clear n0 nl0 h2
        go_wp2_with fail
        refine cK0.mono ?_
        rintro r w2 ⟨rfl, hb2⟩
        go_wp2_with fail
        go_ret
        exact ⟨rfl, below_two HBr hb2 (Nat.le_refl _)⟩
      · rw [decide_eq_true h2, Bool.true_and] at hst
        rw [h2] at cK0
        by_cases h3 : (lens o).1 = x
        · rw [decide_eq_true h3, Bool.true_and] at hst
          have HN : Hid (undoRB (lens o).2 (undo.take g).reverse = R) := hst
          have g3 : ((lens o).1 != x) = false := by simpa using h3
          clear hst HU h2 cK h3
          obtain ⟨p0, pl0, _⟩ := blk hn2
          clear n0 nl0
          generalize (lens o).1 = y1 at *
          generalize (lens o).2 = y2 at *
          go_wp2_with fail
          refine cK0.mono ?_
          rintro r w2 ⟨rfl, hb2⟩
          have hn3 := (hb2.block _ pl0).trans hn2
          have hc3 := (hb2.cell (p := ⟨b, off + g, none⟩) hb).trans hc
          have cL2 := cL _ hb2
          clear p0 pl0 cK0 cL
          obtain ⟨p0, pl0, _⟩ := blk hn3
          go_wp2_with fail
          refine cL2.mono ?_
          rintro r w3 ⟨rfl, hb3⟩
          have HB3 := below_two hbr (below_two hb2 hb3 (Nat.le_refl _)) (Nat.le_refl _)
          go_wp2_with fail
          go_roundg g
          case measure => omega
          case rel => exact ⟨y2, rfl, by go_num, by omega, HN, HB3⟩
        · rw [decide_eq_false h3, Bool.false_and] at hst
          subst hst
          have g3 : ((lens o).1 != x) = true := by simpa using h3
          clear HU h2 cK h3
          obtain ⟨p0, pl0, _⟩ := blk hn2
          clear n0 nl0
          generalize (lens o).1 = y1 at *
          generalize (lens o).2 = y2 at *
          go_wp2_with fail
          refine cK0.mono ?_
          rintro r w2 ⟨rfl, hb2⟩
          have hn3 := (hb2.block _ pl0).trans hn2
          have hc3 := (hb2.cell (p := ⟨b, off + g, none⟩) hb).trans hc
          have cL2 := cL _ hb2
          clear p0 pl0 cK0 cL
          obtain ⟨p0, pl0, _⟩ := blk hn3
          go_wp2_with fail
          refine cL2.mono ?_
          rintro r w3 ⟨rfl, hb3⟩
          have HB3 := below_two HBr (below_two hb2 hb3 (Nat.le_refl _)) (Nat.le_refl _)
          go_wp2_with fail
          go_ret
          exact ⟨rfl, HB3⟩

end Go.Proofs.YtpgcjpiabciekaaDoor
