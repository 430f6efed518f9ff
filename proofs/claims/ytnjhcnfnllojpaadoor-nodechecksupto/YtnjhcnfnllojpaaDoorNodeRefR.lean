/-
  Walk: wherryref.NodeFault (root).
-/
import Derived.Test.YtnjhcnfnllojpaaDoorNodeRefH
namespace Go.Proofs.YtnjhcnfnllojpaaDoor
open Go.RowKit Go.Lib Go.Sort

set_option maxRecDepth 100000 in
set_option maxHeartbeats 8000000 in
theorem nodeFault_root (T : List Int) (a : Option Addr) (c : Nat) (me ep up : Int) (ready : Bool) (text : ByteArray) (sides : List SideV) (sa : Option Addr) (sc : Nat) (undo : List (List Part)) (uvs : List Value) (ua : Option Addr) (uc : Nat) (marks : List MarkV) (ma : Option Addr) (mc : Nat) (w : World) (hin : Ints w a T) (hl : T.length ≤ 9223372036854775807) (hnd : NodeAt w ⟨me, ep, up, ready, text, sides, sa, sc, undo, uvs, ua, uc, marks, ma, mc⟩) (hT : Tabs w) (hcase : Hid (me = 0 ∧ True)) :
    Calls Tryd.prog 57 #[.slice a T.length c, .agg #[.int .i64 me, .int .i64 ep, .int .i64 up, .bool ready, .string text, .slice sa sides.length sc, .slice ua undo.length uc, .slice ma marks.length mc]] w fun e w' => e = .returned (.int .i64 (nodeErr T ⟨me, ep, up, ready, text, sides, sa, sc, undo, uvs, ua, uc, marks, ma, mc⟩)) ∧ Below w.heap.size w w' := by
  have HB0 := (Below.refl w.heap.size w).alloc (Nat.le_refl _) (.cells #[.int .i64 me, .int .i64 ep, .int .i64 up, .bool ready, .string text, .slice sa sides.length sc, .slice ua undo.length uc, .slice ma marks.length mc] 114)
  have hn := heap_alloc_new w (.cells #[.int .i64 me, .int .i64 ep, .int .i64 up, .bool ready, .string text, .slice sa sides.length sc, .slice ua undo.length uc, .slice ma marks.length mc] 114)
  obtain ⟨n0, nl0, _⟩ := blk hn
  obtain ⟨htx, hsd, hun, husm, hmk, hls, hlu, hlm⟩ := id hnd
  simp only at htx hsd hun husm hmk hls hlu hlm
  have c0 := treeFault_any T a c _ (hin.below HB0) hl
  have cI1 := fun wx => in_all me 0 ((T.length : Int) - 1) wx
  have cI2 := fun wx => in_all ep 1 1048575 wx
  have cI3 := fun wx => in_all up 0 1048576 wx
  have cX := fun wx (hx : Below w.heap.size w wx) => textFault_any text wx (by omega) (hT.below hx)
  have cR := fun wx => rrunes_any text wx (by omega)
  have cM := fun x y wx => rmark_any text x y wx htx
  have cS := fun s wx (hx : Below w.heap.size w wx) (h1 : SideAt wx s) => rside_any me ep up ready text sa ua ma sides.length sc undo.length uc marks.length mc s wx h1 htx (hT.below hx)
  obtain ⟨R, hR⟩ : ∃ R, nodeErr T ⟨me, ep, up, ready, text, sides, sa, sc, undo, uvs, ua, uc, marks, ma, mc⟩ = R := ⟨_, rfl⟩
  rw [hR]
  by_cases h0 : treeErr T = 0
  rotate_left
  · have hR' : treeErr T = R := by rw [← hR]; unfold nodeErr; rw [if_pos h0]
    have g0 : (treeErr T != 0) = true := by simpa using h0
    generalize treeErr T = E0 at *
    subst hR'
    clear cI1 cI2 cI3 cX cR cM cS hR h0 hnd hin hsd hun husm hmk hT
    go_enter Tryd.func57, Tryd.ntmps57
    go_wp2_with fail
    refine c0.mono ?_
    rintro r w1 ⟨rfl, hw1⟩
    rw [hw1]
    clear hw1 w1 c0
    go_wp2_with fail
    go_ret
    exact ⟨rfl, HB0⟩
  have HBAD : Hid (nodeB T ⟨me, ep, up, ready, text, sides, sa, sc, undo, uvs, ua, uc, marks, ma, mc⟩ = false → R = 9) := fun h => hR.symm.trans (nodeErr_bad h0 h)
  have HGOOD : Hid (nodeB T ⟨me, ep, up, ready, text, sides, sa, sc, undo, uvs, ua, uc, marks, ma, mc⟩ = true → R = 0) := fun h => hR.symm.trans (nodeErr_good h0 h)
  have hTs := (treeErr_zero h0).1
  rw [h0] at c0
  clear hR
  have hmeB : 0 ≤ me ∧ me ≤ (T.length : Int) - 1 ↔ 0 ≤ me ∧ me < (T.length : Int) := by omega
  by_cases h1 : 0 ≤ me ∧ me ≤ (T.length : Int) - 1
  rotate_left
  · rw [decide_eq_false h1] at cI1
    obtain rfl : R = 9 := HBAD.out (nodeB_num (by unfold numB; simp only; rw [decide_eq_false (fun h => h1 (hmeB.2 h))]; rfl))
    clear HBAD HGOOD cI2 cI3 cX cR cM cS hnd hin hsd hun husm hmk hT h1 hmeB
    go_enter Tryd.func57, Tryd.ntmps57
    go_wp2_with fail
    refine c0.mono ?_
    rintro r w1 ⟨rfl, hw1⟩
    rw [hw1]
    clear hw1 w1 c0
    go_wp2_with fail
    refine (cI1 _).mono ?_
    rintro r w1 ⟨rfl, hw1⟩
    rw [hw1]
    clear hw1 w1 cI1
    go_wp2_with fail
    go_ret
    exact ⟨rfl, HB0⟩
  have cP := fun wx (hx : Below w.heap.size w wx) => peersOf_any T a c me wx (hin.below hx) h0 (hmeB.1 h1)
  rw [decide_eq_true h1] at cI1
  by_cases h2 : 1 ≤ ep ∧ ep ≤ 1048575
  rotate_left
  · rw [decide_eq_false h2] at cI2
    obtain rfl : R = 9 := HBAD.out (nodeB_num (by unfold numB; simp only; rw [decide_eq_false h2, Bool.and_false, Bool.false_and, Bool.false_and]))
    clear HBAD HGOOD cI3 cX cR cM cS hnd hin hsd hun husm hmk hT h1 hmeB h2 cP
    go_enter Tryd.func57, Tryd.ntmps57
    go_wp2_with fail
    refine c0.mono ?_
    rintro r w1 ⟨rfl, hw1⟩
    rw [hw1]
    clear hw1 w1 c0
    go_wp2_with fail
    refine (cI1 _).mono ?_
    rintro r w1 ⟨rfl, hw1⟩
    rw [hw1]
    clear hw1 w1 cI1
    go_wp2_with fail
    refine (cI2 _).mono ?_
    rintro r w1 ⟨rfl, hw1⟩
    rw [hw1]
    clear hw1 w1 cI2
    go_wp2_with fail
    go_ret
    exact ⟨rfl, HB0⟩
  rw [decide_eq_true h2] at cI2
  by_cases h3 : 0 ≤ up ∧ up ≤ 1048576
  rotate_left
  · rw [decide_eq_false h3] at cI3
    obtain rfl : R = 9 := HBAD.out (nodeB_num (by unfold numB; simp only; rw [decide_eq_false h3, Bool.and_false, Bool.false_and]))
    clear HBAD HGOOD cX cR cM cS hnd hin hsd hun husm hmk hT h1 hmeB h2 h3 cP
    go_enter Tryd.func57, Tryd.ntmps57
    go_wp2_with fail
    refine c0.mono ?_
    rintro r w1 ⟨rfl, hw1⟩
    rw [hw1]
    clear hw1 w1 c0
    go_wp2_with fail
    refine (cI1 _).mono ?_
    rintro r w1 ⟨rfl, hw1⟩
    rw [hw1]
    clear hw1 w1 cI1
    go_wp2_with fail
    refine (cI2 _).mono ?_
    rintro r w1 ⟨rfl, hw1⟩
    rw [hw1]
    clear hw1 w1 cI2
    go_wp2_with fail
    refine (cI3 _).mono ?_
    rintro r w1 ⟨rfl, hw1⟩
    rw [hw1]
    clear hw1 w1 cI3
    go_wp2_with fail
    go_ret
    exact ⟨rfl, HB0⟩
  rw [decide_eq_true h3] at cI3
  have h0m : Hid (me = 0) := hcase.out.1
  have g4 : (me == 0) = true := by simpa using h0m.out
  have gme : ¬ (0 : Int) < me := by have := h0m.out; omega
  by_cases h4 : up = 0
  rotate_left
  · have g5 : (up != 0) = true := by simpa using h4
    obtain rfl : R = 9 := HBAD.out (nodeB_num (by unfold numB; simp only; rw [decide_eq_false h4, decide_eq_false (show ¬ (me ≠ 0) from fun h => h h0m.out), Bool.or_self, Bool.and_false]))
    clear HBAD HGOOD cX cR cM cS hnd hin hsd hun husm hmk hT h1 hmeB h2 h3 h4 cP
    go_enter Tryd.func57, Tryd.ntmps57
    go_wp2_with fail
    refine c0.mono ?_
    rintro r w1 ⟨rfl, hw1⟩
    rw [hw1]
    clear hw1 w1 c0
    go_wp2_with fail
    refine (cI1 _).mono ?_
    rintro r w1 ⟨rfl, hw1⟩
    rw [hw1]
    clear hw1 w1 cI1
    go_wp2_with fail
    refine (cI2 _).mono ?_
    rintro r w1 ⟨rfl, hw1⟩
    rw [hw1]
    clear hw1 w1 cI2
    go_wp2_with fail
    refine (cI3 _).mono ?_
    rintro r w1 ⟨rfl, hw1⟩
    rw [hw1]
    clear hw1 w1 cI3
    go_wp2_with fail
    go_ret
    exact ⟨rfl, HB0⟩
  have g5 : (up != 0) = false := by simpa using h4
  have HNUM : Hid (numB T ⟨me, ep, up, ready, text, sides, sa, sc, undo, uvs, ua, uc, marks, ma, mc⟩ = true) := by
    show _ = _
    unfold numB
    simp only
    rw [decide_eq_true (hmeB.1 h1), decide_eq_true h2, decide_eq_true h3, decide_eq_true h4, Bool.or_true]
    rfl
  clear h4
  clear hmeB h1 h2 h3
  by_cases h5 : textErr text = 0
  rotate_left
  · have g6 : (textErr text != 0) = true := by simpa using h5
    obtain rfl : R = 9 := HBAD.out (nodeB_text h5)
    clear HBAD HGOOD cR cM cS hnd hin hsd hun husm hmk hT cP h0m hcase HNUM
    generalize textErr text = E5 at *
    clear h5
    go_enter Tryd.func57, Tryd.ntmps57
    go_wp2_with fail
    refine c0.mono ?_
    rintro r w1 ⟨rfl, hw1⟩
    rw [hw1]
    clear hw1 w1 c0
    go_wp2_with fail
    refine (cI1 _).mono ?_
    rintro r w1 ⟨rfl, hw1⟩
    rw [hw1]
    clear hw1 w1 cI1
    go_wp2_with fail
    refine (cI2 _).mono ?_
    rintro r w1 ⟨rfl, hw1⟩
    rw [hw1]
    clear hw1 w1 cI2
    go_wp2_with fail
    refine (cI3 _).mono ?_
    rintro r w1 ⟨rfl, hw1⟩
    rw [hw1]
    clear hw1 w1 cI3
    go_wp2_with fail
    refine (cX _ HB0).mono ?_
    rintro r v0 ⟨rfl, hb⟩
    have HB1 := below_two HB0 hb (Nat.le_refl _)
    replace hn := (hb.block _ nl0).trans hn
    clear n0 nl0
    obtain ⟨n0, nl0, _⟩ := blk hn
    clear cX hb
    go_wp2_with fail
    go_ret
    exact ⟨rfl, HB1⟩
  have HTX : Hid (decide (textErr text = 0) = true) := decide_eq_true h5
  rw [h5] at cX
  clear h5
  have HLd0 : ∃ L, peersL T me = L := ⟨_, rfl⟩
  obtain ⟨L, hLd⟩ := HLd0
  have HLd : Hid (peersL T me = L) := hLd
  rw [hLd] at cP
  have HPOS0 : me ≠ 0 → 0 < L.length := fun h => by rw [← hLd]; unfold peersL preL; rw [if_neg h]; simp
  clear hLd hnd hin
  by_cases h6 : L.length = sides.length
  rotate_left
  · have g7 : ((L.length : Int) != (sides.length : Int)) = true := by simp; omega
    obtain rfl : R = 9 := HBAD.out (nodeB_sides (by unfold sidesB; simp only; rw [HLd.out, decide_eq_false (fun e => h6 (by rw [← e, List.length_map])), Bool.false_and]))
    clear HBAD HGOOD cR cM cS hsd hun husm hmk hT h0m hcase HNUM HLd HTX HPOS0 h6
    go_enter Tryd.func57, Tryd.ntmps57
    go_wp2_with fail
    refine c0.mono ?_
    rintro r w1 ⟨rfl, hw1⟩
    rw [hw1]
    clear hw1 w1 c0
    go_wp2_with fail
    refine (cI1 _).mono ?_
    rintro r w1 ⟨rfl, hw1⟩
    rw [hw1]
    clear hw1 w1 cI1
    go_wp2_with fail
    refine (cI2 _).mono ?_
    rintro r w1 ⟨rfl, hw1⟩
    rw [hw1]
    clear hw1 w1 cI2
    go_wp2_with fail
    refine (cI3 _).mono ?_
    rintro r w1 ⟨rfl, hw1⟩
    rw [hw1]
    clear hw1 w1 cI3
    go_wp2_with fail
    refine (cX _ HB0).mono ?_
    rintro r v0 ⟨rfl, hb⟩
    have HB1 := below_two HB0 hb (Nat.le_refl _)
    replace hn := (hb.block _ nl0).trans hn
    clear n0 nl0
    obtain ⟨n0, nl0, _⟩ := blk hn
    clear cX hb
    go_wp2_with fail
    refine (cP _ HB1).mono ?_
    rintro r v1 ⟨pv, rfl, hown, hb⟩
    have HB2 := below_two HB1 hb (Nat.le_refl _)
    replace hn := (hb.block _ nl0).trans hn
    clear n0 nl0
    obtain ⟨n0, nl0, _⟩ := blk hn
    obtain ⟨la, lc, rfl⟩ := own_form hown
    have hLi := ints_own hown
    clear cP hb hown
    go_wp2_with fail
    go_ret
    exact ⟨rfl, HB2⟩
  have g7 : ((L.length : Int) != (sides.length : Int)) = false := by simp; omega
  have HLS : Hid (L.length = sides.length) := h6
  have hp00 : me ≠ 0 → 0 < sides.length := fun h => by have := HPOS0 h; omega
  clear h6
  by_cases h7 : 12 < undo.length
  · have g8 : (12 : Int) < (undo.length : Int) := by omega
    obtain rfl : R = 9 := HBAD.out (nodeB_undo (by unfold undoB; simp only; rw [decide_eq_false (by omega), Bool.false_and]))
    clear HBAD HGOOD cR cM cS hsd hun husm hmk hT h0m hcase HNUM HLd HTX HPOS0 hp00
    go_enter Tryd.func57, Tryd.ntmps57
    go_wp2_with fail
    refine c0.mono ?_
    rintro r w1 ⟨rfl, hw1⟩
    rw [hw1]
    clear hw1 w1 c0
    go_wp2_with fail
    refine (cI1 _).mono ?_
    rintro r w1 ⟨rfl, hw1⟩
    rw [hw1]
    clear hw1 w1 cI1
    go_wp2_with fail
    refine (cI2 _).mono ?_
    rintro r w1 ⟨rfl, hw1⟩
    rw [hw1]
    clear hw1 w1 cI2
    go_wp2_with fail
    refine (cI3 _).mono ?_
    rintro r w1 ⟨rfl, hw1⟩
    rw [hw1]
    clear hw1 w1 cI3
    go_wp2_with fail
    refine (cX _ HB0).mono ?_
    rintro r v0 ⟨rfl, hb⟩
    have HB1 := below_two HB0 hb (Nat.le_refl _)
    replace hn := (hb.block _ nl0).trans hn
    clear n0 nl0
    obtain ⟨n0, nl0, _⟩ := blk hn
    clear cX hb
    go_wp2_with fail
    refine (cP _ HB1).mono ?_
    rintro r v1 ⟨pv, rfl, hown, hb⟩
    have HB2 := below_two HB1 hb (Nat.le_refl _)
    replace hn := (hb.block _ nl0).trans hn
    clear n0 nl0
    obtain ⟨n0, nl0, _⟩ := blk hn
    obtain ⟨la, lc, rfl⟩ := own_form hown
    have hLi := ints_own hown
    clear cP hb hown
    go_wp2_with fail
    go_ret
    exact ⟨rfl, HB2⟩
  have g8 : ¬ (12 : Int) < (undo.length : Int) := by omega
  have hlu12 : undo.length ≤ 12 := by omega
  by_cases h8 : 1 < marks.length
  · have g9 : (1 : Int) < (marks.length : Int) := by omega
    obtain rfl : R = 9 := HBAD.out (nodeB_marks (by unfold marksB; simp only; rw [decide_eq_false (by omega), Bool.false_and]))
    clear HBAD HGOOD cR cM cS hsd hun husm hmk hT h0m hcase HNUM HLd HTX HPOS0 hp00
    go_enter Tryd.func57, Tryd.ntmps57
    go_wp2_with fail
    refine c0.mono ?_
    rintro r w1 ⟨rfl, hw1⟩
    rw [hw1]
    clear hw1 w1 c0
    go_wp2_with fail
    refine (cI1 _).mono ?_
    rintro r w1 ⟨rfl, hw1⟩
    rw [hw1]
    clear hw1 w1 cI1
    go_wp2_with fail
    refine (cI2 _).mono ?_
    rintro r w1 ⟨rfl, hw1⟩
    rw [hw1]
    clear hw1 w1 cI2
    go_wp2_with fail
    refine (cI3 _).mono ?_
    rintro r w1 ⟨rfl, hw1⟩
    rw [hw1]
    clear hw1 w1 cI3
    go_wp2_with fail
    refine (cX _ HB0).mono ?_
    rintro r v0 ⟨rfl, hb⟩
    have HB1 := below_two HB0 hb (Nat.le_refl _)
    replace hn := (hb.block _ nl0).trans hn
    clear n0 nl0
    obtain ⟨n0, nl0, _⟩ := blk hn
    clear cX hb
    go_wp2_with fail
    refine (cP _ HB1).mono ?_
    rintro r v1 ⟨pv, rfl, hown, hb⟩
    have HB2 := below_two HB1 hb (Nat.le_refl _)
    replace hn := (hb.block _ nl0).trans hn
    clear n0 nl0
    obtain ⟨n0, nl0, _⟩ := blk hn
    obtain ⟨la, lc, rfl⟩ := own_form hown
    have hLi := ints_own hown
    clear cP hb hown
    go_wp2_with fail
    go_ret
    exact ⟨rfl, HB2⟩
  have g9 : ¬ (1 : Int) < (marks.length : Int) := by omega
  have hlm1 : marks.length ≤ 1 := by omega
  clear h7 h8
  cases ready with
  | false =>
    obtain rfl : R = 9 := HBAD.out (nodeB_ready (by unfold readyB; simp only; rw [if_pos h0m.out]))
    clear HBAD HGOOD cR cM cS hsd hun husm hmk hT h0m hcase HNUM HLd HTX HPOS0 hp00
    go_enter Tryd.func57, Tryd.ntmps57
    go_wp2_with fail
    refine c0.mono ?_
    rintro r w1 ⟨rfl, hw1⟩
    rw [hw1]
    clear hw1 w1 c0
    go_wp2_with fail
    refine (cI1 _).mono ?_
    rintro r w1 ⟨rfl, hw1⟩
    rw [hw1]
    clear hw1 w1 cI1
    go_wp2_with fail
    refine (cI2 _).mono ?_
    rintro r w1 ⟨rfl, hw1⟩
    rw [hw1]
    clear hw1 w1 cI2
    go_wp2_with fail
    refine (cI3 _).mono ?_
    rintro r w1 ⟨rfl, hw1⟩
    rw [hw1]
    clear hw1 w1 cI3
    go_wp2_with fail
    refine (cX _ HB0).mono ?_
    rintro r v0 ⟨rfl, hb⟩
    have HB1 := below_two HB0 hb (Nat.le_refl _)
    replace hn := (hb.block _ nl0).trans hn
    clear n0 nl0
    obtain ⟨n0, nl0, _⟩ := blk hn
    clear cX hb
    go_wp2_with fail
    refine (cP _ HB1).mono ?_
    rintro r v1 ⟨pv, rfl, hown, hb⟩
    have HB2 := below_two HB1 hb (Nat.le_refl _)
    replace hn := (hb.block _ nl0).trans hn
    clear n0 nl0
    obtain ⟨n0, nl0, _⟩ := blk hn
    obtain ⟨la, lc, rfl⟩ := own_form hown
    have hLi := ints_own hown
    clear cP hb hown
    go_wp2_with fail
    go_ret
    exact ⟨rfl, HB2⟩
  | true =>
    obtain ⟨UU, hUU⟩ : ∃ UU, undoRB (lenT text) undo.reverse = UU := ⟨_, rfl⟩
    have HUU : Hid (undoRB (lenT text) undo.reverse = UU) := hUU
    obtain ⟨MM, hMM⟩ : ∃ MM, marks.all (markB text) = MM := ⟨_, rfl⟩
    have HMM : Hid (marks.all (markB text) = MM) := hMM
    have HBADU : Hid (UU = false → R = 9) := fun h => HBAD.out (nodeB_undo (by unfold undoB; simp only; rw [hUU, h, Bool.and_false]))
    have HBADM : Hid (MM = false → R = 9) := fun h => HBAD.out (nodeB_marks (by unfold marksB; simp only; rw [hMM, h, Bool.and_false]))
    have HBADS : Hid (¬ sides.map (·.peer) = L → R = 9) := fun h => HBAD.out (nodeB_sides (by unfold sidesB; simp only; rw [HLd.out, decide_eq_false h, Bool.false_and]))
    have HBADA : Hid (sides.all (sideB true text) = false → R = 9) := fun h => HBAD.out (nodeB_sides (by unfold sidesB; simp only; rw [h, Bool.and_false]))
    have HRD : Hid (UU = true → sides.map (·.peer) = L → sides.all (sideB true text) = true → MM = true → nodeB T ⟨me, ep, up, true, text, sides, sa, sc, undo, uvs, ua, uc, marks, ma, mc⟩ = true) := fun h1 h2 h3 h4 => by
      unfold nodeB undoB marksB sidesB readyB
      simp only
      rw [HNUM.out, HTX.out, hUU, h1, hMM, h4, HLd.out, h2, h3, if_pos h0m.out, decide_eq_true hlu12, decide_eq_true hlm1]
      simp
    clear hUU hMM
    clear HNUM HTX HLd hp00 HPOS0 h0m hcase
    have HSID : True := trivial
    have HMK : True := trivial
    go_enter Tryd.func57, Tryd.ntmps57
    go_wp2_with fail
    refine c0.mono ?_
    rintro r w1 ⟨rfl, hw1⟩
    rw [hw1]
    clear hw1 w1 c0
    go_wp2_with fail
    refine (cI1 _).mono ?_
    rintro r w1 ⟨rfl, hw1⟩
    rw [hw1]
    clear hw1 w1 cI1
    go_wp2_with fail
    refine (cI2 _).mono ?_
    rintro r w1 ⟨rfl, hw1⟩
    rw [hw1]
    clear hw1 w1 cI2
    go_wp2_with fail
    refine (cI3 _).mono ?_
    rintro r w1 ⟨rfl, hw1⟩
    rw [hw1]
    clear hw1 w1 cI3
    go_wp2_with fail
    refine (cX _ HB0).mono ?_
    rintro r v0 ⟨rfl, hb⟩
    have HB1 := below_two HB0 hb (Nat.le_refl _)
    replace hn := (hb.block _ nl0).trans hn
    clear n0 nl0
    obtain ⟨n0, nl0, _⟩ := blk hn
    clear cX hb
    go_wp2_with fail
    refine (cP _ HB1).mono ?_
    rintro r v1 ⟨pv, rfl, hown, hb⟩
    have HB2 := below_two HB1 hb (Nat.le_refl _)
    replace hn := (hb.block _ nl0).trans hn
    clear n0 nl0
    obtain ⟨n0, nl0, _⟩ := blk hn
    obtain ⟨la, lc, rfl⟩ := own_form hown
    have hLi := ints_own hown
    clear cP hb hown
    go_wp2_with fail
    refine (cR _).mono ?_
    rintro r v2 ⟨rfl, hb⟩
    have HB3 := below_two HB2 hb (Nat.le_refl _)
    replace hn := (hb.block _ nl0).trans hn
    clear n0 nl0
    obtain ⟨n0, nl0, _⟩ := blk hn
    replace hLi := hLi.below hb
    clear hb cR
    have hU3 := hun.below HB3
    have HX0 : Hid (undoRB (lenT text) (undo.take undo.length).reverse = UU) := by show _ = _; rw [List.take_length]; exact HUU.out
    unfold lenT at HX0
    go_wp2_with fail
    go_loopg [7, 8] undo.length (fun g lv iv wr => ∃ x : Int, lv = .int .i64 x ∧ iv = .int .i64 ((g : Int) - 1) ∧ g ≤ undo.length ∧ Hid (undoRB x (undo.take g).reverse = UU) ∧ Below v2.heap.size v2 wr)
    case atStart => exact ⟨_, rfl, rfl, Nat.le_refl _, HX0, Below.refl _ _⟩
    case round =>
      obtain ⟨x, rfl, rfl, hg, HX, hbr⟩ := hrel
      have HBr := below_two HB3 hbr (Nat.le_refl _)
      cases gk with
      | succ g =>
        have hlt : g < undo.length := hg
        have hiz : (0 : Int) ≤ ((g + 1 : Nat) : Int) - 1 := by omega
        have e1 : ((g + 1 : Nat) : Int) - 1 = (g : Int) := by omega
        have hgl : (g : Int) < (undo.length : Int) := by omega
        have hg0 : (0 : Int) ≤ (g : Int) := by omega
        have hst := HX.out
        rw [undoRB_stepR x hlt] at hst
        have hUr := hU3.below hbr
        have hlv : g < uvs.length := by rw [hun.len]; exact hlt
        have hv := hUr.each g hlt hlv
        have hsmg := husm undo[g] (List.getElem_mem hlt)
        have hcell : ∃ b off, ua = some ⟨b, off, none⟩ ∧ b < wr.heap.size ∧ wr.cell? ⟨b, off + g, none⟩ = some uvs[g] := by
          rcases hUr.vals with h | ⟨b, off, e, hb, hc⟩
          · rw [h] at hlv; simp at hlv
          · exact ⟨b, off, e, hb, hc _ hlv⟩
        obtain ⟨b, off, ea, hb, hc⟩ := hcell
        subst ea
        have hn2 := (hbr.block _ nl0).trans hn
        generalize undo[g] = op at *
        generalize uvs[g] = v at *
        obtain ⟨va, vc, rfl, hop, _, _⟩ := hv.form
        have cK := fun (wx : World) (hx : Below wr.heap.size wr wx) => opFault_any op va vc wx (hop.below hx) (by have := hsmg.1; omega) (fun p hp => by have := (hsmg.2 p hp).2.2; omega) (hT.below (below_two HBr hx (Nat.le_refl _)))
        have cL := fun (wx : World) (hx : Below wr.heap.size wr wx) => lengthsOf_any op va vc wx (hop.below hx) (by have := hsmg.1; omega) (fun p hp => by have := (hsmg.2 p hp).2.2; omega)
        have cL0 := cL wr (Below.refl _ _)
        clear hU3 hUr hv hun husm hlv hop hsmg HX cL hsd hmk hLi cS cM hT HSID HMK HRD
        obtain ⟨p0, pl0, _⟩ := blk hn2
        clear n0 nl0
        by_cases h2 : opErr op = 0
        rotate_left
        · have g2 : (opErr op != 0) = true := by simpa using h2
          rw [decide_eq_false h2, Bool.false_and, Bool.false_and] at hst
          obtain rfl : R = 9 := HBADU.out hst.symm
          clear HBAD HGOOD HBADU hst HUU HX0
          generalize opErr op = E at *
          clear h2
          go_wp2_with fail
          refine cL0.mono ?_
          rintro r w2 ⟨rfl, hb2⟩
          have hn3 := (hb2.block _ pl0).trans hn2
          have hc3 := (hb2.cell (p := ⟨b, off + g, none⟩) hb).trans hc
          have cK2 := cK _ hb2
          clear p0 pl0 cL0 cK
          obtain ⟨p0, pl0, _⟩ := blk hn3
          go_wp2_with fail
          refine cK2.mono ?_
          rintro r w3 ⟨rfl, hb3⟩
          have hn4 := (hb3.block _ pl0).trans hn3
          clear p0 pl0 cK2
          obtain ⟨p0, pl0, _⟩ := blk hn4
          have HB9 := below_two HBr (below_two hb2 hb3 (Nat.le_refl _)) (Nat.le_refl _)
          have HB8 := below_two hbr (below_two hb2 hb3 (Nat.le_refl _)) (Nat.le_refl _)
          go_wp2_with fail
          go_ret
          exact ⟨rfl, HB9⟩
        rw [decide_eq_true h2, Bool.true_and] at hst
        rw [h2] at cK
        clear h2
        by_cases h3 : (lens op).1 = x
        · rw [decide_eq_true h3, Bool.true_and] at hst
          have HN : Hid (undoRB (lens op).2 (undo.take g).reverse = UU) := hst
          have g3 : ((lens op).1 != x) = false := by simpa using h3
          clear hst h3
          generalize (lens op).1 = y1 at *
          generalize (lens op).2 = y2 at *
          go_wp2_with fail
          refine cL0.mono ?_
          rintro r w2 ⟨rfl, hb2⟩
          have hn3 := (hb2.block _ pl0).trans hn2
          have hc3 := (hb2.cell (p := ⟨b, off + g, none⟩) hb).trans hc
          have cK2 := cK _ hb2
          clear p0 pl0 cL0 cK
          obtain ⟨p0, pl0, _⟩ := blk hn3
          go_wp2_with fail
          refine cK2.mono ?_
          rintro r w3 ⟨rfl, hb3⟩
          have hn4 := (hb3.block _ pl0).trans hn3
          clear p0 pl0 cK2
          obtain ⟨p0, pl0, _⟩ := blk hn4
          have HB9 := below_two HBr (below_two hb2 hb3 (Nat.le_refl _)) (Nat.le_refl _)
          have HB8 := below_two hbr (below_two hb2 hb3 (Nat.le_refl _)) (Nat.le_refl _)
          go_wp2_with fail
          go_roundg g
          case measure => omega
          case rel => exact ⟨y2, rfl, by go_num, by omega, HN, HB8⟩
        · rw [decide_eq_false h3, Bool.false_and] at hst
          obtain rfl : R = 9 := HBADU.out hst.symm
          have g3 : ((lens op).1 != x) = true := by simpa using h3
          clear HBAD HGOOD HBADU hst HUU HX0 h3
          generalize (lens op).1 = y1 at *
          generalize (lens op).2 = y2 at *
          go_wp2_with fail
          refine cL0.mono ?_
          rintro r w2 ⟨rfl, hb2⟩
          have hn3 := (hb2.block _ pl0).trans hn2
          have hc3 := (hb2.cell (p := ⟨b, off + g, none⟩) hb).trans hc
          have cK2 := cK _ hb2
          clear p0 pl0 cL0 cK
          obtain ⟨p0, pl0, _⟩ := blk hn3
          go_wp2_with fail
          refine cK2.mono ?_
          rintro r w3 ⟨rfl, hb3⟩
          have hn4 := (hb3.block _ pl0).trans hn3
          clear p0 pl0 cK2
          obtain ⟨p0, pl0, _⟩ := blk hn4
          have HB9 := below_two HBr (below_two hb2 hb3 (Nat.le_refl _)) (Nat.le_refl _)
          have HB8 := below_two hbr (below_two hb2 hb3 (Nat.le_refl _)) (Nat.le_refl _)
          go_wp2_with fail
          go_ret
          exact ⟨rfl, HB9⟩
      | zero =>
        obtain ⟨v3, rfl⟩ : ∃ v3, v3 = wr := ⟨_, rfl⟩
        have hUt : UU = true := by rw [← HX.out]; rfl
        have HUT : Hid (UU = true) := hUt
        have hz9 : ¬ (0 : Int) ≤ ((0 : Nat) : Int) - 1 := by omega
        clear HX hU3 hUt husm HX0
        replace hn := (hbr.block _ nl0).trans hn
        clear n0 nl0
        obtain ⟨n0, nl0, _⟩ := blk hn
        replace hLi := hLi.below hbr
        clear hbr
        have hL0 : Hid ((sides.take 0).map (·.peer) = L.take 0 ∧ (sides.take 0).all (sideB true text) = true) := ⟨rfl, rfl⟩
        go_wp2_with fail
        go_loopg [11] L.length (fun g iv wr => ∃ i : Nat, i + g = L.length ∧ iv = .int .i64 (i : Int) ∧ Hid ((sides.take i).map (·.peer) = L.take i ∧ (sides.take i).all (sideB true text) = true) ∧ Below v3.heap.size v3 wr)
        case atStart => exact ⟨0, by omega, rfl, hL0, Below.refl _ _⟩
        case round =>
          obtain ⟨i, hi, rfl, HI, hb5⟩ := hrel
          have HB5 := below_two HBr hb5 (Nat.le_refl _)
          have hn5 := (hb5.block _ nl0).trans hn
          have hLi5 := hLi.below hb5
          by_cases hlt : i < L.length
          · have hiz : (i : Int) < (L.length : Int) := by omega
            have hi0 : (0 : Int) ≤ (i : Int) := by omega
            have hls : i < sides.length := by have := HLS.out; omega
            have hiS : (i : Int) < (sides.length : Int) := by omega
            obtain ⟨lb, lo, el, hlb, hlc⟩ := hLi5.resolve_left (by intro e; rw [e] at hlt; simp at hlt)
            subst el
            have hl0 := hlc i hlt
            have hs5 := hsd.below HB5
            obtain ⟨b, off, ea, hb, hcell⟩ := hs5.get hls
            subst ea
            have hone := hs5.each sides[i] (List.getElem_mem hls)
            have cS5 := fun wx (hx : Below wr.heap.size wr wx) => cS sides[i] wx (below_two HB5 hx (Nat.le_refl _)) (hone.below hx)
            have e1 : (sides.take (i + 1)).map (·.peer) = (sides.take i).map (·.peer) ++ [sides[i].peer] := by rw [List.take_succ_eq_append_getElem hls, List.map_append]; rfl
            have e2 : L.take (i + 1) = L.take i ++ [L[i]] := List.take_succ_eq_append_getElem hlt
            have e3 : (sides.take (i + 1)).all (sideB true text) = ((sides.take i).all (sideB true text) && sideB true text sides[i]) := by rw [List.take_succ_eq_append_getElem hls, List.all_append]; simp
            have HP : Hid (sides[i].peer ≠ L[i] → R = 9) := fun hne => HBADS.out (fun h => hne (by have h9 := congrArg (fun l => l[i]?) h; simp only [List.getElem?_map, List.getElem?_eq_getElem hls, List.getElem?_eq_getElem hlt, Option.map_some, Option.some.injEq] at h9; exact h9))
            have HQ : Hid (sideB true text sides[i] = false → R = 9) := fun hf => HBADA.out (by rw [List.all_eq_false]; exact ⟨sides[i], List.getElem_mem hls, by rw [hf]; decide⟩)
            have HI2 : Hid (sides[i].peer = L[i] → sideB true text sides[i] = true → ((sides.take (i + 1)).map (·.peer) = L.take (i + 1) ∧ (sides.take (i + 1)).all (sideB true text) = true)) := fun h1 h2 => by rw [e1, e2, e3, HI.out.1, HI.out.2, h1, h2]; exact ⟨rfl, rfl⟩
            generalize L[i] = q at *
            generalize sideB true text sides[i] = BS at *
            generalize sides[i] = s at *
            clear e1 e2 e3 hlc hs5 HI hLi hLi5 hn n0 nl0
            obtain ⟨qsa, qsc, esv, _⟩ := hone.inS.row
            obtain ⟨qqa, qqc, eqv, _⟩ := hone.inQ.row
            clear hone
            obtain ⟨peer, joined, sent, heard, pend, pvs, pa, pc, sep, snx, shd, Sf, Qf, sv, qv⟩ := s
            simp only at hcell cS5 esv eqv HP HI2
            subst esv eqv
            have k0 : wr.cell? ⟨b, off + i * 10, none⟩ = some (.int .i64 peer) := hcell 0 _ rfl
            have k1 := hcell 1 _ rfl
            have k2 := hcell 2 _ rfl
            have k3 := hcell 3 _ rfl
            have k4 := hcell 4 _ rfl
            have k5 := hcell 5 _ rfl
            have k6 := hcell 6 _ rfl
            have k7 := hcell 7 _ rfl
            have k8 := hcell 8 _ rfl
            have k9 := hcell 9 _ rfl
            clear hcell
            obtain ⟨p0, pl0, _⟩ := blk hn5
            by_cases h1 : peer = q
            rotate_left
            · have g1 : (peer != q) = true := by simpa using h1
              obtain rfl : R = 9 := HP.out h1
              clear HP HQ HI2 HBAD HGOOD HBADU HBADS HBADA h1 cS5
              go_wp2_with fail
              first | go_quiet (fail) | fail
              have HB6 : Below w.heap.size w (wr.drewN nq) := HB5.trans ⟨rfl, rfl, rfl, Nat.le_refl _, fun _ _ => rfl⟩
              go_wp2_with fail
              go_ret
              exact ⟨rfl, HB6⟩
            have g1 : (peer != q) = false := by simpa using h1
            subst h1
            have HQR : Hid (BS = false → R = 9) := HQ
            have HI4 : Hid (BS = true → ((sides.take (i + 1)).map (·.peer) = L.take (i + 1) ∧ (sides.take (i + 1)).all (sideB true text) = true)) := fun h => HI2.out rfl h
            clear HP HQ HI2 HBAD HGOOD HBADU HBADS HBADA HBADM cM hmk hsd HUT HMM HRD
            have q0 := cell_regrown (show wr.cell? ⟨w.heap.size, 0, none⟩ = some (.int .i64 me) from p0 0)
            have q1 := cell_regrown (show wr.cell? ⟨w.heap.size, 1, none⟩ = some (.int .i64 ep) from p0 1)
            have q2 := cell_regrown (show wr.cell? ⟨w.heap.size, 2, none⟩ = some (.int .i64 up) from p0 2)
            have q3 := cell_regrown (show wr.cell? ⟨w.heap.size, 3, none⟩ = some (.bool true) from p0 3)
            have q4 := cell_regrown (show wr.cell? ⟨w.heap.size, 4, none⟩ = some (.string text) from p0 4)
            have q5 := cell_regrown (show wr.cell? ⟨w.heap.size, 5, none⟩ = some (.slice (some ⟨b, off, none⟩) sides.length sc) from p0 5)
            have q6 := cell_regrown (show wr.cell? ⟨w.heap.size, 6, none⟩ = some (.slice ua undo.length uc) from p0 6)
            have q7 := cell_regrown (show wr.cell? ⟨w.heap.size, 7, none⟩ = some (.slice ma marks.length mc) from p0 7)
            have q8 := cell_regrown (show wr.cell? ⟨lb, lo + i, none⟩ = some (.int .i64 peer) from hl0)
            have q9 := cell_regrown (show wr.cell? ⟨b, off + i * 10, none⟩ = some (.int .i64 peer) from k0)
            have q10 := cell_regrown (show wr.cell? ⟨b, off + i * 10 + 1, none⟩ = some (.bool joined) from k1)
            have q11 := cell_regrown (show wr.cell? ⟨b, off + i * 10 + 2, none⟩ = some (.int .i64 sent) from k2)
            have q12 := cell_regrown (show wr.cell? ⟨b, off + i * 10 + 3, none⟩ = some (.int .i64 heard) from k3)
            have q13 := cell_regrown (show wr.cell? ⟨b, off + i * 10 + 4, none⟩ = some (.slice pa pend.length pc) from k4)
            have q14 := cell_regrown (show wr.cell? ⟨b, off + i * 10 + 5, none⟩ = some (.int .i64 sep) from k5)
            have q15 := cell_regrown (show wr.cell? ⟨b, off + i * 10 + 6, none⟩ = some (.int .i64 snx) from k6)
            have q16 := cell_regrown (show wr.cell? ⟨b, off + i * 10 + 7, none⟩ = some (.slice qsa Sf.length qsc) from k7)
            have q17 := cell_regrown (show wr.cell? ⟨b, off + i * 10 + 8, none⟩ = some (.slice qqa Qf.length qqc) from k8)
            have q18 := cell_regrown (show wr.cell? ⟨b, off + i * 10 + 9, none⟩ = some (.int .i64 shd) from k9)
            have cS7 : ∀ d os, Calls Tryd.prog 120 #[.agg #[.int .i64 me, .int .i64 ep, .int .i64 up, .bool true, .string text, .slice (some ⟨b, off, none⟩) sides.length sc, .slice ua undo.length uc, .slice ma marks.length mc], .agg #[.int .i64 peer, .bool joined, .int .i64 sent, .int .i64 heard, .slice pa pend.length pc, .int .i64 sep, .int .i64 snx, .slice qsa Sf.length qsc, .slice qqa Qf.length qqc, .int .i64 shd]] (grow (redrawn wr d) os) fun e w'' => e = .returned (.bool BS) ∧ ∃ p : Regrown, w'' = grow (redrawn wr p.d) p.os := fun d os => Calls.regrown_of (cS5 _ (below_regrown wr d os))
            clear cS5 p0 k0 k1 k2 k3 k4 k5 k6 k7 k8 k9 hl0
            go_wp2_with fail
            refine wp_region_quiet_below (by kernel_rfl) (by kernel_rfl) ?_
            repeat (go_big_quiet_step (exact cS7 _ _))
            refine wpQuiet_nil ?_
            intro _ hw'
            obtain ⟨⟨dq, osq⟩, hw''⟩ := hw'
            subst hw''
            have HBq := below_regrown wr dq osq
            generalize grow (redrawn wr dq) osq = wz at *
            all_goals
              have HB6 := below_two HB5 HBq (Nat.le_refl _)
              have HB7 := below_two hb5 HBq (Nat.le_refl _)
              cases BS with
              | false =>
                obtain rfl : R = 9 := HQR.out rfl
                clear HQR HI4
                go_wp2_with fail
                go_ret
                exact ⟨rfl, HB6⟩
              | true =>
                have HI5 := HI4.out rfl
                replace HI4 : Hid ((sides.take (i + 1)).map (·.peer) = L.take (i + 1) ∧ (sides.take (i + 1)).all (sideB true text) = true) := HI5
                clear HI5
                go_wp2_with fail
                go_roundg (L.length - i - 1)
                case measure => omega
                case rel => exact ⟨i + 1, by omega, by go_num, HI4, HB7⟩
          · obtain ⟨v5, rfl⟩ : ∃ v5, v5 = wr := ⟨_, rfl⟩
            obtain rfl : i = L.length := by omega
            have hiz : ¬ (L.length : Int) < (L.length : Int) := by omega
            have HSG : Hid (sides.map (·.peer) = L ∧ sides.all (sideB true text) = true) := by
              have h9 := HI.out
              have hll := HLS.out
              rw [List.take_length, List.take_of_length_le (by omega)] at h9
              exact h9
            clear HI hLi hLi5 hn n0 nl0 cS
            obtain ⟨n0, nl0, _⟩ := blk hn5
            have hm5 := hmk.below HB5
            have HALL : Hid (MM = true → R = 0) := fun hm => HGOOD.out (HRD.out HUT.out HSG.out.1 HSG.out.2 hm)
            have gd : decide ((0 : Int) < me) = false := decide_eq_false (by omega)
            go_wp2_with fail
            go_quiet (fail)
            have hn6 : (v5.drewN nq).heap[w.heap.size]? = some (.cells #[.int .i64 me, .int .i64 ep, .int .i64 up, .bool true, .string text, .slice sa sides.length sc, .slice ua undo.length uc, .slice ma marks.length mc] 114 (0, 0)) := hn5
            have HB6 : Below w.heap.size w (v5.drewN nq) := HB5.trans ⟨rfl, rfl, rfl, Nat.le_refl _, fun _ _ => rfl⟩
            clear n0 nl0 hn5 HB5 hb5 hm5
            generalize v5.drewN nq = w6 at *
            obtain ⟨n0, nl0, _⟩ := blk hn6
            have HM0 : Hid ((marks.drop 0).all (markB text) = MM) := HMM.out
            go_wp2_with fail
            go_loopg [12] marks.length (fun g iv wr => ∃ i : Nat, i + g = marks.length ∧ iv = .int .i64 (i : Int) ∧ Hid ((marks.drop i).all (markB text) = MM) ∧ Below w6.heap.size w6 wr)
            case atStart => exact ⟨0, by omega, rfl, HM0, Below.refl _ _⟩
            case round =>
              obtain ⟨i, hi, rfl, HI, hb7⟩ := hrel
              have HB7 := below_two HB6 hb7 (Nat.le_refl _)
              have hn7 := (hb7.block _ nl0).trans hn6
              by_cases hlt : i < marks.length
              · have hiz : (i : Int) < (marks.length : Int) := by omega
                have hi0 : (0 : Int) ≤ (i : Int) := by omega
                obtain ⟨b, off, ea, hb, c0, c1⟩ := (hmk.below HB7).get hlt
                subst ea
                have hst : Hid ((markB text marks[i] && (marks.drop (i + 1)).all (markB text)) = MM) := by show _ = _; rw [← HI.out, List.drop_eq_getElem_cons hlt]; rfl
                have cM7 := fun wx => cM marks[i].1 marks[i].2 wx
                have e2 : (marks[i].1, marks[i].2) = marks[i] := rfl
                rw [e2] at cM7
                generalize marks[i] = m at *
                obtain ⟨x, y⟩ := m
                simp only at c0 c1 cM7 hst
                generalize markB text (x, y) = BM at *
                obtain ⟨p0, pl0, _⟩ := blk hn7
                clear n0 nl0 HI cM e2
                cases BM with
                | true =>
                  have HI2 : Hid ((marks.drop (i + 1)).all (markB text) = MM) := by show _ = _; rw [← hst.out, Bool.true_and]
                  clear hst
                  have cM8 : ∀ d os, Calls Tryd.prog 121 #[.string text, .agg #[.int .i64 x, .int .i64 y]] (grow (redrawn wr d) os) fun e w'' => e = .returned (.bool true) ∧ ∃ p : Regrown, w'' = grow (redrawn wr p.d) p.os := fun d os => Calls.regrown_of (cM7 _)
                  have q4 := cell_regrown (show wr.cell? ⟨w.heap.size, 4, none⟩ = some (.string text) from p0 4)
                  have q7 := cell_regrown (show wr.cell? ⟨w.heap.size, 7, none⟩ = some (.slice (some ⟨b, off, none⟩) marks.length mc) from p0 7)
                  have qa := cell_regrown c0
                  have qb := cell_regrown c1
                  clear cM7
                  go_wp2_with fail
                  refine wp_region_quiet_below (by kernel_rfl) (by kernel_rfl) ?_
                  repeat (go_big_quiet_step (exact cM8 _ _))
                  refine wpQuiet_nil ?_
                  intro _ hw9
                  obtain ⟨⟨dq, osq⟩, hw10⟩ := hw9
                  subst hw10
                  have HBq := below_regrown wr dq osq
                  generalize grow (redrawn wr dq) osq = wz at *
                  have HB8 := below_two hb7 HBq (Nat.le_refl _)
                  go_wp2_with fail
                  go_roundg (marks.length - i - 1)
                  case measure => omega
                  case rel => exact ⟨i + 1, by omega, by go_num, HI2, HB8⟩
                | false =>
                  obtain rfl : R = 9 := HBADM.out (by rw [← hst.out, Bool.false_and])
                  clear hst HBAD HGOOD HBADU HBADS HBADA HBADM HALL
                  have cM8 : ∀ d os, Calls Tryd.prog 121 #[.string text, .agg #[.int .i64 x, .int .i64 y]] (grow (redrawn wr d) os) fun e w'' => e = .returned (.bool false) ∧ ∃ p : Regrown, w'' = grow (redrawn wr p.d) p.os := fun d os => Calls.regrown_of (cM7 _)
                  have q4 := cell_regrown (show wr.cell? ⟨w.heap.size, 4, none⟩ = some (.string text) from p0 4)
                  have q7 := cell_regrown (show wr.cell? ⟨w.heap.size, 7, none⟩ = some (.slice (some ⟨b, off, none⟩) marks.length mc) from p0 7)
                  have qa := cell_regrown c0
                  have qb := cell_regrown c1
                  clear cM7
                  go_wp2_with fail
                  refine wp_region_quiet_below (by kernel_rfl) (by kernel_rfl) ?_
                  repeat (go_big_quiet_step (exact cM8 _ _))
                  refine wpQuiet_nil ?_
                  intro _ hw9
                  obtain ⟨⟨dq, osq⟩, hw10⟩ := hw9
                  subst hw10
                  have HBq := below_regrown wr dq osq
                  generalize grow (redrawn wr dq) osq = wz at *
                  have HB8 := below_two HB7 HBq (Nat.le_refl _)
                  go_wp2_with fail
                  go_ret
                  exact ⟨rfl, HB8⟩
              · obtain rfl : i = marks.length := by omega
                have hiz : ¬ (marks.length : Int) < (marks.length : Int) := by omega
                obtain rfl : R = 0 := HALL.out (by rw [← HI.out, List.drop_of_length_le (Nat.le_refl _)]; rfl)
                clear HI HBAD HGOOD HBADU HBADS HBADA HBADM HALL n0 nl0
                obtain ⟨p0, pl0, _⟩ := blk hn7
                go_wp2_with fail
                go_ret
                exact ⟨rfl, HB7⟩

end Go.Proofs.YtnjhcnfnllojpaaDoor
