/-
  Walk: wherryref.sideMay.
-/
import Derived.Test.YtnjhcnfnllojpaaDoorNodeRefP
namespace Go.Proofs.YtnjhcnfnllojpaaDoor
open Go.RowKit Go.Lib

theorem edgeErr_dec (sent heard : Int) (E : List (List Part)) : decide (edgeErr sent heard E = 0) = edgeOkB sent heard E := by
  unfold edgeErr
  cases edgeOkB sent heard E <;> decide
set_option maxRecDepth 100000 in
set_option maxHeartbeats 2000000 in
theorem rside_any (me ep up : Int) (ready : Bool) (text : ByteArray) (sa ua ma : Option Addr) (sn sc un uc mn mc : Nat) (s : SideV) (w : World) (hs : SideAt w s) (ht : text.size ≤ 1048576) (hT : Tabs w) :
    Calls Tryd.prog 120 #[.agg #[.int .i64 me, .int .i64 ep, .int .i64 up, .bool ready, .string text, .slice sa sn sc, .slice ua un uc, .slice ma mn mc], .agg #[.int .i64 s.peer, .bool s.joined, .int .i64 s.sent, .int .i64 s.heard, .slice s.pa s.pend.length s.pc, .int .i64 s.ep, .int .i64 s.nx, s.sv, s.qv, .int .i64 s.hd]] w fun e w' => e = .returned (.bool (sideB ready text s)) ∧ Below w.heap.size w w' := by
  have cE := fun w1 (hb : Below w.heap.size w w1) => edgeMay_any s.sent s.heard s.pend s.pvs s.pa s.pc w1 (hs.pend.below hb) hs.psm hs.plen hs.sentB (hT.below hb)
  have cL := fun w1 (hb : Below w.heap.size w w1) => linkMay_any s.ep s.nx s.hd s.S s.Q s.sv s.qv w1 (hs.inS.below hb) (hs.inQ.below hb) hs.fS hs.fQ hs.lS hs.lQ (hT.below hb)
  have cT := fun wx => rrunes_any text wx (by omega)
  have hpend := hs.pend
  have hpsm := hs.psm
  have hplen := hs.plen
  obtain ⟨R, hR⟩ : ∃ R, sideB ready text s = R := ⟨_, rfl⟩
  rw [hR]
  unfold sideB at hR
  obtain ⟨qsa, qsc, esv, _⟩ := hs.inS.row
  obtain ⟨qqa, qqc, eqv, _⟩ := hs.inQ.row
  obtain ⟨peer, joined, sent, heard, pend, pvs, pa, pc, sep, snx, shd, S, Q, sv, qv⟩ := s
  simp only at *
  subst esv eqv
  rw [edgeErr_dec] at hR
  obtain ⟨hn, hf, HB0, _⟩ := blocks2 w (.cells #[.int .i64 me, .int .i64 ep, .int .i64 up, .bool ready, .string text, .slice sa sn sc, .slice ua un uc, .slice ma mn mc] 114) (.cells #[.int .i64 peer, .bool joined, .int .i64 sent, .int .i64 heard, .slice pa pend.length pc, .int .i64 sep, .int .i64 snx, .slice qsa S.length qsc, .slice qqa Q.length qqc, .int .i64 shd] 182)
  generalize edgeOkB sent heard pend = B1 at *
  generalize decide (linkErr (mkL sep snx shd S Q) = 0) = B2 at *
  clear hs
  obtain ⟨n0, nl0, _⟩ := blk hn
  obtain ⟨s0, sl0, _⟩ := blk hf
  have hw0 : ∀ wx, Below ((w.alloc (.cells #[.int .i64 me, .int .i64 ep, .int .i64 up, .bool ready, .string text, .slice sa sn sc, .slice ua un uc, .slice ma mn mc] 114)).alloc (.cells #[.int .i64 peer, .bool joined, .int .i64 sent, .int .i64 heard, .slice pa pend.length pc, .int .i64 sep, .int .i64 snx, .slice qsa S.length qsc, .slice qqa Q.length qqc, .int .i64 shd] 182)).heap.size ((w.alloc (.cells #[.int .i64 me, .int .i64 ep, .int .i64 up, .bool ready, .string text, .slice sa sn sc, .slice ua un uc, .slice ma mn mc] 114)).alloc (.cells #[.int .i64 peer, .bool joined, .int .i64 sent, .int .i64 heard, .slice pa pend.length pc, .int .i64 sep, .int .i64 snx, .slice qsa S.length qsc, .slice qqa Q.length qqc, .int .i64 shd] 182)) wx → Below w.heap.size w wx := fun wx h => below_two HB0 h (Nat.le_refl _)
  have cE0 := cE _ HB0
  cases B1 with
  | false =>
    rw [Bool.false_and, Bool.false_and] at hR
    subst hR
    clear hT hpend hpsm
    go_enter Tryd.func120, Tryd.ntmps120
    go_wp2_with fail
    refine cE0.mono ?_
    rintro r w1 ⟨rfl, hb1⟩
    have HB1 := hw0 _ hb1
    go_wp2_with fail
    go_ret
    exact ⟨rfl, HB1⟩
  | true =>
  cases B2 with
  | false =>
    rw [Bool.true_and, Bool.false_and] at hR
    subst hR
    clear hT hpend hpsm
    go_enter Tryd.func120, Tryd.ntmps120
    go_wp2_with fail
    refine cE0.mono ?_
    rintro r w1 ⟨rfl, hb1⟩
    have HB1 := hw0 _ hb1
    replace hf := (hb1.block _ sl0).trans hf
    replace hn := (hb1.block _ nl0).trans hn
    clear s0 sl0 n0 nl0
    obtain ⟨s0, sl0, _⟩ := blk hf
    obtain ⟨n0, nl0, _⟩ := blk hn
    go_wp2_with fail
    refine (cL _ HB1).mono ?_
    rintro r w2 ⟨rfl, hb2⟩
    have HB2 := below_two HB1 hb2 (Nat.le_refl _)
    replace hf := (hb2.block _ sl0).trans hf
    replace hn := (hb2.block _ nl0).trans hn
    clear s0 sl0 n0 nl0
    obtain ⟨s0, sl0, _⟩ := blk hf
    obtain ⟨n0, nl0, _⟩ := blk hn
    go_wp2_with fail
    go_ret
    exact ⟨rfl, HB2⟩
  | true =>
  rw [Bool.true_and, Bool.true_and] at hR
  cases joined with
  | false =>
    rw [if_neg (by decide)] at hR
    have hcase : ((sent == 0) = false) ∧ R = false ∨ ((sent == 0) = true) ∧ R = (heard == 0) := by
      subst hR
      by_cases h : sent = 0
      · right; exact ⟨by simpa using h, by rw [decide_eq_true h, Bool.true_and, Bool.eq_iff_iff]; simp⟩
      · left; exact ⟨by simpa using h, by rw [decide_eq_false h, Bool.false_and]⟩
    clear hR hT hpend hpsm
    rcases hcase with ⟨g1, hR⟩ | ⟨g1, hR⟩
    all_goals
      subst hR
      go_enter Tryd.func120, Tryd.ntmps120
      go_wp2_with fail
      refine cE0.mono ?_
      rintro r w1 ⟨rfl, hb1⟩
      have HB1 := hw0 _ hb1
      replace hf := (hb1.block _ sl0).trans hf
      replace hn := (hb1.block _ nl0).trans hn
      clear s0 sl0 n0 nl0
      obtain ⟨s0, sl0, _⟩ := blk hf
      obtain ⟨n0, nl0, _⟩ := blk hn
      go_wp2_with fail
      refine (cL _ HB1).mono ?_
      rintro r w2 ⟨rfl, hb2⟩
      have HB2 := below_two HB1 hb2 (Nat.le_refl _)
      replace hf := (hb2.block _ sl0).trans hf
      replace hn := (hb2.block _ nl0).trans hn
      clear s0 sl0 n0 nl0
      obtain ⟨s0, sl0, _⟩ := blk hf
      obtain ⟨n0, nl0, _⟩ := blk hn
      go_wp2_with fail
      go_ret
      exact ⟨rfl, HB2⟩
  | true =>
    rw [if_pos rfl] at hR
    by_cases h0 : pend = []
    · have he : endsB pend text = true := by rw [h0]; rfl
      rw [he, Bool.and_true] at hR
      have hl0 : pend.length = 0 := by rw [h0]; rfl
      have hpz : ¬ (0 : Int) < (pend.length : Int) := by omega
      have hcase : ready = false ∧ R = false ∨ ready = true ∧ R = (sep != 0) := by
        subst hR
        cases ready
        · left; exact ⟨rfl, rfl⟩
        · right; exact ⟨rfl, by rw [Bool.true_and, Bool.eq_iff_iff]; simp⟩
      clear hR hT hpend hpsm he h0 hl0
      rcases hcase with ⟨g1, hR⟩ | ⟨g1, hR⟩
      all_goals
        subst hR g1
        go_enter Tryd.func120, Tryd.ntmps120
        go_wp2_with fail
        refine cE0.mono ?_
        rintro r w1 ⟨rfl, hb1⟩
        have HB1 := hw0 _ hb1
        replace hf := (hb1.block _ sl0).trans hf
        replace hn := (hb1.block _ nl0).trans hn
        clear s0 sl0 n0 nl0
        obtain ⟨s0, sl0, _⟩ := blk hf
        obtain ⟨n0, nl0, _⟩ := blk hn
        go_wp2_with fail
        refine (cL _ HB1).mono ?_
        rintro r w2 ⟨rfl, hb2⟩
        have HB2 := below_two HB1 hb2 (Nat.le_refl _)
        replace hf := (hb2.block _ sl0).trans hf
        replace hn := (hb2.block _ nl0).trans hn
        clear s0 sl0 n0 nl0
        obtain ⟨s0, sl0, _⟩ := blk hf
        obtain ⟨n0, nl0, _⟩ := blk hn
        go_wp2_with fail
        go_ret
        exact ⟨rfl, HB2⟩
    · have hpos : 0 < pend.length := List.length_pos_iff.2 h0
      have hlast : pend.getLast? = some pend[pend.length - 1] := by rw [List.getLast?_eq_getElem?]; exact List.getElem?_eq_getElem (by omega)
      have hE3 : endsB pend text = decide (((lens pend[pend.length - 1]).2 : Int) = lenT text) := by unfold endsB; rw [hlast]
      rw [hE3] at hR
      have hlv : pend.length - 1 < pvs.length := by rw [hpend.len]; omega
      have hsm := hpsm pend[pend.length - 1] (List.getElem_mem (by omega))
      have hv := hpend.each (pend.length - 1) (by omega) hlv
      have hcell : ∃ b off, pa = some ⟨b, off, none⟩ ∧ b < w.heap.size ∧ w.cell? ⟨b, off + (pend.length - 1), none⟩ = some pvs[pend.length - 1] := by
        rcases hpend.vals with h | ⟨b, off, e, hb, hc⟩
        · rw [h] at hlv; simp at hlv
        · exact ⟨b, off, e, hb, hc _ hlv⟩
      obtain ⟨b, off, ea, hb, hc⟩ := hcell
      generalize pend[pend.length - 1] = o at *
      generalize pvs[pend.length - 1] = v at *
      obtain ⟨va, vc, rfl, hop, _, _⟩ := hv.form
      have cO := fun wx (hx : Below w.heap.size w wx) => lengthsOf_any o va vc wx (hop.below hx) (by have := hsm.1; omega) (fun p hp => by have := (hsm.2 p hp).2.2; omega)
      have hpz : (0 : Int) < (pend.length : Int) := by omega
      subst ea
      clear hv hsm hpend hpsm hlast hE3 hlv hT h0 hop
      unfold lenT at hR
      generalize ((runes text).length : Int) = L at *
      generalize (lens o).2 = y2 at *
      generalize (lens o).1 = y1 at *
      have hix : off + ((pend.length : Int) - 1).toNat = off + (pend.length - 1) := by omega
      by_cases hy : y2 = L
      rotate_left
      · have gy : (y2 != L) = true := by simpa using hy
        rw [decide_eq_false hy, Bool.and_false] at hR
        subst hR
        clear hy hix
        go_enter Tryd.func120, Tryd.ntmps120
        go_wp2_with fail
        refine cE0.mono ?_
        rintro r w1 ⟨rfl, hb1⟩
        have HB1 := hw0 _ hb1
        replace hf := (hb1.block _ sl0).trans hf
        replace hn := (hb1.block _ nl0).trans hn
        clear s0 sl0 n0 nl0
        obtain ⟨s0, sl0, _⟩ := blk hf
        obtain ⟨n0, nl0, _⟩ := blk hn
        go_wp2_with fail
        refine (cL _ HB1).mono ?_
        rintro r w2 ⟨rfl, hb2⟩
        have HB2 := below_two HB1 hb2 (Nat.le_refl _)
        replace hf := (hb2.block _ sl0).trans hf
        replace hn := (hb2.block _ nl0).trans hn
        clear s0 sl0 n0 nl0
        obtain ⟨s0, sl0, _⟩ := blk hf
        obtain ⟨n0, nl0, _⟩ := blk hn
        have hc2 := (HB2.cell (p := ⟨b, off + (pend.length - 1), none⟩) hb).trans hc
        go_wp2_with fail
        refine (cO _ HB2).mono ?_
        rintro r w3 ⟨rfl, hb3⟩
        have HB3 := below_two HB2 hb3 (Nat.le_refl _)
        replace hf := (hb3.block _ sl0).trans hf
        replace hn := (hb3.block _ nl0).trans hn
        clear s0 sl0 n0 nl0
        obtain ⟨s0, sl0, _⟩ := blk hf
        obtain ⟨n0, nl0, _⟩ := blk hn
        go_wp2_with fail
        refine (cT _).mono ?_
        rintro r w4 ⟨rfl, hb4⟩
        have HB4 := below_two HB3 hb4 (Nat.le_refl _)
        replace hf := (hb4.block _ sl0).trans hf
        replace hn := (hb4.block _ nl0).trans hn
        clear s0 sl0 n0 nl0
        obtain ⟨s0, sl0, _⟩ := blk hf
        obtain ⟨n0, nl0, _⟩ := blk hn
        go_wp2_with fail
        go_ret
        exact ⟨rfl, HB4⟩
      have gy : (y2 != L) = false := by simpa using hy
      rw [decide_eq_true hy, Bool.and_true] at hR
      have hcase : ready = false ∧ R = false ∨ ready = true ∧ R = (sep != 0) := by
        subst hR
        cases ready
        · left; exact ⟨rfl, rfl⟩
        · right; exact ⟨rfl, by rw [Bool.true_and, Bool.eq_iff_iff]; simp⟩
      clear hR hy hix
      rcases hcase with ⟨g1, hR⟩ | ⟨g1, hR⟩
      all_goals
        subst hR g1
        go_enter Tryd.func120, Tryd.ntmps120
        go_wp2_with fail
        refine cE0.mono ?_
        rintro r w1 ⟨rfl, hb1⟩
        have HB1 := hw0 _ hb1
        replace hf := (hb1.block _ sl0).trans hf
        replace hn := (hb1.block _ nl0).trans hn
        clear s0 sl0 n0 nl0
        obtain ⟨s0, sl0, _⟩ := blk hf
        obtain ⟨n0, nl0, _⟩ := blk hn
        go_wp2_with fail
        refine (cL _ HB1).mono ?_
        rintro r w2 ⟨rfl, hb2⟩
        have HB2 := below_two HB1 hb2 (Nat.le_refl _)
        replace hf := (hb2.block _ sl0).trans hf
        replace hn := (hb2.block _ nl0).trans hn
        clear s0 sl0 n0 nl0
        obtain ⟨s0, sl0, _⟩ := blk hf
        obtain ⟨n0, nl0, _⟩ := blk hn
        have hc2 := (HB2.cell (p := ⟨b, off + (pend.length - 1), none⟩) hb).trans hc
        go_wp2_with fail
        refine (cO _ HB2).mono ?_
        rintro r w3 ⟨rfl, hb3⟩
        have HB3 := below_two HB2 hb3 (Nat.le_refl _)
        replace hf := (hb3.block _ sl0).trans hf
        replace hn := (hb3.block _ nl0).trans hn
        clear s0 sl0 n0 nl0
        obtain ⟨s0, sl0, _⟩ := blk hf
        obtain ⟨n0, nl0, _⟩ := blk hn
        go_wp2_with fail
        refine (cT _).mono ?_
        rintro r w4 ⟨rfl, hb4⟩
        have HB4 := below_two HB3 hb4 (Nat.le_refl _)
        replace hf := (hb4.block _ sl0).trans hf
        replace hn := (hb4.block _ nl0).trans hn
        clear s0 sl0 n0 nl0
        obtain ⟨s0, sl0, _⟩ := blk hf
        obtain ⟨n0, nl0, _⟩ := blk hn
        go_wp2_with fail
        go_ret
        exact ⟨rfl, HB4⟩

end Go.Proofs.YtnjhcnfnllojpaaDoor
