/-
  Walks: node.endsWith, node.sideMayBe.
-/
import Derived.Test.YtpgcjpiabciekaaDoorNodeMem
namespace Go.Proofs.YtpgcjpiabciekaaDoor
open Go.RowKit Go.Lib

set_option maxRecDepth 100000 in
set_option maxHeartbeats 1000000 in
theorem endsWith_any (E : List (List Part)) (vs : List Value) (a : Option Addr) (c : Nat) (s : ByteArray) (w : World) (hp : PendAt w a c E vs) (hE : ∀ q ∈ E, OpSmall q) (hl : E.length ≤ 1048576) (hs : s.size ≤ 1048576) :
    Calls Tryd.prog 152 #[.slice a E.length c, .string s] w fun e w' => e = .returned (.bool (endsB E s)) ∧ Below w.heap.size w w' := by
  by_cases h0 : E = []
  · subst h0
    go_enter Tryd.func152, Tryd.ntmps152
    go_wp2_with fail
    go_ret
    exact ⟨rfl, Below.refl _ _⟩
  have hpos : 0 < E.length := List.length_pos_iff.2 h0
  have hlast : E.getLast? = some E[E.length - 1] := by rw [List.getLast?_eq_getElem?]; exact List.getElem?_eq_getElem (by omega)
  have hR : endsB E s = decide (((lens E[E.length - 1]).2 : Int) = lenT s) := by unfold endsB; rw [hlast]
  rw [hR]
  have hlv : E.length - 1 < vs.length := by rw [hp.len]; omega
  have hv := hp.each (E.length - 1) (by omega) hlv
  have hsm := hE E[E.length - 1] (List.getElem_mem (by omega))
  have hcell : ∃ b off, a = some ⟨b, off, none⟩ ∧ b < w.heap.size ∧ w.cell? ⟨b, off + (E.length - 1), none⟩ = some vs[E.length - 1] := by
    rcases hp.vals with h | ⟨b, off, rfl, hb, hc⟩
    · rw [h] at hlv; simp at hlv
    · exact ⟨b, off, rfl, hb, hc _ hlv⟩
  obtain ⟨b, off, rfl, hb, hc⟩ := hcell
  generalize E[E.length - 1] = o at *
  generalize vs[E.length - 1] = v at *
  obtain ⟨va, vc, rfl, hop, _, _⟩ := hv.form
  have cL := lengths_any o va vc w hop (by have := hsm.1; omega) (fun p hp => by have := (hsm.2 p hp).2.2; omega)
  have hpz : (0 : Int) < (E.length : Int) := by omega
  have hz1 : (((E.length : Int) == 0) = false) := by simp; omega
  have hix : off + ((E.length : Int) - 1).toNat = off + (E.length - 1) := by omega
  have cC := fun wx => count_any s wx (by omega)
  have hc2 : w.cell? ⟨b, off + ((E.length : Int) - 1).toNat, none⟩ = some (.slice va o.length vc) := by rw [hix]; exact hc
  clear hv hsm hp hE hlast hR hlv hix hop
  unfold lenT
  go_enter Tryd.func152, Tryd.ntmps152
  go_wp2_with fail
  refine cL.mono ?_
  rintro r w1 ⟨rfl, hb1⟩
  go_wp2_with fail
  refine (cC _).mono ?_
  rintro r w2 ⟨rfl, hb2⟩
  go_wp2_with fail
  go_ret
  exact ⟨by rw [show ∀ a b : Int, (a == b) = decide (a = b) from fun a b => by rw [Bool.eq_iff_iff]; simp]; rfl, below_two hb1 hb2 (Nat.le_refl _)⟩

set_option maxRecDepth 100000 in
set_option maxHeartbeats 1000000 in
theorem sideMay_any (me ep up : Int) (ready : Bool) (text : ByteArray) (sa ua ma : Option Addr) (sn sc un uc mn mc : Nat) (s : SideV) (w : World) (hs : SideAt w s) (ht : text.size ≤ 1048576) (hT : Tabs w) :
    Calls Tryd.prog 135 #[.agg #[.int .i64 me, .int .i64 ep, .int .i64 up, .bool ready, .string text, .slice sa sn sc, .slice ua un uc, .slice ma mn mc], .agg #[.int .i64 s.peer, .bool s.joined, .int .i64 s.sent, .int .i64 s.heard, .slice s.pa s.pend.length s.pc, .int .i64 s.ep, .int .i64 s.nx, s.sv, s.qv, .int .i64 s.hd]] w fun e w' => e = .returned (.bool (sideB ready text s)) ∧ Below w.heap.size w w' := by
  have cE := fun w1 (hb : Below w.heap.size w w1) => edgeCheck_any s.sent s.heard s.pend s.pvs s.pa s.pc w1 (hs.pend.below hb) hs.psm hs.plen hs.sentB (hT.below hb)
  have cL := fun w1 (hb : Below w.heap.size w w1) => linkCheck_any s.ep s.nx s.hd s.S s.Q s.sv s.qv w1 (hs.inS.below hb) (hs.inQ.below hb) hs.fS hs.fQ hs.lS hs.lQ (hT.below hb)
  have cN := fun w1 (hb : Below w.heap.size w w1) => endsWith_any s.pend s.pvs s.pa s.pc text w1 (hs.pend.below hb) hs.psm hs.plen ht
  obtain ⟨R, hR⟩ : ∃ R, sideB ready text s = R := ⟨_, rfl⟩
  rw [hR]
  unfold sideB at hR
  obtain ⟨qsa, qsc, esv, _⟩ := hs.inS.row
  obtain ⟨qqa, qqc, eqv, _⟩ := hs.inQ.row
  obtain ⟨peer, joined, sent, heard, pend, pvs, pa, pc, sep, snx, shd, S, Q, sv, qv⟩ := s
  simp only at *
  subst esv eqv
  obtain ⟨hn, hf, HB0, _⟩ := blocks2 w (.cells #[.int .i64 me, .int .i64 ep, .int .i64 up, .bool ready, .string text, .slice sa sn sc, .slice ua un uc, .slice ma mn mc] 74) (.cells #[.int .i64 peer, .bool joined, .int .i64 sent, .int .i64 heard, .slice pa pend.length pc, .int .i64 sep, .int .i64 snx, .slice qsa S.length qsc, .slice qqa Q.length qqc, .int .i64 shd] 140)
  generalize edgeErr sent heard pend = E1 at *
  generalize linkErr (mkL sep snx shd S Q) = E2 at *
  generalize endsB pend text = E3 at *
  clear hs
  obtain ⟨n0, nl0, _⟩ := blk hn
  obtain ⟨s0, sl0, _⟩ := blk hf
  have hw0 : ∀ wx, Below (w.alloc (.cells #[.int .i64 me, .int .i64 ep, .int .i64 up, .bool ready, .string text, .slice sa sn sc, .slice ua un uc, .slice ma mn mc] 74) |>.alloc (.cells #[.int .i64 peer, .bool joined, .int .i64 sent, .int .i64 heard, .slice pa pend.length pc, .int .i64 sep, .int .i64 snx, .slice qsa S.length qsc, .slice qqa Q.length qqc, .int .i64 shd] 140)).heap.size (w.alloc (.cells #[.int .i64 me, .int .i64 ep, .int .i64 up, .bool ready, .string text, .slice sa sn sc, .slice ua un uc, .slice ma mn mc] 74) |>.alloc (.cells #[.int .i64 peer, .bool joined, .int .i64 sent, .int .i64 heard, .slice pa pend.length pc, .int .i64 sep, .int .i64 snx, .slice qsa S.length qsc, .slice qqa Q.length qqc, .int .i64 shd] 140)) wx → Below w.heap.size w wx := fun wx h => below_two HB0 h (Nat.le_refl _)
  have cE0 := cE _ HB0
  by_cases h1 : E1 = 0
  rotate_left
  · have g1 : (E1 != 0) = true := by simpa using h1
    rw [decide_eq_false h1, Bool.false_and, Bool.false_and] at hR
    subst hR
    clear h1 hT
    go_enter Tryd.func135, Tryd.ntmps135
    go_wp2_with fail
    refine cE0.mono ?_
    rintro r w1 ⟨rfl, hb1⟩
    have HB1 := hw0 _ hb1
    go_wp2_with fail
    go_ret
    exact ⟨rfl, HB1⟩
  subst h1
  by_cases h2 : E2 = 0
  rotate_left
  · have g2 : (E2 != 0) = true := by simpa using h2
    rw [decide_eq_false h2, Bool.and_false, Bool.false_and] at hR
    subst hR
    clear h2 hT
    go_enter Tryd.func135, Tryd.ntmps135
    go_wp2_with fail
    refine cE0.mono ?_
    rintro r w1 ⟨rfl, hb1⟩
    have HB1 := hw0 _ hb1
    replace hf := (hb1.block _ sl0).trans hf
    clear s0 sl0 n0 nl0
    obtain ⟨s0, sl0, _⟩ := blk hf
    go_wp2_with fail
    refine (cL _ HB1).mono ?_
    rintro r w2 ⟨rfl, hb2⟩
    go_wp2_with fail
    go_ret
    exact ⟨rfl, below_two HB1 hb2 (Nat.le_refl _)⟩
  subst h2
  rw [decide_eq_true rfl, Bool.true_and, Bool.true_and] at hR
  cases joined with
  | false =>
    rw [if_neg (by decide)] at hR
    have hcase : ((sent == 0) = false) ∧ R = false ∨ ((sent == 0) = true) ∧ R = (heard == 0) := by
      subst hR
      by_cases h : sent = 0
      · right; exact ⟨by simpa using h, by rw [decide_eq_true h, Bool.true_and, Bool.eq_iff_iff]; simp⟩
      · left; exact ⟨by simpa using h, by rw [decide_eq_false h, Bool.false_and]⟩
    clear hR hT
    rcases hcase with ⟨g1, hR⟩ | ⟨g1, hR⟩
    all_goals
      subst hR
      go_enter Tryd.func135, Tryd.ntmps135
      go_wp2_with fail
      refine cE0.mono ?_
      rintro r w1 ⟨rfl, hb1⟩
      have HB1 := hw0 _ hb1
      replace hf := (hb1.block _ sl0).trans hf
      clear s0 sl0 n0 nl0
      obtain ⟨s0, sl0, _⟩ := blk hf
      go_wp2_with fail
      refine (cL _ HB1).mono ?_
      rintro r w2 ⟨rfl, hb2⟩
      replace hf := (hb2.block _ sl0).trans hf
      clear s0 sl0
      obtain ⟨s0, sl0, _⟩ := blk hf
      go_wp2_with fail
      go_ret
      exact ⟨rfl, below_two HB1 hb2 (Nat.le_refl _)⟩
  | true =>
    rw [if_pos rfl] at hR
    cases ready with
    | false =>
      rw [Bool.false_and, Bool.false_and] at hR
      subst hR
      clear hT
      go_enter Tryd.func135, Tryd.ntmps135
      go_wp2_with fail
      refine cE0.mono ?_
      rintro r w1 ⟨rfl, hb1⟩
      have HB1 := hw0 _ hb1
      replace hf := (hb1.block _ sl0).trans hf
      replace hn := (hb1.block _ nl0).trans hn
      clear s0 sl0 n0 nl0
      obtain ⟨s0, sl0, _⟩ := blk hf
      obtain ⟨n0, nl0, _⟩ := blk hn
      go_wp2_with fail
      refine (cL _ HB1).mono ?_
      rintro r w2 ⟨rfl, hb2⟩
      replace hf := (hb2.block _ sl0).trans hf
      replace hn := (hb2.block _ nl0).trans hn
      clear s0 sl0 n0 nl0
      obtain ⟨s0, sl0, _⟩ := blk hf
      obtain ⟨n0, nl0, _⟩ := blk hn
      go_wp2_with fail
      go_ret
      exact ⟨rfl, below_two HB1 hb2 (Nat.le_refl _)⟩
    | true =>
      rw [Bool.true_and] at hR
      by_cases h3 : sep = 0
      · have g3 : (sep != 0) = false := by simpa using h3
        rw [decide_eq_false (by simpa using h3), Bool.false_and] at hR
        subst hR
        clear hT h3
        go_enter Tryd.func135, Tryd.ntmps135
        go_wp2_with fail
        refine cE0.mono ?_
        rintro r w1 ⟨rfl, hb1⟩
        have HB1 := hw0 _ hb1
        replace hf := (hb1.block _ sl0).trans hf
        replace hn := (hb1.block _ nl0).trans hn
        clear s0 sl0 n0 nl0
        obtain ⟨s0, sl0, _⟩ := blk hf
        obtain ⟨n0, nl0, _⟩ := blk hn
        go_wp2_with fail
        refine (cL _ HB1).mono ?_
        rintro r w2 ⟨rfl, hb2⟩
        replace hf := (hb2.block _ sl0).trans hf
        replace hn := (hb2.block _ nl0).trans hn
        clear s0 sl0 n0 nl0
        obtain ⟨s0, sl0, _⟩ := blk hf
        obtain ⟨n0, nl0, _⟩ := blk hn
        go_wp2_with fail
        go_ret
        exact ⟨rfl, below_two HB1 hb2 (Nat.le_refl _)⟩
      · have g3 : (sep != 0) = true := by simpa using h3
        rw [decide_eq_true (by simpa using h3), Bool.true_and] at hR
        subst hR
        clear hT h3
        go_enter Tryd.func135, Tryd.ntmps135
        go_wp2_with fail
        refine cE0.mono ?_
        rintro r w1 ⟨rfl, hb1⟩
        have HB1 := hw0 _ hb1
        replace hf := (hb1.block _ sl0).trans hf
        replace hn := (hb1.block _ nl0).trans hn
        clear s0 sl0 n0 nl0
        obtain ⟨s0, sl0, _⟩ := blk hf
        obtain ⟨n0, nl0, _⟩ := blk hn
        go_wp2_with fail
        refine (cL _ HB1).mono ?_
        rintro r w2 ⟨rfl, hb2⟩
        have HB2 := below_two HB1 hb2 (Nat.le_refl _)
        replace hf := (hb2.block _ sl0).trans hf
        replace hn := (hb2.block _ nl0).trans hn
        clear s0 sl0 n0 nl0
        obtain ⟨s0, sl0, _⟩ := blk hf
        obtain ⟨n0, nl0, _⟩ := blk hn
        go_wp2_with fail
        refine (cN _ HB2).mono ?_
        rintro r w3 ⟨rfl, hb3⟩
        go_wp2_with fail
        go_ret
        exact ⟨rfl, below_two HB2 hb3 (Nat.le_refl _)⟩

end Go.Proofs.YtpgcjpiabciekaaDoor
