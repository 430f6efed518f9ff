/-
  Walk: wherryref.EdgeMay.
-/
import Derived.Test.YtnjhcnfnllojpaaDoorEdgeMem
import Derived.Test.YtnjhcnfnllojpaaDoorOpFault
namespace Go.Proofs.YtnjhcnfnllojpaaDoor
open Go.RowKit Go.Lib

theorem fitsB_zero (E : List (List Part)) (ps : List Part) : fitsB (E.take 0) ps = true := by simp [fitsB]
theorem fitsB_succ (E : List (List Part)) (m : Nat) (h : m < E.length) (ps : List Part) : fitsB (E.take (m + 1)) ps = decide ((lens ps).1 = (lens E[m]).2) := by
  unfold fitsB
  rw [List.take_succ_eq_append_getElem h, List.getLast?_append]
  simp

set_option maxRecDepth 100000 in
set_option maxHeartbeats 4000000 in
theorem edgeMay_any (sent heard : Int) (E : List (List Part)) (vs : List Value) (a : Option Addr) (c : Nat) (w : World) (hp : PendAt w a c E vs) (hE : ∀ q ∈ E, OpSmall q) (hlen : E.length ≤ 1048576) (hs : -9223372036854775808 ≤ sent ∧ sent ≤ 9223372036854775807) (hT : Tabs w) :
    Calls Tryd.prog 162 #[.agg #[.int .i64 sent, .int .i64 heard, .slice a E.length c]] w fun e w' => e = .returned (.bool (edgeOkB sent heard E)) ∧ Below w.heap.size w w' := by
  have hb0 := (Below.refl w.heap.size w).alloc (Nat.le_refl _) (.cells #[.int .i64 sent, .int .i64 heard, .slice a E.length c] 46)
  have c1 := fun w => in_any sent 0 1048576 w
  have c2 := fun w => in_any heard 0 1048576 w
  by_cases h1 : 0 ≤ sent ∧ sent ≤ 1048576
  · have d1 : decide (0 ≤ sent ∧ sent ≤ 1048576) = true := decide_eq_true h1
    rw [d1] at c1
    by_cases h2 : 0 ≤ heard ∧ heard ≤ 1048576
    · have d2 : decide (0 ≤ heard ∧ heard ≤ 1048576) = true := decide_eq_true h2
      rw [d2] at c2
      by_cases h3 : (E.length : Int) ≤ sent
      · have hErr : edgeOkB sent heard E = pendOkB [] E := by unfold edgeOkB; rw [d1, d2, decide_eq_true h3]; simp
        rw [hErr]
        obtain ⟨R, hR⟩ : ∃ R, R = pendOkB [] E := ⟨_, rfl⟩
        rw [← hR]
        have HR : Hid (R = pendOkB [] E) := hR
        have d3 : ¬ sent < (E.length : Int) := by omega
        clear d1 d2 hErr hR
        go_enter Tryd.func162, Tryd.ntmps162
        go_wp2_with fail
        refine (c1 _).mono ?_
        rintro e w1 ⟨rfl, hw1⟩
        rw [hw1]
        clear hw1
        go_wp2_with fail
        refine (c2 _).mono ?_
        rintro e w2 ⟨rfl, hw2⟩
        rw [hw2]
        clear hw2 c1 c2
        go_wp2_with fail
        have hblk := heap_alloc_new w (.cells #[.int .i64 sent, .int .i64 heard, .slice a E.length c] 46)
        have hp0 := hp.below hb0
        have hT0 := hT.below hb0
        have hsz : (w.alloc (.cells #[.int .i64 sent, .int .i64 heard, .slice a E.length c] 46)).heap.size = w.heap.size + 1 := by simp
        clear hp hT
        generalize (w.alloc (.cells #[.int .i64 sent, .int .i64 heard, .slice a E.length c] 46)) = w0 at *
        go_loopw [3] (fun i wr => ∃ j : Nat, j ≤ E.length ∧ i = .int .i64 j ∧ Hid (R = pendOkB (E.take j) (E.drop j)) ∧ Below w0.heap.size w0 wr) (fun i _ => E.length - (RowKit.intOf i).toNat)
        case atStart => exact ⟨0, Nat.zero_le _, rfl, HR, Below.refl _ _⟩
        case round =>
          obtain ⟨j, hj, rfl, HJ, hbr⟩ := hrel
          have HBr := below_two hb0 hbr (Nat.le_refl _)
          have hl0 : w.heap.size < w0.heap.size := by omega
          have hcb : ∀ w1, Below wr.heap.size wr w1 → w1.cell? ⟨w.heap.size, 2, none⟩ = some (.slice a E.length c) := fun w1 hb => by
            have h1 := hbr.block w.heap.size hl0
            have h2 := hb.block w.heap.size (by have := hbr.size; omega)
            rw [cell_of_row _ _ _ _ _ _ (h2.trans (h1.trans hblk))]
            rfl
          have hcb0 := hcb wr (Below.refl _ _)
          by_cases hlt : j < E.length
          · have hjz : (j : Int) < (E.length : Int) := by omega
            have hst := HJ.out
            rw [pendOkB_step E j hlt] at hst
            have hl' : j < vs.length := by rw [hp0.len]; exact hlt
            have hq := hE _ (List.getElem_mem hlt)
            have hpr := hp0.below hbr
            obtain ⟨qa, qc, eq, hqo, _, _⟩ := (hpr.each j hlt hl').form
            have hjz0 : (0 : Int) ≤ (j : Int) := by omega
            have cC := opFault_any E[j] qa qc wr hqo (by have := hq.1; omega) (fun p hp => by have := (hq.2 p hp).2.2; omega) (hT0.below hbr)
            have cL := fun w1 (hb : Below wr.heap.size wr w1) => lengthsOf_any E[j] qa qc w1 (hqo.below hb) (by have := hq.1; omega) (fun p hp => by have := (hq.2 p hp).2.2; omega)
            rcases hpr.vals with h0 | ⟨b, off, rfl, hbl, hcell⟩
            · rw [h0] at hl'; simp at hl'
            · have hc := hcell j hl'
              rw [eq] at hc
              have hcw : ∀ w1, Below wr.heap.size wr w1 → w1.cell? ⟨b, off + j, none⟩ = some (.slice qa E[j].length qc) := fun w1 hb => (hb.cell (p := ⟨b, off + j, none⟩) hbl).trans hc
              by_cases he : opErr E[j] = 0
              · rw [he] at cC hst
                cases j with
                | zero =>
                  rw [fitsB_zero] at hst
                  have HN : Hid (R = pendOkB (E.take (0 + 1)) (E.drop (0 + 1))) := by show _ = _; rw [hst]; simp
                  have hc0 : wr.cell? ⟨b, off, none⟩ = some (.slice qa E[0].length qc) := hc
                  clear hst HJ he hqo eq hcell hpr cL hcw hc
                  generalize E[0].length = el at *
                  go_wp2_with fail
                  refine cC.mono ?_
                  rintro e w1 ⟨rfl, hb1⟩
                  clear cC hcb
                  go_wp2_with fail
                  go_roundw
                  case rel => exact ⟨0 + 1, hlt, by go_num, HN, below_two hbr hb1 (Nat.le_refl _)⟩
                  case measure => simp [RowKit.intOf]; omega
                | succ m =>
                  have hm : m < E.length := by omega
                  have hmv : m < vs.length := by rw [hp0.len]; exact hm
                  rw [fitsB_succ E m hm] at hst
                  have hqm := hE _ (List.getElem_mem hm)
                  obtain ⟨ma, mc, em, hmo, _, _⟩ := (hpr.each m hm hmv).form
                  have hcm := hcell m hmv
                  rw [em] at hcm
                  have hcwm : ∀ w1, Below wr.heap.size wr w1 → w1.cell? ⟨b, off + m, none⟩ = some (.slice ma E[m].length mc) := fun w1 hb => (hb.cell (p := ⟨b, off + m, none⟩) hbl).trans hcm
                  have cM := fun w1 (hb : Below wr.heap.size wr w1) => lengthsOf_any E[m] ma mc w1 (hmo.below hb) (by have := hqm.1; omega) (fun p hp => by have := (hqm.2 p hp).2.2; omega)
                  have t1 : (m : Int) < (E.length : Int) := by omega
                  have t0 : (0 : Int) ≤ (m : Int) := by omega
                  generalize lens E[m + 1] = L1 at *
                  generalize lens E[m] = L2 at *
                  obtain ⟨f1, g1⟩ := L1
                  obtain ⟨f2, g2⟩ := L2
                  simp only at cL cM hst
                  clear HJ he hqo eq em hmo hcell hpr hq hqm
                  generalize E[m + 1].length = el at *
                  generalize E[m].length = em at *
                  by_cases hf : f1 = g2
                  · have HN : Hid (R = pendOkB (E.take (m + 1 + 1)) (E.drop (m + 1 + 1))) := by show _ = _; rw [hst, decide_eq_true hf]; simp
                    have gg : (f1 != g2) = false := by simpa using hf
                    clear hst hf
                    go_wp2_with fail
                    refine cC.mono ?_
                    rintro e w1 ⟨rfl, hb1⟩
                    have k1 := hcb w1 hb1
                    have k2 := hcw w1 hb1
                    have cL1 := cL w1 hb1
                    clear cC cL hcb0 hc hcm
                    go_wp2_with fail
                    refine cL1.mono ?_
                    rintro e w2 ⟨rfl, hb2⟩
                    have hb12 := below_two hb1 hb2 (Nat.le_refl _)
                    have k3 := hcb w2 hb12
                    have k4 := hcwm w2 hb12
                    have cM2 := cM w2 hb12
                    clear cL1 cM hcb hcw hcwm k1 k2
                    go_wp2_with fail
                    refine cM2.mono ?_
                    rintro e w3 ⟨rfl, hb3⟩
                    have hb13 := below_two hb12 hb3 (Nat.le_refl _)
                    clear cM2 k3 k4
                    go_wp2_with fail
                    go_roundw
                    case rel => exact ⟨m + 1 + 1, hlt, by go_num, HN, below_two hbr hb13 (Nat.le_refl _)⟩
                    case measure => simp [RowKit.intOf]; omega
                  · have HN : Hid (R = false) := by show _ = _; rw [hst, decide_eq_false hf]; simp
                    have gg : (f1 != g2) = true := by simpa using hf
                    clear hst hf
                    go_wp2_with fail
                    refine cC.mono ?_
                    rintro e w1 ⟨rfl, hb1⟩
                    have k1 := hcb w1 hb1
                    have k2 := hcw w1 hb1
                    have cL1 := cL w1 hb1
                    clear cC cL hcb0 hc hcm
                    go_wp2_with fail
                    refine cL1.mono ?_
                    rintro e w2 ⟨rfl, hb2⟩
                    have hb12 := below_two hb1 hb2 (Nat.le_refl _)
                    have k3 := hcb w2 hb12
                    have k4 := hcwm w2 hb12
                    have cM2 := cM w2 hb12
                    clear cL1 cM hcb hcw hcwm k1 k2
                    go_wp2_with fail
                    refine cM2.mono ?_
                    rintro e w3 ⟨rfl, hb3⟩
                    have hb13 := below_two hb12 hb3 (Nat.le_refl _)
                    clear cM2 k3 k4
                    go_wp2_with fail
                    go_ret
                    rw [HN.out]
                    exact ⟨rfl, below_two HBr hb13 (Nat.le_refl _)⟩
              · have HN : Hid (R = false) := by show _ = _; rw [hst, decide_eq_false he]; simp
                generalize opErr E[j] = er at *
                have g1 : (er != 0) = true := by simpa using he
                clear hst HJ he hqo eq cL hcw hcell hpr
                generalize E[j].length = el at *
                go_wp2_with fail
                refine cC.mono ?_
                rintro e w1 ⟨rfl, hb1⟩
                clear cC hcb
                go_wp2_with fail
                go_ret
                rw [HN.out]
                exact ⟨rfl, below_two HBr hb1 (Nat.le_refl _)⟩
          · obtain rfl : j = E.length := by omega
            have HN : Hid (R = true) := by show _ = _; rw [HJ.out, List.drop_of_length_le (Nat.le_refl _)]; rfl
            clear HJ
            go_wp2_with fail
            go_ret
            rw [HN.out]
            exact ⟨rfl, HBr⟩
      · have hErr : edgeOkB sent heard E = false := by unfold edgeOkB; rw [d1, d2, decide_eq_false h3]; simp
        rw [hErr]
        have d3 : sent < (E.length : Int) := by omega
        clear d1 d2 hErr
        go_enter Tryd.func162, Tryd.ntmps162
        go_wp2_with fail
        refine (c1 _).mono ?_
        rintro e w1 ⟨rfl, hw1⟩
        rw [hw1]
        clear hw1
        go_wp2_with fail
        refine (c2 _).mono ?_
        rintro e w2 ⟨rfl, hw2⟩
        rw [hw2]
        clear hw2
        go_wp2_with fail
        go_ret
        exact ⟨rfl, hb0⟩
    · have d2 : decide (0 ≤ heard ∧ heard ≤ 1048576) = false := decide_eq_false h2
      have hErr : edgeOkB sent heard E = false := by unfold edgeOkB; rw [d1, d2]; simp
      rw [hErr]
      rw [d2] at c2
      clear d1 d2 hErr
      go_enter Tryd.func162, Tryd.ntmps162
      go_wp2_with fail
      refine (c1 _).mono ?_
      rintro e w1 ⟨rfl, hw1⟩
      rw [hw1]
      clear hw1
      go_wp2_with fail
      refine (c2 _).mono ?_
      rintro e w2 ⟨rfl, hw2⟩
      rw [hw2]
      clear hw2
      go_wp2_with fail
      go_ret
      exact ⟨rfl, hb0⟩
  · have d1 : decide (0 ≤ sent ∧ sent ≤ 1048576) = false := decide_eq_false h1
    have hErr : edgeOkB sent heard E = false := by unfold edgeOkB; rw [d1]; simp
    rw [hErr]
    rw [d1] at c1
    clear d1 hErr
    go_enter Tryd.func162, Tryd.ntmps162
    go_wp2_with fail
    refine (c1 _).mono ?_
    rintro e w1 ⟨rfl, hw1⟩
    rw [hw1]
    clear hw1
    go_wp2_with fail
    go_ret
    exact ⟨rfl, hb0⟩

end Go.Proofs.YtnjhcnfnllojpaaDoor
