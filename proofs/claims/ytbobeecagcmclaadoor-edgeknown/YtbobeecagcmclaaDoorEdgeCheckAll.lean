/-
  Walk: edge.Check.
-/
import Derived.Test.YtbobeecagcmclaaDoorEdgeCheck
namespace Go.Proofs.YtbobeecagcmclaaDoor
open Go.RowKit Go.Lib

set_option maxRecDepth 100000 in
set_option maxHeartbeats 2000000 in
theorem edgeCheck_any (sent heard : Int) (E : List (List Part)) (vs : List Value) (a : Option Addr) (c : Nat) (w : World) (hp : PendAt w a c E vs) (hE : ∀ q ∈ E, OpSmall q) (hlen : E.length ≤ 1048576) (hs : -9223372036854775808 ≤ sent ∧ sent ≤ 9223372036854775807) (hT : Tabs w) :
    Calls Tryd.prog 55 #[.agg #[.int .i64 sent, .int .i64 heard, .slice a E.length c]] w fun e w' => e = .returned (.int .i64 (edgeErr sent heard E)) ∧ Below w.heap.size w w' := by
  have hb0 := (Below.refl w.heap.size w).alloc (Nat.le_refl _) (.cells #[.int .i64 sent, .int .i64 heard, .slice a E.length c] 26)
  by_cases h1 : 0 ≤ sent ∧ sent ≤ 1048576
  · have d1 : decide (0 ≤ sent ∧ sent ≤ 1048576) = true := decide_eq_true h1
    by_cases h2 : 0 ≤ heard ∧ heard ≤ 1048576
    · have d2 : decide (0 ≤ heard ∧ heard ≤ 1048576) = true := decide_eq_true h2
      by_cases h3 : (E.length : Int) ≤ sent
      · have hErr : edgeErr sent heard E = if pendOkB [] E = true then 0 else 9 := by unfold edgeErr edgeOkB; rw [d1, d2, decide_eq_true h3]; simp
        obtain ⟨N, HE⟩ : ∃ N, Hid (N = edgeErr sent heard E) := ⟨_, rfl⟩
        rw [← HE.out]
        obtain ⟨R, HR⟩ : ∃ R, Hid (R = pendOkB [] E) := ⟨_, rfl⟩
        have HNR : Hid (N = if R = true then 0 else 9) := by show _ = _; rw [HE.out, hErr, HR.out]
        have c1 := fun w => counts_same sent w
        have c2 := fun w => counts_same heard w
        rw [d1] at c1
        rw [d2] at c2
        have d3 : ¬ sent < (E.length : Int) := by omega
        clear d1 d2 hErr HE
        go_enter Tryd.func55, Tryd.ntmps55
        go_wp2_with fail
        refine (c1 _).mono ?_
        rintro e w1 ⟨rfl, hw1⟩
        rw [hw1]
        clear hw1
        go_wp2_with fail
        refine (c2 _).mono ?_
        rintro e w2 ⟨rfl, hw2⟩
        rw [hw2]
        clear hw2
        go_wp2_with fail
        have hblk := heap_alloc_new w (.cells #[.int .i64 sent, .int .i64 heard, .slice a E.length c] 26)
        have hp0 := hp.below hb0
        have hT0 := hT.below hb0
        have hsz : (w.alloc (.cells #[.int .i64 sent, .int .i64 heard, .slice a E.length c] 26)).heap.size = w.heap.size + 1 := by simp
        clear hp hT
        generalize (w.alloc (.cells #[.int .i64 sent, .int .i64 heard, .slice a E.length c] 26)) = w0 at *
        go_loopw [26] (fun i wr => ∃ j : Nat, j ≤ E.length ∧ i = .int .i64 j ∧ Hid (R = pendOkB (E.take j) (E.drop j)) ∧ Below w0.heap.size w0 wr) (fun i _ => E.length - (RowKit.intOf i).toNat)
        case atStart => exact ⟨0, Nat.zero_le _, rfl, HR, Below.refl _ _⟩
        case round =>
          obtain ⟨j, hj, rfl, HJ, hbr⟩ := hrel
          have HBr := below_two hb0 hbr (Nat.le_refl _)
          by_cases hlt : j < E.length
          · have hjz : (j : Int) < (E.length : Int) := by omega
            have hst := HJ.out
            rw [pendOkB_step E j hlt] at hst
            have hl' : j < vs.length := by rw [hp0.len]; exact hlt
            have hq := hE _ (List.getElem_mem hlt)
            have hpr := hp0.below hbr
            have hv := hpr.each j hlt hl'
            have cF := fun w1 (hb : Below wr.heap.size wr w1) => follows_any E vs a c j c E[j] vs[j] w1 (by omega) (hpr.below hb) (hv.below hb) hE hq hlen
            have hcap := hp0.cap
            have hcapz : (j : Int) ≤ (c : Int) := by omega
            have hjz0 : (0 : Int) ≤ (j : Int) := by omega
            have hl0 : w.heap.size < w0.heap.size := by omega
            have hcb : ∀ w1, Below wr.heap.size wr w1 → w1.cell? ⟨w.heap.size, 2, none⟩ = some (.slice a E.length c) := fun w1 hb => by
              have h1 := hbr.block w.heap.size hl0
              have h2 := hb.block w.heap.size (by have := hbr.size; omega)
              rw [cell_of_row _ _ _ _ _ _ (h2.trans (h1.trans hblk))]
              rfl
            obtain ⟨qa, qc, eq, hqo, _, _⟩ := hv.form
            have cC := check_any E[j] qa qc wr hqo (by have := hq.1; omega) (fun p hp => by have := (hq.2 p hp).2.2; omega) (hT0.below hbr)
            rcases hpr.vals with h0 | ⟨b, off, rfl, hbl, hcell⟩
            · rw [h0] at hl'; simp at hl'
            · have hc := hcell j hl'
              rw [eq] at hc cF
              clear hcell hv hpr
              by_cases he : opErr E[j] = 0
              · rw [he] at cC hst
                cases hf : fitsB (E.take j) E[j] with
                | true =>
                  rw [hf] at cF hst
                  have HN : Hid (R = pendOkB (E.take (j + 1)) (E.drop (j + 1))) := by show _ = _; rw [hst]; simp
                  clear hst HJ hf he hqo eq
                  generalize E[j].length = el at *
                  go_wp2_with fail
                  refine cC.mono ?_
                  rintro e w1 ⟨rfl, hb1⟩
                  have hcb1 := hcb w1 hb1
                  have cF1 := cF w1 hb1
                  clear cC cF hcb
                  go_wp2_with fail
                  refine cF1.mono ?_
                  rintro e w2 ⟨rfl, hb2⟩
                  go_wp2_with fail
                  go_roundw
                  case rel => exact ⟨j + 1, hlt, by go_num, HN, below_two (below_two hbr hb1 (Nat.le_refl _)) hb2 (Nat.le_refl _)⟩
                  case measure => simp [RowKit.intOf]; omega
                | false =>
                  rw [hf] at cF hst
                  have HN : Hid (R = false) := by show _ = _; rw [hst]; simp
                  clear hst HJ hf he hqo eq
                  generalize E[j].length = el at *
                  go_wp2_with fail
                  refine cC.mono ?_
                  rintro e w1 ⟨rfl, hb1⟩
                  have hcb1 := hcb w1 hb1
                  have cF1 := cF w1 hb1
                  clear cC cF hcb
                  go_wp2_with fail
                  refine cF1.mono ?_
                  rintro e w2 ⟨rfl, hb2⟩
                  go_wp2_with fail
                  go_ret
                  rw [HNR.out, HN.out]
                  exact ⟨rfl, below_two (below_two HBr hb1 (Nat.le_refl _)) hb2 (Nat.le_refl _)⟩
              · have HN : Hid (R = false) := by show _ = _; rw [hst, decide_eq_false he]; simp
                generalize opErr E[j] = er at *
                have g1 : (er != 0) = true := by simpa using he
                clear hst HJ he hqo eq cF
                generalize E[j].length = el at *
                go_wp2_with fail
                refine cC.mono ?_
                rintro e w1 ⟨rfl, hb1⟩
                clear cC hcb
                go_wp2_with fail
                go_ret
                rw [HNR.out, HN.out]
                exact ⟨rfl, below_two HBr hb1 (Nat.le_refl _)⟩
          · obtain rfl : j = E.length := by omega
            have HN : Hid (R = true) := by show _ = _; rw [HJ.out, List.drop_of_length_le (Nat.le_refl _)]; rfl
            clear HJ
            go_wp2_with fail
            go_ret
            rw [HNR.out, HN.out]
            exact ⟨rfl, HBr⟩
      · have hErr : edgeErr sent heard E = 9 := by unfold edgeErr edgeOkB; rw [d1, d2, decide_eq_false h3]; simp
        rw [hErr]
        have c1 := fun w => counts_same sent w
        have c2 := fun w => counts_same heard w
        rw [d1] at c1
        rw [d2] at c2
        have d3 : sent < (E.length : Int) := by omega
        clear d1 d2 hErr
        go_enter Tryd.func55, Tryd.ntmps55
        go_wp2_with fail
        refine (c1 _).mono ?_
        rintro e w1 ⟨rfl, hw1⟩
        rw [hw1]
        clear hw1
        go_wp2_with fail
        refine (c2 _).mono ?_
        rintro e w2 ⟨rfl, hw2⟩
        rw [hw2]
        clear hw2
        go_wp2_with fail
        go_ret
        exact ⟨rfl, hb0⟩
    · have d2 : decide (0 ≤ heard ∧ heard ≤ 1048576) = false := decide_eq_false h2
      have hErr : edgeErr sent heard E = 9 := by unfold edgeErr edgeOkB; rw [d1, d2]; simp
      rw [hErr]
      have c1 := fun w => counts_same sent w
      have c2 := fun w => counts_same heard w
      rw [d1] at c1
      rw [d2] at c2
      clear d1 d2 hErr
      go_enter Tryd.func55, Tryd.ntmps55
      go_wp2_with fail
      refine (c1 _).mono ?_
      rintro e w1 ⟨rfl, hw1⟩
      rw [hw1]
      clear hw1
      go_wp2_with fail
      refine (c2 _).mono ?_
      rintro e w2 ⟨rfl, hw2⟩
      rw [hw2]
      clear hw2
      go_wp2_with fail
      go_ret
      exact ⟨rfl, hb0⟩
  · have d1 : decide (0 ≤ sent ∧ sent ≤ 1048576) = false := decide_eq_false h1
    have hErr : edgeErr sent heard E = 9 := by unfold edgeErr edgeOkB; rw [d1]; simp
    rw [hErr]
    have c1 := fun w => counts_same sent w
    rw [d1] at c1
    clear d1 hErr
    go_enter Tryd.func55, Tryd.ntmps55
    go_wp2_with fail
    refine (c1 _).mono ?_
    rintro e w1 ⟨rfl, hw1⟩
    rw [hw1]
    clear hw1
    go_wp2_with fail
    go_ret
    exact ⟨rfl, hb0⟩

end Go.Proofs.YtbobeecagcmclaaDoor
