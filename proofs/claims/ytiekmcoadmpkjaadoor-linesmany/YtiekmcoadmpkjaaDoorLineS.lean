/-
  Walk: lines.Show.
-/
import Derived.Test.YtiekmcoadmpkjaaDoorActRow
namespace Go.Proofs.YtiekmcoadmpkjaaDoor
open Go.RowKit Go.Lib

theorem decL_small (n : Int) : ∀ x ∈ decL n, x < 256 := fun x hx => by
  obtain ⟨y, _, rfl⟩ := List.mem_map.1 hx
  exact y.toNat_lt
theorem hexD_small {n : Nat} (h : n < 16) : hexD n < 256 := by unfold hexD; split <;> omega
theorem hexL_small {l : List Nat} (h : ∀ x ∈ l, x < 256) : ∀ x ∈ hexL l, x < 256 := fun x hx => by
  obtain ⟨y, hy, hx⟩ := List.mem_flatMap.1 hx
  have := h y hy
  simp only [List.mem_cons, List.not_mem_nil, or_false] at hx
  rcases hx with rfl | rfl
  · exact hexD_small (by omega)
  · exact hexD_small (by omega)
theorem partL_small (p : Part) : ∀ x ∈ partL p, x < 256 := fun x hx => by
  unfold partL at hx
  split at hx
  · rcases List.mem_cons.1 hx with rfl | hx
    · decide
    · exact decL_small _ x hx
  · split at hx
    · rcases List.mem_cons.1 hx with rfl | hx
      · decide
      · exact decL_small _ x hx
    · rcases List.mem_cons.1 hx with rfl | hx
      · decide
      · exact hexL_small (sbytes_small _) x hx
theorem line_small (y : ActI) : ∀ x ∈ y.line, x < 256 := fun x hx => by
  unfold ActI.line lineL at hx
  simp only [List.mem_append, List.mem_cons, List.not_mem_nil, or_false] at hx
  rcases hx with ((hx | hx) | hx) | rfl
  · exact sbytes_small _ x hx
  · obtain ⟨q, _, hx⟩ := List.mem_flatMap.1 hx
    rcases List.mem_cons.1 hx with rfl | hx
    · decide
    · exact decL_small _ x hx
  · obtain ⟨q, _, hx⟩ := List.mem_flatMap.1 hx
    rcases List.mem_cons.1 hx with rfl | hx
    · decide
    · exact partL_small _ x hx
  · decide

set_option maxRecDepth 100000 in
set_option maxHeartbeats 4000000 in
theorem show_any (T : List Int) (ta : Option Addr) (tc : Nat) (K : List ActK) (la : Option Addr) (lc : Nat) (w : World) (hin : Ints w ta T) (hK : InK actS w 0 (.slice la K.length lc) K) (hsm : ∀ x ∈ K, ActSmall x.1) (hl : K.length ≤ 1048576) (hT : LTabs w) :
    Calls Tryd.prog 10 #[.slice ta T.length tc, .slice la K.length lc] w (fun r w' => r = .returned (.tuple #[.string (bstr (showR T (K.map (·.1))).1), .int .i64 ((showR T (K.map (·.1))).2.1 : Int), .int .i64 (showR T (K.map (·.1))).2.2]) ∧ Below w.heap.size w w') := by
  obtain ⟨R, hR⟩ : ∃ R, R = showR T (K.map (·.1)) := ⟨_, rfl⟩
  rw [← hR]
  have cT := checkTree_any T ta tc w hin
  by_cases ht : treeErr T = 0
  rotate_left
  · have e : R = ([], 0, treeErr T) := by rw [hR]; unfold showR; rw [if_pos ht]
    rw [e]
    clear e hin hK hsm hT hR
    have g : (treeErr T != 0) = true := by simpa using ht
    generalize treeErr T = E at *
    go_enter Tryd.func10, Tryd.ntmps10
    go_wp2_with fail
    refine cT.mono ?_
    rintro r w1 ⟨rfl, hw⟩
    rw [hw]
    clear hw w1 cT
    go_wp2_with fail
    go_ret3
    exact ⟨by rw [bstr_nil]; rfl, Below.refl _ _⟩
  have hT7 := (treeErr_zero ht).1.2
  by_cases h3 : 3000 < K.length
  · have e : R = ([], 0, 1) := by rw [hR]; unfold showR; rw [if_neg (fun k => k ht), List.length_map, if_pos h3]
    rw [e]
    rw [ht] at cT
    clear e hin hK hsm hT hR
    have hz : (3000 : Int) < (K.length : Int) := by omega
    go_enter Tryd.func10, Tryd.ntmps10
    go_wp2_with fail
    refine cT.mono ?_
    rintro r w1 ⟨rfl, hw⟩
    rw [hw]
    clear hw w1 cT
    go_wp2_with fail
    go_ret3
    exact ⟨by rw [bstr_nil]; rfl, Below.refl _ _⟩
  have hz : ¬ (3000 : Int) < (K.length : Int) := by omega
  have hR0 : R = showA T.length 0 [] (K.map (·.1)) := by rw [hR]; unfold showR; rw [if_neg (fun k => k ht), List.length_map, if_neg h3]
  rw [ht] at cT
  have hbo := buV_new w
  have hba := (Below.refl w.heap.size w).alloc (Nat.le_refl _) (.cells #[.pointer none, .slice none 0 0] 51)
  have hsz : w.heap.size ≤ (w.alloc (.cells #[.pointer none, .slice none 0 0] 51)).heap.size := hba.size
  have hb0 := hbo.is
  clear hR hin ht
  go_enter Tryd.func10, Tryd.ntmps10
  go_wp2_with fail
  refine cT.mono ?_
  rintro r w1 ⟨rfl, hw⟩
  rw [hw]
  clear hw w1 cT
  go_wp2_with fail
  generalize (w.alloc (.cells #[.pointer none, .slice none 0 0] 51)) = w0 at *
  clear hbo
  have HKl : Hid ((K.map (·.1)).length = K.length) := List.length_map _
  have HB0 : Below w.heap.size w w0 := hba
  clear hba
  go_loopg [22] K.length (fun g iv wr => ∃ (i : Nat) (acc : List Nat), i + g = K.length ∧ iv = .int .i64 (i : Int) ∧ Lib.IsBuilder 51 5 w.heap.size w.heap.size (octs acc) wr ∧ Hid (R = showA T.length i acc ((K.map (·.1)).drop i)) ∧ acc.length ≤ i * 16780000000 ∧ Hid (∀ x ∈ acc, x < 256) ∧ Below w.heap.size w wr)
  case atStart => exact ⟨0, [], by omega, rfl, hb0, hR0, by simp, (fun x hx => by simp at hx), HB0⟩
  case round =>
    obtain ⟨i, acc, hi, rfl, hb, HA, hal, HS, HB⟩ := hrel
    clear hb0 HB0 hR0
    have hBs := HB.size
    by_cases hlt : i < K.length
    · have hiz : (i : Int) < (K.length : Int) := by omega
      have hi0 : (0 : Int) ≤ (i : Int) := by omega
      have hi3 : i < 3000 := by omega
      obtain ⟨ab, off, ac, ev, hab, _, hcell⟩ := act_get hK hlt
      simp only [Value.slice.injEq] at ev
      obtain ⟨rfl, _, rfl⟩ := ev
      have hx := hsm _ (List.getElem_mem hlt)
      have hop := (hK.each _ (List.getElem_mem hlt)).op
      have hm : (K.map (·.1))[i]'(by rw [List.length_map]; exact hlt) = K[i].1 := List.getElem_map _
      have hbad := fun he => showA_bad (n := T.length) (i := i) (acc := acc) (K := K.map (·.1)) (k := i) (by rw [List.length_map]; exact hlt) he
      have hok := fun he => showA_ok (n := T.length) (i := i) (acc := acc) (K := K.map (·.1)) (k := i) (by rw [List.length_map]; exact hlt) he
      rw [hm] at hbad hok
      obtain ⟨k, hk⟩ : ∃ k, k = K[i] := ⟨_, rfl⟩
      rw [← hk] at hcell hx hop hbad hok
      clear hm hk
      obtain ⟨⟨kd, nd, tw, pk, kp, op, an, hd⟩, ov⟩ := k
      replace hop : OpVal w ov op := hop
      obtain ⟨oa, oc, rfl, ho, _, _⟩ := hop.form
      have hox := hx.op
      have hkp := fun he => act_ok (x := ⟨kd, nd, tw, pk, kp, op, an, hd⟩) (n := T.length) he
      have hll := fun he => line_len hx he
      simp only at ho hbad hok hcell hox hkp hll
      have d0 := (HB.cell (p := ⟨ab, off + i * 8 + 0, none⟩) hab).trans (hcell 0 _ (by omega) rfl)
      have d1 := (HB.cell (p := ⟨ab, off + i * 8 + 1, none⟩) hab).trans (hcell 1 _ (by omega) rfl)
      have d2 := (HB.cell (p := ⟨ab, off + i * 8 + 2, none⟩) hab).trans (hcell 2 _ (by omega) rfl)
      have d3 := (HB.cell (p := ⟨ab, off + i * 8 + 3, none⟩) hab).trans (hcell 3 _ (by omega) rfl)
      have d4 := (HB.cell (p := ⟨ab, off + i * 8 + 4, none⟩) hab).trans (hcell 4 _ (by omega) rfl)
      have d5 := (HB.cell (p := ⟨ab, off + i * 8 + 5, none⟩) hab).trans (hcell 5 _ (by omega) rfl)
      have d6 := (HB.cell (p := ⟨ab, off + i * 8 + 6, none⟩) hab).trans (hcell 6 _ (by omega) rfl)
      have d7 := (HB.cell (p := ⟨ab, off + i * 8 + 7, none⟩) hab).trans (hcell 7 _ (by omega) rfl)
      rw [Nat.add_zero] at d0
      have hal1 := (Below.refl wr.heap.size wr).alloc (Nat.le_refl _) (.cells #[.int .i64 kd, .int .i64 nd, .int .i64 tw, .int .i64 pk, .int .i64 kp, .slice oa op.length oc, .int .i64 an, .int .i64 hd] 29)
      have hm1 := heap_alloc_new wr (.cells #[.int .i64 kd, .int .i64 nd, .int .i64 tw, .int .i64 pk, .int .i64 kp, .slice oa op.length oc, .int .i64 an, .int .i64 hd] 29)
      have HB1 := HB.trans (hal1.mono hBs)
      have hb1 := builder_below hb hal1
      have cA := checkAct_any T.length ta tc kd nd tw pk kp an hd op oa oc _ hT7 (ho.below HB1) (by have := hox.1; omega) (fun p hp => by have := (hox.2 p hp).2.2; omega) (hT.tabs.below HB1)
      have ev : actErr (T.length : Int) ⟨kd, nd, tw, pk, kp, op, oa, oc, an, hd⟩ = actErr (T.length : Int) (ActI.v ⟨kd, nd, tw, pk, kp, op, an, hd⟩) := rfl
      rw [ev] at cA
      clear ev hcell hK hop hsm
      obtain ⟨E, hE⟩ : ∃ E, actErr (T.length : Int) (ActI.v ⟨kd, nd, tw, pk, kp, op, an, hd⟩) = E := ⟨_, rfl⟩
      rw [hE] at cA hbad hok hkp
      clear hE
      by_cases h0 : E = 0
      · subst h0
        have hK0 := hkp rfl
        have hL0 := hll hK0.2.2.1
        have HA1 := HA.out.trans (hok rfl)
        clear hbad hok hkp hll HA
        obtain ⟨hkr, _, hoe, _⟩ := hK0
        replace hkr : 1 ≤ kd ∧ kd ≤ 9 := hkr
        replace hoe : opErr op = 0 := hoe
        have hpk := op_kinds hoe
        obtain ⟨kn, rfl⟩ : ∃ kn : Nat, kd = (kn : Int) := ⟨kd.toNat, by omega⟩
        have HL : Hid (ActI.line ⟨(kn : Int), nd, tw, pk, kp, op, an, hd⟩ = lineL kn (numAt nd tw pk kp an hd) op) := by
          show lineL ((kn : Int).toNat) _ op = _
          rw [Int.toNat_natCast]
          rfl
        have hnum := hx.at
        have HA2 : Hid (R = showA T.length (i + 1) (acc ++ ActI.line ⟨(kn : Int), nd, tw, pk, kp, op, an, hd⟩) ((K.map (·.1)).drop (i + 1))) := HA1
        clear HA1
        go_wp2_with fail
        generalize (wr.alloc (.cells #[.int .i64 (kn : Int), .int .i64 nd, .int .i64 tw, .int .i64 pk, .int .i64 kp, .slice oa op.length oc, .int .i64 an, .int .i64 hd] 29)) = w1 at *
        refine cA.mono ?_
        clear cA
        rintro r w2 ⟨rfl, hb2⟩
        have hw2 := builder_below hb1 hb2
        have hm2 := (hb2.block _ (Array.getElem?_eq_some_iff.1 hm1).1).trans hm1
        have HB2 := HB1.trans (hb2.mono HB1.size)
        obtain ⟨m0, ml, _⟩ := blk hm2
        have cW := writeLine_any w.heap.size w.heap.size (octs acc) kn nd tw pk kp an hd op oa oc w w2 hw2 (by omega) hnum ho (fun p hp => ⟨hpk.2 p hp, (hox.2 p hp).2.1⟩) (by have := hox.1; omega) (by rw [octs_length]; have h7 : i * 16780000000 ≤ 2999 * 16780000000 := Nat.mul_le_mul_right _ (by omega); omega) HB2.size hT HB2 (Nat.le_refl _)
        rw [← octs_append, ← HL.out] at cW
        clear hb1 hm1 HB1 hb2 hm2 hal1 hb HB hnum ho hpk hox hoe HL
        have HN : Hid (∀ x ∈ ActI.line ⟨(kn : Int), nd, tw, pk, kp, op, an, hd⟩, x < 256) := line_small _
        generalize ActI.line ⟨(kn : Int), nd, tw, pk, kp, op, an, hd⟩ = N at *
        go_wp2_with fail
        refine cW.mono ?_
        clear cW
        rintro r w3 ⟨rfl, hw3, hb3, _⟩
        go_wp2_with fail
        go_roundg (K.length - i - 1)
        case measure => omega
        case rel => exact ⟨i + 1, acc ++ N, by omega, by go_num, hw3, HA2, by rw [List.length_append]; omega, (fun x hx => (List.mem_append.1 hx).elim (HS.out x) (HN.out x)), HB2.trans hb3⟩
      · have e := HA.out.trans (hbad h0)
        have HE : Hid (R = ([], i, E)) := e
        have g : (E != 0) = true := by simpa using h0
        clear hbad hok hkp hll HA e h0 hb1 hm1 hal1 hb ho hox hx
        go_wp2_with fail
        generalize (wr.alloc (.cells #[.int .i64 kd, .int .i64 nd, .int .i64 tw, .int .i64 pk, .int .i64 kp, .slice oa op.length oc, .int .i64 an, .int .i64 hd] 29)) = w1 at *
        refine cA.mono ?_
        rintro r w2 ⟨rfl, hb2⟩
        go_wp2_with fail
        go_ret3
        refine ⟨?_, HB1.trans (hb2.mono HB1.size)⟩
        rw [HE.out, bstr_nil]
        rfl
    · obtain rfl : i = K.length := by omega
      have hiz : ¬ (K.length : Int) < (K.length : Int) := by omega
      have e : R = (acc, 0, 0) := by
        rw [HA.out, List.drop_of_length_le (by rw [List.length_map]; exact Nat.le_refl _)]
        rfl
      have HE : Hid (R = (acc, 0, 0)) := e
      clear HA e hK hsm
      have hcS := string_any w.heap.size w.heap.size (bstr acc) wr (by rw [sbytes_cells, sbytes_bstr HS.out]; exact hb) HB.size
      go_wp2_with fail
      refine hcS.mono ?_
      rintro r w2 ⟨rfl, hb2⟩
      go_wp2_with fail
      go_ret3
      refine ⟨?_, HB.trans hb2⟩
      rw [HE.out]
      rfl

end Go.Proofs.YtiekmcoadmpkjaaDoor
