/-
  What an act that may be is as a line; walk: wherryref.ActsShown.
-/
import Derived.Test.YtiekmcoadmpkjaaDoorLineA
namespace Go.Proofs.YtiekmcoadmpkjaaDoor
open Go.RowKit Go.Lib

theorem more_none {x : ActI} (h : actMore x.v = false) : ((x.kd = 7 → x.nd = 0) ∧ (x.kd ≠ 1 → x.op = [])) := by
  have h' : ¬ _ := of_decide_eq_false h
  have e : x.v.op = x.op := rfl
  have e1 : x.v.kd = x.kd := rfl
  have e2 : x.v.nd = x.nd := rfl
  rw [e, e1, e2] at h'
  refine ⟨fun h7 => ?_, fun h1 => ?_⟩
  · by_cases h0 : x.nd = 0
    · exact h0
    · exact absurd (.inl ⟨h7, h0⟩) h'
  · by_cases h0 : x.op.length = 0
    · exact List.length_eq_zero_iff.1 h0
    · exact absurd (.inr (.inr (.inr (.inl ⟨h1, by omega⟩)))) h'
theorem line_ref (k nd tw pk kp an hd : Nat) (op : List Part) (hk : 1 ≤ k ∧ k ≤ 9) (h1 : k ≠ 1 → op = []) : lineL k (numAt (nd : Int) (tw : Int) (pk : Int) (kp : Int) (an : Int) (hd : Int)) op = refL k nd tw pk kp an hd op := by
  by_cases h : k = 1
  · subst h
    simp [lineL, refL, numL, numsOf, numAt, List.append_assoc]
  · obtain rfl := h1 h
    obtain rfl | rfl | rfl | rfl | rfl | rfl | rfl | rfl : k = 2 ∨ k = 3 ∨ k = 4 ∨ k = 5 ∨ k = 6 ∨ k = 7 ∨ k = 8 ∨ k = 9 := by omega
    all_goals simp [lineL, refL, numL, numsOf, numAt, opTx, List.append_assoc]

theorem part_nums {ps : List Part} (h : opErr ps = 0) : ∀ p ∈ ps, 0 ≤ p.n := by
  have h2 : partsErr 0 ps = 0 := by
    unfold opErr at h
    by_cases h1 : 8001 < ps.length
    · rw [if_pos h1] at h; cases h
    · rw [if_neg h1] at h
      by_cases h2 : partsErr 0 ps = 0
      · exact h2
      · rw [if_pos h2] at h; exact absurd h h2
  clear h
  suffices ∀ (ps : List Part) (ah : Int), partsErr ah ps = 0 → ∀ p ∈ ps, 0 ≤ p.n from this ps 0 h2
  intro ps
  induction ps with
  | nil => intro _ _ p hp; simp at hp
  | cons q r ih =>
    intro ah h p hp
    by_cases h1 : partErr ah q = 0
    · have h3 : partsErr q.kind r = 0 := by
        have := h
        unfold partsErr at this
        rwa [if_neg (fun k => k h1)] at this
      rcases List.mem_cons.1 hp with rfl | hp
      · have hb : bodyErr p = 0 := by
          by_cases hb : bodyErr p = 0
          · exact hb
          · unfold partErr at h1; rw [if_pos hb] at h1; exact h1
        unfold bodyErr at hb
        split at hb
        · unfold countErr at hb
          split at hb
          · cases hb
          · omega
        · split at hb
          · unfold insertErr at hb
            split at hb
            · exact absurd hb (by assumption)
            · split at hb
              · cases hb
              · omega
          · cases hb
      · exact ih _ h3 p hp
    · unfold partsErr at h
      rw [if_pos h1] at h
      exact absurd h h1

set_option maxRecDepth 100000 in
set_option maxHeartbeats 4000000 in
theorem shown_any (T : List Int) (ta : Option Addr) (tc : Nat) (K : List ActK) (la : Option Addr) (lc : Nat) (w : World) (hin : Ints w ta T) (hlT : T.length ≤ 9223372036854775807) (hK : InK actS w 0 (.slice la K.length lc) K) (hsm : ∀ x ∈ K, ActSmall x.1) (hl : K.length ≤ 1048576) (hT : Tabs w) :
    Calls Tryd.prog 11 #[.slice ta T.length tc, .slice la K.length lc] w (fun r w' => r = .returned (.tuple #[.string (bstr (showR T (K.map (·.1))).1), .int .i64 ((showR T (K.map (·.1))).2.1 : Int), .int .i64 (showR T (K.map (·.1))).2.2]) ∧ Below w.heap.size w w') := by
  obtain ⟨R, hR⟩ : ∃ R, R = showR T (K.map (·.1)) := ⟨_, rfl⟩
  rw [← hR]
  have cT := treeFault_any T ta tc w hin hlT
  by_cases ht : treeErr T = 0
  rotate_left
  · have e : R = ([], 0, treeErr T) := by rw [hR]; unfold showR; rw [if_pos ht]
    rw [e]
    clear e hin hK hsm hT hR
    have g : (treeErr T != 0) = true := by simpa using ht
    have g2 : (treeErr T == 0) = false := by simpa using ht
    generalize treeErr T = E at *
    go_enter Tryd.func11, Tryd.ntmps11
    go_wp2_with fail
    refine cT.mono ?_
    rintro r w1 ⟨rfl, hw⟩
    rw [hw]
    clear hw w1 cT
    go_wp2_with fail
    go_ret3
    exact ⟨by rw [bstr_nil]; rfl, Below.refl _ _⟩
  by_cases h3 : 3000 < K.length
  · have e : R = ([], 0, 1) := by rw [hR]; unfold showR; rw [if_neg (fun k => k ht), List.length_map, if_pos h3]
    rw [e]
    rw [ht] at cT
    clear e hin hK hsm hT hR
    have hz : (3000 : Int) < (K.length : Int) := by omega
    go_enter Tryd.func11, Tryd.ntmps11
    go_wp2_with fail
    refine cT.mono ?_
    rintro r w1 ⟨rfl, hw⟩
    rw [hw]
    clear hw w1 cT
    go_wp2_with fail
    go_ret3
    exact ⟨by rw [bstr_nil]; rfl, Below.refl _ _⟩
  have hz : ¬ (3000 : Int) < (K.length : Int) := by omega
  have hR0 : R = showA T.length 0 [] (K.map (·.1)) := by rw [hR]; unfold showR; rw [if_neg (fun k => k ht), List.length_map, if_neg h3]
  have hte : ∀ x : ActI, linesErr T ⟨x.kd, x.nd, x.tw, x.pk, x.kp, x.op, none, 0, x.an, x.hd⟩ = actErr T.length x.v := fun x => by unfold linesErr; rw [if_neg (fun k => k ht)]; rfl
  have HTE : Hid (∀ x : ActI, linesErr T ⟨x.kd, x.nd, x.tw, x.pk, x.kp, x.op, none, 0, x.an, x.hd⟩ = actErr T.length x.v) := hte
  rw [ht] at cT
  clear hR ht hte
  go_enter Tryd.func11, Tryd.ntmps11
  go_wp2_with fail
  refine cT.mono ?_
  rintro r w1 ⟨rfl, hw⟩
  rw [hw]
  clear hw w1 cT
  go_wp2_with fail
  go_loopg [8, 9] K.length (fun g sv iv wr => ∃ (i : Nat) (Y : ByteArray), i + g = K.length ∧ iv = .int .i64 (i : Int) ∧ sv = .string Y ∧ Hid (R = showA T.length i (sbytes Y) ((K.map (·.1)).drop i)) ∧ Y.size ≤ i * 16780000000 ∧ Below w.heap.size w wr)
  case atStart => exact ⟨0, ⟨#[]⟩, by omega, rfl, rfl, hR0, by show 0 ≤ _; omega, Below.refl _ _⟩
  case round =>
    obtain ⟨i, Y, hi, rfl, rfl, HA, hYs, HB⟩ := hrel
    clear hR0
    by_cases hlt : i < K.length
    · have hiz : (i : Int) < (K.length : Int) := by omega
      have hi0 : (0 : Int) ≤ (i : Int) := by omega
      have hi3 : i < 3000 := by omega
      obtain ⟨ab, off, ac, ev, hab, _, hcell⟩ := act_get hK hlt
      simp only [Value.slice.injEq] at ev
      obtain ⟨rfl, _, rfl⟩ := ev
      have hx := hsm _ (List.getElem_mem hlt)
      have hop := (hK.each _ (List.getElem_mem hlt)).op
      have hm : (K.map (·.1))[i]'(by rw [List.length_map]; exact hlt) = K[i].1 := List.getElem_map _
      have hbad := fun he => showA_bad (n := T.length) (i := i) (acc := sbytes Y) (K := K.map (·.1)) (k := i) (by rw [List.length_map]; exact hlt) he
      have hok := fun he => showA_ok (n := T.length) (i := i) (acc := sbytes Y) (K := K.map (·.1)) (k := i) (by rw [List.length_map]; exact hlt) he
      rw [hm] at hbad hok
      obtain ⟨k, hk⟩ : ∃ k, k = K[i] := ⟨_, rfl⟩
      rw [← hk] at hcell hx hop hbad hok
      clear hm hk
      obtain ⟨⟨kd, nd, tw, pk, kp, op, an, hd⟩, ov⟩ := k
      replace hop : OpVal w ov op := hop
      obtain ⟨oa, oc, rfl, ho, _, _⟩ := hop.form
      have hox := hx.op
      have hkp := fun he => act_ok (x := ⟨kd, nd, tw, pk, kp, op, an, hd⟩) (n := T.length) he
      have hll := fun he => line_len hx he
      simp only at ho hbad hok hcell hox hkp hll
      have d0 := (HB.cell (p := ⟨ab, off + i * 8 + 0, none⟩) hab).trans (hcell 0 _ (by omega) rfl)
      have d1 := (HB.cell (p := ⟨ab, off + i * 8 + 1, none⟩) hab).trans (hcell 1 _ (by omega) rfl)
      have d2 := (HB.cell (p := ⟨ab, off + i * 8 + 2, none⟩) hab).trans (hcell 2 _ (by omega) rfl)
      have d3 := (HB.cell (p := ⟨ab, off + i * 8 + 3, none⟩) hab).trans (hcell 3 _ (by omega) rfl)
      have d4 := (HB.cell (p := ⟨ab, off + i * 8 + 4, none⟩) hab).trans (hcell 4 _ (by omega) rfl)
      have d5 := (HB.cell (p := ⟨ab, off + i * 8 + 5, none⟩) hab).trans (hcell 5 _ (by omega) rfl)
      have d6 := (HB.cell (p := ⟨ab, off + i * 8 + 6, none⟩) hab).trans (hcell 6 _ (by omega) rfl)
      have d7 := (HB.cell (p := ⟨ab, off + i * 8 + 7, none⟩) hab).trans (hcell 7 _ (by omega) rfl)
      rw [Nat.add_zero] at d0
      have cA := actFault_any T ta tc kd nd tw pk kp an hd op oa oc wr (hin.below HB) hlT (ho.below HB) (by have := hox.1; omega) (fun p hp => by have := (hox.2 p hp).2.2; omega) (hT.below HB)
      have ev : linesErr T ⟨kd, nd, tw, pk, kp, op, oa, oc, an, hd⟩ = actErr (T.length : Int) (ActI.v ⟨kd, nd, tw, pk, kp, op, an, hd⟩) := HTE.out ⟨kd, nd, tw, pk, kp, op, an, hd⟩
      rw [ev] at cA
      clear ev hop hsm
      obtain ⟨E, hE⟩ : ∃ E, actErr (T.length : Int) (ActI.v ⟨kd, nd, tw, pk, kp, op, an, hd⟩) = E := ⟨_, rfl⟩
      rw [hE] at cA hbad hok hkp
      clear hE
      by_cases h0 : E = 0
      · subst h0
        obtain ⟨hkr, hnu, hoe, hmo⟩ := hkp rfl
        have hL0 := hll hoe
        have HA1 := HA.out.trans (hok rfl)
        have hmn := more_none hmo
        clear hbad hok hkp hll HA hmo
        replace hkr : 1 ≤ kd ∧ kd ≤ 9 := hkr
        replace hoe : opErr op = 0 := hoe
        replace hmn : kd ≠ 1 → op = [] := hmn.2
        have hnums : (0 ≤ nd ∧ nd ≤ (T.length : Int) - 1) ∧ (0 ≤ tw ∧ tw ≤ (T.length : Int) - 1) ∧ (0 ≤ pk ∧ pk ≤ 1048576) ∧ (0 ≤ kp ∧ kp ≤ 8388608) ∧ (0 ≤ an ∧ an ≤ 4000) ∧ (0 ≤ hd ∧ hd ≤ 4000) := of_decide_eq_true hnu
        have hpk := op_kinds hoe
        obtain ⟨kn, rfl⟩ : ∃ kn : Nat, kd = (kn : Int) := ⟨kd.toNat, by omega⟩
        obtain ⟨nn, rfl⟩ : ∃ kn : Nat, nd = (kn : Int) := ⟨nd.toNat, by omega⟩
        obtain ⟨tn, rfl⟩ : ∃ kn : Nat, tw = (kn : Int) := ⟨tw.toNat, by omega⟩
        obtain ⟨pn, rfl⟩ : ∃ kn : Nat, pk = (kn : Int) := ⟨pk.toNat, by omega⟩
        obtain ⟨qn, rfl⟩ : ∃ kn : Nat, kp = (kn : Int) := ⟨kp.toNat, by omega⟩
        obtain ⟨an', rfl⟩ : ∃ kn : Nat, an = (kn : Int) := ⟨an.toNat, by omega⟩
        obtain ⟨hn', rfl⟩ : ∃ kn : Nat, hd = (kn : Int) := ⟨hd.toNat, by omega⟩
        have hmn' : kn ≠ 1 → op = [] := fun h => hmn (by omega)
        have hpn : ∀ p ∈ op, 0 ≤ p.n := part_nums hoe
        have HL : Hid (ActI.line ⟨(kn : Int), (nn : Int), (tn : Int), (pn : Int), (qn : Int), op, (an' : Int), (hn' : Int)⟩ = refL kn nn tn pn qn an' hn' op) := by
          show lineL ((kn : Int).toNat) _ op = _
          rw [Int.toNat_natCast]
          exact line_ref kn nn tn pn qn an' hn' op (by omega) hmn'
        have cL := fun wx (hb : Below w.heap.size w wx) => actLine_any kn nn tn pn qn an' hn' op oa oc wx (by omega) (ho.below hb) hmn' (fun p hp => ⟨hpk.2 p hp, ⟨hpn p hp, (hox.2 p hp).2.1.2⟩, (hox.2 p hp).2.2⟩) hpk.1 (by omega) (by omega) (by omega) (by omega) (by omega) (by omega)
        have HA2 : Hid (R = showA T.length (i + 1) (sbytes Y ++ refL kn nn tn pn qn an' hn' op) ((K.map (·.1)).drop (i + 1))) := by rw [← HL.out]; exact HA1
        have hl9 : (refL kn nn tn pn qn an' hn' op).length ≤ 16780000000 := by rw [← HL.out]; exact hL0.1
        have hsm9 : ∀ x ∈ refL kn nn tn pn qn an' hn' op, x < 256 := by rw [← HL.out]; exact line_small _
        have HSB : Hid (sbytes (bstr (refL kn nn tn pn qn an' hn' op)) = refL kn nn tn pn qn an' hn' op) := sbytes_bstr hsm9
        have hlb := bstr_size (refL kn nn tn pn qn an' hn' op)
        clear HA1 HL hL0 hnums hmn hmn' hpn hpk hox hoe hx hsm9
        generalize refL kn nn tn pn qn an' hn' op = N at *
        go_wp2_with fail
        refine cA.mono ?_
        clear cA
        rintro r w2 ⟨rfl, hb2⟩
        have HB2 := below_two HB hb2 (Nat.le_refl _)
        have e0 := (hb2.cell (p := ⟨ab, off + i * 8, none⟩) (Nat.lt_of_lt_of_le hab HB.size)).trans d0
        have e1 := (hb2.cell (p := ⟨ab, off + i * 8 + 1, none⟩) (Nat.lt_of_lt_of_le hab HB.size)).trans d1
        have e2 := (hb2.cell (p := ⟨ab, off + i * 8 + 2, none⟩) (Nat.lt_of_lt_of_le hab HB.size)).trans d2
        have e3 := (hb2.cell (p := ⟨ab, off + i * 8 + 3, none⟩) (Nat.lt_of_lt_of_le hab HB.size)).trans d3
        have e4 := (hb2.cell (p := ⟨ab, off + i * 8 + 4, none⟩) (Nat.lt_of_lt_of_le hab HB.size)).trans d4
        have e5 := (hb2.cell (p := ⟨ab, off + i * 8 + 5, none⟩) (Nat.lt_of_lt_of_le hab HB.size)).trans d5
        have e6 := (hb2.cell (p := ⟨ab, off + i * 8 + 6, none⟩) (Nat.lt_of_lt_of_le hab HB.size)).trans d6
        have e7 := (hb2.cell (p := ⟨ab, off + i * 8 + 7, none⟩) (Nat.lt_of_lt_of_le hab HB.size)).trans d7
        clear d0 d1 d2 d3 d4 d5 d6 d7 hcell hb2
        go_wp2_with fail
        refine (cL _ HB2).mono ?_
        clear cL
        rintro r w3 ⟨rfl, hb3⟩
        have HB3 := below_two HB2 hb3 (Nat.le_refl _)
        generalize bstr N = Z at *
        have hz9 : i * 16780000000 ≤ 2999 * 16780000000 := Nat.mul_le_mul_right _ (by omega)
        have hyz : Y.size + Z.size ≤ 60000000000000 := by omega
        clear e0 e1 e2 e3 e4 e5 e6 e7
        go_wp2_with fail
        go_roundg (K.length - i - 1)
        case measure => omega
        case rel => exact ⟨i + 1, Y ++ Z, by omega, by go_num, rfl, by rw [sbytes_cat, HSB.out]; exact HA2, by rw [ByteArray.size_append]; omega, HB3⟩
      · have e := HA.out.trans (hbad h0)
        have HE : Hid (R = ([], i, E)) := e
        have g : (E != 0) = true := by simpa using h0
        clear hbad hok hkp hll HA e h0 ho hox hx
        go_wp2_with fail
        refine cA.mono ?_
        rintro r w2 ⟨rfl, hb2⟩
        go_wp2_with fail
        go_ret3
        refine ⟨?_, below_two HB hb2 (Nat.le_refl _)⟩
        rw [HE.out, bstr_nil]
        rfl
    · obtain rfl : i = K.length := by omega
      have hiz : ¬ (K.length : Int) < (K.length : Int) := by omega
      have e : R = (sbytes Y, 0, 0) := by
        rw [HA.out, List.drop_of_length_le (by rw [List.length_map]; exact Nat.le_refl _)]
        rfl
      have HE : Hid (R = (sbytes Y, 0, 0)) := e
      clear HA e hK hsm
      go_wp2_with fail
      go_ret3
      refine ⟨?_, HB⟩
      rw [HE.out, bstr_sbytes]
      rfl

end Go.Proofs.YtiekmcoadmpkjaaDoor
