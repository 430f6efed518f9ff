/-
  Walk: wherryref.Inverted.
-/
import Derived.Test.YtpiijhkohjnnhaaDoorGroupedWalk
import Derived.Test.YtpiijhkohjnnhaaDoorPureInvert
import Derived.Test.YtpiijhkohjnnhaaDoorInvertWalk
namespace Go.Proofs.YtpiijhkohjnnhaaDoor
open Go.RowKit

theorem invS_nonneg (l : List Step) : ∀ rs, (∀ s ∈ l, 0 ≤ s.2) → ∀ s ∈ invS rs l, 0 ≤ s.2 := by
  induction l with
  | nil => intro rs _ s hs; simp [invS] at hs
  | cons x l ih =>
    intro rs h s hs
    have h' : ∀ s ∈ l, 0 ≤ s.2 := fun s hs => h s (List.mem_cons_of_mem _ hs)
    unfold invS at hs
    split at hs
    · rcases List.mem_cons.1 hs with rfl | hs
      · simp
      · exact ih _ h' s hs
    · split at hs
      · rcases List.mem_cons.1 hs with rfl | hs
        · simp only; omega
        · exact ih _ h' s hs
      · rcases List.mem_cons.1 hs with rfl | hs
        · exact h _ (by simp)
        · exact ih _ h' s hs

set_option maxRecDepth 100000 in
set_option maxHeartbeats 2000000 in
theorem inverted_any (s : ByteArray) (ps : List Part) (a : Option Addr) (cap : Nat) (w : World) (hz : s.size ≤ 1048576) (hop : OpAt w a ps) (hn : ps.length ≤ 1048576) (hs : ∀ p ∈ ps, p.text.size ≤ 1048576) (hT : Tabs w) :
    Calls Tryd.prog 17 #[.string s, .slice a ps.length cap] w fun e w' => ∃ v, e = .returned (.tuple #[v, .int .i64 (applyErr s ps)]) ∧ w'.ownsRow w.heap.size 41 3 v (invertRes s ps).length (partCells (invertRes s ps)) ∧ Below w.heap.size w w' := by
  have c1 := applied_any s ps a cap w hz hop hn hs hT
  by_cases h0 : applyErr s ps = 0
  · have ha := applyErr_zero h0
    have hok := ha.ok
    have hR : invertRes s ps = group (invS (runes s) (steps ps)) := by unfold invertRes; rw [if_neg (by omega)]
    rw [hR, h0]
    rw [h0] at c1
    clear hR h0
    have hcv := conv_runes s (by omega)
    have hrl := runes_le s
    have hnn := steps_nonneg ps
    have hRn := invS_nonneg (steps ps) (runes s) hnn
    obtain ⟨R, hR⟩ : ∃ R, R = invS (runes s) (steps ps) := ⟨_, rfl⟩
    rw [← hR] at hRn ⊢
    have HR : Hid (R = invS (runes s) (steps ps)) := hR
    have hRl : R.length ≤ 8000 := by rw [hR, invS_length]; exact hok.steps_le
    clear hR
    have HO : Hid (olds (steps ps) = (runes s).length) := by show _ = _; rw [olds_steps hok.chain.good, ha.fits]
    have hll := hok.steps_le
    generalize applyRes s ps = X at c1
    go_enter Tryd.func17, Tryd.ntmps17
    go_wp2_with fail
    refine c1.mono ?_
    rintro e w1 ⟨rfl, hb1⟩
    clear c1 ha
    go_wp2_with fail
    have b4 : ∀ A : Obj, Below w.heap.size w (w1.alloc A).drew := fun A => (hb1.alloc hb1.size _).drew
    refine (steps_any ps a cap _ (hop.below (b4 _)) hok hs).mono ?_
    rintro e w5 ⟨v, rfl, hown, hb5⟩
    have hb : Below w.heap.size w w5 := (b4 _).trans (hb5.mono (b4 _).size)
    have hrow : ∃ c, w5.heap[w1.heap.size]? = some (.cells (runeRow s c) 21 (0, 0)) := by
      exact ⟨_, (hb5.block w1.heap.size (by simp)).trans (heap_alloc_new w1 _)⟩
    have hsz5 : w1.heap.size + 1 ≤ w5.heap.size := by have := hb5.size; simp at this; omega
    obtain ⟨av, capv, rfl, hst⟩ := own_stepsAt hown
    clear hown hb5 hop hs hcv b4
    obtain ⟨l, hl⟩ : ∃ l, l = steps ps := ⟨_, rfl⟩
    rw [← hl] at HR HO hll hnn hst
    have HLL : Hid (l = steps ps) := hl
    rw [← hl]
    clear hl
    obtain ⟨i0, hi, hz0, hz1, hz2⟩ := info_parts info_step
    obtain ⟨rs, hrs⟩ : ∃ rs, rs = runes s := ⟨_, rfl⟩
    rw [← hrs] at HR HO
    have HRS : Hid (rs = runes s) := hrs
    have hrsl : rs.length ≤ 1048576 := by rw [hrs]; omega
    clear hrs
    go_wp2
    go_loopw [10, 11, 12] (fun ov atv i wr => ∃ (k m : Nat) (acc : List Step), k ≤ l.length ∧ i = .int .i64 k ∧ atv = .int .i64 m ∧ Hid (R = acc ++ invS (rs.drop m) (l.drop k)) ∧ Hid (m + olds (l.drop k) = rs.length) ∧
      wr.ownsRow w5.heap.size 61 2 ov acc.length (stepCells acc) ∧ Below w5.heap.size w5 wr) (fun _ _ i _ => l.length - (RowKit.intOf i).toNat)
    case atStart => exact ⟨0, 0, [], Nat.zero_le _, rfl, rfl, HR, by show 0 + _ = _; rw [Nat.zero_add]; exact HO, World.ownsRow_nil _ _ _ _, Below.refl _ _⟩
    case round =>
      obtain ⟨k, m, acc, hk, rfl, rfl, HA, HM, hown, hbr⟩ := hrel
      have hacc : acc.length ≤ R.length := by rw [HA.out, List.length_append]; omega
      by_cases hlt : k < l.length
      · have hdr : l.drop k = l[k] :: l.drop (k + 1) := List.drop_eq_getElem_cons hlt
        have HA' := HA.out
        have HM' := HM.out
        rw [hdr] at HA' HM'
        simp only [olds] at HM'
        have hnk := hnn _ (List.getElem_mem hlt)
        rcases hst.below hbr with rfl | ⟨g, cur, rfl, hgl, hcell⟩
        · simp at hlt
        · obtain ⟨c0, c1⟩ := hcell k hlt
          clear hcell hdr HA HM
          generalize l[k] = s0 at *
          obtain ⟨kd, r0⟩ := s0
          obtain ⟨r, rfl⟩ : ∃ r : Nat, r0 = r := ⟨r0.toNat, by simp only at hnk; omega⟩
          simp only at c0 c1 HA' HM'
          by_cases hk2 : kd = 2
          · subst hk2
            have HA2 : Hid (R = (acc ++ [(3, 0)]) ++ invS (rs.drop m) (l.drop (k + 1))) := by
              show R = _
              rw [HA']
              simp [invS]
            have HM2 : Hid (m + olds (l.drop (k + 1)) = rs.length) := by show _ = _; simpa using HM'
            clear HA' HM'
            go_wp2_with (at_builtin; refine wpList_append_lies _ rfl _ _ 58 rfl w5.heap.size 61 i0 (.agg #[.int .i64 0, .int .i32 0]) 2 16 Tryd.underlying58 hi hz0 hz1 hz2 rfl (by decide) _ _ _ rfl (hown.alloc _) ⟨wr.heap.size, 0, none⟩ 1 1 [.int .i64 3, .int .i32 0] rfl rfl (cell_two_new _ _ _ _) (by intro u hu; simp at hu; rcases hu with rfl | rfl <;> rfl) (by decide) (by unfold maxLen; omega) (by omega) (by have := hbr.size; simp; omega) _ rfl ?_; intro g2 cap2 w2 hown2 hgrow2 hat2 hlt2)
            go_roundw
            case rel => exact ⟨k + 1, m, acc ++ [(3, 0)], hlt, by go_num, rfl, HA2, HM2, by simpa [stepCells_append, stepCells_one] using hown2, (hbr.alloc hbr.size _).grown hgrow2 (by have := hbr.size; simp; omega) (fun j e => (hown.lt j e).1)⟩
            case measure => simp [RowKit.intOf]; omega
          · have g2 : (kd == 2) = false := by simpa using hk2
            rw [if_neg hk2] at HM'
            have hml : m < rs.length := by omega
            have HM2 : Hid (m + 1 + olds (l.drop (k + 1)) = rs.length) := by show _ = _; omega
            by_cases hk3 : kd = 3
            · subst hk3
              have HA2 : Hid (R = (acc ++ [((2 : Int), ((rs[m] : Nat) : Int))]) ++ invS (rs.drop (m + 1)) (l.drop (k + 1))) := by
                show R = _
                rw [HA']
                simp only [invS]
                rw [if_neg (by decide), if_pos trivial, List.drop_eq_getElem_cons hml]
                simp only [List.headD_cons, List.tail_cons, List.append_assoc, List.singleton_append]
              obtain ⟨c, hrw0⟩ := hrow
              have hrw := (hbr.block w1.heap.size (by omega)).trans hrw0
              have hcl := cell_of_row _ _ m _ _ _ hrw
              have hget : (runeRow s c)[m]? = some (.int .i32 (rs[m] : Int)) := by
                have e : rs = runes s := HRS.out
                subst e
                exact runeRow_get s c m hml
              rw [hget] at hcl
              have hlen : (runes s).length = rs.length := by rw [HRS.out]
              have hml1 : (m : Int) < ((runes s).length : Int) := by rw [hlen]; omega
              clear HA' HM' hget hlen hrw hrw0
              generalize rs[m] = q at *
              go_wp2_with (at_builtin; refine wpList_append_lies _ rfl _ _ 58 rfl w5.heap.size 61 i0 (.agg #[.int .i64 0, .int .i32 0]) 2 16 Tryd.underlying58 hi hz0 hz1 hz2 rfl (by decide) _ _ _ rfl (hown.alloc _) ⟨wr.heap.size, 0, none⟩ 1 1 [.int .i64 2, .int .i32 (q : Int)] rfl rfl (cell_two_new _ _ _ _) (by intro u hu; simp at hu; rcases hu with rfl | rfl <;> rfl) (by decide) (by unfold maxLen; omega) (by omega) (by have := hbr.size; simp; omega) _ rfl ?_; intro g2 cap2 w2 hown2 hgrow2 hat2 hlt2)
              go_roundw
              case rel => exact ⟨k + 1, m + 1, acc ++ [(2, (q : Int))], hlt, by go_num, by go_num, HA2, HM2, by simpa [stepCells_append, stepCells_one] using hown2, (hbr.alloc hbr.size _).grown hgrow2 (by have := hbr.size; simp; omega) (fun j e => (hown.lt j e).1)⟩
              case measure => simp [RowKit.intOf]; omega
            · have g3 : (kd == 3) = false := by simpa using hk3
              have HA2 : Hid (R = (acc ++ [(kd, (r : Int))]) ++ invS (rs.drop (m + 1)) (l.drop (k + 1))) := by
                show R = _
                rw [HA']
                simp only [invS]
                rw [if_neg hk2, if_neg hk3, List.tail_drop]
                simp only [List.append_assoc, List.singleton_append]
              clear HA' HM' hk2 hk3
              go_wp2_with (at_builtin; refine wpList_append_lies _ rfl _ _ 58 rfl w5.heap.size 61 i0 (.agg #[.int .i64 0, .int .i32 0]) 2 16 Tryd.underlying58 hi hz0 hz1 hz2 rfl (by decide) _ _ _ rfl (hown.alloc _) ⟨wr.heap.size, 0, none⟩ 1 1 [.int .i64 kd, .int .i32 (r : Int)] rfl rfl (cell_two_new _ _ _ _) (by intro u hu; simp at hu; rcases hu with rfl | rfl <;> rfl) (by decide) (by unfold maxLen; omega) (by omega) (by have := hbr.size; simp; omega) _ rfl ?_; intro g2 cap2 w2 hown2 hgrow2 hat2 hlt2)
              go_roundw
              case rel => exact ⟨k + 1, m + 1, acc ++ [(kd, (r : Int))], hlt, by go_num, by go_num, HA2, HM2, by simpa [stepCells_append, stepCells_one] using hown2, (hbr.alloc hbr.size _).grown hgrow2 (by have := hbr.size; simp; omega) (fun j e => (hown.lt j e).1)⟩
              case measure => simp [RowKit.intOf]; omega
      · obtain rfl : k = l.length := by omega
        have hfin : R = acc := by rw [HA.out, List.drop_of_length_le (Nat.le_refl _)]; simp [invS]
        subst hfin
        obtain ⟨oa, oc, rfl, hso⟩ := own_stepsAt hown
        have cG := grouped_any R oa oc wr hso (by omega) hRn
        go_wp2_with fail
        refine cG.mono ?_
        rintro e w6 ⟨v6, rfl, hown6, hb6⟩
        obtain ⟨D, hD⟩ : ∃ D, D = group R := ⟨_, rfl⟩
        rw [← hD] at hown6
        have HD : Hid (D = group R) := hD
        clear hD
        obtain ⟨da, dc, rfl⟩ := own_form hown6
        go_wp2
        go_ret2
        have hbw : Below w.heap.size w wr := hb.trans (hbr.mono hb.size)
        refine ⟨_, rfl, ?_, hbw.trans (hb6.mono hbw.size)⟩
        rw [← HD.out]
        exact own_base hown6 hbw.size
  · have hR : invertRes s ps = [] := by unfold invertRes; rw [if_pos h0]
    rw [hR]
    generalize applyErr s ps = E at *
    generalize applyRes s ps = X at c1
    have g1 : (E != 0) = true := by simpa using h0
    clear h0 hR hs
    go_enter Tryd.func17, Tryd.ntmps17
    go_wp2_with fail
    refine c1.mono ?_
    rintro e w1 ⟨rfl, hb1⟩
    go_wp2
    go_ret2
    exact ⟨_, rfl, World.ownsRow_nil _ _ _ _, hb1⟩

end Go.Proofs.YtpiijhkohjnnhaaDoor
