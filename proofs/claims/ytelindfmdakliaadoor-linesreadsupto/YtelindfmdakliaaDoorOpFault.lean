/-
  Walks: wherryref.OpFault.
-/
import Derived.Test.YtelindfmdakliaaDoorCheck
import Derived.Test.YtelindfmdakliaaDoorPartFault
import Derived.Test.YtelindfmdakliaaDoorLensOf
namespace Go.Proofs.YtelindfmdakliaaDoor
open Go.RowKit

theorem below_drewN {B : Nat} {a w : World} (h : Below B a w) (n : Nat) : Below B a (w.drewN n) := h.trans ⟨rfl, rfl, rfl, Nat.le_refl _, fun _ _ => rfl⟩

/-- the kind of the part ahead of a place; 0 at the beginning -/
def aheadAt (ps : List Part) (k : Nat) : Int := if h : 0 < k ∧ k - 1 < ps.length then (ps[k - 1]'h.2).kind else 0

set_option maxHeartbeats 1000000 in
theorem opFault_any (ps : List Part) (a : Option Addr) (cap : Nat) (w : World) (hop : OpAt w a ps) (hn : ps.length ≤ 9223372036854775806) (hs : ∀ p ∈ ps, p.text.size ≤ 70368744177664) (hT : Tabs w) :
    Calls Tryd.prog 21 #[.slice a ps.length cap] w fun e w' => e = .returned (.int .i64 (opErr ps)) ∧ Below w.heap.size w w' := by
  unfold opErr
  by_cases h8 : 8001 < ps.length
  · have h8z : (8001 : Int) < (ps.length : Int) := by omega
    rw [if_pos h8]
    clear h8
    go_enter Tryd.func21, Tryd.ntmps21
    go_wp2
    go_ret
    exact ⟨rfl, Below.refl _ _⟩
  · have h8z : ¬ (8001 : Int) < (ps.length : Int) := by omega
    rw [if_neg h8]
    clear h8
    obtain ⟨R, hR⟩ : ∃ R, (if partsErr 0 ps ≠ 0 then partsErr 0 ps else if 4000 < (lens ps).1 ∨ 4000 < (lens ps).2 then 1 else 0) = R := ⟨_, rfl⟩
    rw [hR]
    have HR : Hid ((if partsErr 0 ps ≠ 0 then partsErr 0 ps else if 4000 < (lens ps).1 ∨ 4000 < (lens ps).2 then 1 else 0) = R) := hR
    clear hR
    go_enter Tryd.func21, Tryd.ntmps21
    go_wp2
    go_loopw [3] (fun i wr => ∃ (k : Nat), k ≤ ps.length ∧ i = .int .i64 k ∧ Hid (partsErr 0 ps = partsErr (aheadAt ps k) (ps.drop k)) ∧ Below w.heap.size w wr) (fun i _ => ps.length - (intOf i).toNat)
    case atStart => exact ⟨0, Nat.zero_le _, rfl, rfl, Below.refl _ _⟩
    case round =>
      obtain ⟨k, hk, rfl, HP, hb⟩ := hrel
      by_cases hlt : k < ps.length
      · have HD : Hid (partsErr (aheadAt ps k) (ps.drop k) = if partErr (aheadAt ps k) ps[k] ≠ 0 then partErr (aheadAt ps k) ps[k] else partsErr ps[k].kind (ps.drop (k + 1))) := partsErr_drop _ ps k hlt
        have HA : Hid (aheadAt ps (k + 1) = ps[k].kind) := by show aheadAt ps (k + 1) = _; simp [aheadAt, hlt]
        have hop1 := hop.below hb
        rcases hop with rfl | ⟨b, off, rfl, hbs, hcell⟩
        · simp at hlt
        · obtain ⟨c0, c1, c2⟩ := hcell k hlt
          rw [← bcell hb _ _ hbs] at c0 c1 c2
          have hsz : ps[k].text.size ≤ 70368744177664 := hs _ (List.getElem_mem hlt)
          clear hs
          have cP := partFault_any ps[k] wr hsz (hT.below hb)
          have HPE : Hid (partErr (aheadAt ps k) ps[k] = if bodyErr ps[k] ≠ 0 then bodyErr ps[k] else if aheadAt ps k = ps[k].kind ∨ (aheadAt ps k = 3 ∧ ps[k].kind = 2) then 4 else 0) := rfl
          have HK : Hid (bodyErr ps[k] = 0 → ps[k].kind = 1 ∨ ps[k].kind = 2 ∨ ps[k].kind = 3) := bodyErr_kind
          by_cases h0 : bodyErr ps[k] = 0
          · -- the part by itself may be
            by_cases hk0 : k = 0
            · clear hcell
              have HN : Hid (partsErr 0 ps = partsErr ps[k].kind (ps.drop (k + 1))) := by
                have h1 := HP.out.trans HD.out
                have h2 := HK.out h0
                have h3 : partErr (aheadAt ps k) ps[k] = 0 := by
                  have hz : aheadAt ps k = 0 := by simp [aheadAt, hk0]
                  rw [HPE.out, if_neg (by omega), if_neg (by omega)]
                rw [h3] at h1
                exact h1
              rw [h0] at cP
              clear h0 HPE HK HD HP
              generalize ps[k] = p at *
              obtain ⟨kd, n, tx⟩ := p
              simp only at c0 c1 c2 cP HN HA
              have g : decide (0 < k) = false := by simp; omega
              have g' : ¬ (0 : Int) < (k : Int) := by omega
              clear hk0
              go_wp2_with (go_at_call 32; refine cP.mono ?_; rintro e w' ⟨rfl, hb'⟩)
              go_quiet (fail)
              go_wp2
              go_roundw
              case rel => exact ⟨k + 1, hlt, by go_num, by rw [HA.out]; exact HN, below_drewN (below_two hb hb' (Nat.le_refl _)) _⟩
              case measure => simp [intOf]; omega
            · obtain ⟨j, rfl⟩ : ∃ j, k = j + 1 := ⟨k - 1, by omega⟩
              have hj : j < ps.length := by omega
              obtain ⟨d0, _, _⟩ := hcell j hj
              rw [← bcell hb _ _ hbs] at d0
              clear hcell
              have hah : aheadAt ps (j + 1) = ps[j].kind := by simp [aheadAt, hj]
              rw [hah] at HPE HD HP
              clear hah
              have g : (0 : Int) < ((j + 1 : Nat) : Int) := by omega
              have HK' := HK.out h0
              have HV : Hid (partsErr 0 ps = if ps[j].kind = ps[j + 1].kind ∨ (ps[j].kind = 3 ∧ ps[j + 1].kind = 2) then 4 else partsErr ps[j + 1].kind (ps.drop (j + 1 + 1))) := by
                have h1 := HP.out.trans HD.out
                have h3 := HPE.out
                rw [if_neg (by omega)] at h3
                show partsErr 0 ps = _
                rw [h1, h3]
                by_cases hc : ps[j].kind = ps[j + 1].kind ∨ (ps[j].kind = 3 ∧ ps[j + 1].kind = 2)
                · rw [if_pos hc, if_pos hc, if_pos (by omega)]
                · rw [if_neg hc, if_neg hc, if_neg (by omega)]
              rw [h0] at cP
              clear h0 HPE HK HD HP hk0
              generalize ps[j + 1] = p at *
              generalize ps[j] = q at *
              obtain ⟨kd, n, tx⟩ := p
              obtain ⟨qk, qn, qt⟩ := q
              simp only at c0 c1 c2 cP HA d0 HV HK'
              by_cases hq : qk = kd
              · subst hq
                have g1 : (qk == qk) = true := by simp
                have hfin : Hid (4 = R) := by
                  have h1 := HV.out
                  rw [if_pos (by omega)] at h1
                  have h2 := HR.out
                  rw [h1, if_pos (by omega)] at h2
                  exact h2
                clear HK' HV HR
                go_wp2_with (go_at_call 32; refine cP.mono ?_; rintro e w' ⟨rfl, hb'⟩; rw [← bcell hb' _ _ (Nat.lt_of_lt_of_le hbs hb.size)] at c0 d0)
                go_quiet (fail)
                go_wp2
                go_ret
                exact ⟨ret_int hfin.out, below_drewN (below_two hb hb' (Nat.le_refl _)) _⟩
              · have g1 : (kd == qk) = false := by simp; omega
                by_cases h2 : kd = 2
                · subst h2
                  by_cases h3 : qk = 3
                  · subst h3
                    have hfin : Hid (4 = R) := by
                      have h1 := HV.out
                      rw [if_pos (by omega)] at h1
                      have h2 := HR.out
                      rw [h1, if_pos (by omega)] at h2
                      exact h2
                    clear HK' HV HR hq
                    go_wp2_with (go_at_call 32; refine cP.mono ?_; rintro e w' ⟨rfl, hb'⟩; rw [← bcell hb' _ _ (Nat.lt_of_lt_of_le hbs hb.size)] at c0 d0)
                    go_quiet (fail)
                    go_wp2
                    go_ret
                    exact ⟨ret_int hfin.out, below_drewN (below_two hb hb' (Nat.le_refl _)) _⟩
                  · have g3 : (qk == 3) = false := by simp; omega
                    have HN : Hid (partsErr 0 ps = partsErr 2 (ps.drop (j + 1 + 1))) := by
                      have h1 := HV.out
                      rw [if_neg (by omega)] at h1
                      exact h1
                    clear HK' HV HR hq h3
                    go_wp2_with (go_at_call 32; refine cP.mono ?_; rintro e w' ⟨rfl, hb'⟩; rw [← bcell hb' _ _ (Nat.lt_of_lt_of_le hbs hb.size)] at c0 d0)
                    go_quiet (fail)
                    go_wp2
                    go_roundw
                    case rel => exact ⟨j + 1 + 1, hlt, by go_num, by rw [HA.out]; exact HN, below_drewN (below_two hb hb' (Nat.le_refl _)) _⟩
                    case measure => simp [intOf]; omega
                · have g2 : (kd == 2) = false := by simp; omega
                  have HN : Hid (partsErr 0 ps = partsErr kd (ps.drop (j + 1 + 1))) := by
                    have h1 := HV.out
                    rw [if_neg (by omega)] at h1
                    exact h1
                  clear HK' HV HR hq h2
                  go_wp2_with (go_at_call 32; refine cP.mono ?_; rintro e w' ⟨rfl, hb'⟩; rw [← bcell hb' _ _ (Nat.lt_of_lt_of_le hbs hb.size)] at c0 d0)
                  go_quiet (fail)
                  go_wp2
                  go_roundw
                  case rel => exact ⟨j + 1 + 1, hlt, by go_num, by rw [HA.out]; exact HN, below_drewN (below_two hb hb' (Nat.le_refl _)) _⟩
                  case measure => simp [intOf]; omega
          · have hfin : Hid (bodyErr ps[k] = R) := by
              have h1 := HP.out.trans HD.out
              have h3 := HPE.out
              rw [if_pos h0] at h3
              have h2 := HR.out
              rw [h1, h3, if_pos h0, if_pos h0] at h2
              exact h2
            clear HPE HK HD HP HR hcell HA
            generalize bodyErr ps[k] = E at *
            have g0 : (E != 0) = true := by simpa using h0
            clear h0
            generalize ps[k] = p at *
            obtain ⟨kd, n, tx⟩ := p
            simp only at c0 c1 c2 cP
            go_wp2_with (go_at_call 32; refine cP.mono ?_; rintro e w' ⟨rfl, hb'⟩)
            go_ret
            exact ⟨ret_int hfin.out, below_two hb hb' (Nat.le_refl _)⟩
      · have hz : partsErr 0 ps = 0 := by rw [HP.out, List.drop_of_length_le (by omega)]; rfl
        have hfin : Hid ((if 4000 < (lens ps).1 ∨ 4000 < (lens ps).2 then 1 else 0) = R) := by
          have h2 := HR.out
          rw [hz, if_neg (by omega)] at h2
          exact h2
        clear hz HP HR
        have cL := lengthsOf_any ps a cap wr (hop.below hb) hn hs
        generalize lens ps = L at *
        obtain ⟨f, t⟩ := L
        simp only at cL hfin
        clear hop hs
        by_cases hf : 4000 < f
        · go_wp2_with (go_at_call 33; refine cL.mono ?_; rintro e w' ⟨rfl, hb'⟩)
          go_ret
          exact ⟨ret_int (by rw [← hfin.out, if_pos (.inl hf)]), below_two hb hb' (Nat.le_refl _)⟩
        · by_cases ht : 4000 < t
          · go_wp2_with (go_at_call 33; refine cL.mono ?_; rintro e w' ⟨rfl, hb'⟩)
            go_ret
            exact ⟨ret_int (by rw [← hfin.out, if_pos (.inr ht)]), below_two hb hb' (Nat.le_refl _)⟩
          · go_wp2_with (go_at_call 33; refine cL.mono ?_; rintro e w' ⟨rfl, hb'⟩)
            go_ret
            exact ⟨ret_int (by rw [← hfin.out, if_neg (by omega)]), below_two hb hb' (Nat.le_refl _)⟩

end Go.Proofs.YtelindfmdakliaaDoor
