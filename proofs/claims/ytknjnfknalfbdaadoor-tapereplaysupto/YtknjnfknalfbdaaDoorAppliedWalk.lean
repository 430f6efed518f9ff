/-
  Walk: wherryref.Applied.
-/
import Derived.Test.YtknjnfknalfbdaaDoorOpFault
import Derived.Test.YtknjnfknalfbdaaDoorRuneMem
namespace Go.Proofs.YtknjnfknalfbdaaDoor
open Go.RowKit

set_option maxRecDepth 100000 in
set_option maxHeartbeats 2000000 in
theorem applied_any (s : ByteArray) (ps : List Part) (a : Option Addr) (cap : Nat) (w : World) (hz : s.size ≤ 1048576) (hop : OpAt w a ps) (hn : ps.length ≤ 1048576) (hs : ∀ p ∈ ps, p.text.size ≤ 1048576) (hT : Tabs w) :
    Calls Tryd.prog 92 #[.string s, .slice a ps.length cap] w fun e w' => e = .returned (.tuple #[.string (applyRes s ps), .int .i64 (applyErr s ps)]) ∧ Below w.heap.size w w' := by
  have hs1 : ∀ p ∈ ps, p.text.size ≤ 70368744177664 := fun p hp => by have := hs p hp; omega
  have c1 := textFault_any s w (by omega) hT
  have hcv := conv_runes s (by omega)
  have hrl := runes_le s
  by_cases h1 : textErr s = 0
  · by_cases h2 : opErr ps = 0
    · by_cases h3 : (lens ps).1 = ((runes s).length : Int)
      · have hE : applyErr s ps = 0 := by unfold applyErr; rw [if_neg (by omega), if_neg (by omega), if_neg (by omega)]
        have ha := applyErr_zero hE
        have hR : applyRes s ps = str (applyS (runes s) (steps ps)) := by unfold applyRes; rw [if_neg (by omega)]
        rw [hR, hE]
        rw [h1] at c1
        clear hR hE
        have hok := ha.ok
        obtain ⟨R, hR⟩ : ∃ R, R = applyS (runes s) (steps ps) := ⟨_, rfl⟩
        have HR : Hid (R = applyS (runes s) (steps ps)) := hR
        rw [← hR]
        have hRl : R.length ≤ 8000 := by rw [hR]; exact Nat.le_trans (applyS_length _ _) hok.steps_le
        clear hR
        have HO : Hid (olds (steps ps) = (runes s).length) := by show _ = _; rw [olds_steps hok.chain.good, ha.fits]
        have hll := hok.steps_le
        have hnn := steps_nonneg ps
        go_enter Tryd.func92, Tryd.ntmps92
        go_wp2_with fail
        refine c1.mono ?_
        rintro e w1 ⟨rfl, hb1⟩
        have c2 := opFault_any ps a cap w1 (hop.below hb1) (by omega) hs1 (hT.below hb1)
        rw [h2] at c2
        go_wp2_with fail
        refine c2.mono ?_
        rintro e w2 ⟨rfl, hb2⟩
        have hb12 := below_two hb1 hb2 (Nat.le_refl _)
        have c3 := lengthsOf_any ps a cap w2 (hop.below hb12) (by omega) hs1
        obtain ⟨L, hL⟩ : ∃ L, L = lens ps := ⟨_, rfl⟩
        rw [← hL] at c3 h3
        obtain ⟨f, t⟩ := L
        simp only at c3 h3
        clear hL c1 c2 h1 h2
        go_wp2_with fail
        refine c3.mono ?_
        rintro e w3 ⟨rfl, hb3⟩
        have hb13 := below_two hb12 hb3 (Nat.le_refl _)
        have g1 : (f != ((runes s).length : Int)) = false := by simpa using h3
        clear h3 c3
        go_wp2_with fail
        have b4 : ∀ A B : Obj, Below w.heap.size w ((w3.alloc A).alloc B).drew.drew := fun A B => (((hb13.alloc hb13.size _).alloc (by have := hb13.size; simp; omega) _).drew).drew
        refine (steps_any ps a cap _ (hop.below (b4 _ _)) hok hs).mono ?_
        rintro e w5 ⟨v, rfl, hown, hb5⟩
        have hb : Below w.heap.size w w5 := (b4 _ _).trans (hb5.mono (b4 _ _).size)
        have hrow : ∃ c, w5.heap[w3.heap.size + 1]? = some (.cells (runeRow s c) 21 (0, 0)) := by
          exact ⟨_, (hb5.block (w3.heap.size + 1) (by simp)).trans (heap_two w3 _ _)⟩
        have hsz5 : w3.heap.size + 2 ≤ w5.heap.size := by have := hb5.size; simp at this; omega
        obtain ⟨av, capv, rfl, hst⟩ := own_stepsAt hown
        clear hown hb5 hop hs hs1 hcv b4
        obtain ⟨l, hl⟩ : ∃ l, l = steps ps := ⟨_, rfl⟩
        rw [← hl] at HR HO hll hnn hst
        have HLL : Hid (l = steps ps) := hl
        rw [← hl]
        clear hl
        obtain ⟨i0, hi, hz0, hz1, hz2⟩ := info_parts info_i32
        obtain ⟨rs, hrs⟩ : ∃ rs, rs = runes s := ⟨_, rfl⟩
        rw [← hrs] at HR HO
        have hrsl : rs.length ≤ 1048576 := by rw [hrs]; omega
        have HRS : Hid (rs = runes s) := hrs
        clear hrs
        obtain ⟨G, HG⟩ : ∃ G, Hid (G = w3.heap.size + 1) := ⟨_, rfl⟩
        go_wp2
        go_loopw [11, 12, 13] (fun ov atv i wr => ∃ (k m : Nat) (acc : List Nat), k ≤ l.length ∧ i = .int .i64 k ∧ atv = .int .i64 m ∧ Hid (R = acc ++ applyS (rs.drop m) (l.drop k)) ∧ Hid (m + olds (l.drop k) = rs.length) ∧
          wr.ownsRow w.heap.size 21 1 ov acc.length (runeVals acc) ∧ (ov.ownBlock ≠ some G) ∧ (∃ c, wr.heap[G]? = some (.cells (runeRow s c) 21 (0, 0))) ∧ StepsAt wr av l ∧ Below w.heap.size w wr) (fun _ _ i _ => l.length - (RowKit.intOf i).toNat)
        case atStart => exact ⟨0, 0, [], Nat.zero_le _, rfl, rfl, HR, by show 0 + _ = _; rw [Nat.zero_add]; exact HO, World.ownsRow_nil _ _ _ _, by simp [Value.ownBlock], by rw [HG.out]; exact hrow, hst, hb⟩
        case round =>
          obtain ⟨k, m, acc, hk, rfl, rfl, HA, HM, hown, hng, ⟨c, hrw⟩, hstr, hbr⟩ := hrel
          have hacc : acc.length ≤ R.length := by rw [HA.out, List.length_append]; omega
          by_cases hlt : k < l.length
          · have hdr : l.drop k = l[k] :: l.drop (k + 1) := List.drop_eq_getElem_cons hlt
            have HA' := HA.out
            have HM' := HM.out
            rw [hdr] at HA' HM'
            simp only [olds] at HM'
            have hnk := hnn _ (List.getElem_mem hlt)
            have hsb := hstr
            rcases hstr with rfl | ⟨g, cur, rfl, hgl, hcell⟩
            · simp at hlt
            · obtain ⟨c0, c1⟩ := hcell k hlt
              clear hcell hdr HA HM
              generalize l[k] = s0 at *
              obtain ⟨kd, r0⟩ := s0
              obtain ⟨r, rfl⟩ : ∃ r : Nat, r0 = r := ⟨r0.toNat, by simp only at hnk; omega⟩
              simp only at c0 c1 HA' HM'
              by_cases hk2 : kd = 2
              · subst hk2
                have HA2 : Hid (R = (acc ++ [r]) ++ applyS (rs.drop m) (l.drop (k + 1))) := by
                  show R = _
                  rw [HA']
                  simp [applyS]
                have HM2 : Hid (m + olds (l.drop (k + 1)) = rs.length) := by show _ = _; simpa using HM'
                clear HA' HM'
                go_wp2_with (at_builtin; refine wpList_append_lies _ rfl (.tmp 53) (.tmp 59) 40 rfl w.heap.size 21 i0 _ 1 4 Tryd.underlying40 hi hz0 hz1 hz2 rfl (by decide) _ _ _ rfl (hown.alloc _) ⟨wr.heap.size, 0, none⟩ 1 1 [.int .i32 (r : Int)] rfl rfl (World.news_of_block (cs := #[.int .i32 (r : Int)]) (t := 21) (fr := (0, 0)) (heap_alloc_new wr _)) (by simp [Value.oneCell']) (by omega) (by unfold maxLen; omega) (by omega) (by have := hbr.size; simp; omega) _ rfl ?_; intro g1 cap1 w6 hown1 hgrow1 hat1 hlt1)
                go_roundw
                case rel =>
                  obtain ⟨q1, q2⟩ := rune_row hng (lt_of_heap hrw) hat1 hgrow1 hrw
                  exact ⟨k + 1, m, acc ++ [r], hlt, by go_num, rfl, HA2, HM2, by simpa [runeVals] using hown1, q1, ⟨c, q2⟩, (hsb.below ((Below.refl _ _).alloc (Nat.le_refl _) _)).grown (hown.alloc _) hgrow1 (by decide), (hbr.alloc hbr.size _).grown hgrow1 (by have := hbr.size; simp; omega) (fun j e => (hown.lt j e).1)⟩
                case measure => simp [RowKit.intOf]; omega
              · have g2 : (kd == 2) = false := by simpa using hk2
                rw [if_neg hk2] at HM'
                have hml : m < rs.length := by omega
                by_cases hk1 : kd = 1
                · subst hk1
                  have HA2 : Hid (R = (acc ++ [rs[m]]) ++ applyS (rs.drop (m + 1)) (l.drop (k + 1))) := by
                    show R = _
                    rw [HA']
                    simp only [applyS]
                    rw [if_neg (by decide), if_pos trivial, List.drop_eq_getElem_cons hml]
                    simp only [List.take_succ_cons, List.take_zero, List.tail_cons, List.append_assoc]
                  have HM2 : Hid (m + 1 + olds (l.drop (k + 1)) = rs.length) := by show _ = _; omega
                  have hcl := cell_of_row _ _ m _ _ _ hrw
                  have hget : (runeRow s c)[m]? = some (.int .i32 (rs[m] : Int)) := by
                    have e : rs = runes s := HRS.out
                    subst e
                    exact runeRow_get s c m hml
                  rw [hget, HG.out] at hcl
                  have hlen : (runes s).length = rs.length := by rw [HRS.out]
                  have hml1 : (m : Int) < ((runes s).length : Int) := by rw [hlen]; omega
                  clear HA' HM' hget hlen
                  generalize rs[m] = q at *
                  go_wp2_with (at_builtin; refine wpList_append_lies _ rfl (.tmp 67) (.tmp 72) 40 rfl w.heap.size 21 i0 _ 1 4 Tryd.underlying40 hi hz0 hz1 hz2 rfl (by decide) _ _ _ rfl (hown.alloc _) ⟨wr.heap.size, 0, none⟩ 1 1 [.int .i32 (q : Int)] rfl rfl (World.news_of_block (cs := #[.int .i32 (q : Int)]) (t := 21) (fr := (0, 0)) (heap_alloc_new wr _)) (by simp [Value.oneCell']) (by omega) (by unfold maxLen; omega) (by omega) (by have := hbr.size; simp; omega) _ rfl ?_; intro g1 cap1 w6 hown1 hgrow1 hat1 hlt1)
                  go_roundw
                  case rel =>
                    obtain ⟨q1, q2⟩ := rune_row hng (lt_of_heap hrw) hat1 hgrow1 hrw
                    exact ⟨k + 1, m + 1, acc ++ [q], hlt, by go_num, by go_num, HA2, HM2, by simpa [runeVals] using hown1, q1, ⟨c, q2⟩, (hsb.below ((Below.refl _ _).alloc (Nat.le_refl _) _)).grown (hown.alloc _) hgrow1 (by decide), (hbr.alloc hbr.size _).grown hgrow1 (by have := hbr.size; simp; omega) (fun j e => (hown.lt j e).1)⟩
                  case measure => simp [RowKit.intOf]; omega
                · have g1 : (kd == 1) = false := by simpa using hk1
                  have HA2 : Hid (R = acc ++ applyS (rs.drop (m + 1)) (l.drop (k + 1))) := by
                    show R = _
                    rw [HA']
                    simp only [applyS]
                    rw [if_neg hk2, if_neg hk1]
                    simp
                  have HM2 : Hid (m + 1 + olds (l.drop (k + 1)) = rs.length) := by show _ = _; omega
                  clear HA' HM' hk1 hk2
                  go_wp2
                  go_roundw
                  case rel => exact ⟨k + 1, m + 1, acc, hlt, by go_num, by go_num, HA2, HM2, hown, hng, ⟨c, hrw⟩, hsb, hbr⟩
                  case measure => simp [RowKit.intOf]; omega
          · obtain rfl : k = l.length := by omega
            have hfin : R = acc := by rw [HA.out, List.drop_of_length_le (Nat.le_refl _)]; simp [applyS]
            have HF : Hid (R = acc) := hfin
            clear hfin
            have hcb := conv_back wr _ _ _ hown
            go_wp2
            go_ret2
            rw [HF.out]
            exact ⟨rfl, hbr⟩
      · have hE : applyErr s ps = 10 := by unfold applyErr; rw [if_neg (by omega), if_neg (by omega), if_pos h3]
        have hR : applyRes s ps = ByteArray.empty := by unfold applyRes; rw [hE, if_pos (by omega)]
        rw [hR, hE]
        rw [h1] at c1
        clear hR hE
        go_enter Tryd.func92, Tryd.ntmps92
        go_wp2_with fail
        refine c1.mono ?_
        rintro e w1 ⟨rfl, hb1⟩
        have c2 := opFault_any ps a cap w1 (hop.below hb1) (by omega) hs1 (hT.below hb1)
        rw [h2] at c2
        go_wp2_with fail
        refine c2.mono ?_
        rintro e w2 ⟨rfl, hb2⟩
        have hb12 := below_two hb1 hb2 (Nat.le_refl _)
        have c3 := lengthsOf_any ps a cap w2 (hop.below hb12) (by omega) hs1
        obtain ⟨L, hL⟩ : ∃ L, L = lens ps := ⟨_, rfl⟩
        rw [← hL] at c3 h3
        obtain ⟨f, t⟩ := L
        simp only at c3 h3
        clear hL c1 c2 h1 h2 hop hs hs1
        go_wp2_with fail
        refine c3.mono ?_
        rintro e w3 ⟨rfl, hb3⟩
        have hb13 := below_two hb12 hb3 (Nat.le_refl _)
        have g1 : (f != ((runes s).length : Int)) = true := by simpa using h3
        clear h3 c3
        go_wp2
        go_ret2
        exact ⟨rfl, (hb13.alloc hb13.size _).drew⟩
    · have hE : applyErr s ps = opErr ps := by unfold applyErr; rw [if_neg (by omega), if_pos h2]
      have hR : applyRes s ps = ByteArray.empty := by unfold applyRes; rw [hE, if_pos h2]
      rw [hR, hE]
      rw [h1] at c1
      clear hR hE
      have HC := fun w1 hb1 => opFault_any ps a cap w1 (hop.below hb1) (by omega) hs1 (hT.below (w' := w1) hb1)
      generalize opErr ps = E at *
      have g1 : (E != 0) = true := by simpa using h2
      have g2 : (E == 0) = false := by simpa using h2
      go_enter Tryd.func92, Tryd.ntmps92
      go_wp2_with fail
      refine c1.mono ?_
      rintro e w1 ⟨rfl, hb1⟩
      have c2 := HC w1 hb1
      go_wp2_with fail
      refine c2.mono ?_
      rintro e w2 ⟨rfl, hb2⟩
      have hb12 := below_two hb1 hb2 (Nat.le_refl _)
      have c3 := lengthsOf_any ps a cap w2 (hop.below hb12) (by omega) hs1
      generalize lens ps = L at *
      obtain ⟨f, t⟩ := L
      simp only at c3
      clear HC c1 c2 h1 h2 hop hs hs1
      go_wp2_with fail
      refine c3.mono ?_
      rintro e w3 ⟨rfl, hb3⟩
      go_wp2
      go_ret2
      exact ⟨rfl, below_two hb12 hb3 (Nat.le_refl _)⟩
  · have hE : applyErr s ps = textErr s := by unfold applyErr; rw [if_pos h1]
    have hR : applyRes s ps = ByteArray.empty := by unfold applyRes; rw [hE, if_pos h1]
    rw [hR, hE]
    clear hR hE
    generalize textErr s = E at *
    have g1 : (E != 0) = true := by simpa using h1
    have g2 : (E == 0) = false := by simpa using h1
    go_enter Tryd.func92, Tryd.ntmps92
    go_wp2_with fail
    refine c1.mono ?_
    rintro e w1 ⟨rfl, hb1⟩
    have c3 := lengthsOf_any ps a cap w1 (hop.below hb1) (by omega) hs1
    generalize lens ps = L at *
    obtain ⟨f, t⟩ := L
    simp only at c3
    clear c1 h1 hop hs hs1
    go_wp2_with fail
    refine c3.mono ?_
    rintro e w3 ⟨rfl, hb3⟩
    go_wp2
    go_ret2
    exact ⟨rfl, below_two hb1 hb3 (Nat.le_refl _)⟩

end Go.Proofs.YtknjnfknalfbdaaDoor
