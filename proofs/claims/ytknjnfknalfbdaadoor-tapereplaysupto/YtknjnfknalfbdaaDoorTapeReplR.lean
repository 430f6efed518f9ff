/-
  Walk: wherryref.ReplayedOf.
-/
import Derived.Test.YtknjnfknalfbdaaDoorTapeReplay
import Derived.Test.YtknjnfknalfbdaaDoorAppliedWalk
import Derived.Test.YtknjnfknalfbdaaDoorWirePacketF
namespace Go.Proofs.YtknjnfknalfbdaaDoor
open Go.RowKit Go.Lib

set_option maxRecDepth 100000 in
set_option maxHeartbeats 2000000 in
theorem replayedOf_any (rs : List RecI) (a : Option Addr) (c : Nat) (w : World) (h : RecsIn w a rs) (hl : rs.length ≤ 1048576) (hs : ∀ r ∈ rs, r.2.length ≤ 1048576 ∧ ∀ p ∈ r.2, p.text.size ≤ 1048576) (hT : Tabs w) :
    Calls Tryd.prog 49 #[.slice a rs.length c] w fun e w' => e = .returned (.tuple #[.string (replayP ByteArray.empty 0 rs).1, .int .i64 (replayP ByteArray.empty 0 rs).2.1, .int .i64 (replayP ByteArray.empty 0 rs).2.2]) ∧ Below w.heap.size w w' := by
  obtain ⟨R, hR⟩ : ∃ R, R = replayP ByteArray.empty 0 rs := ⟨_, rfl⟩
  rw [← hR]
  have HR : Hid (R = replayP ByteArray.empty 0 rs) := hR
  clear hR
  go_enter Tryd.func49, Tryd.ntmps49
  go_wp2_with fail
  go_loopg [5, 6, 7] rs.length (fun g sv ev iv wr => ∃ (i : Nat) (s : ByteArray) (ep : Int), i + g = rs.length ∧ iv = .int .i64 (i : Int) ∧ sv = .string s ∧ ev = .int .i64 ep ∧ Hid (R = replayP s ep (rs.drop i)) ∧ s.size ≤ 1048576 ∧ (0 ≤ ep ∧ ep ≤ 1048576) ∧ Below w.heap.size w wr)
  case atStart => exact ⟨0, ByteArray.empty, 0, by omega, rfl, rfl, rfl, by rw [List.drop_zero]; exact HR, by decide, by omega, Below.refl _ _⟩
  case round =>
    obtain ⟨i, s, ep, hi, rfl, rfl, rfl, HI, hss, hep, hb⟩ := hrel
    by_cases hlt : i < rs.length
    · have hiz : (i : Int) < (rs.length : Int) := by omega
      have hi0 : (0 : Int) ≤ (i : Int) := by omega
      have HJ : Hid (R = if recordErr rs[i].1 rs[i].2 ≠ 0 then (ByteArray.empty, 0, recordErr rs[i].1 rs[i].2) else if rs[i].1 ≠ 0 then replayP s (max ep rs[i].1) (rs.drop (i + 1)) else if applyErr s rs[i].2 ≠ 0 then (ByteArray.empty, 0, applyErr s rs[i].2) else replayP (applyRes s rs[i].2) (max ep rs[i].1) (rs.drop (i + 1))) := by
        show _ = _
        rw [HI.out]
        exact replayP_at rs hlt s ep
      clear HI
      have hsi := hs rs[i] (List.getElem_mem hlt)
      rcases h with h0 | ⟨b, off, rfl, hbl, hc⟩
      · subst h0; simp at hlt
      · obtain ⟨oa, oc, c0, c1, hop⟩ := hc i hlt
        replace c0 := (hb.cell (p := ⟨b, off + i * 2, none⟩) hbl).trans c0
        replace c1 := (hb.cell (p := ⟨b, off + i * 2 + 1, none⟩) hbl).trans c1
        clear hc
        generalize rs[i] = rc at *
        obtain ⟨n, ps⟩ := rc
        simp only at c0 c1 hop hsi HJ
        have cK := recordFault_any n ps oa oc wr (hop.below hb) (by omega) (fun p hp => by have := hsi.2 p hp; omega) (hT.below hb)
        have hbr := Nat.lt_of_lt_of_le hbl hb.size
        by_cases h1 : recordErr n ps = 0
        · rw [if_neg (by rw [h1]; simp)] at HJ
          rw [h1] at cK
          have hn := (recordErr_zero h1).1
          go_wp2_with fail
          refine cK.mono ?_
          rintro r w2 ⟨rfl, hb2⟩
          have hb3 := below_two hb hb2 (Nat.le_refl _)
          replace c0 := (hb2.cell (p := ⟨b, off + i * 2, none⟩) hbr).trans c0
          replace c1 := (hb2.cell (p := ⟨b, off + i * 2 + 1, none⟩) hbr).trans c1
          clear cK hb2
          by_cases h2 : n = 0
          · subst h2
            rw [if_neg (by simp)] at HJ
            have cA := applied_any s ps oa oc w2 hss (hop.below hb3) hsi.1 hsi.2 (hT.below hb3)
            have hme : max ep 0 = ep := by omega
            rw [hme] at HJ
            have hge : ¬ ep < 0 := by omega
            by_cases h3 : applyErr s ps = 0
            · rw [if_neg (by rw [h3]; simp)] at HJ
              have hsh := applyRes_short h3
              rw [h3] at cA
              generalize applyRes s ps = S at *
              clear h3 h1 hme
              go_wp2_with fail
              refine cA.mono ?_
              rintro r w4 ⟨rfl, hb4⟩
              have hb5 := below_two hb3 hb4 (Nat.le_refl _)
              clear cA
              go_wp2_with fail
              go_roundg (rs.length - i - 1)
              case measure => omega
              case rel => exact ⟨i + 1, S, ep, by omega, by go_num, rfl, by go_num, HJ, hsh, by omega, hb5⟩
            · rw [if_pos h3] at HJ
              have hg : (applyErr s ps != 0) = true := by simpa using h3
              generalize applyErr s ps = E at *
              generalize applyRes s ps = S at *
              clear h1 h3 hme
              go_wp2_with fail
              refine cA.mono ?_
              rintro r w4 ⟨rfl, hb4⟩
              go_wp2_with fail
              go_ret3
              exact ⟨by rw [HJ.out]; rfl, below_two hb3 hb4 (Nat.le_refl _)⟩
          · rw [if_pos h2] at HJ
            have hg : (0 : Int) < n := by omega
            clear h1 h2
            by_cases h4 : ep < n
            · have HM : Hid (max ep n = n) := by show _ = _; omega
              rw [HM.out] at HJ
              go_wp2_with fail
              go_roundg (rs.length - i - 1)
              case measure => omega
              case rel => exact ⟨i + 1, s, n, by omega, by go_num, rfl, rfl, HJ, hss, by omega, hb3⟩
            · have HM : Hid (max ep n = ep) := by show _ = _; omega
              rw [HM.out] at HJ
              go_wp2_with fail
              go_roundg (rs.length - i - 1)
              case measure => omega
              case rel => exact ⟨i + 1, s, ep, by omega, by go_num, rfl, rfl, HJ, hss, by omega, hb3⟩
        · rw [if_pos h1] at HJ
          have hg : (recordErr n ps != 0) = true := by simpa using h1
          generalize recordErr n ps = E at *
          clear h1
          go_wp2_with fail
          refine cK.mono ?_
          rintro r w2 ⟨rfl, hb2⟩
          go_wp2_with fail
          go_ret3
          exact ⟨by rw [HJ.out]; rfl, below_two hb hb2 (Nat.le_refl _)⟩
    · have hiz : ¬ (i : Int) < (rs.length : Int) := by omega
      have HE : Hid (R = (s, ep, 0)) := by
        show _ = _
        rw [HI.out, List.drop_of_length_le (by omega)]
        rfl
      clear HI
      go_wp2_with fail
      go_ret3
      exact ⟨by rw [HE.out]; rfl, hb⟩

end Go.Proofs.YtknjnfknalfbdaaDoor
