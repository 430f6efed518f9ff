/-
  Records that came in; walk: tape.Replay.
-/
import Derived.Test.YtbobeecagcmclaaDoorTapeOps
import Derived.Test.YtbobeecagcmclaaDoorApplyWalk
import Derived.Test.YtbobeecagcmclaaDoorEncBad
import Derived.Deep.LoopGhost
namespace Go.Proofs.YtbobeecagcmclaaDoor
open Go.RowKit Go.Lib

/-- a record, whatever its epoch is -/
abbrev RecI := Int × List Part
/-- P4.6: the text, the epoch, what is refused -/
def replayP : ByteArray → Int → List RecI → ByteArray × Int × Int
  | s, ep, [] => (s, ep, 0)
  | s, ep, r :: rs => if recordErr r.1 r.2 ≠ 0 then (ByteArray.empty, 0, recordErr r.1 r.2) else if r.1 ≠ 0 then replayP s (max ep r.1) rs else if applyErr s r.2 ≠ 0 then (ByteArray.empty, 0, applyErr s r.2) else replayP (applyRes s r.2) (max ep r.1) rs
/-- records in memory, whatever their epochs are -/
def RecsIn (w : World) (a : Option Addr) (rs : List RecI) : Prop :=
  rs = [] ∨ ∃ b off, a = some ⟨b, off, none⟩ ∧ b < w.heap.size ∧ ∀ i (h : i < rs.length), ∃ oa oc, w.cell? ⟨b, off + i * 2, none⟩ = some (.int .i64 rs[i].1) ∧ w.cell? ⟨b, off + i * 2 + 1, none⟩ = some (.slice oa rs[i].2.length oc) ∧ OpAt w oa rs[i].2
theorem RecsIn.below {w w' : World} {a : Option Addr} {rs : List RecI} (h : RecsIn w a rs) (hb : Below w.heap.size w w') : RecsIn w' a rs := by
  rcases h with rfl | ⟨b, off, rfl, hl, hc⟩
  · exact .inl rfl
  · refine .inr ⟨b, off, rfl, Nat.lt_of_lt_of_le hl hb.size, fun i hi => ?_⟩
    obtain ⟨oa, oc, h1, h2, h3⟩ := hc i hi
    exact ⟨oa, oc, (hb.cell (p := ⟨b, off + i * 2, none⟩) hl).trans h1, (hb.cell (p := ⟨b, off + i * 2 + 1, none⟩) hl).trans h2, h3.below hb⟩
theorem applyRes_short {s : ByteArray} {ps : List Part} (h : applyErr s ps = 0) : (applyRes s ps).size ≤ 1048576 := by
  have ha := applyErr_zero h
  unfold applyRes
  rw [if_neg (by rw [h]; simp)]
  have hc : ∀ r ∈ applyS (runes s) (steps ps), CP r := applyS_cp _ (steps_cp ha.ok.chain.good) _ ha.valid.cp
  have e1 : (str (applyS (runes s) (steps ps))).size = (encs (applyS (runes s) (steps ps))).length := by rw [← str_bytes, bytes_len]
  have e2 := encs_le hc
  have e3 := applyS_length (steps ps) (runes s)
  have e4 := ha.ok.steps_le
  omega
theorem replayP_at (rs : List RecI) {i : Nat} (h : i < rs.length) (s : ByteArray) (ep : Int) : replayP s ep (rs.drop i) = if recordErr rs[i].1 rs[i].2 ≠ 0 then (ByteArray.empty, 0, recordErr rs[i].1 rs[i].2) else if rs[i].1 ≠ 0 then replayP s (max ep rs[i].1) (rs.drop (i + 1)) else if applyErr s rs[i].2 ≠ 0 then (ByteArray.empty, 0, applyErr s rs[i].2) else replayP (applyRes s rs[i].2) (max ep rs[i].1) (rs.drop (i + 1)) := by
  rw [List.drop_eq_getElem_cons h]
  rfl

set_option maxRecDepth 100000 in
set_option maxHeartbeats 2000000 in
theorem replay_any (rs : List RecI) (a : Option Addr) (c : Nat) (w : World) (h : RecsIn w a rs) (hl : rs.length ≤ 1048576) (hs : ∀ r ∈ rs, r.2.length ≤ 1048576 ∧ ∀ p ∈ r.2, p.text.size ≤ 1048576) (hT : Tabs w) :
    Calls Tryd.prog 15 #[.slice a rs.length c] w fun e w' => e = .returned (.tuple #[.string (replayP ByteArray.empty 0 rs).1, .int .i64 (replayP ByteArray.empty 0 rs).2.1, .int .i64 (replayP ByteArray.empty 0 rs).2.2]) ∧ Below w.heap.size w w' := by
  obtain ⟨R, hR⟩ : ∃ R, R = replayP ByteArray.empty 0 rs := ⟨_, rfl⟩
  rw [← hR]
  have HR : Hid (R = replayP ByteArray.empty 0 rs) := hR
  clear hR
  go_enter Tryd.func15, Tryd.ntmps15
  go_wp2_with fail
  go_loopg [5, 6, 14] rs.length (fun g sv ev iv wr => ∃ (i : Nat) (s : ByteArray) (ep : Int), i + g = rs.length ∧ iv = .int .i64 (i : Int) ∧ sv = .string s ∧ ev = .int .i64 ep ∧ Hid (R = replayP s ep (rs.drop i)) ∧ s.size ≤ 1048576 ∧ (0 ≤ ep ∧ ep ≤ 1048576) ∧ Below w.heap.size w wr)
  case atStart => exact ⟨0, ByteArray.empty, 0, by omega, rfl, rfl, rfl, by rw [List.drop_zero]; exact HR, by decide, by omega, Below.refl _ _⟩
  case round =>
    obtain ⟨i, s, ep, hi, rfl, rfl, rfl, HI, hss, hep, hb⟩ := hrel
    by_cases hlt : i < rs.length
    · have hiz : (i : Int) < (rs.length : Int) := by omega
      have hi0 : (0 : Int) ≤ (i : Int) := by omega
      have HJ : Hid (R = if recordErr rs[i].1 rs[i].2 ≠ 0 then (ByteArray.empty, 0, recordErr rs[i].1 rs[i].2) else if rs[i].1 ≠ 0 then replayP s (max ep rs[i].1) (rs.drop (i + 1)) else if applyErr s rs[i].2 ≠ 0 then (ByteArray.empty, 0, applyErr s rs[i].2) else replayP (applyRes s rs[i].2) (max ep rs[i].1) (rs.drop (i + 1))) := by
        show _ = _
        rw [HI.out]
        exact replayP_at rs hlt s ep
      clear HI
      have hsi := hs rs[i] (List.getElem_mem hlt)
      rcases h with h0 | ⟨b, off, rfl, hbl, hc⟩
      · subst h0; simp at hlt
      · obtain ⟨oa, oc, c0, c1, hop⟩ := hc i hlt
        replace c0 := (hb.cell (p := ⟨b, off + i * 2, none⟩) hbl).trans c0
        replace c1 := (hb.cell (p := ⟨b, off + i * 2 + 1, none⟩) hbl).trans c1
        clear hc
        generalize rs[i] = rc at *
        obtain ⟨n, ps⟩ := rc
        simp only at c0 c1 hop hsi HJ
        have hrb := heap_alloc_new wr (.cells #[.int .i64 n, .slice oa ps.length oc] 44)
        have hba := (Below.refl wr.heap.size wr).alloc (Nat.le_refl _) (.cells #[.int .i64 n, .slice oa ps.length oc] 44)
        have hb1 := below_two hb hba (Nat.le_refl _)
        have cK := checkRecord_any n ps oa oc _ (hop.below hb1) (by omega) (fun p hp => by have := hsi.2 p hp; omega) (hT.below hb1)
        obtain ⟨q0, ql0, _⟩ := blk hrb
        by_cases h1 : recordErr n ps = 0
        · rw [if_neg (by rw [h1]; simp)] at HJ
          rw [h1] at cK
          have hn := (recordErr_zero h1).1
          go_wp2_with fail
          refine cK.mono ?_
          generalize (wr.alloc (.cells #[.int .i64 n, .slice oa ps.length oc] 44)) = w1 at *
          rintro r w2 ⟨rfl, hb2⟩
          have hb3 := below_two hb1 hb2 (Nat.le_refl _)
          replace hrb := (hb2.block _ ql0).trans hrb
          clear cK q0 ql0 hb2
          obtain ⟨q0, ql0, _⟩ := blk hrb
          have hmx : 0 ≤ max ep n ∧ max ep n ≤ 1048576 := by omega
          by_cases h2 : n = 0
          · subst h2
            rw [if_neg (by simp)] at HJ
            have cA := apply_any s ps oa oc w2 hss (hop.below hb3) hsi.1 hsi.2 (hT.below hb3)
            have hme : max ep 0 = ep := by omega
            rw [hme] at HJ
            by_cases h3 : applyErr s ps = 0
            · rw [if_neg (by rw [h3]; simp)] at HJ
              have hsh := applyRes_short h3
              rw [h3] at cA
              generalize applyRes s ps = S at *
              clear h3 h1
              go_wp2_with fail
              refine cA.mono ?_
              rintro r w4 ⟨rfl, hb4⟩
              have hb5 := below_two hb3 hb4 (Nat.le_refl _)
              clear cA q0 ql0 hrb
              go_wp2_with fail
              go_roundg (rs.length - i - 1)
              case measure => omega
              case rel => exact ⟨i + 1, S, ep, by omega, by go_num, rfl, by go_num, HJ, hsh, by omega, hb5⟩
            · rw [if_pos h3] at HJ
              have hg : (applyErr s ps != 0) = true := by simpa using h3
              generalize applyErr s ps = E at *
              generalize applyRes s ps = S at *
              clear h1 h3
              go_wp2_with fail
              refine cA.mono ?_
              rintro r w4 ⟨rfl, hb4⟩
              go_wp2_with fail
              go_ret3
              exact ⟨by rw [HJ.out]; rfl, below_two hb3 hb4 (Nat.le_refl _)⟩
          · rw [if_pos h2] at HJ
            have hg : (n != 0) = true := by simpa using h2
            clear h1
            go_wp2_with fail
            go_roundg (rs.length - i - 1)
            case measure => omega
            case rel => exact ⟨i + 1, s, max ep n, by omega, by go_num, rfl, rfl, HJ, hss, hmx, hb3⟩
        · rw [if_pos h1] at HJ
          have hg : (recordErr n ps != 0) = true := by simpa using h1
          generalize recordErr n ps = E at *
          clear h1
          go_wp2_with fail
          refine cK.mono ?_
          rintro r w2 ⟨rfl, hb2⟩
          go_wp2_with fail
          go_ret3
          exact ⟨by rw [HJ.out]; rfl, below_two hb1 hb2 (Nat.le_refl _)⟩
    · have hiz : ¬ (i : Int) < (rs.length : Int) := by omega
      have HE : Hid (R = (s, ep, 0)) := by
        show _ = _
        rw [HI.out, List.drop_of_length_le (by omega)]
        rfl
      clear HI
      go_wp2_with fail
      go_ret3
      exact ⟨by rw [HE.out]; rfl, hb⟩

end Go.Proofs.YtbobeecagcmclaaDoor
