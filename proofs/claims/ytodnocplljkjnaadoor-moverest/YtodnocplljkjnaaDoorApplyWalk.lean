/-
  Walks: text.checkApply, text.Apply.
-/
import Derived.Test.YtodnocplljkjnaaDoorCheck
import Derived.Test.YtodnocplljkjnaaDoorSplitWalk
import Derived.Test.YtodnocplljkjnaaDoorBuilderWalk
import Derived.Test.YtodnocplljkjnaaDoorPure
namespace Go.Proofs.YtodnocplljkjnaaDoor
open Go.RowKit Go.Lib

set_option maxHeartbeats 1000000 in
theorem checkApply_any (s : ByteArray) (ps : List Part) (a : Option Addr) (cap : Nat) (w : World) (hz : s.size ≤ 1048576) (hop : OpAt w a ps) (hn : ps.length ≤ 1048576) (hs : ∀ p ∈ ps, p.text.size ≤ 1048576) (hT : Tabs w) :
    Calls Tryd.prog 17 #[.string s, .slice a ps.length cap] w fun e w' => e = .returned (.int .i64 (applyErr s ps)) ∧ Below w.heap.size w w' := by
  have hs1 : ∀ p ∈ ps, p.text.size < 9223372036854775807 := fun p hp => by have := hs p hp; omega
  have c1 := checkText_any s w (by omega) hT
  by_cases h1 : textErr s = 0
  · by_cases h2 : opErr ps = 0
    · by_cases h3 : (lens ps).1 = ((runes s).length : Int)
      · have hE : applyErr s ps = 0 := by unfold applyErr; rw [if_neg (by omega), if_neg (by omega), if_neg (by omega)]
        rw [hE]
        clear hE
        rw [h1] at c1
        go_enter Tryd.func17, Tryd.ntmps17
        go_wp2_with fail
        refine c1.mono ?_
        rintro e w1 ⟨rfl, hb1⟩
        have c2 := check_any ps a cap w1 (hop.below hb1) (by omega) hs1 (hT.below hb1)
        rw [h2] at c2
        go_wp2_with fail
        refine c2.mono ?_
        rintro e w2 ⟨rfl, hb2⟩
        have hb12 := below_two hb1 hb2 (Nat.le_refl _)
        have c3 := lengths_any ps a cap w2 (hop.below hb12) (by omega) hs1
        have hrl := runes_le s
        generalize lens ps = L at *
        obtain ⟨f, t⟩ := L
        simp only at c3 h3
        clear h1 h2 c1 c2 hop hs hs1
        go_wp2_with fail
        refine c3.mono ?_
        rintro e w3 ⟨rfl, hb3⟩
        have g1 : (f != ((runes s).length : Int)) = false := by simpa using h3
        clear h3
        go_wp2_with (go_at_call 23; refine (count_any s w3 (by omega)).mono ?_; rintro e w4 ⟨rfl, hb4⟩)
        go_ret
        exact ⟨rfl, below_two (below_two hb12 hb3 (Nat.le_refl _)) hb4 (Nat.le_refl _)⟩
      · have hE : applyErr s ps = 10 := by unfold applyErr; rw [if_neg (by omega), if_neg (by omega), if_pos h3]
        rw [hE]
        clear hE
        rw [h1] at c1
        go_enter Tryd.func17, Tryd.ntmps17
        go_wp2_with fail
        refine c1.mono ?_
        rintro e w1 ⟨rfl, hb1⟩
        have c2 := check_any ps a cap w1 (hop.below hb1) (by omega) hs1 (hT.below hb1)
        rw [h2] at c2
        go_wp2_with fail
        refine c2.mono ?_
        rintro e w2 ⟨rfl, hb2⟩
        have hb12 := below_two hb1 hb2 (Nat.le_refl _)
        have c3 := lengths_any ps a cap w2 (hop.below hb12) (by omega) hs1
        have hrl := runes_le s
        generalize lens ps = L at *
        obtain ⟨f, t⟩ := L
        simp only at c3 h3
        clear h1 h2 c1 c2 hop hs hs1
        go_wp2_with fail
        refine c3.mono ?_
        rintro e w3 ⟨rfl, hb3⟩
        have g1 : (f != ((runes s).length : Int)) = true := by simpa using h3
        clear h3
        go_wp2_with (go_at_call 23; refine (count_any s w3 (by omega)).mono ?_; rintro e w4 ⟨rfl, hb4⟩)
        go_ret
        exact ⟨rfl, below_two (below_two hb12 hb3 (Nat.le_refl _)) hb4 (Nat.le_refl _)⟩
    · have hE : applyErr s ps = opErr ps := by unfold applyErr; rw [if_neg (by omega), if_pos h2]
      rw [hE]
      clear hE
      rw [h1] at c1
      have HC := fun w1 hb1 => check_any ps a cap w1 (hop.below hb1) (by omega) hs1 (hT.below (w' := w1) hb1)
      generalize opErr ps = E at *
      have g1 : (E != 0) = true := by simpa using h2
      go_enter Tryd.func17, Tryd.ntmps17
      go_wp2_with fail
      refine c1.mono ?_
      rintro e w1 ⟨rfl, hb1⟩
      have c2 := HC w1 hb1
      clear HC c1 h1 h2 hop hs hs1
      go_wp2_with fail
      refine c2.mono ?_
      rintro e w2 ⟨rfl, hb2⟩
      go_wp2
      go_ret
      exact ⟨rfl, below_two hb1 hb2 (Nat.le_refl _)⟩
  · have hE : applyErr s ps = textErr s := by unfold applyErr; rw [if_pos h1]
    rw [hE]
    clear hE
    generalize textErr s = E at *
    have g1 : (E != 0) = true := by simpa using h1
    clear h1 hs hs1
    go_enter Tryd.func17, Tryd.ntmps17
    go_wp2_with fail
    refine c1.mono ?_
    rintro e w1 ⟨rfl, hb1⟩
    go_wp2
    go_ret
    exact ⟨rfl, hb1⟩

set_option maxHeartbeats 2000000 in
theorem apply_any (s : ByteArray) (ps : List Part) (a : Option Addr) (cap : Nat) (w : World) (hz : s.size ≤ 1048576) (hop : OpAt w a ps) (hn : ps.length ≤ 1048576) (hs : ∀ p ∈ ps, p.text.size ≤ 1048576) (hT : Tabs w) :
    Calls Tryd.prog 10 #[.string s, .slice a ps.length cap] w fun e w' => e = .returned (.tuple #[.string (applyRes s ps), .int .i64 (applyErr s ps)]) ∧ Below w.heap.size w w' := by
  have c1 := checkApply_any s ps a cap w hz hop hn hs hT
  by_cases h0 : applyErr s ps = 0
  · have ha := applyErr_zero h0
    have hok := ha.ok
    have hR : applyRes s ps = str (applyS (runes s) (steps ps)) := by unfold applyRes; rw [if_neg (by omega)]
    rw [hR, h0]
    rw [h0] at c1
    clear hR h0
    have hcp := ha.valid.cp
    have hss : s = str (runes s) := ha.valid.str.symm
    have hcpr : ∀ r ∈ applyS (runes s) (steps ps), CP r := applyS_cp _ (steps_cp hok.chain.good) _ hcp
    obtain ⟨R, hR⟩ : ∃ R, R = applyS (runes s) (steps ps) := ⟨_, rfl⟩
    have HR : Hid (R = applyS (runes s) (steps ps)) := hR
    rw [← hR] at hcpr ⊢
    clear hR
    obtain ⟨rs, hrs⟩ : ∃ rs, rs = runes s := ⟨_, rfl⟩
    have HRS : Hid (R = applyS rs (steps ps)) := by rw [hrs]; exact HR
    rw [← hrs] at hss hcp
    have hlen : rs.length ≤ 4000 := by rw [hrs]; exact ha.short
    clear HR hrs ha
    subst hss
    go_enter Tryd.func10, Tryd.ntmps10
    go_wp2_with fail
    refine c1.mono ?_
    rintro e w1 ⟨rfl, hb1⟩
    clear c1
    have hRl : R.length ≤ 8000 := by rw [HRS.out]; exact Nat.le_trans (applyS_length _ _) hok.steps_le
    go_wp2
    go_loopw [0, 20] (fun sv i wr => ∃ (k : Nat) (acc rest : List Nat), k ≤ ps.length ∧ i = .int .i64 k ∧ sv = .string (str rest) ∧ (∀ r ∈ rest, CP r) ∧ rest.length ≤ 4000 ∧ Hid (R = acc ++ applyS rest (steps (ps.drop k))) ∧
      Lib.IsBuilder 64 5 w1.heap.size w1.heap.size (strCells (str acc)) wr ∧ Below w1.heap.size w1 wr) (fun _ i _ => ps.length - (RowKit.intOf i).toNat)
    case atStart => exact ⟨0, [], rs, Nat.zero_le _, rfl, rfl, hcp, hlen, HRS, builder_new w1, (Below.refl _ _).alloc (Nat.le_refl _) _⟩
    case round =>
      obtain ⟨k, acc, rest, hk, rfl, rfl, hcr, hrl, HA, hbd, hb⟩ := hrel
      have hacc : acc.length ≤ R.length := by rw [HA.out, List.length_append]; omega
      have hca : ∀ r ∈ acc, CP r := fun r hr => hcpr r (by rw [HA.out]; exact List.mem_append_left _ hr)
      have hsz := encs_le hca
      rw [← str_size] at hsz
      have hbc : (strCells (str acc)).length = (str acc).size := strCells_length _
      have hB : w1.heap.size ≤ wr.heap.size := hb.size
      by_cases hlt : k < ps.length
      · have hst := steps_drop ps k hlt
        have HST : Hid (steps (ps.drop k) = stepsOf ps[k] ++ steps (ps.drop (k + 1))) := hst
        clear hst
        have g := hok.chain.good _ (List.getElem_mem hlt)
        have hsk := hs _ (List.getElem_mem hlt)
        have hop1 := hop.below hb1
        rcases hop with rfl | ⟨b, off, rfl, hbs, hcell⟩
        · simp at hlt
        · obtain ⟨c0, c1, c2⟩ := hcell k hlt
          rw [← bcell hb1 _ _ hbs, ← bcell hb _ _ (Nat.lt_of_lt_of_le hbs hb1.size)] at c0 c1 c2
          clear hcell hs hop1
          generalize ps[k] = p at *
          obtain ⟨kd, n, tx⟩ := p
          simp only at c0 c1 c2 hsk
          have hkk := g.kind
          simp only at hkk
          rcases hkk with rfl | rfl | rfl
          · obtain ⟨h1, h2, _⟩ := g.count (by simp)
            simp only at h1 h2
            obtain ⟨q, rfl⟩ : ∃ q : Nat, n = q := ⟨n.toNat, by omega⟩
            have HS : Hid (R = (acc ++ rest.take q) ++ applyS (rest.drop q) (steps (ps.drop (k + 1)))) := by
              show R = _
              have e := HA.out
              rw [HST.out, stepsOf_keep rfl, Int.toNat_natCast, applyS_keep] at e
              rw [List.append_assoc]
              exact e
            have hct : ∀ r ∈ rest.take q, CP r := fun r hr => hcr r (List.mem_of_mem_take hr)
            have hst := encs_le hct
            rw [← str_size, List.length_take] at hst
            have hsr := encs_le hcr
            rw [← str_size] at hsr
            have cS := fun w' => split_any rest q w' hcr (by omega) (by omega)
            go_wp2_with fail
            refine (cS _).mono ?_
            rintro e w2 ⟨rfl, hb2⟩
            have hbd2 := builder_below (builder_below hbd ((Below.refl _ _).alloc (Nat.le_refl _) _)) hb2
            have sz2 : w1.heap.size ≤ w2.heap.size := by have := hb2.size; simp at this; omega
            go_wp2_with fail
            refine (writeString_any w1.heap.size w1.heap.size _ (str (rest.take q)) w2 hbd2 (by omega) sz2).mono ?_
            rintro e w3 ⟨rfl, hbd3, hb3⟩
            rw [← strCells_append, ← str_append] at hbd3
            go_wp2
            go_roundw
            case rel => exact ⟨k + 1, acc ++ rest.take q, rest.drop q, hlt, by go_num, rfl, fun r hr => hcr r (List.mem_of_mem_drop hr), by rw [List.length_drop]; omega, HS, hbd3, ((hb.alloc hB _).trans (hb2.mono (by simp; omega))).trans hb3⟩
            case measure => simp [RowKit.intOf]; omega
          · obtain ⟨_, hv, _, _⟩ := g.text rfl
            simp only at hv
            have hvc := hv.cp
            have HS : Hid (R = (acc ++ runes tx) ++ applyS rest (steps (ps.drop (k + 1)))) := by
              show R = _
              have e := HA.out
              rw [HST.out, stepsOf_ins rfl, applyS_ins] at e
              rw [List.append_assoc]
              exact e
            have hstx := hv.str
            have sz2 : w1.heap.size ≤ (wr.alloc (.cells #[.int .i64 2, .int .i64 n, .string tx] 33)).heap.size := by simp; omega
            have cW := writeString_any w1.heap.size w1.heap.size _ tx (wr.alloc (.cells #[.int .i64 2, .int .i64 n, .string tx] 33)) (builder_below hbd ((Below.refl _ _).alloc (Nat.le_refl _) _)) (by omega) sz2
            rw [← strCells_append] at cW
            have HTX : Hid (str (runes tx) = tx) := hstx
            clear hstx
            go_wp2_with (go_at_call 19; refine cW.mono ?_; rintro e w3 ⟨rfl, hbd3, hb3⟩)
            go_roundw
            case rel =>
              refine ⟨k + 1, acc ++ runes tx, rest, hlt, by go_num, rfl, hcr, hrl, HS, ?_, (hb.alloc hB _).trans hb3⟩
              rw [str_append, HTX.out]
              exact hbd3
            case measure => simp [RowKit.intOf]; omega
          · obtain ⟨h1, h2, _⟩ := g.count (by simp)
            simp only at h1 h2
            obtain ⟨q, rfl⟩ : ∃ q : Nat, n = q := ⟨n.toNat, by omega⟩
            have HS : Hid (R = acc ++ applyS (rest.drop q) (steps (ps.drop (k + 1)))) := by
              show R = _
              have e := HA.out
              rw [HST.out, stepsOf_del rfl, Int.toNat_natCast, applyS_del] at e
              exact e
            have hsr := encs_le hcr
            rw [← str_size] at hsr
            have cS := split_any rest q (wr.alloc (.cells #[.int .i64 3, .int .i64 (q : Int), .string tx] 33)) hcr (by omega) (by omega)
            go_wp2_with (go_at_call 18; refine cS.mono ?_; rintro e w2 ⟨rfl, hb2⟩)
            go_roundw
            case rel => exact ⟨k + 1, acc, rest.drop q, hlt, by go_num, rfl, fun r hr => hcr r (List.mem_of_mem_drop hr), by rw [List.length_drop]; omega, HS, builder_below (builder_below hbd ((Below.refl _ _).alloc (Nat.le_refl _) _)) hb2, (hb.alloc hB _).trans (hb2.mono (by simp; omega))⟩
            case measure => simp [RowKit.intOf]; omega
      · obtain rfl : k = ps.length := by omega
        have hfin : R = acc := by rw [HA.out, List.drop_of_length_le (Nat.le_refl _)]; simp [steps, applyS]
        have HF : Hid (R = acc) := hfin
        clear hfin
        have cW := string_any w1.heap.size w1.heap.size (str acc) wr hbd hB
        go_wp2_with (go_at_call 20; refine cW.mono ?_; rintro e w3 ⟨rfl, hb3⟩)
        go_ret2
        rw [HF.out]
        exact ⟨rfl, hb1.trans ((hb.trans hb3).mono hb1.size)⟩
  · have hR : applyRes s ps = ByteArray.empty := by unfold applyRes; rw [if_pos h0]
    rw [hR]
    generalize applyErr s ps = E at *
    have g1 : (E != 0) = true := by simpa using h0
    clear h0 hR hs
    go_enter Tryd.func10, Tryd.ntmps10
    go_wp2_with fail
    refine c1.mono ?_
    rintro e w1 ⟨rfl, hb1⟩
    go_wp2
    go_ret2
    exact ⟨rfl, hb1⟩

end Go.Proofs.YtodnocplljkjnaaDoor
