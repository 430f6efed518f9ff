/-
  Walk: text.Invert.
-/
import Derived.Test.YtepehgjdepioeaaDoorApplyWalk
import Derived.Test.YtepehgjdepioeaaDoorPenWalk
import Derived.Test.YtepehgjdepioeaaDoorPure
namespace Go.Proofs.YtepehgjdepioeaaDoor
open Go.RowKit Go.Lib

theorem pen_new' (w : World) : PenL (w.alloc (.cells #[.slice none 0 0, .slice none 0 0, .int .i64 0] 81)) w.heap.size w.heap.size (.slice none 0 0) (.slice none 0 0) [] :=
  ⟨Nat.le_refl _, heap_alloc_new w _, World.ownsRow_nil _ _ _ _, World.ownsRow_nil _ _ _ _⟩

theorem invS_length (l : List Step) : ∀ rs, (invS rs l).length = l.length := by
  induction l with
  | nil => intro rs; rfl
  | cons s l ih =>
    intro rs
    unfold invS
    split
    · simp [ih]
    · split <;> simp [ih]

set_option maxRecDepth 100000 in
set_option maxHeartbeats 2000000 in
theorem invert_any (s : ByteArray) (ps : List Part) (a : Option Addr) (cap : Nat) (w : World) (hz : s.size ≤ 1048576) (hop : OpAt w a ps) (hn : ps.length ≤ 1048576) (hs : ∀ p ∈ ps, p.text.size ≤ 1048576) (hT : Tabs w) :
    Calls Tryd.prog 22 #[.string s, .slice a ps.length cap] w fun e w' => ∃ v, e = .returned (.tuple #[v, .int .i64 (applyErr s ps)]) ∧ w'.ownsRow w.heap.size 42 3 v (invertRes s ps).length (partCells (invertRes s ps)) ∧ Below w.heap.size w w' := by
  have c1 := checkApply_any s ps a cap w hz hop hn hs hT
  by_cases h0 : applyErr s ps = 0
  · have ha := applyErr_zero h0
    have hok := ha.ok
    have hR : invertRes s ps = group (invS (runes s) (steps ps)) := by unfold invertRes; rw [if_neg (by omega)]
    rw [hR, h0]
    rw [h0] at c1
    clear hR h0
    have hcp := ha.valid.cp
    have hss : s = str (runes s) := ha.valid.str.symm
    obtain ⟨R, hR⟩ : ∃ R, R = invS (runes s) (steps ps) := ⟨_, rfl⟩
    rw [← hR]
    have hRl : R.length ≤ 8000 := by rw [hR, invS_length]; exact hok.steps_le
    obtain ⟨rs, hrs⟩ : ∃ rs, rs = runes s := ⟨_, rfl⟩
    have HRS : Hid (R = invS rs (steps ps)) := by rw [hrs]; exact hR
    have hfit : fromN ps = rs.length := by rw [hrs]; exact ha.fits
    rw [← hrs] at hss hcp
    have hlen : rs.length ≤ 4000 := by rw [hrs]; exact ha.short
    have HO : Hid (fromN (ps.drop 0) = rs.length) := hfit
    clear hR hrs ha hfit
    subst hss
    go_enter Tryd.func22, Tryd.ntmps22
    go_wp2_with fail
    refine c1.mono ?_
    rintro e w1 ⟨rfl, hb1⟩
    clear c1
    go_wp2
    go_loopw [0, 20] (fun sv i wr => ∃ (k : Nat) (acc : List Step) (rest : List Nat) (dv iv : Value), k ≤ ps.length ∧ i = .int .i64 k ∧ sv = .string (str rest) ∧ (∀ r ∈ rest, CP r) ∧ rest.length ≤ 4000 ∧ Hid (R = acc ++ invS rest (steps (ps.drop k))) ∧ Hid (fromN (ps.drop k) = rest.length) ∧
      PenL wr w1.heap.size w1.heap.size dv iv acc ∧ Below w1.heap.size w1 wr) (fun _ i _ => ps.length - (RowKit.intOf i).toNat)
    case atStart => exact ⟨0, [], rs, _, _, Nat.zero_le _, rfl, rfl, hcp, hlen, HRS, HO, pen_new' w1, (Below.refl _ _).alloc (Nat.le_refl _) _⟩
    case round =>
      obtain ⟨k, acc, rest, dv, iv, hk, rfl, rfl, hcr, hrl, HA, HF, hpen, hb⟩ := hrel
      have hacc : acc.length ≤ R.length := by rw [HA.out, List.length_append]; omega
      have hB : w1.heap.size ≤ wr.heap.size := hb.size
      have hsr := encs_le hcr
      rw [← str_size] at hsr
      by_cases hlt : k < ps.length
      · have HST : Hid (steps (ps.drop k) = stepsOf ps[k] ++ steps (ps.drop (k + 1))) := steps_drop ps k hlt
        have HFT : Hid (fromN (ps.drop k) = (if ps[k].kind = 2 then 0 else ps[k].n.toNat) + fromN (ps.drop (k + 1))) := by
          show _ = _
          rw [List.drop_eq_getElem_cons hlt]
          rfl
        have g := hok.chain.good _ (List.getElem_mem hlt)
        have hsk := hs _ (List.getElem_mem hlt)
        rcases hop with rfl | ⟨b, off, rfl, hbs, hcell⟩
        · simp at hlt
        · obtain ⟨c0, c1, c2⟩ := hcell k hlt
          rw [← bcell hb1 _ _ hbs, ← bcell hb _ _ (Nat.lt_of_lt_of_le hbs hb1.size)] at c0 c1 c2
          clear hcell hs
          generalize ps[k] = p at *
          obtain ⟨kd, n, tx⟩ := p
          simp only at c0 c1 c2 hsk
          have hkk := g.kind
          simp only at hkk
          rcases hkk with rfl | rfl | rfl
          · obtain ⟨h1, h2, h3⟩ := g.count (by simp)
            simp only at h1 h2 h3
            subst h3
            obtain ⟨q, rfl⟩ : ∃ q : Nat, n = q := ⟨n.toNat, by omega⟩
            have HS : Hid (R = (acc ++ List.replicate q ((1 : Int), (0 : Int))) ++ invS (rest.drop q) (steps (ps.drop (k + 1)))) := by
              show R = _
              have e := HA.out
              rw [HST.out, stepsOf_keep rfl, Int.toNat_natCast, invS_keep] at e
              rw [List.append_assoc]
              exact e
            have HF2 : Hid (fromN (ps.drop (k + 1)) = (rest.drop q).length) := by
              show _ = _
              have e := HFT.out
              rw [HF.out] at e
              simp only at e
              rw [if_neg (by decide), Int.toNat_natCast] at e
              rw [List.length_drop]
              omega
            have hpen1 := penL_below hpen ((Below.refl wr.heap.size wr).alloc (Nat.le_refl _) (.cells #[.int .i64 1, .int .i64 (q : Int), .string .empty] 42))
            have sz1 : w1.heap.size ≤ (wr.alloc (.cells #[.int .i64 1, .int .i64 (q : Int), .string .empty] 42)).heap.size := by simp; omega
            have cK := keepL _ w1.heap.size w1.heap.size dv iv acc q hpen1 sz1 (by omega) (by omega) (by omega)
            go_wp2_with fail
            refine cK.mono ?_
            rintro e w2 ⟨rfl, dv2, iv2, hpen2, hst2⟩
            have b2 : Below w1.heap.size w1 w2 := (hb.alloc hB _).trans (pen_below hst2 hpen1 sz1)
            have k1 : w2.cell? ⟨wr.heap.size, 1, none⟩ = some (.int .i64 (q : Int)) := by
              rw [World.cell?_of_block (a := ⟨wr.heap.size, 1, none⟩) (hst2.chg.block wr.heap.size (by simp) (fun hF => by have := (PenAt.F_lt hpen _ hF).2; omega))]
              simp
            clear c0 c1 c2 cK
            go_wp2_with fail
            refine (split_any rest q w2 hcr (by omega) (by omega)).mono ?_
            rintro e w3 ⟨rfl, hb3⟩
            go_wp2
            go_roundw
            case rel => exact ⟨k + 1, _, rest.drop q, dv2, iv2, hlt, by go_num, rfl, fun r hr => hcr r (List.mem_of_mem_drop hr), by rw [List.length_drop]; omega, HS, HF2, penL_below hpen2 hb3, b2.trans (hb3.mono b2.size)⟩
            case measure => simp [RowKit.intOf]; omega
          · obtain ⟨h1, hv, hvl, _⟩ := g.text rfl
            simp only at h1 hv hvl
            subst h1
            have HS : Hid (R = (acc ++ List.replicate (runes tx).length ((3 : Int), (0 : Int))) ++ invS rest (steps (ps.drop (k + 1)))) := by
              show R = _
              have e := HA.out
              rw [HST.out, stepsOf_ins rfl, invS_ins] at e
              rw [List.append_assoc]
              exact e
            have HF2 : Hid (fromN (ps.drop (k + 1)) = rest.length) := by
              show _ = _
              have e := HFT.out
              rw [HF.out] at e
              simp only at e
              rw [if_pos trivial] at e
              omega
            have hpen1 := penL_below hpen ((Below.refl wr.heap.size wr).alloc (Nat.le_refl _) (.cells #[.int .i64 2, .int .i64 0, .string tx] 42))
            have cC := count_any tx (wr.alloc (.cells #[.int .i64 2, .int .i64 0, .string tx] 42)) (by omega)
            go_wp2_with fail
            refine cC.mono ?_
            rintro e w2 ⟨rfl, hb2⟩
            have hpen2 := penL_below hpen1 hb2
            have b2 : Below w1.heap.size w1 w2 := (hb.alloc hB _).trans (hb2.mono (by simp; omega))
            have cK := removeL w2 w1.heap.size w1.heap.size dv iv acc (runes tx).length hpen2 (by omega) (by omega)
            clear c0 c1 c2 cC
            go_wp2_with (go_at_call 43; refine cK.mono ?_; rintro e w3 ⟨rfl, hpen3, hst3⟩)
            go_roundw
            case rel => exact ⟨k + 1, _, rest, dv, iv, hlt, by go_num, rfl, hcr, hrl, HS, HF2, hpen3, b2.trans (pen_below hst3 hpen2 b2.size)⟩
            case measure => simp [RowKit.intOf]; omega
          · obtain ⟨h1, h2, h3⟩ := g.count (by simp)
            simp only at h1 h2 h3
            subst h3
            obtain ⟨q, rfl⟩ : ∃ q : Nat, n = q := ⟨n.toNat, by omega⟩
            have hq : fromN (ps.drop (k + 1)) + q = rest.length := by
              have e := HFT.out
              rw [HF.out] at e
              simp only at e
              rw [if_neg (by decide), Int.toNat_natCast] at e
              omega
            have HS : Hid (R = (acc ++ (rest.take q).map (fun r : Nat => ((2 : Int), (r : Int)))) ++ invS (rest.drop q) (steps (ps.drop (k + 1)))) := by
              show R = _
              have e := HA.out
              rw [HST.out, stepsOf_del rfl, Int.toNat_natCast, invS_del _ _ _ (by omega)] at e
              rw [List.append_assoc]
              exact e
            have HF2 : Hid (fromN (ps.drop (k + 1)) = (rest.drop q).length) := by
              show _ = _
              rw [List.length_drop]
              omega
            clear hq
            have hct : ∀ r ∈ rest.take q, CP r := fun r hr => hcr r (List.mem_of_mem_take hr)
            have hst := encs_le hct
            rw [← str_size, List.length_take] at hst
            have hpen1 := penL_below hpen ((Below.refl wr.heap.size wr).alloc (Nat.le_refl _) (.cells #[.int .i64 3, .int .i64 (q : Int), .string .empty] 42))
            have cS := split_any rest q (wr.alloc (.cells #[.int .i64 3, .int .i64 (q : Int), .string .empty] 42)) hcr (by omega) (by omega)
            go_wp2_with fail
            refine cS.mono ?_
            rintro e w2 ⟨rfl, hb2⟩
            have hpen2 := penL_below hpen1 hb2
            have b2 : Below w1.heap.size w1 w2 := (hb.alloc hB _).trans (hb2.mono (by simp; omega))
            have cK := insertL w2 w1.heap.size w1.heap.size dv iv acc (rest.take q) hpen2 b2.size (by omega) (by omega)
            clear c0 c1 c2 cS
            go_wp2_with (go_at_call 42; refine cK.mono ?_; rintro e w3 ⟨rfl, iv3, hpen3, hst3⟩)
            go_roundw
            case rel => exact ⟨k + 1, _, rest.drop q, dv, iv3, hlt, by go_num, rfl, fun r hr => hcr r (List.mem_of_mem_drop hr), by rw [List.length_drop]; omega, HS, HF2, hpen3, b2.trans (pen_below hst3 hpen2 b2.size)⟩
            case measure => simp [RowKit.intOf]; omega
      · obtain rfl : k = ps.length := by omega
        have hfin : R = acc := by rw [HA.out, List.drop_of_length_le (Nat.le_refl _)]; simp [steps, invS]
        subst hfin
        have cW := opL wr w1.heap.size w1.heap.size dv iv R hpen hB (by omega)
        go_wp2_with fail
        refine cW.mono ?_
        rintro e w3 ⟨dv3, iv3, rfl, hp3, hst3⟩
        have b3 := hb.trans (pen_below hst3 hpen hB)
        obtain ⟨D, hD⟩ : ∃ D, D = group R := ⟨_, rfl⟩
        rw [← hD] at hp3
        have HD : Hid (D = group R) := hD
        clear hD
        obtain ⟨da, dc, rfl⟩ := own_form hp3.own
        simp only at hp3
        go_wp2
        go_ret2
        refine ⟨_, rfl, ?_, hb1.trans (b3.mono hb1.size)⟩
        rw [← HD.out]
        exact own_base hp3.own hb1.size
  · have hR : invertRes s ps = [] := by unfold invertRes; rw [if_pos h0]
    rw [hR]
    generalize applyErr s ps = E at *
    have g1 : (E != 0) = true := by simpa using h0
    clear h0 hR hs
    go_enter Tryd.func22, Tryd.ntmps22
    go_wp2_with fail
    refine c1.mono ?_
    rintro e w1 ⟨rfl, hb1⟩
    go_wp2
    go_ret2
    exact ⟨_, rfl, World.ownsRow_nil _ _ _ _, hb1⟩

end Go.Proofs.YtepehgjdepioeaaDoor
