/-
  Walks: wherrylaw.sameActs, LinesReads.
-/
import Derived.Test.YtelindfmdakliaaDoorLineM
namespace Go.Proofs.YtelindfmdakliaaDoor
open Go.RowKit Go.Lib

set_option maxRecDepth 100000 in
set_option maxHeartbeats 2000000 in
theorem sameActs_true (K L : List ActK) (v u : Value) (w : World) (hK : InK actS w 0 v K) (hL : InK actS w 0 u L) (he : K.map (·.1) = L.map (·.1)) (hsm : ∀ x ∈ K, ActSmall x.1) (hn : K.length ≤ 3000) :
    Calls Tryd.prog 14 #[v, u] w fun e w' => e = .returned (.bool true) ∧ Below w.heap.size w w' := by
  have hlen : L.length = K.length := by have := congrArg List.length he; simpa using this.symm
  have hK0 := hK
  obtain ⟨la, lc, rfl, _⟩ := hK0.row
  have hL0 := hL
  obtain ⟨ma, mc, rfl, _⟩ := hL0.row
  clear hK0 hL0
  have hL' : InK actS w 0 (.slice ma L.length mc) L := hL
  rw [hlen]
  go_enter Tryd.func14, Tryd.ntmps14
  go_wp2_with fail
  go_loopg [5] K.length (fun g iv wr => ∃ i : Nat, i + g = K.length ∧ iv = .int .i64 (i : Int) ∧ Below w.heap.size w wr)
  case atStart => exact ⟨0, by omega, rfl, Below.refl _ _⟩
  case round =>
    obtain ⟨i, hi, rfl, HB⟩ := hrel
    by_cases hlt : i < K.length
    · have hiz : (i : Int) < (K.length : Int) := by omega
      have hi0 : (0 : Int) ≤ (i : Int) := by omega
      have hlt2 : i < L.length := by omega
      have hsame : K[i].1 = L[i].1 := by
        have h1 : (K.map (·.1))[i]'(by rw [List.length_map]; exact hlt) = K[i].1 := List.getElem_map _
        have h2 : (L.map (·.1))[i]'(by rw [List.length_map]; exact hlt2) = L[i].1 := List.getElem_map _
        rw [← h1, ← h2]
        simp only [he]
      obtain ⟨ab, off, ac, ev, hab, _, hcell⟩ := act_get hK hlt
      simp only [Value.slice.injEq] at ev
      obtain ⟨rfl, _, rfl⟩ := ev
      obtain ⟨bb, boff, bc, ev, hbb, _, hdell⟩ := act_get hL' hlt2
      simp only [Value.slice.injEq] at ev
      obtain ⟨rfl, _, rfl⟩ := ev
      have hx := hsm _ (List.getElem_mem hlt)
      have hop := (hK.each _ (List.getElem_mem hlt)).op
      have hop2 := (hL.each _ (List.getElem_mem hlt2)).op
      obtain ⟨x, hxe⟩ : ∃ x, x = K[i] := ⟨_, rfl⟩
      obtain ⟨y, hye⟩ : ∃ y, y = L[i] := ⟨_, rfl⟩
      rw [← hxe] at hcell hx hop hsame
      rw [← hye] at hdell hop2 hsame
      clear hxe hye
      obtain ⟨⟨kd, nd, tw, pk, kp, op, an, hd⟩, ov⟩ := x
      obtain ⟨y1, ou⟩ := y
      simp only at hsame
      subst hsame
      replace hop : OpVal w ov op := hop
      replace hop2 : OpVal w ou op := hop2
      obtain ⟨oa, oc, rfl, ho, _, _⟩ := hop.form
      obtain ⟨pa, pc, rfl, ho2, _, _⟩ := hop2.form
      have hox := hx.op.1
      simp only at ho ho2 hcell hdell hox
      have d0 := (HB.cell (p := ⟨ab, off + i * 8 + 0, none⟩) hab).trans (hcell 0 _ (by omega) rfl)
      have d1 := (HB.cell (p := ⟨ab, off + i * 8 + 1, none⟩) hab).trans (hcell 1 _ (by omega) rfl)
      have d2 := (HB.cell (p := ⟨ab, off + i * 8 + 2, none⟩) hab).trans (hcell 2 _ (by omega) rfl)
      have d3 := (HB.cell (p := ⟨ab, off + i * 8 + 3, none⟩) hab).trans (hcell 3 _ (by omega) rfl)
      have d4 := (HB.cell (p := ⟨ab, off + i * 8 + 4, none⟩) hab).trans (hcell 4 _ (by omega) rfl)
      have d5 := (HB.cell (p := ⟨ab, off + i * 8 + 5, none⟩) hab).trans (hcell 5 _ (by omega) rfl)
      have d6 := (HB.cell (p := ⟨ab, off + i * 8 + 6, none⟩) hab).trans (hcell 6 _ (by omega) rfl)
      have d7 := (HB.cell (p := ⟨ab, off + i * 8 + 7, none⟩) hab).trans (hcell 7 _ (by omega) rfl)
      have e0 := (HB.cell (p := ⟨bb, boff + i * 8 + 0, none⟩) hbb).trans (hdell 0 _ (by omega) rfl)
      have e1 := (HB.cell (p := ⟨bb, boff + i * 8 + 1, none⟩) hbb).trans (hdell 1 _ (by omega) rfl)
      have e2 := (HB.cell (p := ⟨bb, boff + i * 8 + 2, none⟩) hbb).trans (hdell 2 _ (by omega) rfl)
      have e3 := (HB.cell (p := ⟨bb, boff + i * 8 + 3, none⟩) hbb).trans (hdell 3 _ (by omega) rfl)
      have e4 := (HB.cell (p := ⟨bb, boff + i * 8 + 4, none⟩) hbb).trans (hdell 4 _ (by omega) rfl)
      have e5 := (HB.cell (p := ⟨bb, boff + i * 8 + 5, none⟩) hbb).trans (hdell 5 _ (by omega) rfl)
      have e6 := (HB.cell (p := ⟨bb, boff + i * 8 + 6, none⟩) hbb).trans (hdell 6 _ (by omega) rfl)
      have e7 := (HB.cell (p := ⟨bb, boff + i * 8 + 7, none⟩) hbb).trans (hdell 7 _ (by omega) rfl)
      rw [Nat.add_zero] at d0 e0
      have hbr := Nat.lt_of_lt_of_le hbb HB.size
      have hBx := (Below.refl wr.heap.size wr).alloc (Nat.le_refl _) (.cells #[.int .i64 kd, .int .i64 nd, .int .i64 tw, .int .i64 pk, .int .i64 kp, .slice oa op.length oc, .int .i64 an, .int .i64 hd] 29)
      have f0 := (hBx.cell (p := ⟨bb, boff + i * 8, none⟩) hbr).trans e0
      have f1 := (hBx.cell (p := ⟨bb, boff + i * 8 + 1, none⟩) hbr).trans e1
      have f2 := (hBx.cell (p := ⟨bb, boff + i * 8 + 2, none⟩) hbr).trans e2
      have f3 := (hBx.cell (p := ⟨bb, boff + i * 8 + 3, none⟩) hbr).trans e3
      have f4 := (hBx.cell (p := ⟨bb, boff + i * 8 + 4, none⟩) hbr).trans e4
      have f5 := (hBx.cell (p := ⟨bb, boff + i * 8 + 5, none⟩) hbr).trans e5
      have f6 := (hBx.cell (p := ⟨bb, boff + i * 8 + 6, none⟩) hbr).trans e6
      have f7 := (hBx.cell (p := ⟨bb, boff + i * 8 + 7, none⟩) hbr).trans e7
      have HBx := HB.alloc HB.size (.cells #[.int .i64 kd, .int .i64 nd, .int .i64 tw, .int .i64 pk, .int .i64 kp, .slice oa op.length oc, .int .i64 an, .int .i64 hd] 29)
      have HBy := HBx.alloc HBx.size (.cells #[.int .i64 kd, .int .i64 nd, .int .i64 tw, .int .i64 pk, .int .i64 kp, .slice pa op.length pc, .int .i64 an, .int .i64 hd] 29)
      clear e0 e1 e2 e3 e4 e5 e6 e7 hBx
      have cS := fun wx (hb : Below w.heap.size w wx) => sameOp_true op oa pa oc pc wx (ho.below hb) (ho2.below hb) (by omega)
      have HG : Hid (i + gk = K.length) := hi
      clear hcell hdell hop hop2 hK hL hL' hsm hi he
      go_wp2_with fail
      refine (cS _ HBy).mono ?_
      clear cS
      rintro e w3 ⟨rfl, hb3⟩
      have HB3 := below_two HBy hb3 (Nat.le_refl _)
      go_wp2_with fail
      go_roundg (gk - 1)
      case measure => have := HG.out; omega
      case rel => exact ⟨i + 1, by have := HG.out; omega, by go_num, HB3⟩
    · obtain rfl : i = K.length := by omega
      have hiz : ¬ (K.length : Int) < (K.length : Int) := by omega
      clear hK hL hL' hsm he
      go_wp2_with fail
      go_ret
      exact ⟨rfl, HB⟩

set_option maxRecDepth 100000 in
set_option maxHeartbeats 1000000 in
theorem linesReads_walk (l : List Int) (a : Option Addr) (c : Nat) (s : ByteArray) (w : World) (h : Ints w a l) (_hok : ∀ n ∈ l, -9223372036854775808 ≤ n ∧ n ≤ 9223372036854775807) (hl : l.length ≤ 9223372036854775807) (_hc : l.length ≤ c) (hs : s.size ≤ 1048576) (hT : RTabs w) :
    Calls Tryd.prog 5 #[.slice a l.length c, .string s] w fun e w' => e = .returned (.bool true) ∧ Below w.heap.size w w' := by
  have hsl : s.data.toList.length = s.size := by rw [Array.length_toList]; rfl
  obtain ⟨R, hR⟩ : ∃ R, R = readX l s.data.toList := ⟨_, rfl⟩
  have c1 := read_any l a c s w h hs hT R hR
  have c2 := fun wx (hb : Below w.heap.size w wx) => actsOf_any l a c s.data.toList wx (h.below hb) hl (by omega) (hT.l.tabs.below hb) R hR
  simp only [txt_same] at c2
  obtain ⟨A, n, E⟩ := R
  simp only at c1 c2
  clear h hT hR hsl _hok _hc
  go_enter Tryd.func5, Tryd.ntmps5
  go_wp2_with fail
  refine c1.mono ?_
  clear c1
  rintro e w1 ⟨⟨K, v, rfl, hK, hKm, hK3, hKs⟩, hb1⟩
  replace c2 := c2 w1 hb1
  obtain ⟨la, lc, rfl⟩ := own_form hK.row
  go_wp2_with fail
  refine c2.mono ?_
  clear c2
  rintro e w2 ⟨⟨L, u, rfl, hL, hLm, _, _⟩, hb2⟩
  obtain ⟨ma, mc, rfl⟩ := own_form hL.row
  have hK2 := (hK.below hb2).inK.base (Nat.zero_le _)
  have hL2 := hL.inK.base (Nat.zero_le _)
  have HB2 := below_two hb1 hb2 (Nat.le_refl _)
  have cS := sameActs_true K L _ _ w2 hK2 hL2 (hKm.trans hLm.symm) hKs hK3
  clear hK hL hK2 hL2 hKm hLm hKs hb1 hb2
  go_wp2_with fail
  refine cS.mono ?_
  clear cS
  rintro e w3 ⟨rfl, hb3⟩
  have HB3 := below_two HB2 hb3 (Nat.le_refl _)
  go_wp2_with fail
  go_ret
  exact ⟨by simp, HB3⟩

end Go.Proofs.YtelindfmdakliaaDoor
