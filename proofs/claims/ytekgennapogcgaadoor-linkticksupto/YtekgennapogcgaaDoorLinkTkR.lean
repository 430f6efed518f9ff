/-
  Walk: wherryref.LinkTicked.
-/
import Derived.Test.YtekgennapogcgaaDoorLinkAt
import Derived.Test.YtekgennapogcgaaDoorLinkTick
import Derived.Test.YtekgennapogcgaaDoorLinkMayR
namespace Go.Proofs.YtekgennapogcgaaDoor
open Go.RowKit Go.Lib

set_option maxRecDepth 100000 in
set_option maxHeartbeats 4000000 in
theorem linkTicked_ok {B : Nat} (ep nx hd : Int) (S Q : List FrK) (sv qv : Value) (w : World) (hS : InK frS w B sv S) (hQ : InK frS w B qv Q) (fS : ∀ x ∈ S, FrSmall x.1) (fQ : ∀ x ∈ Q, FrSmall x.1) (lS : S.length ≤ 1048577) (lQ : Q.length ≤ 1048577) (hT : Tabs w) (herr : linkErr (mkL ep nx hd S Q) = 0) :
    Calls Tryd.prog 46 #[.agg #[.int .i64 ep, .int .i64 nx, sv, qv, .int .i64 hd]] w fun r w' => ∃ pv, r = .returned (.tuple #[pv, .int .i64 0]) ∧ TickOk w' w.heap.size pv (tickL (mkL ep nx hd S Q)) ∧ Below w.heap.size w w' := by
  obtain ⟨p0, hp0, hpz0, hpz1, hpz2⟩ := info_parts info_pk
  obtain ⟨k1, k2, k3, k4, k5, k6, k7⟩ := linkOk herr
  have cM := fun w1 (hb : Below w.heap.size w w1) => linkMay_any ep nx hd S Q sv qv w1 (hS.below hb) (hQ.below hb) fS fQ lS lQ (hT.below hb)
  rw [decide_eq_true herr] at cM
  have cA := fun (i : Nat) (hi : i < S.length) (qa : Option Addr) (qn qc : Nat) w1 (hb : Below w.heap.size w w1) => packetAt_any ep nx hd S sv qa qn qc i w1 (hS.below hb) hi (fun x hx => (fS x hx).op.1) ⟨by omega, k3.2⟩
  obtain ⟨sa, sc, rfl, _⟩ := hS.row
  obtain ⟨qa, qc, rfl, _⟩ := hQ.row
  have hb0 := (Below.refl w.heap.size w).alloc (Nat.le_refl _) (.cells #[.int .i64 ep, .int .i64 nx, .slice sa S.length sc, .slice qa Q.length qc, .int .i64 hd] 74)
  have hl := heap_alloc_new w (.cells #[.int .i64 ep, .int .i64 nx, .slice sa S.length sc, .slice qa Q.length qc, .int .i64 hd] 74)
  obtain ⟨RT, hRT⟩ : ∃ RT, RT = tickL (mkL ep nx hd S Q) := ⟨_, rfl⟩
  rw [← hRT]
  have HRT : Hid (RT = if ep = 0 then [] else if S.length = 0 then [⟨ep, 0, true, hd, fr0⟩] else packs ep hd (nx - S.length) (S.map (·.1))) := by
    show _ = _
    rw [hRT]
    unfold tickL
    have e2 : (mkL ep nx hd S Q).sent.length = S.length := by simp [mkL]
    rw [e2]
    rfl
  have HK : Hid ((0 ≤ ep ∧ ep ≤ 1048576) ∧ S.length ≤ 8 ∧ (ep = 0 → S.length = 0 ∧ hd = 0)) := ⟨k1, k4, k7⟩
  obtain ⟨l0, ll0, _⟩ := blk hl
  have cM1 := cM _ hb0
  clear cM hS hQ fS fQ hT herr hRT k1 k2 k3 k4 k5 k6 k7
  go_enter Tryd.func46, Tryd.ntmps46
  go_wp2_with fail
  refine cM1.mono ?_
  generalize (w.alloc (.cells #[.int .i64 ep, .int .i64 nx, .slice sa S.length sc, .slice qa Q.length qc, .int .i64 hd] 74)) = w0 at *
  rintro r w1 ⟨rfl, hb1⟩
  have HB1 := below_two hb0 hb1 (Nat.le_refl _)
  replace hl := (hb1.block _ ll0).trans hl
  clear l0 ll0 cM1 hb1
  go_wp2_with fail
  go_loopg [4, 5] S.length (fun g ov iv wr => ∃ (i : Nat) (P : List PkK), i + g = S.length ∧ iv = .int .i64 (i : Int) ∧ wr.heap[w.heap.size]? = some (Obj.cells #[.int .i64 ep, .int .i64 nx, .slice sa S.length sc, .slice qa Q.length qc, .int .i64 hd] 74 (0, 0)) ∧ RowK pkS wr w1.heap.size ov P ∧ (P.length ≤ i ∧ i ≤ P.length) ∧ Hid (P.map (·.1) = packs ep hd (nx - S.length) ((S.take i).map (·.1))) ∧ Below w.heap.size w wr ∧ w1.heap.size ≤ wr.heap.size)
  case atStart => exact ⟨0, [], by omega, rfl, hl, rowK_nil _ _ _, ⟨Nat.le_refl _, Nat.le_refl _⟩, rfl, HB1, Nat.le_refl _⟩
  case round =>
    clear hl
    obtain ⟨i, P, hi, rfl, hl, hP, hPl, HP, hb, hz1⟩ := hrel
    obtain ⟨oa, oc, rfl⟩ := own_form hP.row
    obtain ⟨l0, ll0, _⟩ := blk hl
    by_cases hlt : i < S.length
    · have hiz : (i : Int) < (S.length : Int) := by omega
      have cF := cA i hlt qa Q.length qc wr hb
      have HT : Hid ((S.take (i + 1)).map (·.1) = (S.take i).map (·.1) ++ [S[i].1]) := by show _ = _; rw [List.take_succ_eq_append_getElem hlt, List.map_append]; rfl
      have HSi : Hid (i < S.length) := hlt
      generalize S[i] = x at *
      obtain ⟨f, u⟩ := x
      simp only at cF HT
      clear cA
      go_wp2_with fail
      refine cF.mono ?_
      rintro r w2 ⟨xu, rfl, hox, hb2⟩
      obtain ⟨xa, xc, rfl⟩ := own_form hox
      have hbA := (Below.refl w2.heap.size w2).alloc (Nat.le_refl _) (.cells #[.int .i64 ep, .int .i64 (nx - (S.length : Int) + (i : Int)), .bool false, .int .i64 hd, .int .i64 f.kind, .int .i64 f.heard, .int .i64 f.epoch, .slice xa f.op.length xc, .string f.text] 88)
      have hf1 := heap_alloc_new w2 (.cells #[.int .i64 ep, .int .i64 (nx - (S.length : Int) + (i : Int)), .bool false, .int .i64 hd, .int .i64 f.kind, .int .i64 f.heard, .int .i64 f.epoch, .slice xa f.op.length xc, .string f.text] 88)
      have hb3 := below_two (below_two hb hb2 (Nat.le_refl _)) hbA (Nat.le_refl _)
      have hP2 := (hP.below hb2).below hbA
      have hl3 := row_old ((hb2.block _ ll0).trans hl) (.cells #[.int .i64 ep, .int .i64 (nx - (S.length : Int) + (i : Int)), .bool false, .int .i64 hd, .int .i64 f.kind, .int .i64 f.heard, .int .i64 f.epoch, .slice xa f.op.length xc, .string f.text] 88)
      have ho2 := own_base (own_below hox hbA) hz1
      have hrw : (w2.alloc (.cells #[.int .i64 ep, .int .i64 (nx - (S.length : Int) + (i : Int)), .bool false, .int .i64 hd, .int .i64 f.kind, .int .i64 f.heard, .int .i64 f.epoch, .slice xa f.op.length xc, .string f.text] 88)).ownsRow w1.heap.size 88 9 (.slice oa P.length oc) P.length (pkS.all P) := hP2.row
      have hz2 := hb2.size
      have hK8 := HK.out.2.1
      obtain ⟨f0, fl0, _⟩ := blk hf1
      clear cF l0 ll0 hl
      go_wp2_with (at_builtin; refine wpList_append_lies _ rfl _ _ 80 rfl w1.heap.size 88 p0 (.agg #[.int .i64 0, .int .i64 0, .bool false, .int .i64 0, .int .i64 0, .int .i64 0, .int .i64 0, .slice none 0 0, .string .empty]) 9 96 Tryd.underlying80 hp0 hpz0 hpz1 hpz2 rfl (by decide) _ _ _ rfl (hrw.alloc _) ⟨w2.heap.size + 1, 0, none⟩ 1 1 [.int .i64 ep, .int .i64 (nx - (S.length : Int) + (i : Int)), .bool false, .int .i64 hd, .int .i64 f.kind, .int .i64 f.heard, .int .i64 f.epoch, .slice xa f.op.length xc, .string f.text] rfl rfl (by have hq := World.news_of_block (cs := #[.int .i64 ep, .int .i64 (nx - (S.length : Int) + (i : Int)), .bool false, .int .i64 hd, .int .i64 f.kind, .int .i64 f.heard, .int .i64 f.epoch, .slice xa f.op.length xc, .string f.text]) (t := 88) (fr := (0, 0)) (heap_alloc_new (w2.alloc (.cells #[.int .i64 ep, .int .i64 (nx - (S.length : Int) + (i : Int)), .bool false, .int .i64 hd, .int .i64 f.kind, .int .i64 f.heard, .int .i64 f.epoch, .slice xa f.op.length xc, .string f.text] 88)) _); rw [show (w2.alloc (.cells #[.int .i64 ep, .int .i64 (nx - (S.length : Int) + (i : Int)), .bool false, .int .i64 hd, .int .i64 f.kind, .int .i64 f.heard, .int .i64 f.epoch, .slice xa f.op.length xc, .string f.text] 88)).heap.size = w2.heap.size + 1 by simp] at hq; exact hq) (by simp [Value.oneCell']) (by decide) (by unfold maxLen; omega) (by omega) (by simp; omega) _ rfl ?_; intro g1 cap1 w3 hown3 hgr3 hat3 hlt3)
      have hP3 := RowK.app (x := ((⟨ep, nx - (S.length : Int) + (i : Int), false, hd, f⟩, Value.slice xa f.op.length xc) : PkK)) hP2 ho2 hown3 hgr3
      have hb4 : Below w.heap.size w w3 := (hb3.alloc hb3.size _).grown hgr3 (by have := hb3.size; simp at this ⊢; omega) (fun k e => by have := (hrw.lt k e).1; have := HB1.size; omega)
      have hl4 := row_kept (hrw.alloc _) (row_old hl3 _) (by decide) hgr3
      have hz3 : w1.heap.size ≤ w3.heap.size := by have := hgr3.size; simp at this; omega
      have HP3 : Hid ((P ++ [((⟨ep, nx - (S.length : Int) + (i : Int), false, hd, f⟩, Value.slice xa f.op.length xc) : PkK)]).map (·.1) = packs ep hd (nx - S.length) ((S.take (i + 1)).map (·.1))) := by
        show _ = _
        rw [HT.out, List.map_append, packs_append, ← HP.out, List.length_map, List.length_take, Nat.min_eq_left (Nat.le_of_lt HSi.out)]
        rfl
      go_roundg (S.length - i - 1)
      case measure => omega
      case rel => exact ⟨i + 1, _, by omega, by go_num, hl4, hP3, by simp; omega, HP3, hb4, hz3⟩
    · have hiz : ¬ (i : Int) < (S.length : Int) := by omega
      have HP9 : Hid (P.map (·.1) = packs ep hd (nx - S.length) (S.map (·.1))) := by show _ = _; rw [HP.out, List.take_of_length_le (by omega)]
      have hk := HK.out
      have hB1 := HB1.size
      by_cases hz : S.length = 0
      · by_cases he : ep = 0
        · have HR : Hid (RT = []) := by show _ = _; rw [HRT.out, if_pos he]
          have hP0 : P = [] := List.length_eq_zero_iff.1 (by omega)
          subst hP0
          have HTK : Hid (TickOk wr w.heap.size (.slice oa 0 oc) RT) := ⟨[], hP.base hB1, by rw [HR.out]; rfl⟩
          have g1 : ((S.length : Int) == 0) = true := by simp; exact List.length_eq_zero_iff.1 hz
          have g2 : ¬ 0 < ep := by omega
          clear HRT HP HP9 hP he hz hk cA hPl HK hiz
          simp only [List.length_nil]
          generalize S.length = sn at *
          go_wp2_with fail
          go_ret2
          exact ⟨_, rfl, HTK, hb⟩
        · have HR : Hid (RT = [⟨ep, 0, true, hd, fr0⟩]) := by show _ = _; rw [HRT.out, if_neg he, if_pos hz]
          have hP0 : P = [] := List.length_eq_zero_iff.1 (by omega)
          subst hP0
          have hrw : wr.ownsRow w1.heap.size 88 9 (.slice oa 0 oc) 0 (pkS.all []) := hP.row
          have g1 : ((S.length : Int) == 0) = true := by simp; exact List.length_eq_zero_iff.1 hz
          have g2 : 0 < ep := by omega
          simp only [List.length_nil] at hP ⊢
          clear HRT HP HP9 he hz hk cA hPl HK hiz
          generalize S.length = sn at *
          go_wp2_with (at_builtin; refine wpList_append_lies _ rfl _ _ 80 rfl w1.heap.size 88 p0 (.agg #[.int .i64 0, .int .i64 0, .bool false, .int .i64 0, .int .i64 0, .int .i64 0, .int .i64 0, .slice none 0 0, .string .empty]) 9 96 Tryd.underlying80 hp0 hpz0 hpz1 hpz2 rfl (by decide) _ _ _ rfl (hrw.alloc _) ⟨wr.heap.size, 0, none⟩ 1 1 [.int .i64 ep, .int .i64 0, .bool true, .int .i64 hd, .int .i64 0, .int .i64 0, .int .i64 0, .slice none 0 0, .string ⟨#[]⟩] rfl rfl (World.news_of_block (cs := #[.int .i64 ep, .int .i64 0, .bool true, .int .i64 hd, .int .i64 0, .int .i64 0, .int .i64 0, .slice none 0 0, .string ⟨#[]⟩]) (t := 88) (fr := (0, 0)) (heap_alloc_new wr _)) (by simp [Value.oneCell']) (by decide) (by unfold maxLen; omega) (by omega) (by simp; omega) _ rfl ?_; intro g1 cap1 w3 hown3 hgr3 hat3 hlt3)
          have hP3 := (RowK.app (S := pkS) (K := []) (x := ((⟨ep, 0, true, hd, fr0⟩, Value.slice none 0 0) : PkK)) hP (World.ownsRow_nil _ _ _ _) hown3 hgr3).base hB1
          have hb4 : Below w.heap.size w w3 := (hb.alloc hb.size _).grown hgr3 (by have := hb.size; simp at this ⊢; omega) (fun k e => by have := (hrw.lt k e).1; omega)
          have HTK : Hid (TickOk w3 w.heap.size (.slice (some ⟨g1, 0, none⟩) (0 + 1) cap1) RT) := ⟨_, hP3, by rw [HR.out]; rfl⟩
          go_wp2_with fail
          go_ret2
          exact ⟨_, rfl, HTK, hb4⟩
      · have HR : Hid (RT = packs ep hd (nx - S.length) (S.map (·.1))) := by show _ = _; rw [HRT.out, if_neg (fun e => hz (hk.2.2 e).1), if_neg hz]
        have HTK : Hid (TickOk wr w.heap.size (.slice oa P.length oc) RT) := ⟨P, hP.base hB1, by rw [HR.out]; exact HP9.out⟩
        have g1 : ((S.length : Int) == 0) = false := beq_false_of_ne (by omega)
        clear HRT HP HP9 hP hz hk cA hPl HK hiz
        generalize P.length = pn at *
        go_wp2_with fail
        go_ret2
        exact ⟨_, rfl, HTK, hb⟩

end Go.Proofs.YtekgennapogcgaaDoor
