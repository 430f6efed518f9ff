/-
  Walk: wherryref.LinkSent.
-/
import Derived.Test.YtpgcjpiabciekaaDoorLinkFil
import Derived.Test.YtpgcjpiabciekaaDoorLinkMayR
import Derived.Test.YtpgcjpiabciekaaDoorLinkSend
namespace Go.Proofs.YtpgcjpiabciekaaDoor
open Go.RowKit Go.Lib

set_option maxRecDepth 100000 in
set_option maxHeartbeats 2000000 in
theorem linkSent_bad {B : Nat} (ep nx hd : Int) (S Q : List FrK) (sv qv : Value) (f : FrI) (v : Value) (w : World) (hS : InK frS w B sv S) (hQ : InK frS w B qv Q) (fS : ∀ x ∈ S, FrSmall x.1) (fQ : ∀ x ∈ Q, FrSmall x.1) (lS : S.length ≤ 1048577) (lQ : Q.length ≤ 1048577) (ho : OpVal w v f.op) (hs : FrSmall f) (hT : Tabs w) (herr : lsendErr (mkL ep nx hd S Q) f ≠ 0) :
    Calls Tryd.prog 23 #[.agg #[.int .i64 ep, .int .i64 nx, sv, qv, .int .i64 hd], .agg #[.int .i64 f.kind, .int .i64 f.heard, .int .i64 f.epoch, v, .string f.text]] w fun r w' => r = .returned (.tuple #[.agg #[.int .i64 0, .int .i64 0, .slice none 0 0, .slice none 0 0, .int .i64 0], .slice none 0 0, .int .i64 (lsendErr (mkL ep nx hd S Q) f)]) ∧ Below w.heap.size w w' := by
  have cM := fun w1 (hb : Below w.heap.size w w1) => linkMay_any ep nx hd S Q sv qv w1 (hS.below hb) (hQ.below hb) fS fQ lS lQ (hT.below hb)
  have cF := fun w1 (hb : Below w.heap.size w w1) => faultFr (ho.below hb) hs (hT.below hb)
  obtain ⟨sa, sc, rfl, -⟩ := hS.row
  obtain ⟨qa, qc, rfl, -⟩ := hQ.row
  obtain ⟨ua, uc, rfl, -⟩ := ho.form
  obtain ⟨hl, hf, hr, HB0, hz⟩ := three_blocks w (.cells #[.int .i64 ep, .int .i64 nx, .slice sa S.length sc, .slice qa Q.length qc, .int .i64 hd] 45) (.cells #[.int .i64 f.kind, .int .i64 f.heard, .int .i64 f.epoch, .slice ua f.op.length uc, .string f.text] 47) (.cells #[.int .i64 0, .int .i64 0, .slice none 0 0, .slice none 0 0, .int .i64 0] 45)
  have cM1 := cM _ HB0
  have hzr : w.heap.size + 1 + 1 < (((w.alloc (.cells #[.int .i64 ep, .int .i64 nx, .slice sa S.length sc, .slice qa Q.length qc, .int .i64 hd] 45)).alloc (.cells #[.int .i64 f.kind, .int .i64 f.heard, .int .i64 f.epoch, .slice ua f.op.length uc, .string f.text] 47)).alloc (.cells #[.int .i64 0, .int .i64 0, .slice none 0 0, .slice none 0 0, .int .i64 0] 45)).heap.size := by omega
  obtain ⟨E, hE⟩ : ∃ E, E = lsendErr (mkL ep nx hd S Q) f := ⟨_, rfl⟩
  rw [← hE] at herr ⊢
  have HE : Hid (E = if linkErr (mkL ep nx hd S Q) ≠ 0 then linkErr (mkL ep nx hd S Q) else if ep = 0 then 12 else if f.err ≠ 0 then f.err else if nx = 1048576 then 8 else 0) := hE
  have HL : Hid (linkErr (mkL ep nx hd S Q) = 0 ∨ linkErr (mkL ep nx hd S Q) = 9) := by show _ ∨ _; unfold linkErr; split <;> simp
  have HN : Hid (linkErr (mkL ep nx hd S Q) = 0 → nx ≤ 1048576) := fun h => (linkOk h).2.2.1.2
  clear hE cM hS hQ fS fQ hT ho hs hz lS lQ
  obtain ⟨l0, ll0, _⟩ := blk hl
  obtain ⟨f0, fl0, _⟩ := blk hf
  by_cases h1 : linkErr (mkL ep nx hd S Q) = 0
  rotate_left
  · have h9 : linkErr (mkL ep nx hd S Q) = 9 := by rcases HL.out with h | h; exact absurd h h1; exact h
    have he : E = 9 := by rw [HE.out, if_pos h1, h9]
    subst he
    rw [decide_eq_false h1] at cM1
    clear HE HL HN h9 h1 cF
    go_enter Tryd.func23, Tryd.ntmps23
    go_wp2_with fail
    refine cM1.mono ?_
    generalize (((w.alloc (.cells #[.int .i64 ep, .int .i64 nx, .slice sa S.length sc, .slice qa Q.length qc, .int .i64 hd] 45)).alloc (.cells #[.int .i64 f.kind, .int .i64 f.heard, .int .i64 f.epoch, .slice ua f.op.length uc, .string f.text] 47)).alloc (.cells #[.int .i64 0, .int .i64 0, .slice none 0 0, .slice none 0 0, .int .i64 0] 45)) = w0 at *
    rintro r w1 ⟨rfl, hb1⟩
    have HB1 := below_two HB0 hb1 (Nat.le_refl _)
    replace hr := (hb1.block _ hzr).trans hr
    obtain ⟨hfin, hch⟩ := puts_all hr [.int .i64 0, .int .i64 0, .slice none 0 0, .slice none 0 0, .int .i64 0] rfl
    simp only [puts, Nat.zero_add, Nat.reduceAdd] at hfin hch
    have HB2 := HB1.trans (hch.below (B := w.heap.size) (fun i e => by omega) HB1.size)
    clear l0 ll0 f0 fl0 cM1 hl hf hch
    obtain ⟨r0, rl0, rf0⟩ := blk hr
    go_wp2_with fail
    generalize (((((w1.setCell ⟨w.heap.size + 1 + 1, 0, none⟩ (.int .i64 0)).setCell ⟨w.heap.size + 1 + 1, 1, none⟩ (.int .i64 0)).setCell ⟨w.heap.size + 1 + 1, 2, none⟩ (.slice none 0 0)).setCell ⟨w.heap.size + 1 + 1, 3, none⟩ (.slice none 0 0)).setCell ⟨w.heap.size + 1 + 1, 4, none⟩ (.int .i64 0)) = w9 at *
    obtain ⟨t9, _, _⟩ := blk hfin
    exact bodyPost_ret (v := .tuple #[.agg #[.int .i64 0, .int .i64 0, .slice none 0 0, .slice none 0 0, .int .i64 0], .slice none 0 0, .int .i64 9]) (by simp [results, Tryd.results23, go_sem, t9]) rfl ⟨rfl, HB2⟩
  rw [decide_eq_true h1] at cM1
  have HE1 : Hid (E = if ep = 0 then 12 else if f.err ≠ 0 then f.err else if nx = 1048576 then 8 else 0) := by show _ = _; rw [HE.out, if_neg (fun e => e h1)]
  have HN1 : Hid (nx ≤ 1048576) := HN.out h1
  clear HE HL HN h1
  by_cases h2 : ep = 0
  · have he : E = 12 := by rw [HE1.out, if_pos h2]
    subst he
    subst h2
    clear HE1 HN1 cF
    go_enter Tryd.func23, Tryd.ntmps23
    go_wp2_with fail
    refine cM1.mono ?_
    generalize (((w.alloc (.cells #[.int .i64 0, .int .i64 nx, .slice sa S.length sc, .slice qa Q.length qc, .int .i64 hd] 45)).alloc (.cells #[.int .i64 f.kind, .int .i64 f.heard, .int .i64 f.epoch, .slice ua f.op.length uc, .string f.text] 47)).alloc (.cells #[.int .i64 0, .int .i64 0, .slice none 0 0, .slice none 0 0, .int .i64 0] 45)) = w0 at *
    rintro r w1 ⟨rfl, hb1⟩
    have HB1 := below_two HB0 hb1 (Nat.le_refl _)
    replace hr := (hb1.block _ hzr).trans hr
    replace hl := (hb1.block _ ll0).trans hl
    obtain ⟨hfin, hch⟩ := puts_all hr [.int .i64 0, .int .i64 0, .slice none 0 0, .slice none 0 0, .int .i64 0] rfl
    simp only [puts, Nat.zero_add, Nat.reduceAdd] at hfin hch
    have HB2 := HB1.trans (hch.below (B := w.heap.size) (fun i e => by omega) HB1.size)
    clear l0 ll0 f0 fl0 cM1 hf hch
    obtain ⟨r0, rl0, rf0⟩ := blk hr
    obtain ⟨l0, ll0, lf0⟩ := blk hl
    go_wp2_with fail
    generalize (((((w1.setCell ⟨w.heap.size + 1 + 1, 0, none⟩ (.int .i64 0)).setCell ⟨w.heap.size + 1 + 1, 1, none⟩ (.int .i64 0)).setCell ⟨w.heap.size + 1 + 1, 2, none⟩ (.slice none 0 0)).setCell ⟨w.heap.size + 1 + 1, 3, none⟩ (.slice none 0 0)).setCell ⟨w.heap.size + 1 + 1, 4, none⟩ (.int .i64 0)) = w9 at *
    obtain ⟨t9, _, _⟩ := blk hfin
    exact bodyPost_ret (v := .tuple #[.agg #[.int .i64 0, .int .i64 0, .slice none 0 0, .slice none 0 0, .int .i64 0], .slice none 0 0, .int .i64 12]) (by simp [results, Tryd.results23, go_sem, t9]) rfl ⟨rfl, HB2⟩
  have HE2 : Hid (E = if f.err ≠ 0 then f.err else if nx = 1048576 then 8 else 0) := by show _ = _; rw [HE1.out, if_neg h2]
  have g1 : (ep == 0) = false := by simpa using h2
  have HB0' := HB0
  clear HE1 h2
  go_enter Tryd.func23, Tryd.ntmps23
  go_wp2_with fail
  refine cM1.mono ?_
  generalize (((w.alloc (.cells #[.int .i64 ep, .int .i64 nx, .slice sa S.length sc, .slice qa Q.length qc, .int .i64 hd] 45)).alloc (.cells #[.int .i64 f.kind, .int .i64 f.heard, .int .i64 f.epoch, .slice ua f.op.length uc, .string f.text] 47)).alloc (.cells #[.int .i64 0, .int .i64 0, .slice none 0 0, .slice none 0 0, .int .i64 0] 45)) = w0 at *
  rintro r w1 ⟨rfl, hb1⟩
  have HB1 := below_two HB0 hb1 (Nat.le_refl _)
  have cF1 := cF _ HB1
  replace hr := (hb1.block _ hzr).trans hr
  replace hl := (hb1.block _ ll0).trans hl
  replace hf := (hb1.block _ fl0).trans hf
  clear l0 ll0 f0 fl0 cM1 cF hzr hb1 HB0'
  obtain ⟨r0, rl0, rf0⟩ := blk hr
  obtain ⟨l0, ll0, lf0⟩ := blk hl
  obtain ⟨f0, fl0, ff0⟩ := blk hf
  go_wp2_with fail
  refine cF1.mono ?_
  rintro r w2 ⟨rfl, hb2⟩
  have HB2 := below_two HB1 hb2 (Nat.le_refl _)
  replace hr := (hb2.block _ rl0).trans hr
  replace hl := (hb2.block _ ll0).trans hl
  obtain ⟨hfin, hch⟩ := puts_all hr [.int .i64 0, .int .i64 0, .slice none 0 0, .slice none 0 0, .int .i64 0] rfl
  simp only [puts, Nat.zero_add, Nat.reduceAdd] at hfin hch
  have HB3 := HB2.trans (hch.below (B := w.heap.size) (fun i e => by omega) HB2.size)
  clear l0 ll0 lf0 f0 fl0 ff0 r0 rl0 rf0 cF1 hf hch hb2 HB1 HB0
  obtain ⟨r0, rl0, rf0⟩ := blk hr
  obtain ⟨l0, ll0, lf0⟩ := blk hl
  obtain ⟨e1, he1⟩ : ∃ e1, e1 = f.err := ⟨_, rfl⟩
  rw [← he1] at HE2 ⊢
  clear he1
  by_cases h3 : e1 = 0
  · subst h3
    have HE3 : Hid (E = if nx = 1048576 then 8 else 0) := by show _ = _; rw [HE2.out]; simp
    have h4 : nx = 1048576 := Classical.byContradiction fun h => herr (by rw [HE3.out, if_neg h])
    have he : E = 8 := by rw [HE3.out, if_pos h4]
    subst he
    subst h4
    clear HE2 HE3 HN1
    go_wp2_with fail
    generalize (((((w2.setCell ⟨w.heap.size + 1 + 1, 0, none⟩ (.int .i64 0)).setCell ⟨w.heap.size + 1 + 1, 1, none⟩ (.int .i64 0)).setCell ⟨w.heap.size + 1 + 1, 2, none⟩ (.slice none 0 0)).setCell ⟨w.heap.size + 1 + 1, 3, none⟩ (.slice none 0 0)).setCell ⟨w.heap.size + 1 + 1, 4, none⟩ (.int .i64 0)) = w9 at *
    obtain ⟨t9, _, _⟩ := blk hfin
    exact bodyPost_ret (v := .tuple #[.agg #[.int .i64 0, .int .i64 0, .slice none 0 0, .slice none 0 0, .int .i64 0], .slice none 0 0, .int .i64 8]) (by simp [results, Tryd.results23, go_sem, t9]) rfl ⟨rfl, HB3⟩
  · have he : E = e1 := by rw [HE2.out, if_pos h3]
    subst he
    have g3 : (E == 0) = false := by simpa using h3
    have g4 : (E != 0) = true := by simpa using h3
    clear HE2 h3 herr HN1
    go_wp2_with fail
    generalize (((((w2.setCell ⟨w.heap.size + 1 + 1, 0, none⟩ (.int .i64 0)).setCell ⟨w.heap.size + 1 + 1, 1, none⟩ (.int .i64 0)).setCell ⟨w.heap.size + 1 + 1, 2, none⟩ (.slice none 0 0)).setCell ⟨w.heap.size + 1 + 1, 3, none⟩ (.slice none 0 0)).setCell ⟨w.heap.size + 1 + 1, 4, none⟩ (.int .i64 0)) = w9 at *
    obtain ⟨t9, _, _⟩ := blk hfin
    exact bodyPost_ret (v := .tuple #[.agg #[.int .i64 0, .int .i64 0, .slice none 0 0, .slice none 0 0, .int .i64 0], .slice none 0 0, .int .i64 E]) (by simp [results, Tryd.results23, go_sem, t9]) rfl ⟨rfl, HB3⟩

set_option maxRecDepth 100000 in
set_option maxHeartbeats 4000000 in
theorem linkSent_any {B : Nat} (ep nx hd : Int) (S Q : List FrK) (sv qv : Value) (f : FrI) (v : Value) (w : World) (hS : InK frS w B sv S) (hQ : InK frS w B qv Q) (fS : ∀ x ∈ S, FrSmall x.1) (fQ : ∀ x ∈ Q, FrSmall x.1) (lS : S.length ≤ 1048576) (lQ : Q.length ≤ 1048576) (ho : OpVal w v f.op) (hs : FrSmall f) (hT : Tabs w) :
    Calls Tryd.prog 23 #[.agg #[.int .i64 ep, .int .i64 nx, sv, qv, .int .i64 hd], .agg #[.int .i64 f.kind, .int .i64 f.heard, .int .i64 f.epoch, v, .string f.text]] w fun r w' => ∃ sv' qv' pv, r = .returned (.tuple #[.agg #[.int .i64 (sendR (mkL ep nx hd S Q) f).1.1.epoch, .int .i64 (sendR (mkL ep nx hd S Q) f).1.1.next, sv', qv', .int .i64 (sendR (mkL ep nx hd S Q) f).1.1.heard], pv, .int .i64 (sendR (mkL ep nx hd S Q) f).2]) ∧ GoOk w' 0 w.heap.size sv' qv' pv (sendR (mkL ep nx hd S Q) f).1 ∧ Below w.heap.size w w' := by
  by_cases herr : lsendErr (mkL ep nx hd S Q) f = 0
  rotate_left
  · have hR : sendR (mkL ep nx hd S Q) f = ((link0, []), lsendErr (mkL ep nx hd S Q) f) := by unfold sendR; rw [if_neg herr]
    refine (linkSent_bad ep nx hd S Q sv qv f v w hS hQ fS fQ (by omega) (by omega) ho hs hT herr).mono ?_
    rintro r w' ⟨rfl, hb⟩
    rw [hR]
    exact ⟨_, _, _, rfl, goOk_none _ _ _, hb⟩
  obtain ⟨h1, h2, h3, h4⟩ := lsendErr_zero herr
  obtain ⟨k1, k2, k3, k4, k5, k6, k7⟩ := linkOk h1
  have cM := fun w1 (hb : Below w.heap.size w w1) => linkMay_any ep nx hd S Q sv qv w1 (hS.below hb) (hQ.below hb) fS fQ (by omega) (by omega) (hT.below hb)
  rw [decide_eq_true h1] at cM
  have cF := fun w1 (hb : Below w.heap.size w w1) => faultFr (ho.below hb) hs (hT.below hb)
  rw [h3] at cF
  have cL := fun w1 (hb : Below w.heap.size w w1) => linkCopy_sep ep nx hd S Q sv qv w1 (hS.below hb) (hQ.below hb) (fun x hx => (fS x hx).op.1) (fun x hx => (fQ x hx).op.1) (by omega) (by omega)
  have cC := fun w1 (hb : Below w.heap.size w w1) => frameCopy_any f v w1 (ho.below hb) hs.op.1
  have hR : sendR (mkL ep nx hd S Q) f = (LinkI.go ⟨ep, nx, S.map (·.1), Q.map (·.1) ++ [f], hd⟩, 0) := by unfold sendR; rw [if_pos herr]; rfl
  rw [hR]
  show Calls _ _ _ _ fun r w' => ∃ sv' qv' pv, r = .returned (.tuple #[.agg #[.int .i64 ep, .int .i64 (nx + (goK (S.map (·.1)).length (Q.map (·.1) ++ [f]).length nx : Nat)), sv', qv', .int .i64 hd], pv, .int .i64 0]) ∧ GoOk w' 0 w.heap.size sv' qv' pv (LinkI.go ⟨ep, nx, S.map (·.1), Q.map (·.1) ++ [f], hd⟩) ∧ Below w.heap.size w w'
  have cG : ∀ (sv1 qv1 : Value) (S1 Q1 : List FrK) (w1 : World), InT frS w1 0 sv1 S1 → S1.map (·.1) = S.map (·.1) → InT frS w1 0 qv1 Q1 → Q1.map (·.1) = Q.map (·.1) ++ [f] → Calls Tryd.prog 59 #[.agg #[.int .i64 ep, .int .i64 nx, sv1, qv1, .int .i64 hd]] w1 fun r w' => ∃ sv' qv' pv, r = .returned (.tuple #[.agg #[.int .i64 ep, .int .i64 (nx + (goK (S.map (·.1)).length (Q.map (·.1) ++ [f]).length nx : Nat)), sv', qv', .int .i64 hd], pv]) ∧ GoOk w' 0 w1.heap.size sv' qv' pv (LinkI.go ⟨ep, nx, S.map (·.1), Q.map (·.1) ++ [f], hd⟩) ∧ Below w1.heap.size w1 w' := by
    intro sv1 qv1 S1 Q1 w1 hS1 e1 hQ1 e2
    have l1 : S1.length = (S.map (·.1)).length := by rw [← e1, List.length_map]
    have l2 : Q1.length = (Q.map (·.1) ++ [f]).length := by rw [← e2, List.length_map]
    have l2' : Q1.length = Q.length + 1 := by rw [l2, List.length_append, List.length_map]; rfl
    have l1' : S1.length = S.length := by rw [l1, List.length_map]
    have := filled_any ep nx hd S1 Q1 sv1 qv1 w1 hS1 hQ1 (by
      rw [e1]
      intro g hg
      obtain ⟨x, hx, rfl⟩ := List.mem_map.1 hg
      exact (fS x hx).op.1) (by
      rw [e2]
      intro g hg
      rcases List.mem_append.1 hg with hg | hg
      · obtain ⟨x, hx, rfl⟩ := List.mem_map.1 hg
        exact (fQ x hx).op.1
      · rw [List.mem_singleton] at hg
        subst hg
        exact hs.op.1) (by omega) (by omega) ⟨by omega, k3.2⟩ (by omega)
    rw [l1, l2, e1, e2] at this
    exact this
  obtain ⟨sa, sc, rfl, -⟩ := hS.row
  obtain ⟨qa, qc, rfl, -⟩ := hQ.row
  obtain ⟨ua, uc, rfl, -⟩ := ho.form
  obtain ⟨hl, hf, hr, HB0, hz⟩ := three_blocks w (.cells #[.int .i64 ep, .int .i64 nx, .slice sa S.length sc, .slice qa Q.length qc, .int .i64 hd] 45) (.cells #[.int .i64 f.kind, .int .i64 f.heard, .int .i64 f.epoch, .slice ua f.op.length uc, .string f.text] 47) (.cells #[.int .i64 0, .int .i64 0, .slice none 0 0, .slice none 0 0, .int .i64 0] 45)
  have cM1 := cM _ HB0
  obtain ⟨S0, hS0⟩ : ∃ S0, S0 = S.map (·.1) := ⟨_, rfl⟩
  obtain ⟨Q0, hQ0⟩ : ∃ Q0, Q0 = Q.map (·.1) := ⟨_, rfl⟩
  have hQl : Q0.length = Q.length := by rw [hQ0, List.length_map]
  rw [← hS0, ← hQ0]
  rw [← hS0, ← hQ0] at cG cL
  have HQl : Hid (Q0.length ≤ 1048576) := by show _ ≤ _; omega
  generalize hN : nx + (goK S0.length (Q0 ++ [f]).length nx : Nat) = N at *
  generalize (LinkI.go ⟨ep, nx, S0, Q0 ++ [f], hd⟩) = G at *
  have g1 : (ep == 0) = false := by simpa using h2
  have g2 : ¬ 1048576 ≤ nx := by omega
  obtain ⟨i0, hi0, hzz0, hzz1, hzz2⟩ := info_parts info_fr
  have hzr : w.heap.size + 1 + 1 < (((w.alloc (.cells #[.int .i64 ep, .int .i64 nx, .slice sa S.length sc, .slice qa Q.length qc, .int .i64 hd] 45)).alloc (.cells #[.int .i64 f.kind, .int .i64 f.heard, .int .i64 f.epoch, .slice ua f.op.length uc, .string f.text] 47)).alloc (.cells #[.int .i64 0, .int .i64 0, .slice none 0 0, .slice none 0 0, .int .i64 0] 45)).heap.size := by omega
  obtain ⟨l0, ll0, _⟩ := blk hl
  obtain ⟨f0, fl0, _⟩ := blk hf
  clear cM hS0 hQ0 hQl hN hR hS hQ fS fQ hz herr h1 h2 h3 h4 k1 k2 k3 k4 k5 k6 k7 lS lQ ho hs
  go_enter Tryd.func23, Tryd.ntmps23
  go_wp2_with fail
  refine cM1.mono ?_
  generalize (((w.alloc (.cells #[.int .i64 ep, .int .i64 nx, .slice sa S.length sc, .slice qa Q.length qc, .int .i64 hd] 45)).alloc (.cells #[.int .i64 f.kind, .int .i64 f.heard, .int .i64 f.epoch, .slice ua f.op.length uc, .string f.text] 47)).alloc (.cells #[.int .i64 0, .int .i64 0, .slice none 0 0, .slice none 0 0, .int .i64 0] 45)) = w0 at *
  rintro r w1 ⟨rfl, hb1⟩
  have HB1 := below_two HB0 hb1 (Nat.le_refl _)
  have cF1 := cF _ HB1
  replace hr := (hb1.block _ hzr).trans hr
  replace hl := (hb1.block _ ll0).trans hl
  replace hf := (hb1.block _ fl0).trans hf
  have hz0 := HB0.size
  have hz1 := hb1.size
  clear l0 ll0 f0 fl0 cM1 cF hb1
  obtain ⟨l0, ll0, lf0⟩ := blk hl
  obtain ⟨f0, fl0, ff0⟩ := blk hf
  go_wp2_with fail
  refine cF1.mono ?_
  rintro r w2 ⟨rfl, hb2⟩
  have HB2 := below_two HB1 hb2 (Nat.le_refl _)
  have cL2 := cL _ HB2
  have hz2 := hb2.size
  replace hr := (hb2.block _ (show w.heap.size + 1 + 1 < w1.heap.size by omega)).trans hr
  replace hl := (hb2.block _ ll0).trans hl
  replace hf := (hb2.block _ fl0).trans hf
  clear l0 ll0 lf0 f0 fl0 ff0 cF1 cL hb2
  obtain ⟨l0, ll0, lf0⟩ := blk hl
  obtain ⟨f0, fl0, ff0⟩ := blk hf
  go_wp2_with fail
  refine cL2.mono ?_
  rintro r w3 ⟨sv3, qv3, rfl, ⟨K, KQ, hK, eK, hKQ, eQ, esep⟩, hb3⟩
  obtain ⟨ka, kc, rfl⟩ := own_form hK.row
  obtain ⟨oa, oc, rfl⟩ := own_form hKQ.row
  have HSEP : Hid (∀ k, (Value.slice ka K.length kc).ownBlock = some k → (Value.slice oa KQ.length oc).ownBlock ≠ some k) := esep
  clear esep
  have HEK : Hid (K.map (·.1) = S0) := eK
  have HEQ : Hid (KQ.map (·.1) = Q0) := eQ
  have hKQl : KQ.length ≤ 1048576 := by have := congrArg List.length HEQ.out; rw [List.length_map] at this; have := HQl.out; omega
  have HB3 := below_two HB2 hb3 (Nat.le_refl _)
  have hz3 := hb3.size
  replace hr := (hb3.block _ (show w.heap.size + 1 + 1 < w2.heap.size by omega)).trans hr
  replace hf := (hb3.block _ fl0).trans hf
  clear l0 ll0 lf0 f0 fl0 ff0 cL2 hb3 eK eQ hl
  have hbn := (Below.refl w3.heap.size w3).alloc (Nat.le_refl _) (.cells #[.int .i64 ep, .int .i64 nx, .slice ka K.length kc, .slice oa KQ.length oc, .int .i64 hd] 45)
  have hx1 := heap_alloc_new w3 (.cells #[.int .i64 ep, .int .i64 nx, .slice ka K.length kc, .slice oa KQ.length oc, .int .i64 hd] 45)
  have hf1 := row_old hf (.cells #[.int .i64 ep, .int .i64 nx, .slice ka K.length kc, .slice oa KQ.length oc, .int .i64 hd] 45)
  have hr1 := row_old hr (.cells #[.int .i64 ep, .int .i64 nx, .slice ka K.length kc, .slice oa KQ.length oc, .int .i64 hd] 45)
  have hK1 := hK.below hbn
  have hKQ1 := hKQ.below hbn
  have HB4 := below_two HB3 hbn (Nat.le_refl _)
  have cC4 := cC _ HB4
  clear hf hr hK hKQ hbn cC
  obtain ⟨f0, fl0, ff0⟩ := blk hf1
  obtain ⟨x0, xl0, xf0⟩ := blk hx1
  have hzA : w3.heap.size + 1 ≤ (w3.alloc (.cells #[.int .i64 ep, .int .i64 nx, .slice ka K.length kc, .slice oa KQ.length oc, .int .i64 hd] 45)).heap.size := by simp
  go_wp2_with fail
  refine cC4.mono ?_
  generalize (w3.alloc (.cells #[.int .i64 ep, .int .i64 nx, .slice ka K.length kc, .slice oa KQ.length oc, .int .i64 hd] 45)) = w4 at *
  rintro r w5 ⟨xu, rfl, hox, hb5⟩
  obtain ⟨xa, xc, rfl⟩ := own_form hox
  have hbA := (Below.refl w5.heap.size w5).alloc (Nat.le_refl _) (.cells #[.int .i64 f.kind, .int .i64 f.heard, .int .i64 f.epoch, .slice xa f.op.length xc, .string f.text] 47)
  have hg6 := heap_alloc_new w5 (.cells #[.int .i64 f.kind, .int .i64 f.heard, .int .i64 f.epoch, .slice xa f.op.length xc, .string f.text] 47)
  have hb6 := below_two hb5 hbA (Nat.le_refl _)
  have hx6 := (hb6.block _ xl0).trans hx1
  have hr6 := (hb6.block _ (show w.heap.size + 1 + 1 < w4.heap.size by omega)).trans hr1
  have hK6 := hK1.below hb6
  have hKQ6 := hKQ1.below hb6
  have ho6 := own_base (own_below hox hbA) (show w2.heap.size ≤ w4.heap.size by omega)
  have HB6 := below_two HB4 hb6 (Nat.le_refl _)
  have hz5 := hb5.size
  have hrw : (w5.alloc (.cells #[.int .i64 f.kind, .int .i64 f.heard, .int .i64 f.epoch, .slice xa f.op.length xc, .string f.text] 47)).ownsRow w2.heap.size 47 5 (.slice oa KQ.length oc) KQ.length (frS.all KQ) := hKQ6.row
  clear cC4 f0 fl0 ff0 x0 xl0 xf0 hbA hx1 hr1 hf1 hK1 hKQ1 hox
  obtain ⟨x0, xl0, xf0⟩ := blk hx6
  obtain ⟨f0, fl0, ff0⟩ := blk hg6
  go_wp2_with (at_builtin; refine wpList_append_lies _ rfl _ _ 43 rfl w2.heap.size 47 i0 (.agg #[.int .i64 0, .int .i64 0, .int .i64 0, .slice none 0 0, .string .empty]) 5 64 Tryd.underlying43 hi0 hzz0 hzz1 hzz2 rfl (by decide) _ _ _ rfl (hrw.alloc _) ⟨w5.heap.size + 1, 0, none⟩ 1 1 [.int .i64 f.kind, .int .i64 f.heard, .int .i64 f.epoch, .slice xa f.op.length xc, .string f.text] rfl rfl (by have hq := World.news_of_block (cs := #[.int .i64 f.kind, .int .i64 f.heard, .int .i64 f.epoch, .slice xa f.op.length xc, .string f.text]) (t := 47) (fr := (0, 0)) (heap_alloc_new (w5.alloc (.cells #[.int .i64 f.kind, .int .i64 f.heard, .int .i64 f.epoch, .slice xa f.op.length xc, .string f.text] 47)) _); rw [show (w5.alloc (.cells #[.int .i64 f.kind, .int .i64 f.heard, .int .i64 f.epoch, .slice xa f.op.length xc, .string f.text] 47)).heap.size = w5.heap.size + 1 by simp] at hq; exact hq) (by simp [Value.oneCell']) (by decide) (by unfold maxLen; omega) (by omega) (by simp; omega) _ rfl ?_; intro g1 cap1 w7 hown7 hgr7 hat7 hlt7; have hx7 := row_kept (hrw.alloc _) (row_old hx6 _) (by decide) hgr7; have hxx := blk hx7; obtain ⟨x7, xl7, xf7⟩ := hxx)
  have hK7 := hK6.other hrw hgr7 (by decide) HSEP.out
  have hQ7 := RowK.app (x := ((f, Value.slice xa f.op.length xc) : FrK)) hKQ6 ho6 hown7 hgr7
  have hz6 : w5.heap.size + 1 ≤ w7.heap.size := by have := hgr7.size; simp at this; omega
  have hr7 := row_kept (hrw.alloc _) (row_old hr6 _) (by decide) hgr7
  have HB7 : Below w.heap.size w w7 := (HB6.alloc HB6.size _).grown hgr7 (by simp; omega) (fun k e => by have := (hrw.lt k e).1; omega)
  obtain ⟨hx8, hs8⟩ := blk_put hx7 3 (.slice (some ⟨g1, 0, none⟩) (KQ.length + 1) cap1)
  have hK8 := (hK7.stored hx7 (by decide) (by decide) hs8).inT.base (Nat.zero_le _)
  have hQ8 := (hQ7.stored hx7 (by decide) (by decide) hs8).inT.base (Nat.zero_le _)
  have hr8 := hs8.row hr7 (show ¬ w.heap.size + 1 + 1 = w3.heap.size by omega)
  have HB8 := HB7.trans (hs8.below (B := w.heap.size) (fun k e => by omega) HB7.size)
  have HEQ8 : (KQ ++ [((f, Value.slice xa f.op.length xc) : FrK)]).map (·.1) = Q0 ++ [f] := by rw [List.map_append, HEQ.out]; rfl
  have hlen : (KQ ++ [((f, Value.slice xa f.op.length xc) : FrK)]).length = KQ.length + 1 := by simp
  have cG8 := cG (.slice ka K.length kc) (.slice (some ⟨g1, 0, none⟩) (KQ.length + 1) cap1) K _ _ hK8 HEK.out (by rw [← hlen]; rw [← hlen] at hQ8; exact hQ8) HEQ8
  clear hlen HEQ8 hK8 hQ8 hs8 hK7 hQ7 hown7 hgr7 hat7 hlt7 hK6 hKQ6 ho6 hrw cG x0 xl0 xf0 f0 fl0 ff0 x7 xl7 xf7 hx6 hg6 hr6 hr7 hx7 HB7 HSEP hx8
  have hz8 : w5.heap.size + 1 ≤ (w7.setCell ⟨w3.heap.size, 3, none⟩ (.slice (some ⟨g1, 0, none⟩) (KQ.length + 1) cap1)).heap.size := by simpa using hz6
  generalize (w7.setCell ⟨w3.heap.size, 3, none⟩ (.slice (some ⟨g1, 0, none⟩) (KQ.length + 1) cap1)) = w8 at *
  refine cG8.mono ?_
  rintro r w9 ⟨sv9, qv9, pv9, rfl, hG, hb9⟩
  obtain ⟨K9, Q9, P9, q1, q2, q3, q4, q5, q6⟩ := hG.ex
  obtain ⟨sa6, sc6, rfl, -⟩ := q1.row
  obtain ⟨qa6, qc6, rfl, -⟩ := q3.row
  obtain ⟨pa6, pc6, rfl⟩ := own_form q5.row
  have HB9 := below_two HB8 hb9 (Nat.le_refl _)
  have hr9 := (hb9.block _ (Array.getElem?_eq_some_iff.1 hr8).1).trans hr8
  have q5' := q5.base HB8.size
  have hzb := HB9.size
  clear cG8 hG hb9 hr8 q5
  have HG9 : Hid (∃ K Q P, InT frS w9 0 (.slice sa6 K9.length sc6) K ∧ K9.length = K.length ∧ K.map (·.1) = G.1.sent ∧ InT frS w9 0 (.slice qa6 Q9.length qc6) Q ∧ Q9.length = Q.length ∧ Q.map (·.1) = G.1.queue ∧ RowK pkS w9 w.heap.size (.slice pa6 P9.length pc6) P ∧ P9.length = P.length ∧ P.map (·.1) = G.2) := ⟨K9, Q9, P9, q1, rfl, q2, q3, rfl, q4, q5', rfl, q6⟩
  clear q1 q2 q3 q4 q5' q6
  generalize K9.length = sn6 at *
  generalize Q9.length = qn6 at *
  generalize P9.length = pn6 at *
  have hbY := (Below.refl w9.heap.size w9).alloc (Nat.le_refl _) (.cells #[.int .i64 ep, .int .i64 N, .slice sa6 sn6 sc6, .slice qa6 qn6 qc6, .int .i64 hd] 45)
  have hy := heap_alloc_new w9 (.cells #[.int .i64 ep, .int .i64 N, .slice sa6 sn6 sc6, .slice qa6 qn6 qc6, .int .i64 hd] 45)
  have hr10 := row_old hr9 (.cells #[.int .i64 ep, .int .i64 N, .slice sa6 sn6 sc6, .slice qa6 qn6 qc6, .int .i64 hd] 45)
  have HB10 := below_two HB9 hbY (Nat.le_refl _)
  obtain ⟨hfin, hsf⟩ := puts_all hr10 [.int .i64 ep, .int .i64 N, .slice sa6 sn6 sc6, .slice qa6 qn6 qc6, .int .i64 hd] rfl
  simp only [puts, Nat.zero_add, Nat.reduceAdd] at hfin hsf
  have HB11 := HB10.trans (hsf.below (B := w.heap.size) (fun i e => by omega) HB10.size)
  have HGK : Hid (GoOk ((((((w9.alloc (.cells #[.int .i64 ep, .int .i64 N, .slice sa6 sn6 sc6, .slice qa6 qn6 qc6, .int .i64 hd] 45)).setCell ⟨w.heap.size + 1 + 1, 0, none⟩ (.int .i64 ep)).setCell ⟨w.heap.size + 1 + 1, 1, none⟩ (.int .i64 N)).setCell ⟨w.heap.size + 1 + 1, 2, none⟩ (.slice sa6 sn6 sc6)).setCell ⟨w.heap.size + 1 + 1, 3, none⟩ (.slice qa6 qn6 qc6)).setCell ⟨w.heap.size + 1 + 1, 4, none⟩ (.int .i64 hd)) 0 w.heap.size (.slice sa6 sn6 sc6) (.slice qa6 qn6 qc6) (.slice pa6 pn6 pc6) G) := by
    obtain ⟨K, Q, P, q1, l1, q2, q3, l2, q4, q5, l3, q6⟩ := HG9.out
    exact ⟨K, Q, P, (q1.below hbY).stored hr10 (by decide) (by decide) hsf, q2, (q3.below hbY).stored hr10 (by decide) (by decide) hsf, q4, (q5.below hbY).stored hr10 (by decide) (by decide) hsf, q6⟩
  clear hbY hsf
  obtain ⟨y0, yl0, yf0⟩ := blk hy
  obtain ⟨r0, rl0, rf0⟩ := blk hr10
  go_wp2_with fail
  generalize ((((((w9.alloc (.cells #[.int .i64 ep, .int .i64 N, .slice sa6 sn6 sc6, .slice qa6 qn6 qc6, .int .i64 hd] 45)).setCell ⟨w.heap.size + 1 + 1, 0, none⟩ (.int .i64 ep)).setCell ⟨w.heap.size + 1 + 1, 1, none⟩ (.int .i64 N)).setCell ⟨w.heap.size + 1 + 1, 2, none⟩ (.slice sa6 sn6 sc6)).setCell ⟨w.heap.size + 1 + 1, 3, none⟩ (.slice qa6 qn6 qc6)).setCell ⟨w.heap.size + 1 + 1, 4, none⟩ (.int .i64 hd)) = wF at *
  obtain ⟨t9, _, _⟩ := blk hfin
  exact bodyPost_ret (v := .tuple #[.agg #[.int .i64 ep, .int .i64 N, .slice sa6 sn6 sc6, .slice qa6 qn6 qc6, .int .i64 hd], .slice pa6 pn6 pc6, .int .i64 0]) (by simp [results, Tryd.results23, go_sem, t9]) rfl ⟨_, _, _, rfl, HGK, HB11⟩

end Go.Proofs.YtpgcjpiabciekaaDoor
