/-
  Walks: link.checkSend, link.Send.
  Walk: link.Send.
-/
import Derived.Test.YtpgcjpiabciekaaDoorLinkGo
import Derived.Test.YtpgcjpiabciekaaDoorLinkCheck
namespace Go.Proofs.YtpgcjpiabciekaaDoor
open Go.RowKit Go.Lib

set_option maxRecDepth 100000 in
set_option maxHeartbeats 2000000 in
theorem checkSend_any {B : Nat} (ep nx hd : Int) (S Q : List FrK) (sv qv : Value) (f : FrI) (v : Value) (w : World) (hS : InK frS w B sv S) (hQ : InK frS w B qv Q) (fS : ∀ x ∈ S, FrSmall x.1) (fQ : ∀ x ∈ Q, FrSmall x.1) (lS : S.length ≤ 1048577) (lQ : Q.length ≤ 1048577) (ho : OpVal w v f.op) (hs : FrSmall f) (hT : Tabs w) :
    Calls Tryd.prog 52 #[.agg #[.int .i64 ep, .int .i64 nx, sv, qv, .int .i64 hd], .agg #[.int .i64 f.kind, .int .i64 f.heard, .int .i64 f.epoch, v, .string f.text]] w fun r w' => r = .returned (.int .i64 (lsendErr (mkL ep nx hd S Q) f)) ∧ Below w.heap.size w w' := by
  have cC := fun w1 (hb : Below w.heap.size w w1) => linkCheck_any ep nx hd S Q sv qv w1 (hS.below hb) (hQ.below hb) fS fQ lS lQ (hT.below hb)
  have cF := fun w1 (hb : Below w.heap.size w w1) => checkFr (ho.below hb) hs (hT.below hb)
  obtain ⟨sa, sc, rfl, _⟩ := hS.row
  obtain ⟨qa, qc, rfl, _⟩ := hQ.row
  obtain ⟨ua, uc, rfl, _⟩ := ho.form
  obtain ⟨hl, hf, HB0, _⟩ := two_blocks w (.cells #[.int .i64 ep, .int .i64 nx, .slice sa S.length sc, .slice qa Q.length qc, .int .i64 hd] 45) (.cells #[.int .i64 f.kind, .int .i64 f.heard, .int .i64 f.epoch, .slice ua f.op.length uc, .string f.text] 47)
  unfold lsendErr
  show Calls _ _ _ _ fun r w' => r = .returned (.int .i64 (if linkErr (mkL ep nx hd S Q) ≠ 0 then linkErr (mkL ep nx hd S Q) else if ep = 0 then 12 else if f.err ≠ 0 then f.err else if nx = 1048576 then 8 else 0)) ∧ _
  generalize linkErr (mkL ep nx hd S Q) = E at *
  generalize f.err = EF at *
  clear hS hQ fS fQ hT ho hs
  obtain ⟨l0, ll0, _⟩ := blk hl
  obtain ⟨f0, fl0, _⟩ := blk hf
  by_cases h1 : E = 0
  rotate_left
  · rw [if_pos h1]
    have g1 : (E != 0) = true := by simpa using h1
    go_enter Tryd.func52, Tryd.ntmps52
    go_wp2_with fail
    refine (cC _ HB0).mono ?_
    rintro r w1 ⟨rfl, hb1⟩
    go_wp2_with fail
    go_ret
    exact ⟨rfl, below_two HB0 hb1 (Nat.le_refl _)⟩
  rw [if_neg (by simpa using h1)]
  subst h1
  by_cases h2 : ep = 0
  · rw [if_pos h2]
    subst h2
    go_enter Tryd.func52, Tryd.ntmps52
    go_wp2_with fail
    refine (cC _ HB0).mono ?_
    rintro r w1 ⟨rfl, hb1⟩
    replace hl := (hb1.block _ ll0).trans hl
    clear l0 ll0
    obtain ⟨l0, ll0, _⟩ := blk hl
    go_wp2_with fail
    go_ret
    exact ⟨rfl, below_two HB0 hb1 (Nat.le_refl _)⟩
  rw [if_neg h2]
  have g2 : (ep == 0) = false := by simpa using h2
  clear h2
  by_cases h3 : EF = 0
  rotate_left
  · rw [if_pos h3]
    have g3 : (EF != 0) = true := by simpa using h3
    go_enter Tryd.func52, Tryd.ntmps52
    go_wp2_with fail
    refine (cC _ HB0).mono ?_
    rintro r w1 ⟨rfl, hb1⟩
    have HB1 := below_two HB0 hb1 (Nat.le_refl _)
    replace hl := (hb1.block _ ll0).trans hl
    replace hf := (hb1.block _ fl0).trans hf
    clear l0 ll0 f0 fl0
    obtain ⟨l0, ll0, _⟩ := blk hl
    obtain ⟨f0, fl0, _⟩ := blk hf
    go_wp2_with fail
    refine (cF _ HB1).mono ?_
    rintro r w2 ⟨rfl, hb2⟩
    go_wp2_with fail
    go_ret
    exact ⟨rfl, below_two HB1 hb2 (Nat.le_refl _)⟩
  rw [if_neg (by simpa using h3)]
  subst h3
  by_cases h4 : nx = 1048576
  · rw [if_pos h4]
    subst h4
    go_enter Tryd.func52, Tryd.ntmps52
    go_wp2_with fail
    refine (cC _ HB0).mono ?_
    rintro r w1 ⟨rfl, hb1⟩
    have HB1 := below_two HB0 hb1 (Nat.le_refl _)
    replace hl := (hb1.block _ ll0).trans hl
    replace hf := (hb1.block _ fl0).trans hf
    clear l0 ll0 f0 fl0
    obtain ⟨l0, ll0, _⟩ := blk hl
    obtain ⟨f0, fl0, _⟩ := blk hf
    go_wp2_with fail
    refine (cF _ HB1).mono ?_
    rintro r w2 ⟨rfl, hb2⟩
    replace hl := (hb2.block _ ll0).trans hl
    clear l0 ll0
    obtain ⟨l0, ll0, _⟩ := blk hl
    go_wp2_with fail
    go_ret
    exact ⟨rfl, below_two HB1 hb2 (Nat.le_refl _)⟩
  rw [if_neg h4]
  have g4 : (nx == 1048576) = false := by simpa using h4
  clear h4
  go_enter Tryd.func52, Tryd.ntmps52
  go_wp2_with fail
  refine (cC _ HB0).mono ?_
  rintro r w1 ⟨rfl, hb1⟩
  have HB1 := below_two HB0 hb1 (Nat.le_refl _)
  replace hl := (hb1.block _ ll0).trans hl
  replace hf := (hb1.block _ fl0).trans hf
  clear l0 ll0 f0 fl0
  obtain ⟨l0, ll0, _⟩ := blk hl
  obtain ⟨f0, fl0, _⟩ := blk hf
  go_wp2_with fail
  refine (cF _ HB1).mono ?_
  rintro r w2 ⟨rfl, hb2⟩
  replace hl := (hb2.block _ ll0).trans hl
  clear l0 ll0
  obtain ⟨l0, ll0, _⟩ := blk hl
  go_wp2_with fail
  go_ret
  exact ⟨rfl, below_two HB1 hb2 (Nat.le_refl _)⟩

/-- P5.4: the link, the packets, what is refused -/
def sendR (l : LinkI) (f : FrI) : (LinkI × List PkI) × Int := if lsendErr l f = 0 then (sendL l f, 0) else ((link0, []), lsendErr l f)
theorem goOk_none (w : World) (B N : Nat) : GoOk w B N (.slice none 0 0) (.slice none 0 0) (.slice none 0 0) (link0, []) := ⟨[], [], [], inT_nil _ _ _, rfl, inT_nil _ _ _, rfl, rowK_nil _ _ _, rfl⟩
/-- what holds of a link that may be -/
theorem linkOk {ep nx hd : Int} {S Q : List FrK} (h : linkErr (mkL ep nx hd S Q) = 0) : (0 ≤ ep ∧ ep ≤ 1048576) ∧ (0 ≤ hd ∧ hd ≤ 1048576) ∧ (0 < nx ∧ nx ≤ 1048576) ∧ S.length ≤ 8 ∧ (S.length : Int) < nx ∧ (S.length = 8 ∨ Q.length = 0) ∧ (ep = 0 → S.length = 0 ∧ hd = 0) := by
  rw [linkErr_eq] at h
  unfold inN at h
  simp only [decide_eq_false_iff_not] at h
  repeat' split at h
  all_goals first | (exfalso; omega) | (refine ⟨?_, ?_, ?_, ?_, ?_, ?_, ?_⟩ <;> omega)
theorem cameN_zero {ep nx hd : Int} {S Q : List FrK} (h : (S.length : Int) < nx) : cameN (mkL ep nx hd S Q) 0 = 0 := by
  unfold cameN mkL
  simp only [List.length_map]
  rw [if_neg (by omega)]

/-- the queue of rows of one's own grows; then a store into a block of another type -/
theorem lsendErr_zero {ep nx hd : Int} {S Q : List FrK} {f : FrI} (h : lsendErr (mkL ep nx hd S Q) f = 0) : linkErr (mkL ep nx hd S Q) = 0 ∧ ep ≠ 0 ∧ f.err = 0 ∧ nx ≠ 1048576 := by
  unfold lsendErr at h
  have e1 : (mkL ep nx hd S Q).epoch = ep := rfl
  have e2 : (mkL ep nx hd S Q).next = nx := rfl
  rw [e1, e2] at h
  by_cases h1 : linkErr (mkL ep nx hd S Q) = 0
  · rw [if_neg (by simpa using h1)] at h
    by_cases h2 : ep = 0
    · rw [if_pos h2] at h; cases h
    · rw [if_neg h2] at h
      by_cases h3 : f.err = 0
      · rw [if_neg (by simpa using h3)] at h
        by_cases h4 : nx = 1048576
        · rw [if_pos h4] at h; cases h
        · exact ⟨h1, h2, h3, h4⟩
      · rw [if_pos h3] at h; exact absurd h h3
  · rw [if_pos h1] at h; exact absurd h h1

set_option maxRecDepth 100000 in
set_option maxHeartbeats 4000000 in
theorem lsend_any {B : Nat} (ep nx hd : Int) (S Q : List FrK) (sv qv : Value) (f : FrI) (v : Value) (w : World) (hS : InK frS w B sv S) (hQ : InK frS w B qv Q) (fS : ∀ x ∈ S, FrSmall x.1) (fQ : ∀ x ∈ Q, FrSmall x.1) (lS : S.length ≤ 1048576) (lQ : Q.length ≤ 1048576) (ho : OpVal w v f.op) (hs : FrSmall f) (hT : Tabs w) :
    Calls Tryd.prog 21 #[.agg #[.int .i64 ep, .int .i64 nx, sv, qv, .int .i64 hd], .agg #[.int .i64 f.kind, .int .i64 f.heard, .int .i64 f.epoch, v, .string f.text]] w fun r w' => ∃ sv' qv' pv, r = .returned (.tuple #[.agg #[.int .i64 (sendR (mkL ep nx hd S Q) f).1.1.epoch, .int .i64 (sendR (mkL ep nx hd S Q) f).1.1.next, sv', qv', .int .i64 (sendR (mkL ep nx hd S Q) f).1.1.heard], pv, .int .i64 (sendR (mkL ep nx hd S Q) f).2]) ∧ GoOk w' w.heap.size w.heap.size sv' qv' pv (sendR (mkL ep nx hd S Q) f).1 ∧ Below w.heap.size w w' := by
  have cK := fun w1 (hb : Below w.heap.size w w1) => checkSend_any ep nx hd S Q sv qv f v w1 (hS.below hb) (hQ.below hb) fS fQ (by omega) (by omega) (ho.below hb) hs (hT.below hb)
  obtain ⟨i0, hi0, hzz0, hzz1, hzz2⟩ := info_parts info_fr
  by_cases herr : lsendErr (mkL ep nx hd S Q) f = 0
  rotate_left
  · obtain ⟨sa, sc, rfl, _⟩ := hS.row
    obtain ⟨qa, qc, rfl, _⟩ := hQ.row
    obtain ⟨ua, uc, rfl, _⟩ := ho.form
    have hR : sendR (mkL ep nx hd S Q) f = ((link0, []), lsendErr (mkL ep nx hd S Q) f) := by unfold sendR; rw [if_neg herr]
    rw [hR]
    show Calls _ _ _ _ fun r w' => ∃ sv' qv' pv, r = .returned (.tuple #[.agg #[.int .i64 0, .int .i64 0, sv', qv', .int .i64 0], pv, .int .i64 (lsendErr (mkL ep nx hd S Q) f)]) ∧ GoOk w' w.heap.size w.heap.size sv' qv' pv (link0, []) ∧ Below w.heap.size w w'
    generalize lsendErr (mkL ep nx hd S Q) f = E at *
    have g1 : (E != 0) = true := by simpa using herr
    obtain ⟨hl, hf, hr, HB0, hz⟩ := three_blocks w (.cells #[.int .i64 ep, .int .i64 nx, .slice sa S.length sc, .slice qa Q.length qc, .int .i64 hd] 45) (.cells #[.int .i64 f.kind, .int .i64 f.heard, .int .i64 f.epoch, .slice ua f.op.length uc, .string f.text] 47) (.cells #[.int .i64 0, .int .i64 0, .slice none 0 0, .slice none 0 0, .int .i64 0] 45)
    have cK1 := cK _ HB0
    obtain ⟨l0, ll0, _⟩ := blk hl
    obtain ⟨f0, fl0, _⟩ := blk hf
    clear cK hS hQ fS fQ ho hs hR hz herr
    go_enter Tryd.func21, Tryd.ntmps21
    go_wp2_with fail
    refine cK1.mono ?_
    generalize (((w.alloc (.cells #[.int .i64 ep, .int .i64 nx, .slice sa S.length sc, .slice qa Q.length qc, .int .i64 hd] 45)).alloc (.cells #[.int .i64 f.kind, .int .i64 f.heard, .int .i64 f.epoch, .slice ua f.op.length uc, .string f.text] 47)).alloc (.cells #[.int .i64 0, .int .i64 0, .slice none 0 0, .slice none 0 0, .int .i64 0] 45)) = w0 at *
    rintro r w1 ⟨rfl, hb1⟩
    have HB1 := below_two HB0 hb1 (Nat.le_refl _)
    replace hr := (hb1.block _ (Array.getElem?_eq_some_iff.1 hr).1).trans hr
    obtain ⟨hfin, hch⟩ := puts_all hr [.int .i64 0, .int .i64 0, .slice none 0 0, .slice none 0 0, .int .i64 0] rfl
    simp only [puts, Nat.zero_add, Nat.reduceAdd] at hfin hch
    have HB2 := HB1.trans (hch.below (B := w.heap.size) (fun i e => by omega) HB1.size)
    clear l0 ll0 f0 fl0 cK1 hl hf
    obtain ⟨r0, rl0, rf0⟩ := blk hr
    go_wp2_with fail
    generalize (((((w1.setCell ⟨w.heap.size + 1 + 1, 0, none⟩ (.int .i64 0)).setCell ⟨w.heap.size + 1 + 1, 1, none⟩ (.int .i64 0)).setCell ⟨w.heap.size + 1 + 1, 2, none⟩ (.slice none 0 0)).setCell ⟨w.heap.size + 1 + 1, 3, none⟩ (.slice none 0 0)).setCell ⟨w.heap.size + 1 + 1, 4, none⟩ (.int .i64 0)) = w9 at *
    obtain ⟨t9, _, _⟩ := blk hfin
    exact bodyPost_ret (v := .tuple #[.agg #[.int .i64 0, .int .i64 0, .slice none 0 0, .slice none 0 0, .int .i64 0], .slice none 0 0, .int .i64 E]) (by simp [results, Tryd.results21, go_sem, t9]) rfl ⟨_, _, _, rfl, goOk_none _ _ _, HB2⟩
  obtain ⟨h1, h2, h3, h4⟩ := lsendErr_zero herr
  obtain ⟨k1, k2, k3, k4, k5, k6, k7⟩ := linkOk h1
  have cB := fun w1 (hb : Below w.heap.size w w1) => behind_any ep nx hd 0 S Q sv qv w1 (hS.below hb) (hQ.below hb) (fun x hx => by have := (fS x hx).op.1; omega) (fun x hx => by have := (fQ x hx).op.1; omega) k4 lQ ⟨k5, k3.2⟩
  rw [cameN_zero k5, List.drop_zero] at cB
  obtain ⟨sa, sc, rfl, _⟩ := hS.row
  obtain ⟨qa, qc, rfl, _⟩ := hQ.row
  obtain ⟨ua, uc, rfl, _⟩ := ho.form
  have hR : sendR (mkL ep nx hd S Q) f = (LinkI.go ⟨ep, nx, S.map (·.1), Q.map (·.1) ++ [f], hd⟩, 0) := by unfold sendR; rw [if_pos herr]; rfl
  rw [hR]
  show Calls _ _ _ _ fun r w' => ∃ sv' qv' pv, r = .returned (.tuple #[.agg #[.int .i64 ep, .int .i64 (nx + (goK (S.map (·.1)).length (Q.map (·.1) ++ [f]).length nx : Nat)), sv', qv', .int .i64 hd], pv, .int .i64 0]) ∧ GoOk w' w.heap.size w.heap.size sv' qv' pv (LinkI.go ⟨ep, nx, S.map (·.1), Q.map (·.1) ++ [f], hd⟩) ∧ Below w.heap.size w w'
  have cG := fun (sv1 qv1 : Value) (B1 : Nat) (w1 : World) (hL : LinkRows w1 B1 sv1 qv1 (S.map (·.1)) (Q.map (·.1) ++ [f])) (hB : B1 ≤ w1.heap.size) => goOn_any ep nx hd sv1 qv1 _ _ B1 w1 hL (fun g hg => by
    rcases List.mem_append.1 hg with hg | hg
    · obtain ⟨x, hx, rfl⟩ := List.mem_map.1 hg
      have := (fQ x hx).op.1
      omega
    · rw [List.mem_singleton] at hg
      subst hg
      have := hs.op.1
      omega) (by rw [List.length_map]; exact k4) (by rw [List.length_append, List.length_map]; simp; omega) ⟨by omega, k3.2⟩ hB
  have hsl := hs.op.1
  have hQl : (Q.map (·.1)).length = Q.length := List.length_map ..
  obtain ⟨S0, hS0⟩ : ∃ S0, S0 = S.map (·.1) := ⟨_, rfl⟩
  obtain ⟨Q0, hQ0⟩ : ∃ Q0, Q0 = Q.map (·.1) := ⟨_, rfl⟩
  rw [← hS0, ← hQ0]
  rw [← hS0, ← hQ0] at cG cB
  rw [← hQ0] at hQl
  have HQl : Hid (Q0.length = Q.length) := hQl
  generalize hN : nx + (goK S0.length (Q0 ++ [f]).length nx : Nat) = N at *
  clear hS0 hQ0 hQl hN hR
  rw [herr] at cK
  obtain ⟨hl, hf, hr, HB0, hz⟩ := three_blocks w (.cells #[.int .i64 ep, .int .i64 nx, .slice sa S.length sc, .slice qa Q.length qc, .int .i64 hd] 45) (.cells #[.int .i64 f.kind, .int .i64 f.heard, .int .i64 f.epoch, .slice ua f.op.length uc, .string f.text] 47) (.cells #[.int .i64 0, .int .i64 0, .slice none 0 0, .slice none 0 0, .int .i64 0] 45)
  have cK1 := cK _ HB0
  have cO : ∀ wx, Below w.heap.size w wx → Calls Tryd.prog 54 #[.agg #[.int .i64 f.kind, .int .i64 f.heard, .int .i64 f.epoch, .slice ua f.op.length uc, .string f.text]] wx _ := fun wx hb => copyOf_any f (.slice ua f.op.length uc) wx (ho.below hb) (by omega)
  obtain ⟨l0, ll0, _⟩ := blk hl
  obtain ⟨f0, fl0, _⟩ := blk hf
  have hzr : w.heap.size + 1 + 1 < (((w.alloc (.cells #[.int .i64 ep, .int .i64 nx, .slice sa S.length sc, .slice qa Q.length qc, .int .i64 hd] 45)).alloc (.cells #[.int .i64 f.kind, .int .i64 f.heard, .int .i64 f.epoch, .slice ua f.op.length uc, .string f.text] 47)).alloc (.cells #[.int .i64 0, .int .i64 0, .slice none 0 0, .slice none 0 0, .int .i64 0] 45)).heap.size := by omega
  clear cK hS hQ fS fQ hz herr h1 h2 h3 h4 k1 k2 k3 k4 k5 k6 k7 lS ho hs
  go_enter Tryd.func21, Tryd.ntmps21
  go_wp2_with fail
  refine cK1.mono ?_
  generalize (((w.alloc (.cells #[.int .i64 ep, .int .i64 nx, .slice sa S.length sc, .slice qa Q.length qc, .int .i64 hd] 45)).alloc (.cells #[.int .i64 f.kind, .int .i64 f.heard, .int .i64 f.epoch, .slice ua f.op.length uc, .string f.text] 47)).alloc (.cells #[.int .i64 0, .int .i64 0, .slice none 0 0, .slice none 0 0, .int .i64 0] 45)) = w0 at *
  rintro r w1 ⟨rfl, hb1⟩
  have HB1 := below_two HB0 hb1 (Nat.le_refl _)
  have hz1 := hb1.size
  have hz0 := HB0.size
  replace hl := (hb1.block _ ll0).trans hl
  replace hf := (hb1.block _ fl0).trans hf
  replace hr := (hb1.block _ hzr).trans hr
  clear l0 ll0 f0 fl0 cK1
  have cB1 := cB w1 HB1
  clear cB
  obtain ⟨l0, ll0, _⟩ := blk hl
  obtain ⟨f0, fl0, _⟩ := blk hf
  obtain ⟨r0, rl0, _⟩ := blk hr
  go_wp2_with fail
  refine cB1.mono ?_
  rintro r w2 ⟨sv1, qv1, rfl, hL, hb2⟩
  obtain ⟨K, KQ, m, hK, eK, hlow, hKQ, eQ, hm, hmz⟩ := hL.ex
  obtain ⟨ka, kc, rfl⟩ := own_form hK.row
  obtain ⟨oa, oc, rfl⟩ := own_form hKQ.row
  have HEK : Hid (K.map (·.1) = S0) := eK
  have HEQ : Hid (KQ.map (·.1) = Q0) := eQ
  have hlow' : Hid (∀ k, (Value.slice ka K.length kc).ownBlock = some k → k < m) := hlow
  have hKQl : KQ.length ≤ 1048576 := by have := congrArg List.length HEQ.out; rw [List.length_map, HQl.out] at this; omega
  have HB2 := below_two HB1 hb2 (Nat.le_refl _)
  replace hf := (hb2.block _ fl0).trans hf
  replace hr := (hb2.block _ rl0).trans hr
  have hz2 := hb2.size
  clear cB1 hL eK eQ hlow l0 ll0 f0 fl0 r0 rl0 hl
  have hbn := (Below.refl w2.heap.size w2).alloc (Nat.le_refl _) (.cells #[.int .i64 ep, .int .i64 nx, .slice ka K.length kc, .slice oa KQ.length oc, .int .i64 hd] 45)
  have hn1 := heap_alloc_new w2 (.cells #[.int .i64 ep, .int .i64 nx, .slice ka K.length kc, .slice oa KQ.length oc, .int .i64 hd] 45)
  have hf1 := row_old hf (.cells #[.int .i64 ep, .int .i64 nx, .slice ka K.length kc, .slice oa KQ.length oc, .int .i64 hd] 45)
  have hr1 := row_old hr (.cells #[.int .i64 ep, .int .i64 nx, .slice ka K.length kc, .slice oa KQ.length oc, .int .i64 hd] 45)
  have hK1 := hK.below hbn
  have hKQ1 := hKQ.below hbn
  have HB3 := below_two HB2 hbn (Nat.le_refl _)
  have hrw : (w2.alloc (.cells #[.int .i64 ep, .int .i64 nx, .slice ka K.length kc, .slice oa KQ.length oc, .int .i64 hd] 45)).ownsRow m 47 5 (.slice oa KQ.length oc) KQ.length (frS.all KQ) := hKQ1.row
  obtain ⟨n0, nl0, nf0⟩ := blk hn1
  obtain ⟨f0, fl0, _⟩ := blk hf1
  have hzn : w2.heap.size + 1 ≤ (w2.alloc (.cells #[.int .i64 ep, .int .i64 nx, .slice ka K.length kc, .slice oa KQ.length oc, .int .i64 hd] 45)).heap.size := by simp
  have hzr2 : w.heap.size + 1 + 1 < w2.heap.size := by omega
  clear hn1 hf1 hr1
  have hn1 := heap_alloc_new w2 (.cells #[.int .i64 ep, .int .i64 nx, .slice ka K.length kc, .slice oa KQ.length oc, .int .i64 hd] 45)
  have hr1 := row_old hr (.cells #[.int .i64 ep, .int .i64 nx, .slice ka K.length kc, .slice oa KQ.length oc, .int .i64 hd] 45)
  clear hf hr hK hKQ hbn
  go_wp2_with fail
  generalize (w2.alloc (.cells #[.int .i64 ep, .int .i64 nx, .slice ka K.length kc, .slice oa KQ.length oc, .int .i64 hd] 45)) = wy at *
  have hdd : Below wy.heap.size wy wy.drew := ⟨rfl, rfl, rfl, Nat.le_refl _, fun _ _ => rfl⟩
  have cC := cO wy.drew (below_two HB3 hdd (Nat.le_refl _))
  have hnd : wy.drew.heap[w2.heap.size]? = some (Obj.cells #[.int .i64 ep, .int .i64 nx, .slice ka K.length kc, .slice oa KQ.length oc, .int .i64 hd] 45 (0, 0)) := hn1
  generalize hpl : f.op.length = pn at *
  have HPN : Hid (f.op.length = pn) := hpl
  clear hpl cO
  go_region_law (first | (go_simp; go_at_call 54; with_reducible refine Calls.mono cC ?_; rintro e wz ⟨u, rfl, hou, hbz⟩; have hlz := (hbz.block _ (Array.getElem?_eq_some_iff.1 hnd).1).trans hnd; have hbkz := blk hlz; obtain ⟨lz, llz, lfz⟩ := hbkz; have hof := own_form hou; obtain ⟨xa, xc, rfl⟩ := hof; have hrz := own_below (own_drew hrw) hbz) | (refine step_append_lies _ (by rfl) _ _ _ (by rfl) m 47 i0 _ 5 64 Tryd.underlying43 hi0 hzz0 hzz1 hzz2 rfl (by omega) (.slice oa KQ.length oc) KQ.length (frS.all KQ) (by rfl) (hrz.alloc _) ⟨wz.heap.size, 0, none⟩ 1 1 [.int .i64 f.kind, .int .i64 f.heard, .int .i64 f.epoch, .slice xa pn xc, .string f.text] (by rfl) (by rfl) (World.news_of_block (cs := #[.int .i64 f.kind, .int .i64 f.heard, .int .i64 f.epoch, .slice xa pn xc, .string f.text]) (t := 47) (fr := (0, 0)) (heap_alloc_new wz _)) (by simp [Value.oneCell']) (by omega) (by unfold maxLen; omega) (by omega) (by have := hbz.size; have : wy.drew.heap.size = wy.heap.size := rfl; simp; omega) (wz.heap.size + 1) (by simp) ?_; intro g1 cap1 w4 hown4 hgr4 hat4 hlt4; have blk4 := row_kept (hrz.alloc _) (row_old hlz _) (by decide) hgr4; have hbk4 := blk blk4; obtain ⟨l4, ll4, lf4⟩ := hbk4))
  all_goals
    have hzz : wy.heap.size ≤ wz.heap.size := hbz.size
    have hn5 : (w4.setCell ⟨w2.heap.size, 3, none⟩ (.slice (some ⟨g1, 0, none⟩) (KQ.length + 1) cap1)).heap[w2.heap.size]? = some (.cells #[.int .i64 ep, .int .i64 nx, .slice ka K.length kc, .slice (some ⟨g1, 0, none⟩) (KQ.length + 1) cap1, .int .i64 hd] 45 (0, 0)) := (blk_put blk4 3 (.slice (some ⟨g1, 0, none⟩) (KQ.length + 1) cap1)).1
    have hs5 := (blk_put blk4 3 (.slice (some ⟨g1, 0, none⟩) (KQ.length + 1) cap1)).2
    have hr5 := hs5.row (row_kept (hrz.alloc _) (row_old ((hbz.block _ (Array.getElem?_eq_some_iff.1 hr1).1).trans hr1) _) (by decide) hgr4) (show ¬ w.heap.size + 1 + 1 = w2.heap.size by omega)
    have hKz := hKQ1.below (below_two hdd hbz (Nat.le_refl _))
    have hSz := hK1.below (below_two hdd hbz (Nat.le_refl _))
    have hou' := own_base hou (show m ≤ wy.drew.heap.size by show m ≤ wy.heap.size; omega)
    rw [← HPN.out] at hou' hown4 hgr4
    have hK4 := (RowK.app (x := ((f, Value.slice xa f.op.length xc) : FrK)) hKz hou' hown4 hgr4).stored blk4 (by decide) (by decide) hs5
    have hS4 := (hSz.other hrz hgr4 (by decide) (fun k e e' => by have h1 := hlow'.out k e; have h2 := (hrz.lt k e').1; omega)).stored blk4 (by decide) (by decide) hs5
    have HB5 : Below w.heap.size w (w4.setCell ⟨w2.heap.size, 3, none⟩ (.slice (some ⟨g1, 0, none⟩) (KQ.length + 1) cap1)) := (((below_two HB3 (below_two hdd hbz (Nat.le_refl _)) (Nat.le_refl _)).alloc (by omega) _).grown hgr4 (by simp; omega) (fun k e => by have := (hrw.lt k e).1; omega)).trans (hs5.below (fun k e => by omega) (by have := hgr4.size; simp at this; omega))
    have hz5 : wz.heap.size + 1 ≤ (w4.setCell ⟨w2.heap.size, 3, none⟩ (.slice (some ⟨g1, 0, none⟩) (KQ.length + 1) cap1)).heap.size := by have h1 := hs5.size; have h2 := hgr4.size; simp at h2; omega
    have hL5 : LinkRows (w4.setCell ⟨w2.heap.size, 3, none⟩ (.slice (some ⟨g1, 0, none⟩) (KQ.length + 1) cap1)) w1.heap.size (.slice ka K.length kc) (.slice (some ⟨g1, 0, none⟩) (KQ.length + 1) cap1) S0 (Q0 ++ [f]) := ⟨K, _, m, hS4, HEK.out, hlow'.out, hK4, by rw [List.map_append, HEQ.out]; rfl, hm, by omega⟩
    have cG5 := cG _ _ w1.heap.size _ hL5 (by omega)
    clear hrz hown4 hgr4 hat4 blk4 l4 ll4 lf4 hs5 hKz hSz hou hou' hbz lz llz lfz hlz hK4 hS4 hL5 n0 nl0 nf0 f0 fl0
    generalize (w4.setCell ⟨w2.heap.size, 3, none⟩ (.slice (some ⟨g1, 0, none⟩) (KQ.length + 1) cap1)) = w5 at *
    obtain ⟨n0, nl0, nf0⟩ := blk hn5
    go_wp2_with fail
    refine cG5.mono ?_
    rintro r w6 ⟨sv6, qv6, pv6, rfl, hG, hb6, hkf⟩
    have hn6 := hkf _ _ _ (by decide) hn5
    have hr6 := hkf _ _ _ (by decide) hr5
    have HB6 := HB5.trans (hb6.mono (show w.heap.size ≤ w1.heap.size by omega))
    obtain ⟨K6, Q6, P6, q1, q2, q3, q4, q5, q6⟩ := hG.ex
    obtain ⟨sa6, sc6, rfl, _⟩ := q1.row
    obtain ⟨qa6, qc6, rfl, _⟩ := q3.row
    obtain ⟨pa6, pc6, rfl⟩ := own_form q5.row
    have hz6 := HB6.size
    obtain ⟨hn7, hs7⟩ := puts_all hn6 [.int .i64 ep, .int .i64 N, .slice sa6 K6.length sc6, .slice qa6 Q6.length qc6, .int .i64 hd] rfl
    simp only [puts, Nat.zero_add, Nat.reduceAdd] at hn7 hs7
    have hr7 := hs7.row hr6 (by omega)
    obtain ⟨hfin, hs8⟩ := puts_all hr7 [.int .i64 ep, .int .i64 N, .slice sa6 K6.length sc6, .slice qa6 Q6.length qc6, .int .i64 hd] rfl
    simp only [puts, Nat.zero_add, Nat.reduceAdd] at hfin hs8
    have y1 := ((q1.stored hn6 (by decide) (by decide) hs7).stored hr7 (by decide) (by decide) hs8).base (show w.heap.size ≤ w1.heap.size by omega)
    have y3 := ((q3.stored hn6 (by decide) (by decide) hs7).stored hr7 (by decide) (by decide) hs8).base (show w.heap.size ≤ w1.heap.size by omega)
    have y5 := ((q5.stored hn6 (by decide) (by decide) hs7).stored hr7 (by decide) (by decide) hs8).base (show w.heap.size ≤ w5.heap.size by omega)
    have HB8 := (HB6.trans (hs7.below (B := w.heap.size) (fun i e => by omega) (by omega))).trans (hs8.below (B := w.heap.size) (fun i e => by omega) (by have := hs7.size; omega))
    have HG8 : Hid (GoOk _ w.heap.size w.heap.size (.slice sa6 K6.length sc6) (.slice qa6 Q6.length qc6) (.slice pa6 P6.length pc6) (LinkI.go ⟨ep, nx, S0, Q0 ++ [f], hd⟩)) := ⟨K6, Q6, P6, y1, q2, y3, q4, y5, q6⟩
    clear hG q1 q2 q3 q4 q5 q6 y1 y3 y5 hs7 hs8 cG5 cG n0 nl0 nf0 hb6 hkf hn5 hr5
    generalize K6.length = sn6 at *
    generalize Q6.length = qn6 at *
    generalize P6.length = pn6 at *
    obtain ⟨n6, nl6, nf6⟩ := blk hn6
    obtain ⟨n7, nl7, nf7⟩ := blk hn7
    obtain ⟨r7, rl7, rf7⟩ := blk hr7
    go_wp2_with fail
    generalize ((((((((((w6.setCell ⟨w2.heap.size, 0, none⟩ (.int .i64 ep)).setCell ⟨w2.heap.size, 1, none⟩ (.int .i64 N)).setCell ⟨w2.heap.size, 2, none⟩ (.slice sa6 sn6 sc6)).setCell ⟨w2.heap.size, 3, none⟩ (.slice qa6 qn6 qc6)).setCell ⟨w2.heap.size, 4, none⟩ (.int .i64 hd)).setCell ⟨w.heap.size + 1 + 1, 0, none⟩ (.int .i64 ep)).setCell ⟨w.heap.size + 1 + 1, 1, none⟩ (.int .i64 N)).setCell ⟨w.heap.size + 1 + 1, 2, none⟩ (.slice sa6 sn6 sc6)).setCell ⟨w.heap.size + 1 + 1, 3, none⟩ (.slice qa6 qn6 qc6)).setCell ⟨w.heap.size + 1 + 1, 4, none⟩ (.int .i64 hd)) = w9 at *
    obtain ⟨t9, _, _⟩ := blk hfin
    exact bodyPost_ret (v := .tuple #[.agg #[.int .i64 ep, .int .i64 N, .slice sa6 sn6 sc6, .slice qa6 qn6 qc6, .int .i64 hd], .slice pa6 pn6 pc6, .int .i64 0]) (by simp [results, Tryd.results21, go_sem, t9]) rfl ⟨_, _, _, rfl, HG8, HB8⟩

theorem goK_le (s q : Nat) (n : Int) : goK s q n ≤ q ∧ goK s q n ≤ 8 - s := by unfold goK; omega
theorem packs_len8 (ep hd n : Int) (a : List FrI) (k : Nat) (h : k ≤ 8) : (packs ep hd n (a.take k)).length ≤ 8 := by rw [packs_length, List.length_take]; omega
theorem sendR_small (l : LinkI) (f : FrI) (h1 : ∀ x ∈ l.sent, FrSmall x) (h2 : ∀ x ∈ l.queue, FrSmall x) (hf : FrSmall f) : (∀ x ∈ (sendR l f).1.1.sent, FrSmall x) ∧ (∀ x ∈ (sendR l f).1.1.queue, FrSmall x) ∧ (∀ N, 8 ≤ N → l.sent.length ≤ N → (sendR l f).1.1.sent.length ≤ N) ∧ (sendR l f).1.1.queue.length ≤ l.queue.length + 1 ∧ (sendR l f).1.2.length ≤ 8 := by
  unfold sendR
  by_cases he : lsendErr l f = 0
  · rw [if_pos he]
    have hg := goK_le l.sent.length (l.queue ++ [f]).length l.next
    have hq : ∀ x ∈ l.queue ++ [f], FrSmall x := fun x hx => by
      rcases List.mem_append.1 hx with hx | hx
      · exact h2 x hx
      · rw [List.mem_singleton.1 hx]; exact hf
    unfold sendL LinkI.go
    simp only
    generalize goK l.sent.length (l.queue ++ [f]).length l.next = k at *
    refine ⟨fun x hx => ?_, fun x hx => hq x (List.mem_of_mem_drop hx), ?_, ?_, packs_len8 _ _ _ _ _ (by omega)⟩
    · rcases List.mem_append.1 hx with hx | hx
      · exact h1 x hx
      · exact hq x (List.mem_of_mem_take hx)
    · intro N h8 hN; rw [List.length_append, List.length_take]; omega
    · rw [List.length_drop, List.length_append]; simp
  · rw [if_neg he]
    exact ⟨fun _ h => by simp [link0] at h, fun _ h => by simp [link0] at h, by simp [link0], by simp [link0], by simp⟩
/-- what link.Send answers, laid out -/
structure SendT (w : World) (B : Nat) (S Q : List FrK) (P : List PkK) (sa qa pa : Option Addr) (sc qc pc : Nat) (R : LinkI × List PkI) : Prop where
  inS : InT frS w B (.slice sa S.length sc) S
  eS : S.map (·.1) = R.1.sent
  inQ : InT frS w B (.slice qa Q.length qc) Q
  eQ : Q.map (·.1) = R.1.queue
  inP : InT pkS w B (.slice pa P.length pc) P
  eP : P.map (·.1) = R.2
theorem GoOk.laid {w : World} {B : Nat} {sv qv pv : Value} {R : LinkI × List PkI} (h : GoOk w B B sv qv pv R) : ∃ S Q P sa sc qa qc pa pc, sv = .slice sa S.length sc ∧ qv = .slice qa Q.length qc ∧ pv = .slice pa P.length pc ∧ SendT w B S Q P sa qa pa sc qc pc R := by
  obtain ⟨S, Q, P, q1, q2, q3, q4, q5, q6⟩ := h.ex
  obtain ⟨sa, sc, rfl, _⟩ := q1.row
  obtain ⟨qa, qc, rfl, _⟩ := q3.row
  obtain ⟨pa, pc, rfl⟩ := own_form q5.row
  exact ⟨S, Q, P, sa, sc, qa, qc, pa, pc, rfl, rfl, rfl, q1, q2, q3, q4, q5.inT, q6⟩
theorem SendT.below {w w' : World} {B : Nat} {S Q : List FrK} {P : List PkK} {sa qa pa : Option Addr} {sc qc pc : Nat} {R : LinkI × List PkI} (h : SendT w B S Q P sa qa pa sc qc pc R) (hb : Below w.heap.size w w') : SendT w' B S Q P sa qa pa sc qc pc R := ⟨h.inS.below hb, h.eS, h.inQ.below hb, h.eQ, h.inP.below hb, h.eP⟩
theorem SendT.base {w : World} {B B' : Nat} {S Q : List FrK} {P : List PkK} {sa qa pa : Option Addr} {sc qc pc : Nat} {R : LinkI × List PkI} (h : SendT w B S Q P sa qa pa sc qc pc R) (hB : B' ≤ B) : SendT w B' S Q P sa qa pa sc qc pc R := ⟨h.inS.base hB, h.eS, h.inQ.base hB, h.eQ, h.inP.base hB, h.eP⟩
theorem GoOk.laid0 {w : World} {N : Nat} {sv qv pv : Value} {R : LinkI × List PkI} (h : GoOk w 0 N sv qv pv R) : ∃ S Q P sa sc qa qc pa pc, sv = .slice sa S.length sc ∧ qv = .slice qa Q.length qc ∧ pv = .slice pa P.length pc ∧ SendT w 0 S Q P sa qa pa sc qc pc R := by
  obtain ⟨S, Q, P, q1, q2, q3, q4, q5, q6⟩ := h.ex
  obtain ⟨sa, sc, rfl, _⟩ := q1.row
  obtain ⟨qa, qc, rfl, _⟩ := q3.row
  obtain ⟨pa, pc, rfl⟩ := own_form q5.row
  exact ⟨S, Q, P, sa, sc, qa, qc, pa, pc, rfl, rfl, rfl, q1, q2, q3, q4, q5.inT.base (Nat.zero_le _), q6⟩
theorem packs_frames {ep hd : Int} : ∀ (a : List FrI) (n : Int), ∀ p ∈ packs ep hd n a, p.frame ∈ a
  | [], _, p, hp => by simp [packs] at hp
  | f :: a, n, p, hp => by
    rcases List.mem_cons.1 (show p ∈ ⟨ep, n, false, hd, f⟩ :: packs ep hd (n + 1) a from hp) with rfl | hp
    · exact List.mem_cons_self
    · exact List.mem_cons_of_mem _ (packs_frames a (n + 1) p hp)
theorem sendR_packs (l : LinkI) (f : FrI) (h2 : ∀ x ∈ l.queue, FrSmall x) (hf : FrSmall f) : ∀ p ∈ (sendR l f).1.2, FrSmall p.frame := by
  unfold sendR
  by_cases he : lsendErr l f = 0
  · rw [if_pos he]
    intro p hp
    have h := List.mem_of_mem_take (packs_frames _ _ p hp)
    rcases List.mem_append.1 h with hx | hx
    · exact h2 _ hx
    · rw [List.mem_singleton.1 hx]; exact hf
  · rw [if_neg he]
    intro p hp
    simp at hp

end Go.Proofs.YtpgcjpiabciekaaDoor
