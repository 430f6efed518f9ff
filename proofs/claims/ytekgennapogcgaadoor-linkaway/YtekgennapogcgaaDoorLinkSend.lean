/-
  Walks: link.checkSend, link.Send.
-/
import Derived.Test.YtekgennapogcgaaDoorLinkGo
import Derived.Test.YtekgennapogcgaaDoorLinkCheck
namespace Go.Proofs.YtekgennapogcgaaDoor
open Go.RowKit Go.Lib

set_option maxRecDepth 100000 in
set_option maxHeartbeats 2000000 in
theorem checkSend_any {B : Nat} (ep nx hd : Int) (S Q : List FrK) (sv qv : Value) (f : FrI) (v : Value) (w : World) (hS : InK frS w B sv S) (hQ : InK frS w B qv Q) (fS : ∀ x ∈ S, FrSmall x.1) (fQ : ∀ x ∈ Q, FrSmall x.1) (lS : S.length ≤ 1048577) (lQ : Q.length ≤ 1048577) (ho : OpVal w v f.op) (hs : FrSmall f) (hT : Tabs w) :
    Calls Tryd.prog 80 #[.agg #[.int .i64 ep, .int .i64 nx, sv, qv, .int .i64 hd], .agg #[.int .i64 f.kind, .int .i64 f.heard, .int .i64 f.epoch, v, .string f.text]] w fun r w' => r = .returned (.int .i64 (lsendErr (mkL ep nx hd S Q) f)) ∧ Below w.heap.size w w' := by
  have cC := fun w1 (hb : Below w.heap.size w w1) => linkCheck_any ep nx hd S Q sv qv w1 (hS.below hb) (hQ.below hb) fS fQ lS lQ (hT.below hb)
  have cF := fun w1 (hb : Below w.heap.size w w1) => checkFr (ho.below hb) hs (hT.below hb)
  obtain ⟨sa, sc, rfl, _⟩ := hS.row
  obtain ⟨qa, qc, rfl, _⟩ := hQ.row
  obtain ⟨ua, uc, rfl, _⟩ := ho.form
  obtain ⟨hl, hf, HB0, _⟩ := two_blocks w (.cells #[.int .i64 ep, .int .i64 nx, .slice sa S.length sc, .slice qa Q.length qc, .int .i64 hd] 74) (.cells #[.int .i64 f.kind, .int .i64 f.heard, .int .i64 f.epoch, .slice ua f.op.length uc, .string f.text] 78)
  unfold lsendErr
  show Calls _ _ _ _ fun r w' => r = .returned (.int .i64 (if linkErr (mkL ep nx hd S Q) ≠ 0 then linkErr (mkL ep nx hd S Q) else if ep = 0 then 12 else if f.err ≠ 0 then f.err else if nx = 1048576 then 8 else 0)) ∧ _
  generalize linkErr (mkL ep nx hd S Q) = E at *
  generalize f.err = EF at *
  clear hS hQ fS fQ hT ho hs
  obtain ⟨l0, ll0, _⟩ := blk hl
  obtain ⟨f0, fl0, _⟩ := blk hf
  by_cases h1 : E = 0
  rotate_left
  · rw [if_pos h1]
    have g1 : (E != 0) = true := by simpa using h1
    go_enter Tryd.func80, Tryd.ntmps80
    go_wp2_with fail
    refine (cC _ HB0).mono ?_
    rintro r w1 ⟨rfl, hb1⟩
    go_wp2_with fail
    go_ret
    exact ⟨rfl, below_two HB0 hb1 (Nat.le_refl _)⟩
  rw [if_neg (by simpa using h1)]
  subst h1
  by_cases h2 : ep = 0
  · rw [if_pos h2]
    subst h2
    go_enter Tryd.func80, Tryd.ntmps80
    go_wp2_with fail
    refine (cC _ HB0).mono ?_
    rintro r w1 ⟨rfl, hb1⟩
    replace hl := (hb1.block _ ll0).trans hl
    clear l0 ll0
    obtain ⟨l0, ll0, _⟩ := blk hl
    go_wp2_with fail
    go_ret
    exact ⟨rfl, below_two HB0 hb1 (Nat.le_refl _)⟩
  rw [if_neg h2]
  have g2 : (ep == 0) = false := by simpa using h2
  clear h2
  by_cases h3 : EF = 0
  rotate_left
  · rw [if_pos h3]
    have g3 : (EF != 0) = true := by simpa using h3
    go_enter Tryd.func80, Tryd.ntmps80
    go_wp2_with fail
    refine (cC _ HB0).mono ?_
    rintro r w1 ⟨rfl, hb1⟩
    have HB1 := below_two HB0 hb1 (Nat.le_refl _)
    replace hl := (hb1.block _ ll0).trans hl
    replace hf := (hb1.block _ fl0).trans hf
    clear l0 ll0 f0 fl0
    obtain ⟨l0, ll0, _⟩ := blk hl
    obtain ⟨f0, fl0, _⟩ := blk hf
    go_wp2_with fail
    refine (cF _ HB1).mono ?_
    rintro r w2 ⟨rfl, hb2⟩
    go_wp2_with fail
    go_ret
    exact ⟨rfl, below_two HB1 hb2 (Nat.le_refl _)⟩
  rw [if_neg (by simpa using h3)]
  subst h3
  by_cases h4 : nx = 1048576
  · rw [if_pos h4]
    subst h4
    go_enter Tryd.func80, Tryd.ntmps80
    go_wp2_with fail
    refine (cC _ HB0).mono ?_
    rintro r w1 ⟨rfl, hb1⟩
    have HB1 := below_two HB0 hb1 (Nat.le_refl _)
    replace hl := (hb1.block _ ll0).trans hl
    replace hf := (hb1.block _ fl0).trans hf
    clear l0 ll0 f0 fl0
    obtain ⟨l0, ll0, _⟩ := blk hl
    obtain ⟨f0, fl0, _⟩ := blk hf
    go_wp2_with fail
    refine (cF _ HB1).mono ?_
    rintro r w2 ⟨rfl, hb2⟩
    replace hl := (hb2.block _ ll0).trans hl
    clear l0 ll0
    obtain ⟨l0, ll0, _⟩ := blk hl
    go_wp2_with fail
    go_ret
    exact ⟨rfl, below_two HB1 hb2 (Nat.le_refl _)⟩
  rw [if_neg h4]
  have g4 : (nx == 1048576) = false := by simpa using h4
  clear h4
  go_enter Tryd.func80, Tryd.ntmps80
  go_wp2_with fail
  refine (cC _ HB0).mono ?_
  rintro r w1 ⟨rfl, hb1⟩
  have HB1 := below_two HB0 hb1 (Nat.le_refl _)
  replace hl := (hb1.block _ ll0).trans hl
  replace hf := (hb1.block _ fl0).trans hf
  clear l0 ll0 f0 fl0
  obtain ⟨l0, ll0, _⟩ := blk hl
  obtain ⟨f0, fl0, _⟩ := blk hf
  go_wp2_with fail
  refine (cF _ HB1).mono ?_
  rintro r w2 ⟨rfl, hb2⟩
  replace hl := (hb2.block _ ll0).trans hl
  clear l0 ll0
  obtain ⟨l0, ll0, _⟩ := blk hl
  go_wp2_with fail
  go_ret
  exact ⟨rfl, below_two HB1 hb2 (Nat.le_refl _)⟩

/-- P5.4: the link, the packets, what is refused -/
def sendR (l : LinkI) (f : FrI) : (LinkI × List PkI) × Int := if lsendErr l f = 0 then (sendL l f, 0) else ((link0, []), lsendErr l f)
theorem goOk_none (w : World) (B N : Nat) : GoOk w B N (.slice none 0 0) (.slice none 0 0) (.slice none 0 0) (link0, []) := ⟨[], [], [], inT_nil _ _ _, rfl, inT_nil _ _ _, rfl, rowK_nil _ _ _, rfl⟩
/-- what holds of a link that may be -/
theorem linkOk {ep nx hd : Int} {S Q : List FrK} (h : linkErr (mkL ep nx hd S Q) = 0) : (0 ≤ ep ∧ ep ≤ 1048576) ∧ (0 ≤ hd ∧ hd ≤ 1048576) ∧ (0 < nx ∧ nx ≤ 1048576) ∧ S.length ≤ 8 ∧ (S.length : Int) < nx ∧ (S.length = 8 ∨ Q.length = 0) ∧ (ep = 0 → S.length = 0 ∧ hd = 0) := by
  rw [linkErr_eq] at h
  unfold inN at h
  simp only [decide_eq_false_iff_not] at h
  repeat' split at h
  all_goals first | (exfalso; omega) | (refine ⟨?_, ?_, ?_, ?_, ?_, ?_, ?_⟩ <;> omega)
theorem cameN_zero {ep nx hd : Int} {S Q : List FrK} (h : (S.length : Int) < nx) : cameN (mkL ep nx hd S Q) 0 = 0 := by
  unfold cameN mkL
  simp only [List.length_map]
  rw [if_neg (by omega)]

end Go.Proofs.YtekgennapogcgaaDoor
