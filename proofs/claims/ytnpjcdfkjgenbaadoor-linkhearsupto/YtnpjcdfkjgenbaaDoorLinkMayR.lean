/-
  Walks: wherryref.framesMay, LinkMay.
-/
import Derived.Test.YtnpjcdfkjgenbaaDoorLinkCheck
import Derived.Test.YtnpjcdfkjgenbaaDoorWireFault
namespace Go.Proofs.YtnpjcdfkjgenbaaDoor
open Go.RowKit Go.Lib

/-- FrameFault of a frame in memory -/
theorem faultFr {w : World} {f : FrI} {v : Value} (ho : OpVal w v f.op) (hs : FrSmall f) (hT : Tabs w) :
    Calls Tryd.prog 31 #[.agg #[.int .i64 f.kind, .int .i64 f.heard, .int .i64 f.epoch, v, .string f.text]] w fun r w' => r = .returned (.int .i64 f.err) ∧ Below w.heap.size w w' := by
  obtain ⟨a, c, rfl, hop, _, _⟩ := ho.form
  have h1 := hs.op.1
  exact frameFault_any f.kind f.heard f.epoch f.op a c f.text w hop (by omega) (fun p hp => by have := (hs.op.2 p hp).2.2; omega) (by have := hs.text; omega) hT

set_option maxRecDepth 100000 in
set_option maxHeartbeats 1000000 in
theorem framesMay_any {B : Nat} (K : List FrK) (v : Value) (w : World) (h : InK frS w B v K) (hs : ∀ x ∈ K, FrSmall x.1) (hl : K.length ≤ 1048577) (hT : Tabs w) :
    Calls Tryd.prog 30 #[v] w fun r w' => r = .returned (.bool (framesB (K.map (·.1)))) ∧ Below w.heap.size w w' := by
  obtain ⟨RR, hRR⟩ : ∃ RR, RR = framesB (K.map (·.1)) := ⟨_, rfl⟩
  rw [← hRR]
  have HR : Hid (RR = framesB (K.map (·.1))) := hRR
  clear hRR
  obtain ⟨a, c, rfl, hlc, _, _⟩ := h.row
  go_enter Tryd.func30, Tryd.ntmps30
  go_wp2_with fail
  go_loopg [3] K.length (fun g iv wr => ∃ i : Nat, i + g = K.length ∧ iv = .int .i64 (i : Int) ∧ Hid (RR = framesB ((K.drop i).map (·.1))) ∧ Below w.heap.size w wr)
  case atStart => exact ⟨0, by omega, rfl, by rw [List.drop_zero]; exact HR, Below.refl _ _⟩
  case round =>
    obtain ⟨i, hi, rfl, HI, hb⟩ := hrel
    by_cases hlt : i < K.length
    · have hiz : (i : Int) < (K.length : Int) := by omega
      have hi0 : (0 : Int) ≤ (i : Int) := by omega
      have HJ : Hid (RR = (decide (K[i].1.err = 0) && framesB ((K.drop (i + 1)).map (·.1)))) := by
        show _ = _
        rw [HI.out, framesB_drop K hlt]
      clear HI
      obtain ⟨b, off, c', ea, hbl, _, c0, c1, c2, c3, c4⟩ := fr_get h hlt
      simp only [Value.slice.injEq, true_and] at ea
      obtain ⟨rfl, rfl⟩ := ea
      have hov : OpVal w K[i].2 K[i].1.op := (h.each K[i] (List.getElem_mem hlt)).op
      have hsm := hs K[i] (List.getElem_mem hlt)
      have cW := faultFr (hov.below hb) hsm (hT.below hb)
      replace c0 := (hb.cell (p := ⟨b, off + i * 5, none⟩) hbl).trans c0
      replace c1 := (hb.cell (p := ⟨b, off + i * 5 + 1, none⟩) hbl).trans c1
      replace c2 := (hb.cell (p := ⟨b, off + i * 5 + 2, none⟩) hbl).trans c2
      replace c3 := (hb.cell (p := ⟨b, off + i * 5 + 3, none⟩) hbl).trans c3
      replace c4 := (hb.cell (p := ⟨b, off + i * 5 + 4, none⟩) hbl).trans c4
      generalize K[i] = x at *
      obtain ⟨f, u⟩ := x
      simp only at c0 c1 c2 c3 c4 hov hsm cW HJ
      obtain ⟨ua, uc, rfl, _⟩ := hov.form
      by_cases he : f.err = 0
      · rw [decide_eq_true he] at HJ
        rw [he] at cW
        clear hs h he
        go_wp2_with fail
        refine cW.mono ?_
        rintro r w1 ⟨rfl, hb1⟩
        have hb2 := below_two hb hb1 (Nat.le_refl _)
        go_wp2_with fail
        go_roundg (K.length - i - 1)
        case measure => omega
        case rel => exact ⟨i + 1, by omega, by go_num, by show _ = _; rw [HJ.out]; rfl, hb2⟩
      · rw [decide_eq_false he] at HJ
        have hg : (f.err != 0) = true := by simpa using he
        generalize f.err = er at *
        clear hs h he
        go_wp2_with fail
        refine cW.mono ?_
        rintro r w1 ⟨rfl, hb1⟩
        have hb2 := below_two hb hb1 (Nat.le_refl _)
        go_wp2_with fail
        go_ret
        exact ⟨by rw [HJ.out]; rfl, hb2⟩
    · have hiz : ¬ (i : Int) < (K.length : Int) := by omega
      have HE : Hid (RR = true) := by
        show _ = _
        rw [HI.out, List.drop_of_length_le (by omega)]
        rfl
      clear HI
      go_wp2_with fail
      go_ret
      exact ⟨by rw [HE.out]; rfl, hb⟩

theorem linkMay_eq (ep nx hd : Int) (S Q : List FrK) : decide (linkErr (mkL ep nx hd S Q) = 0) = if decide (0 ≤ ep ∧ ep ≤ 1048576) = false then false else if decide (1 ≤ nx ∧ nx ≤ 1048576) = false then false else if decide (0 ≤ hd ∧ hd ≤ 1048576) = false then false else if (8 : Int) < S.length then false else if nx - 1 < S.length then false else if 0 < Q.length ∧ S.length ≠ 8 then false else if ep = 0 ∧ (0 < S.length ∨ 0 < hd) then false else if framesB (S.map (·.1)) = false then false else framesB (Q.map (·.1)) := by
  rw [linkErr_eq]
  generalize framesB (S.map (·.1)) = RS
  generalize framesB (Q.map (·.1)) = RQ
  generalize S.length = s
  generalize Q.length = q
  unfold inN
  simp only [decide_eq_false_iff_not]
  cases RS <;> cases RQ <;> simp only [if_true, if_false, reduceCtorEq] <;> (repeat' split) <;> first | rfl | (exfalso; omega) | (simp; done)

set_option maxRecDepth 100000 in
set_option maxHeartbeats 4000000 in
theorem linkMay_any {B : Nat} (ep nx hd : Int) (S Q : List FrK) (sv qv : Value) (w : World) (hS : InK frS w B sv S) (hQ : InK frS w B qv Q) (fS : ∀ x ∈ S, FrSmall x.1) (fQ : ∀ x ∈ Q, FrSmall x.1) (lS : S.length ≤ 1048577) (lQ : Q.length ≤ 1048577) (hT : Tabs w) :
    Calls Tryd.prog 16 #[.agg #[.int .i64 ep, .int .i64 nx, sv, qv, .int .i64 hd]] w fun r w' => r = .returned (.bool (decide (linkErr (mkL ep nx hd S Q) = 0))) ∧ Below w.heap.size w w' := by
  rw [linkMay_eq]
  have cE := fun w => in_any ep 0 1048576 w
  have cN := fun w => in_any nx 1 1048576 w
  have cH := fun w => in_any hd 0 1048576 w
  have cS := fun w1 (hb : Below w.heap.size w w1) => framesMay_any S sv w1 (hS.below hb) fS lS (hT.below hb)
  have cQ := fun w1 (hb : Below w.heap.size w w1) => framesMay_any Q qv w1 (hQ.below hb) fQ lQ (hT.below hb)
  obtain ⟨sa, sc, rfl, _⟩ := hS.row
  obtain ⟨qa, qc, rfl, _⟩ := hQ.row
  have hb0 := (Below.refl w.heap.size w).alloc (Nat.le_refl _) (.cells #[.int .i64 ep, .int .i64 nx, .slice sa S.length sc, .slice qa Q.length qc, .int .i64 hd] 24)
  have hp := heap_alloc_new w (.cells #[.int .i64 ep, .int .i64 nx, .slice sa S.length sc, .slice qa Q.length qc, .int .i64 hd] 24)
  clear hS hQ fS fQ hT
  generalize framesB (S.map (·.1)) = RS at *
  generalize framesB (Q.map (·.1)) = RQ at *
  generalize S.length = s at *
  generalize Q.length = q at *
  obtain ⟨q0, ql0, _⟩ := blk hp
  cases hcE : decide (0 ≤ ep ∧ ep ≤ 1048576)
  · rw [hcE] at cE
    rw [if_pos rfl]
    go_enter Tryd.func16, Tryd.ntmps16
    go_wp2_with fail
    refine (cE _).mono ?_
    rintro r w' ⟨rfl, hw'⟩
    rw [hw']
    clear hw'
    go_wp2_with fail
    go_ret
    exact ⟨rfl, hb0⟩
  rw [if_neg (by decide)]
  rw [hcE] at cE
  cases hcN : decide (1 ≤ nx ∧ nx ≤ 1048576)
  · rw [hcN] at cN
    rw [if_pos rfl]
    go_enter Tryd.func16, Tryd.ntmps16
    go_wp2_with fail
    refine (cE _).mono ?_
    rintro r w' ⟨rfl, hw'⟩
    rw [hw']
    clear hw'
    go_wp2_with fail
    refine (cN _).mono ?_
    rintro r w' ⟨rfl, hw'⟩
    rw [hw']
    clear hw'
    go_wp2_with fail
    go_ret
    exact ⟨rfl, hb0⟩
  rw [if_neg (by decide)]
  rw [hcN] at cN
  cases hcH : decide (0 ≤ hd ∧ hd ≤ 1048576)
  · rw [hcH] at cH
    rw [if_pos rfl]
    go_enter Tryd.func16, Tryd.ntmps16
    go_wp2_with fail
    refine (cE _).mono ?_
    rintro r w' ⟨rfl, hw'⟩
    rw [hw']
    clear hw'
    go_wp2_with fail
    refine (cN _).mono ?_
    rintro r w' ⟨rfl, hw'⟩
    rw [hw']
    clear hw'
    go_wp2_with fail
    refine (cH _).mono ?_
    rintro r w' ⟨rfl, hw'⟩
    rw [hw']
    clear hw'
    go_wp2_with fail
    go_ret
    exact ⟨rfl, hb0⟩
  rw [if_neg (by decide)]
  rw [hcH] at cH
  have g1 := of_decide_eq_true hcE
  have g2 := of_decide_eq_true hcN
  have g3 := of_decide_eq_true hcH
  by_cases a2 : (8 : Int) < s
  · rw [if_pos a2]
    go_enter Tryd.func16, Tryd.ntmps16
    go_wp2_with fail
    refine (cE _).mono ?_
    rintro r w' ⟨rfl, hw'⟩
    rw [hw']
    clear hw'
    go_wp2_with fail
    refine (cN _).mono ?_
    rintro r w' ⟨rfl, hw'⟩
    rw [hw']
    clear hw'
    go_wp2_with fail
    refine (cH _).mono ?_
    rintro r w' ⟨rfl, hw'⟩
    rw [hw']
    clear hw'
    go_wp2_with fail
    go_ret
    exact ⟨rfl, hb0⟩
  rw [if_neg a2]
  by_cases a3 : nx - 1 < s
  · rw [if_pos a3]
    go_enter Tryd.func16, Tryd.ntmps16
    go_wp2_with fail
    refine (cE _).mono ?_
    rintro r w' ⟨rfl, hw'⟩
    rw [hw']
    clear hw'
    go_wp2_with fail
    refine (cN _).mono ?_
    rintro r w' ⟨rfl, hw'⟩
    rw [hw']
    clear hw'
    go_wp2_with fail
    refine (cH _).mono ?_
    rintro r w' ⟨rfl, hw'⟩
    rw [hw']
    clear hw'
    go_wp2_with fail
    go_ret
    exact ⟨rfl, hb0⟩
  rw [if_neg a3]
  by_cases a4 : 0 < q ∧ s ≠ 8
  · rw [if_pos a4]
    have a5 : ((s : Int) != 8) = true := by simp; omega
    have a6 : (0 : Int) < (q : Int) := by omega
    go_enter Tryd.func16, Tryd.ntmps16
    go_wp2_with fail
    refine (cE _).mono ?_
    rintro r w' ⟨rfl, hw'⟩
    rw [hw']
    clear hw'
    go_wp2_with fail
    refine (cN _).mono ?_
    rintro r w' ⟨rfl, hw'⟩
    rw [hw']
    clear hw'
    go_wp2_with fail
    refine (cH _).mono ?_
    rintro r w' ⟨rfl, hw'⟩
    rw [hw']
    clear hw'
    go_wp2_with fail
    go_ret
    exact ⟨rfl, hb0⟩
  rw [if_neg a4]
  by_cases a7 : ep = 0 ∧ (0 < s ∨ 0 < hd)
  · rw [if_pos a7]
    obtain ⟨e0, a8⟩ := a7
    subst e0
    by_cases a6 : (0 : Int) < (q : Int)
    · obtain rfl : s = 8 := by omega
      clear a4
      go_enter Tryd.func16, Tryd.ntmps16
      go_wp2_with fail
      refine (cE _).mono ?_
      rintro r w' ⟨rfl, hw'⟩
      rw [hw']
      clear hw'
      go_wp2_with fail
      refine (cN _).mono ?_
      rintro r w' ⟨rfl, hw'⟩
      rw [hw']
      clear hw'
      go_wp2_with fail
      refine (cH _).mono ?_
      rintro r w' ⟨rfl, hw'⟩
      rw [hw']
      clear hw'
      go_wp2_with fail
      go_ret
      exact ⟨rfl, hb0⟩
    · clear a4
      by_cases a9 : (0 : Int) < (s : Int)
      · skip
        go_enter Tryd.func16, Tryd.ntmps16
        go_wp2_with fail
        refine (cE _).mono ?_
        rintro r w' ⟨rfl, hw'⟩
        rw [hw']
        clear hw'
        go_wp2_with fail
        refine (cN _).mono ?_
        rintro r w' ⟨rfl, hw'⟩
        rw [hw']
        clear hw'
        go_wp2_with fail
        refine (cH _).mono ?_
        rintro r w' ⟨rfl, hw'⟩
        rw [hw']
        clear hw'
        go_wp2_with fail
        go_ret
        exact ⟨rfl, hb0⟩
      · have a10 : 0 < hd := by omega
        obtain rfl : s = 0 := by omega
        clear a9 a8
        go_enter Tryd.func16, Tryd.ntmps16
        go_wp2_with fail
        refine (cE _).mono ?_
        rintro r w' ⟨rfl, hw'⟩
        rw [hw']
        clear hw'
        go_wp2_with fail
        refine (cN _).mono ?_
        rintro r w' ⟨rfl, hw'⟩
        rw [hw']
        clear hw'
        go_wp2_with fail
        refine (cH _).mono ?_
        rintro r w' ⟨rfl, hw'⟩
        rw [hw']
        clear hw'
        go_wp2_with fail
        go_ret
        exact ⟨rfl, hb0⟩
  rw [if_neg a7]
  have a8 : ep = 0 → s = 0 ∧ hd = 0 := fun e => by omega
  clear a7
  cases RS with
  | false =>
    rw [if_pos rfl]
    clear cQ
    by_cases a6 : (0 : Int) < (q : Int)
    · obtain rfl : s = 8 := by omega
      clear a4
      have e0 : ¬ ep = 0 := fun e => by have := a8 e; omega
      have e1 : (ep == 0) = false := by simpa using e0
      clear a8
      go_enter Tryd.func16, Tryd.ntmps16
      go_wp2_with fail
      refine (cE _).mono ?_
      rintro r w' ⟨rfl, hw'⟩
      rw [hw']
      clear hw'
      go_wp2_with fail
      refine (cN _).mono ?_
      rintro r w' ⟨rfl, hw'⟩
      rw [hw']
      clear hw'
      go_wp2_with fail
      refine (cH _).mono ?_
      rintro r w' ⟨rfl, hw'⟩
      rw [hw']
      clear hw'
      go_wp2_with fail
      refine (cS _ hb0).mono ?_
      rintro r w1 ⟨rfl, hb1⟩
      have HB1 := below_two hb0 hb1 (Nat.le_refl _)
      replace hp := (hb1.block _ ql0).trans hp
      clear q0 ql0
      obtain ⟨q0, ql0, _⟩ := blk hp
      go_wp2_with fail
      go_ret
      exact ⟨rfl, HB1⟩
    · clear a4
      by_cases e0 : ep = 0
      · obtain ⟨e1, e2⟩ := a8 e0
        subst e0 e1 e2
        clear a8
        go_enter Tryd.func16, Tryd.ntmps16
        go_wp2_with fail
        refine (cE _).mono ?_
        rintro r w' ⟨rfl, hw'⟩
        rw [hw']
        clear hw'
        go_wp2_with fail
        refine (cN _).mono ?_
        rintro r w' ⟨rfl, hw'⟩
        rw [hw']
        clear hw'
        go_wp2_with fail
        refine (cH _).mono ?_
        rintro r w' ⟨rfl, hw'⟩
        rw [hw']
        clear hw'
        go_wp2_with fail
        refine (cS _ hb0).mono ?_
        rintro r w1 ⟨rfl, hb1⟩
        have HB1 := below_two hb0 hb1 (Nat.le_refl _)
        replace hp := (hb1.block _ ql0).trans hp
        clear q0 ql0
        obtain ⟨q0, ql0, _⟩ := blk hp
        go_wp2_with fail
        go_ret
        exact ⟨rfl, HB1⟩
      · have e1 : (ep == 0) = false := by simpa using e0
        clear a8
        go_enter Tryd.func16, Tryd.ntmps16
        go_wp2_with fail
        refine (cE _).mono ?_
        rintro r w' ⟨rfl, hw'⟩
        rw [hw']
        clear hw'
        go_wp2_with fail
        refine (cN _).mono ?_
        rintro r w' ⟨rfl, hw'⟩
        rw [hw']
        clear hw'
        go_wp2_with fail
        refine (cH _).mono ?_
        rintro r w' ⟨rfl, hw'⟩
        rw [hw']
        clear hw'
        go_wp2_with fail
        refine (cS _ hb0).mono ?_
        rintro r w1 ⟨rfl, hb1⟩
        have HB1 := below_two hb0 hb1 (Nat.le_refl _)
        replace hp := (hb1.block _ ql0).trans hp
        clear q0 ql0
        obtain ⟨q0, ql0, _⟩ := blk hp
        go_wp2_with fail
        go_ret
        exact ⟨rfl, HB1⟩
  | true =>
    rw [if_neg (by decide)]
    by_cases a6 : (0 : Int) < (q : Int)
    · obtain rfl : s = 8 := by omega
      clear a4
      have e0 : ¬ ep = 0 := fun e => by have := a8 e; omega
      have e1 : (ep == 0) = false := by simpa using e0
      clear a8
      go_enter Tryd.func16, Tryd.ntmps16
      go_wp2_with fail
      refine (cE _).mono ?_
      rintro r w' ⟨rfl, hw'⟩
      rw [hw']
      clear hw'
      go_wp2_with fail
      refine (cN _).mono ?_
      rintro r w' ⟨rfl, hw'⟩
      rw [hw']
      clear hw'
      go_wp2_with fail
      refine (cH _).mono ?_
      rintro r w' ⟨rfl, hw'⟩
      rw [hw']
      clear hw'
      go_wp2_with fail
      refine (cS _ hb0).mono ?_
      rintro r w1 ⟨rfl, hb1⟩
      have HB1 := below_two hb0 hb1 (Nat.le_refl _)
      replace hp := (hb1.block _ ql0).trans hp
      clear q0 ql0
      obtain ⟨q0, ql0, _⟩ := blk hp
      go_wp2_with fail
      refine (cQ _ HB1).mono ?_
      rintro r w2 ⟨rfl, hb2⟩
      have HB2 := below_two HB1 hb2 (Nat.le_refl _)
      go_wp2_with fail
      go_ret
      exact ⟨rfl, HB2⟩
    · clear a4
      by_cases e0 : ep = 0
      · obtain ⟨e1, e2⟩ := a8 e0
        subst e0 e1 e2
        clear a8
        go_enter Tryd.func16, Tryd.ntmps16
        go_wp2_with fail
        refine (cE _).mono ?_
        rintro r w' ⟨rfl, hw'⟩
        rw [hw']
        clear hw'
        go_wp2_with fail
        refine (cN _).mono ?_
        rintro r w' ⟨rfl, hw'⟩
        rw [hw']
        clear hw'
        go_wp2_with fail
        refine (cH _).mono ?_
        rintro r w' ⟨rfl, hw'⟩
        rw [hw']
        clear hw'
        go_wp2_with fail
        refine (cS _ hb0).mono ?_
        rintro r w1 ⟨rfl, hb1⟩
        have HB1 := below_two hb0 hb1 (Nat.le_refl _)
        replace hp := (hb1.block _ ql0).trans hp
        clear q0 ql0
        obtain ⟨q0, ql0, _⟩ := blk hp
        go_wp2_with fail
        refine (cQ _ HB1).mono ?_
        rintro r w2 ⟨rfl, hb2⟩
        have HB2 := below_two HB1 hb2 (Nat.le_refl _)
        go_wp2_with fail
        go_ret
        exact ⟨rfl, HB2⟩
      · have e1 : (ep == 0) = false := by simpa using e0
        clear a8
        go_enter Tryd.func16, Tryd.ntmps16
        go_wp2_with fail
        refine (cE _).mono ?_
        rintro r w' ⟨rfl, hw'⟩
        rw [hw']
        clear hw'
        go_wp2_with fail
        refine (cN _).mono ?_
        rintro r w' ⟨rfl, hw'⟩
        rw [hw']
        clear hw'
        go_wp2_with fail
        refine (cH _).mono ?_
        rintro r w' ⟨rfl, hw'⟩
        rw [hw']
        clear hw'
        go_wp2_with fail
        refine (cS _ hb0).mono ?_
        rintro r w1 ⟨rfl, hb1⟩
        have HB1 := below_two hb0 hb1 (Nat.le_refl _)
        replace hp := (hb1.block _ ql0).trans hp
        clear q0 ql0
        obtain ⟨q0, ql0, _⟩ := blk hp
        go_wp2_with fail
        refine (cQ _ HB1).mono ?_
        rintro r w2 ⟨rfl, hb2⟩
        have HB2 := below_two HB1 hb2 (Nat.le_refl _)
        go_wp2_with fail
        go_ret
        exact ⟨rfl, HB2⟩

end Go.Proofs.YtnpjcdfkjgenbaaDoor
