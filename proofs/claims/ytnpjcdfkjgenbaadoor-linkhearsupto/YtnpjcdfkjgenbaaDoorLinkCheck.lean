/-
  Walks: link.Check and what it calls.
-/
import Derived.Test.YtnpjcdfkjgenbaaDoorLinkMem
import Derived.Deep.LoopGhost
namespace Go.Proofs.YtnpjcdfkjgenbaaDoor
open Go.RowKit Go.Lib

set_option maxHeartbeats 400000 in
theorem lcounts_same (n : Int) (w : World) :
    Calls Tryd.prog 34 #[.int .i64 n] w fun e w' => e = .returned (.bool (inN n)) ∧ w' = w := by
  unfold inN
  by_cases h1 : 0 ≤ n
  · by_cases h2 : n ≤ 1048576
    · have e : decide (0 ≤ n ∧ n ≤ 1048576) = true := decide_eq_true ⟨h1, h2⟩
      rw [e]
      clear e
      go_enter Tryd.func34, Tryd.ntmps34
      go_wp2
      go_ret
      exact ⟨rfl, rfl⟩
    · have e : decide (0 ≤ n ∧ n ≤ 1048576) = false := decide_eq_false fun h => h2 h.2
      rw [e]
      clear e
      go_enter Tryd.func34, Tryd.ntmps34
      go_wp2
      go_ret
      exact ⟨rfl, rfl⟩
  · have e : decide (0 ≤ n ∧ n ≤ 1048576) = false := decide_eq_false fun h => h1 h.1
    rw [e]
    clear e
    go_enter Tryd.func34, Tryd.ntmps34
    go_wp2
    go_ret
    exact ⟨rfl, rfl⟩

/-- CheckFrame of a frame in memory -/
theorem checkFr {w : World} {f : FrI} {v : Value} (ho : OpVal w v f.op) (hs : FrSmall f) (hT : Tabs w) :
    Calls Tryd.prog 36 #[.agg #[.int .i64 f.kind, .int .i64 f.heard, .int .i64 f.epoch, v, .string f.text]] w fun r w' => r = .returned (.int .i64 f.err) ∧ Below w.heap.size w w' := by
  obtain ⟨a, c, rfl, hop, _, _⟩ := ho.form
  have h1 := hs.op.1
  exact checkFrame_any f.kind f.heard f.epoch f.op a c f.text w hop (by omega) (fun p hp => by have := (hs.op.2 p hp).2.2; omega) (by have := hs.text; omega) hT

set_option maxRecDepth 100000 in
set_option maxHeartbeats 1000000 in
theorem wrong_any {w : World} {f : FrI} {v : Value} (ho : OpVal w v f.op) (hs : FrSmall f) (hT : Tabs w) :
    Calls Tryd.prog 35 #[.agg #[.int .i64 f.kind, .int .i64 f.heard, .int .i64 f.epoch, v, .string f.text]] w fun r w' => r = .returned (.bool (!decide (f.err = 0))) ∧ Below w.heap.size w w' := by
  have hb0 := (Below.refl w.heap.size w).alloc (Nat.le_refl _) (.cells #[.int .i64 f.kind, .int .i64 f.heard, .int .i64 f.epoch, v, .string f.text] 28)
  have hp := heap_alloc_new w (.cells #[.int .i64 f.kind, .int .i64 f.heard, .int .i64 f.epoch, v, .string f.text] 28)
  have cF := checkFr (ho.below hb0) hs (hT.below hb0)
  obtain ⟨a, c, rfl, _⟩ := ho.form
  obtain ⟨q0, ql0, _⟩ := blk hp
  by_cases h : f.err = 0
  · rw [decide_eq_true h]
    rw [h] at cF
    go_enter Tryd.func35, Tryd.ntmps35
    go_wp2_with fail
    refine cF.mono ?_
    rintro r w1 ⟨rfl, hb1⟩
    go_wp2_with fail
    go_ret
    exact ⟨rfl, below_two hb0 hb1 (Nat.le_refl _)⟩
  · rw [decide_eq_false h]
    have g : (f.err != 0) = true := by simpa using h
    generalize f.err = er at *
    go_enter Tryd.func35, Tryd.ntmps35
    go_wp2_with fail
    refine cF.mono ?_
    rintro r w1 ⟨rfl, hb1⟩
    go_wp2_with fail
    go_ret
    exact ⟨rfl, below_two hb0 hb1 (Nat.le_refl _)⟩

theorem framesB_drop (K : List FrK) {i : Nat} (h : i < K.length) : framesB ((K.drop i).map (·.1)) = (decide (K[i].1.err = 0) && framesB ((K.drop (i + 1)).map (·.1))) := by
  rw [List.drop_eq_getElem_cons h]
  rfl

set_option maxRecDepth 100000 in
set_option maxHeartbeats 1000000 in
theorem indexWrong {B : Nat} (K : List FrK) (v : Value) (w : World) (h : InK frS w B v K) (hs : ∀ x ∈ K, FrSmall x.1) (hl : K.length ≤ 1048577) (hT : Tabs w) :
    Calls Tryd.prog 45 #[v, .func (.func 35) #[] #[]] w fun r w' => ∃ n : Int, r = .returned (.int .i64 n) ∧ (decide (0 ≤ n) = !framesB (K.map (·.1))) ∧ Below w.heap.size w w' := by
  have eg : ∀ args w, (callFunc 35 args).run Tryd.prog w = .ok (.enter 35 args) w := enters_of Tryd.func35 (by kernel_rfl) rfl
  obtain ⟨RR, hRR⟩ : ∃ RR, RR = framesB (K.map (·.1)) := ⟨_, rfl⟩
  rw [← hRR]
  have HR : Hid (RR = framesB (K.map (·.1))) := hRR
  clear hRR
  obtain ⟨a, c, rfl, hlc, _, _⟩ := h.row
  go_enter Tryd.func45, Tryd.ntmps45
  go_wp2_with fail
  go_loopg [8] K.length (fun g iv wr => ∃ i : Nat, i + g = K.length ∧ iv = .int .i64 (i : Int) ∧ Hid (RR = framesB ((K.drop i).map (·.1))) ∧ Below w.heap.size w wr)
  case atStart => exact ⟨0, by omega, rfl, by rw [List.drop_zero]; exact HR, Below.refl _ _⟩
  case round =>
    obtain ⟨i, hi, rfl, HI, hb⟩ := hrel
    by_cases hlt : i < K.length
    · have hiz : (i : Int) < (K.length : Int) := by omega
      have hi0 : (0 : Int) ≤ (i : Int) := by omega
      have HJ : Hid (RR = (decide (K[i].1.err = 0) && framesB ((K.drop (i + 1)).map (·.1)))) := by
        show _ = _
        rw [HI.out, framesB_drop K hlt]
      clear HI
      obtain ⟨b, off, c', ea, hbl, _, c0, c1, c2, c3, c4⟩ := fr_get h hlt
      simp only [Value.slice.injEq, true_and] at ea
      obtain ⟨rfl, rfl⟩ := ea
      have hov : OpVal w K[i].2 K[i].1.op := (h.each K[i] (List.getElem_mem hlt)).op
      have hsm := hs K[i] (List.getElem_mem hlt)
      have cW := wrong_any (hov.below hb) hsm (hT.below hb)
      replace c0 := (hb.cell (p := ⟨b, off + i * 5, none⟩) hbl).trans c0
      replace c1 := (hb.cell (p := ⟨b, off + i * 5 + 1, none⟩) hbl).trans c1
      replace c2 := (hb.cell (p := ⟨b, off + i * 5 + 2, none⟩) hbl).trans c2
      replace c3 := (hb.cell (p := ⟨b, off + i * 5 + 3, none⟩) hbl).trans c3
      replace c4 := (hb.cell (p := ⟨b, off + i * 5 + 4, none⟩) hbl).trans c4
      generalize K[i] = x at *
      obtain ⟨f, u⟩ := x
      simp only at c0 c1 c2 c3 c4 hov hsm cW HJ
      obtain ⟨ua, uc, rfl, _⟩ := hov.form
      have cW' : Calls Tryd.prog 35 (#[.agg #[.int .i64 f.kind, .int .i64 f.heard, .int .i64 f.epoch, .slice ua f.op.length uc, .string f.text]] ++ #[]) wr fun r w' => r = .returned (.bool (!decide (f.err = 0))) ∧ Below wr.heap.size wr w' := cW
      by_cases he : f.err = 0
      · rw [decide_eq_true he] at HJ cW cW'
        clear hs h
        go_wp2_with (go_at_fn 35; refine cW.mono ?_; rintro r w1 ⟨rfl, hb1⟩)
        have hb2 := below_two hb hb1 (Nat.le_refl _)
        go_wp2_with fail
        go_roundg (K.length - i - 1)
        case measure => omega
        case rel => exact ⟨i + 1, by omega, by go_num, by show _ = _; rw [HJ.out]; rfl, hb2⟩
      · rw [decide_eq_false he] at HJ cW cW'
        clear hs h
        go_wp2_with (go_at_fn 35; refine cW.mono ?_; rintro r w1 ⟨rfl, hb1⟩)
        have hb2 := below_two hb hb1 (Nat.le_refl _)
        go_wp2_with fail
        go_ret
        exact ⟨(i : Int), rfl, by rw [HJ.out, decide_eq_true hi0]; rfl, hb2⟩
    · have hiz : ¬ (i : Int) < (K.length : Int) := by omega
      have HE : Hid (RR = true) := by
        show _ = _
        rw [HI.out, List.drop_of_length_le (by omega)]
        rfl
      clear HI
      go_wp2_with fail
      go_ret
      exact ⟨-1, rfl, by rw [HE.out]; rfl, hb⟩

set_option maxRecDepth 100000 in
set_option maxHeartbeats 1000000 in
theorem containsWrong {B : Nat} (K : List FrK) (v : Value) (w : World) (h : InK frS w B v K) (hs : ∀ x ∈ K, FrSmall x.1) (hl : K.length ≤ 1048577) (hT : Tabs w) :
    Calls Tryd.prog 37 #[v, .func (.func 35) #[] #[]] w fun r w' => r = .returned (.bool (!framesB (K.map (·.1)))) ∧ Below w.heap.size w w' := by
  have cI := indexWrong K v w h hs hl hT
  obtain ⟨a, c, rfl, _⟩ := h.row
  generalize framesB (K.map (·.1)) = R at *
  go_enter Tryd.func37, Tryd.ntmps37
  go_wp2_with fail
  refine cI.mono ?_
  rintro r w1 ⟨n, rfl, hn, hb1⟩
  go_wp2_with fail
  go_ret
  exact ⟨rfl, hb1⟩

theorem linkErr_eq (ep nx hd : Int) (S Q : List FrK) : linkErr (mkL ep nx hd S Q) = if inN ep = false then 9 else if inN hd = false then 9 else if inN nx = false then 9 else if nx = 0 then 9 else if (8 : Int) < S.length then 9 else if nx ≤ S.length then 9 else if S.length < 8 ∧ 0 < Q.length then 9 else if ep = 0 ∧ (0 < S.length ∨ 0 < hd) then 9 else if framesB (S.map (·.1)) = false then 9 else if framesB (Q.map (·.1)) = false then 9 else 0 := by
  unfold linkErr linkOkB linkNum mkL
  simp only [List.length_map]
  generalize framesB (S.map (·.1)) = RS
  generalize framesB (Q.map (·.1)) = RQ
  generalize S.length = s
  generalize Q.length = q
  cases h1 : inN ep
  · simp
  cases h2 : inN hd
  · simp
  cases h3 : inN nx
  · simp
  have h2' := of_decide_eq_true h2
  cases RS
  · simp
  cases RQ
  · simp
  by_cases a1 : nx = 0
  · simp [a1]
  by_cases a2 : (8 : Int) < s
  · simp [a1, a2, show ¬ (s : Int) ≤ 8 by omega]
  by_cases a3 : nx ≤ s
  · simp [a1, a2, a3, show ¬ (s : Int) < nx by omega]
  by_cases a4 : s < 8 ∧ 0 < q
  · simp [a1, a2, a3, a4, show ¬ s = 8 by omega, show ¬ q = 0 by omega]
  by_cases a5 : ep = 0 ∧ (0 < s ∨ 0 < hd)
  · refine (if_neg (by simp; omega)).trans ?_
    rw [if_neg (by decide), if_neg (by decide), if_neg (by decide), if_neg a1, if_neg a2, if_neg a3, if_neg a4, if_pos a5]
  refine (if_pos (by simp; omega)).trans ?_
  rw [if_neg (by decide), if_neg (by decide), if_neg (by decide), if_neg a1, if_neg a2, if_neg a3, if_neg a4, if_neg a5, if_neg (by decide), if_neg (by decide)]

set_option maxRecDepth 100000 in
set_option maxHeartbeats 4000000 in
theorem linkCheck_any {B : Nat} (ep nx hd : Int) (S Q : List FrK) (sv qv : Value) (w : World) (hS : InK frS w B sv S) (hQ : InK frS w B qv Q) (fS : ∀ x ∈ S, FrSmall x.1) (fQ : ∀ x ∈ Q, FrSmall x.1) (lS : S.length ≤ 1048577) (lQ : Q.length ≤ 1048577) (hT : Tabs w) :
    Calls Tryd.prog 24 #[.agg #[.int .i64 ep, .int .i64 nx, sv, qv, .int .i64 hd]] w fun r w' => r = .returned (.int .i64 (linkErr (mkL ep nx hd S Q))) ∧ Below w.heap.size w w' := by
  rw [linkErr_eq]
  have cE := fun w => lcounts_same ep w
  have cH := fun w => lcounts_same hd w
  have cN := fun w => lcounts_same nx w
  have cS := fun w1 (hb : Below w.heap.size w w1) => containsWrong S sv w1 (hS.below hb) fS lS (hT.below hb)
  have cQ := fun w1 (hb : Below w.heap.size w w1) => containsWrong Q qv w1 (hQ.below hb) fQ lQ (hT.below hb)
  obtain ⟨sa, sc, rfl, _⟩ := hS.row
  obtain ⟨qa, qc, rfl, _⟩ := hQ.row
  have hb0 := (Below.refl w.heap.size w).alloc (Nat.le_refl _) (.cells #[.int .i64 ep, .int .i64 nx, .slice sa S.length sc, .slice qa Q.length qc, .int .i64 hd] 24)
  have hp := heap_alloc_new w (.cells #[.int .i64 ep, .int .i64 nx, .slice sa S.length sc, .slice qa Q.length qc, .int .i64 hd] 24)
  clear hS hQ fS fQ hT
  generalize framesB (S.map (·.1)) = RS at *
  generalize framesB (Q.map (·.1)) = RQ at *
  generalize S.length = s at *
  generalize Q.length = q at *
  obtain ⟨q0, ql0, _⟩ := blk hp
  cases hcE : inN ep
  · rw [hcE] at cE
    rw [if_pos rfl]
    go_enter Tryd.func24, Tryd.ntmps24
    go_wp2_with fail
    refine (cE _).mono ?_
    rintro r w' ⟨rfl, hw'⟩
    rw [hw']
    clear hw'
    go_wp2_with fail
    go_ret
    exact ⟨rfl, hb0⟩
  rw [if_neg (by decide)]
  rw [hcE] at cE
  cases hcH : inN hd
  · rw [hcH] at cH
    rw [if_pos rfl]
    go_enter Tryd.func24, Tryd.ntmps24
    go_wp2_with fail
    refine (cE _).mono ?_
    rintro r w' ⟨rfl, hw'⟩
    rw [hw']
    clear hw'
    go_wp2_with fail
    refine (cH _).mono ?_
    rintro r w' ⟨rfl, hw'⟩
    rw [hw']
    clear hw'
    go_wp2_with fail
    go_ret
    exact ⟨rfl, hb0⟩
  rw [if_neg (by decide)]
  rw [hcH] at cH
  cases hcN : inN nx
  · rw [hcN] at cN
    rw [if_pos rfl]
    go_enter Tryd.func24, Tryd.ntmps24
    go_wp2_with fail
    refine (cE _).mono ?_
    rintro r w' ⟨rfl, hw'⟩
    rw [hw']
    clear hw'
    go_wp2_with fail
    refine (cH _).mono ?_
    rintro r w' ⟨rfl, hw'⟩
    rw [hw']
    clear hw'
    go_wp2_with fail
    refine (cN _).mono ?_
    rintro r w' ⟨rfl, hw'⟩
    rw [hw']
    clear hw'
    go_wp2_with fail
    go_ret
    exact ⟨rfl, hb0⟩
  rw [if_neg (by decide)]
  rw [hcN] at cN
  have g2 := of_decide_eq_true hcH
  have g3 := of_decide_eq_true hcN
  have g1 := of_decide_eq_true hcE
  by_cases a1 : nx = 0
  · rw [if_pos a1]
    subst a1
    go_enter Tryd.func24, Tryd.ntmps24
    go_wp2_with fail
    refine (cE _).mono ?_
    rintro r w' ⟨rfl, hw'⟩
    rw [hw']
    clear hw'
    go_wp2_with fail
    refine (cH _).mono ?_
    rintro r w' ⟨rfl, hw'⟩
    rw [hw']
    clear hw'
    go_wp2_with fail
    refine (cN _).mono ?_
    rintro r w' ⟨rfl, hw'⟩
    rw [hw']
    clear hw'
    go_wp2_with fail
    go_ret
    exact ⟨rfl, hb0⟩
  rw [if_neg a1]
  have n1 : (nx == 0) = false := by simpa using a1
  by_cases a2 : (8 : Int) < s
  · rw [if_pos a2]
    go_enter Tryd.func24, Tryd.ntmps24
    go_wp2_with fail
    refine (cE _).mono ?_
    rintro r w' ⟨rfl, hw'⟩
    rw [hw']
    clear hw'
    go_wp2_with fail
    refine (cH _).mono ?_
    rintro r w' ⟨rfl, hw'⟩
    rw [hw']
    clear hw'
    go_wp2_with fail
    refine (cN _).mono ?_
    rintro r w' ⟨rfl, hw'⟩
    rw [hw']
    clear hw'
    go_wp2_with fail
    go_ret
    exact ⟨rfl, hb0⟩
  rw [if_neg a2]
  by_cases a3 : nx ≤ s
  · rw [if_pos a3]
    go_enter Tryd.func24, Tryd.ntmps24
    go_wp2_with fail
    refine (cE _).mono ?_
    rintro r w' ⟨rfl, hw'⟩
    rw [hw']
    clear hw'
    go_wp2_with fail
    refine (cH _).mono ?_
    rintro r w' ⟨rfl, hw'⟩
    rw [hw']
    clear hw'
    go_wp2_with fail
    refine (cN _).mono ?_
    rintro r w' ⟨rfl, hw'⟩
    rw [hw']
    clear hw'
    go_wp2_with fail
    go_ret
    exact ⟨rfl, hb0⟩
  rw [if_neg a3]
  by_cases a4 : s < 8 ∧ 0 < q
  · rw [if_pos a4]
    have a5 : (s : Int) < 8 := by omega
    have a6 : (0 : Int) < (q : Int) := by omega
    go_enter Tryd.func24, Tryd.ntmps24
    go_wp2_with fail
    refine (cE _).mono ?_
    rintro r w' ⟨rfl, hw'⟩
    rw [hw']
    clear hw'
    go_wp2_with fail
    refine (cH _).mono ?_
    rintro r w' ⟨rfl, hw'⟩
    rw [hw']
    clear hw'
    go_wp2_with fail
    refine (cN _).mono ?_
    rintro r w' ⟨rfl, hw'⟩
    rw [hw']
    clear hw'
    go_wp2_with fail
    go_ret
    exact ⟨rfl, hb0⟩
  rw [if_neg a4]
  by_cases a7 : ep = 0 ∧ (0 < s ∨ 0 < hd)
  · rw [if_pos a7]
    obtain ⟨e0, a8⟩ := a7
    subst e0
    by_cases a5 : (s : Int) < 8
    · have a6 : ¬ (0 : Int) < (q : Int) := by omega
      by_cases a9 : (0 : Int) < (s : Int)
      · clear a4
        go_enter Tryd.func24, Tryd.ntmps24
        go_wp2_with fail
        refine (cE _).mono ?_
        rintro r w' ⟨rfl, hw'⟩
        rw [hw']
        clear hw'
        go_wp2_with fail
        refine (cH _).mono ?_
        rintro r w' ⟨rfl, hw'⟩
        rw [hw']
        clear hw'
        go_wp2_with fail
        refine (cN _).mono ?_
        rintro r w' ⟨rfl, hw'⟩
        rw [hw']
        clear hw'
        go_wp2_with fail
        go_ret
        exact ⟨rfl, hb0⟩
      · have a10 : 0 < hd := by omega
        obtain rfl : s = 0 := by omega
        clear a4 a9 a8
        go_enter Tryd.func24, Tryd.ntmps24
        go_wp2_with fail
        refine (cE _).mono ?_
        rintro r w' ⟨rfl, hw'⟩
        rw [hw']
        clear hw'
        go_wp2_with fail
        refine (cH _).mono ?_
        rintro r w' ⟨rfl, hw'⟩
        rw [hw']
        clear hw'
        go_wp2_with fail
        refine (cN _).mono ?_
        rintro r w' ⟨rfl, hw'⟩
        rw [hw']
        clear hw'
        go_wp2_with fail
        go_ret
        exact ⟨rfl, hb0⟩
    · have a9 : (0 : Int) < (s : Int) := by omega
      clear a4
      go_enter Tryd.func24, Tryd.ntmps24
      go_wp2_with fail
      refine (cE _).mono ?_
      rintro r w' ⟨rfl, hw'⟩
      rw [hw']
      clear hw'
      go_wp2_with fail
      refine (cH _).mono ?_
      rintro r w' ⟨rfl, hw'⟩
      rw [hw']
      clear hw'
      go_wp2_with fail
      refine (cN _).mono ?_
      rintro r w' ⟨rfl, hw'⟩
      rw [hw']
      clear hw'
      go_wp2_with fail
      go_ret
      exact ⟨rfl, hb0⟩
  rw [if_neg a7]
  have a8 : ep = 0 → s = 0 ∧ hd = 0 := fun e => by omega
  cases RS with
  | false =>
    rw [if_pos rfl]
    clear cQ
    by_cases a5 : (s : Int) < 8
    · have a6 : ¬ (0 : Int) < (q : Int) := by omega
      by_cases e0 : ep = 0
      · obtain ⟨e1, e2⟩ := a8 e0
        subst e0 e1 e2
        clear a4 a7 a8
        go_enter Tryd.func24, Tryd.ntmps24
        go_wp2_with fail
        refine (cE _).mono ?_
        rintro r w' ⟨rfl, hw'⟩
        rw [hw']
        clear hw'
        go_wp2_with fail
        refine (cH _).mono ?_
        rintro r w' ⟨rfl, hw'⟩
        rw [hw']
        clear hw'
        go_wp2_with fail
        refine (cN _).mono ?_
        rintro r w' ⟨rfl, hw'⟩
        rw [hw']
        clear hw'
        go_wp2_with fail
        refine (cS _ hb0).mono ?_
        rintro r w1 ⟨rfl, hb1⟩
        have HB1 := below_two hb0 hb1 (Nat.le_refl _)
        replace hp := (hb1.block _ ql0).trans hp
        clear q0 ql0
        obtain ⟨q0, ql0, _⟩ := blk hp
        go_wp2_with fail
        go_ret
        exact ⟨rfl, HB1⟩
      · have e1 : (ep == 0) = false := by simpa using e0
        clear a4 a7 a8
        go_enter Tryd.func24, Tryd.ntmps24
        go_wp2_with fail
        refine (cE _).mono ?_
        rintro r w' ⟨rfl, hw'⟩
        rw [hw']
        clear hw'
        go_wp2_with fail
        refine (cH _).mono ?_
        rintro r w' ⟨rfl, hw'⟩
        rw [hw']
        clear hw'
        go_wp2_with fail
        refine (cN _).mono ?_
        rintro r w' ⟨rfl, hw'⟩
        rw [hw']
        clear hw'
        go_wp2_with fail
        refine (cS _ hb0).mono ?_
        rintro r w1 ⟨rfl, hb1⟩
        have HB1 := below_two hb0 hb1 (Nat.le_refl _)
        replace hp := (hb1.block _ ql0).trans hp
        clear q0 ql0
        obtain ⟨q0, ql0, _⟩ := blk hp
        go_wp2_with fail
        go_ret
        exact ⟨rfl, HB1⟩
    · have e0 : ¬ ep = 0 := fun e => by have := a8 e; omega
      have e1 : (ep == 0) = false := by simpa using e0
      clear a4 a7 a8
      go_enter Tryd.func24, Tryd.ntmps24
      go_wp2_with fail
      refine (cE _).mono ?_
      rintro r w' ⟨rfl, hw'⟩
      rw [hw']
      clear hw'
      go_wp2_with fail
      refine (cH _).mono ?_
      rintro r w' ⟨rfl, hw'⟩
      rw [hw']
      clear hw'
      go_wp2_with fail
      refine (cN _).mono ?_
      rintro r w' ⟨rfl, hw'⟩
      rw [hw']
      clear hw'
      go_wp2_with fail
      refine (cS _ hb0).mono ?_
      rintro r w1 ⟨rfl, hb1⟩
      have HB1 := below_two hb0 hb1 (Nat.le_refl _)
      replace hp := (hb1.block _ ql0).trans hp
      clear q0 ql0
      obtain ⟨q0, ql0, _⟩ := blk hp
      go_wp2_with fail
      go_ret
      exact ⟨rfl, HB1⟩
  | true =>
    rw [if_neg (by decide)]
    cases RQ with
    | false =>
      rw [if_pos rfl]
      by_cases a5 : (s : Int) < 8
      · have a6 : ¬ (0 : Int) < (q : Int) := by omega
        by_cases e0 : ep = 0
        · obtain ⟨e1, e2⟩ := a8 e0
          subst e0 e1 e2
          clear a4 a7 a8
          go_enter Tryd.func24, Tryd.ntmps24
          go_wp2_with fail
          refine (cE _).mono ?_
          rintro r w' ⟨rfl, hw'⟩
          rw [hw']
          clear hw'
          go_wp2_with fail
          refine (cH _).mono ?_
          rintro r w' ⟨rfl, hw'⟩
          rw [hw']
          clear hw'
          go_wp2_with fail
          refine (cN _).mono ?_
          rintro r w' ⟨rfl, hw'⟩
          rw [hw']
          clear hw'
          go_wp2_with fail
          refine (cS _ hb0).mono ?_
          rintro r w1 ⟨rfl, hb1⟩
          have HB1 := below_two hb0 hb1 (Nat.le_refl _)
          replace hp := (hb1.block _ ql0).trans hp
          clear q0 ql0
          obtain ⟨q0, ql0, _⟩ := blk hp
          go_wp2_with fail
          refine (cQ _ HB1).mono ?_
          rintro r w2 ⟨rfl, hb2⟩
          have HB2 := below_two HB1 hb2 (Nat.le_refl _)
          go_wp2_with fail
          go_ret
          exact ⟨rfl, HB2⟩
        · have e1 : (ep == 0) = false := by simpa using e0
          clear a4 a7 a8
          go_enter Tryd.func24, Tryd.ntmps24
          go_wp2_with fail
          refine (cE _).mono ?_
          rintro r w' ⟨rfl, hw'⟩
          rw [hw']
          clear hw'
          go_wp2_with fail
          refine (cH _).mono ?_
          rintro r w' ⟨rfl, hw'⟩
          rw [hw']
          clear hw'
          go_wp2_with fail
          refine (cN _).mono ?_
          rintro r w' ⟨rfl, hw'⟩
          rw [hw']
          clear hw'
          go_wp2_with fail
          refine (cS _ hb0).mono ?_
          rintro r w1 ⟨rfl, hb1⟩
          have HB1 := below_two hb0 hb1 (Nat.le_refl _)
          replace hp := (hb1.block _ ql0).trans hp
          clear q0 ql0
          obtain ⟨q0, ql0, _⟩ := blk hp
          go_wp2_with fail
          refine (cQ _ HB1).mono ?_
          rintro r w2 ⟨rfl, hb2⟩
          have HB2 := below_two HB1 hb2 (Nat.le_refl _)
          go_wp2_with fail
          go_ret
          exact ⟨rfl, HB2⟩
      · have e0 : ¬ ep = 0 := fun e => by have := a8 e; omega
        have e1 : (ep == 0) = false := by simpa using e0
        clear a4 a7 a8
        go_enter Tryd.func24, Tryd.ntmps24
        go_wp2_with fail
        refine (cE _).mono ?_
        rintro r w' ⟨rfl, hw'⟩
        rw [hw']
        clear hw'
        go_wp2_with fail
        refine (cH _).mono ?_
        rintro r w' ⟨rfl, hw'⟩
        rw [hw']
        clear hw'
        go_wp2_with fail
        refine (cN _).mono ?_
        rintro r w' ⟨rfl, hw'⟩
        rw [hw']
        clear hw'
        go_wp2_with fail
        refine (cS _ hb0).mono ?_
        rintro r w1 ⟨rfl, hb1⟩
        have HB1 := below_two hb0 hb1 (Nat.le_refl _)
        replace hp := (hb1.block _ ql0).trans hp
        clear q0 ql0
        obtain ⟨q0, ql0, _⟩ := blk hp
        go_wp2_with fail
        refine (cQ _ HB1).mono ?_
        rintro r w2 ⟨rfl, hb2⟩
        have HB2 := below_two HB1 hb2 (Nat.le_refl _)
        go_wp2_with fail
        go_ret
        exact ⟨rfl, HB2⟩
    | true =>
      rw [if_neg (by decide)]
      by_cases a5 : (s : Int) < 8
      · have a6 : ¬ (0 : Int) < (q : Int) := by omega
        by_cases e0 : ep = 0
        · obtain ⟨e1, e2⟩ := a8 e0
          subst e0 e1 e2
          clear a4 a7 a8
          go_enter Tryd.func24, Tryd.ntmps24
          go_wp2_with fail
          refine (cE _).mono ?_
          rintro r w' ⟨rfl, hw'⟩
          rw [hw']
          clear hw'
          go_wp2_with fail
          refine (cH _).mono ?_
          rintro r w' ⟨rfl, hw'⟩
          rw [hw']
          clear hw'
          go_wp2_with fail
          refine (cN _).mono ?_
          rintro r w' ⟨rfl, hw'⟩
          rw [hw']
          clear hw'
          go_wp2_with fail
          refine (cS _ hb0).mono ?_
          rintro r w1 ⟨rfl, hb1⟩
          have HB1 := below_two hb0 hb1 (Nat.le_refl _)
          replace hp := (hb1.block _ ql0).trans hp
          clear q0 ql0
          obtain ⟨q0, ql0, _⟩ := blk hp
          go_wp2_with fail
          refine (cQ _ HB1).mono ?_
          rintro r w2 ⟨rfl, hb2⟩
          have HB2 := below_two HB1 hb2 (Nat.le_refl _)
          go_wp2_with fail
          go_ret
          exact ⟨rfl, HB2⟩
        · have e1 : (ep == 0) = false := by simpa using e0
          clear a4 a7 a8
          go_enter Tryd.func24, Tryd.ntmps24
          go_wp2_with fail
          refine (cE _).mono ?_
          rintro r w' ⟨rfl, hw'⟩
          rw [hw']
          clear hw'
          go_wp2_with fail
          refine (cH _).mono ?_
          rintro r w' ⟨rfl, hw'⟩
          rw [hw']
          clear hw'
          go_wp2_with fail
          refine (cN _).mono ?_
          rintro r w' ⟨rfl, hw'⟩
          rw [hw']
          clear hw'
          go_wp2_with fail
          refine (cS _ hb0).mono ?_
          rintro r w1 ⟨rfl, hb1⟩
          have HB1 := below_two hb0 hb1 (Nat.le_refl _)
          replace hp := (hb1.block _ ql0).trans hp
          clear q0 ql0
          obtain ⟨q0, ql0, _⟩ := blk hp
          go_wp2_with fail
          refine (cQ _ HB1).mono ?_
          rintro r w2 ⟨rfl, hb2⟩
          have HB2 := below_two HB1 hb2 (Nat.le_refl _)
          go_wp2_with fail
          go_ret
          exact ⟨rfl, HB2⟩
      · have e0 : ¬ ep = 0 := fun e => by have := a8 e; omega
        have e1 : (ep == 0) = false := by simpa using e0
        clear a4 a7 a8
        go_enter Tryd.func24, Tryd.ntmps24
        go_wp2_with fail
        refine (cE _).mono ?_
        rintro r w' ⟨rfl, hw'⟩
        rw [hw']
        clear hw'
        go_wp2_with fail
        refine (cH _).mono ?_
        rintro r w' ⟨rfl, hw'⟩
        rw [hw']
        clear hw'
        go_wp2_with fail
        refine (cN _).mono ?_
        rintro r w' ⟨rfl, hw'⟩
        rw [hw']
        clear hw'
        go_wp2_with fail
        refine (cS _ hb0).mono ?_
        rintro r w1 ⟨rfl, hb1⟩
        have HB1 := below_two hb0 hb1 (Nat.le_refl _)
        replace hp := (hb1.block _ ql0).trans hp
        clear q0 ql0
        obtain ⟨q0, ql0, _⟩ := blk hp
        go_wp2_with fail
        refine (cQ _ HB1).mono ?_
        rintro r w2 ⟨rfl, hb2⟩
        have HB2 := below_two HB1 hb2 (Nat.le_refl _)
        go_wp2_with fail
        go_ret
        exact ⟨rfl, HB2⟩

end Go.Proofs.YtnpjcdfkjgenbaaDoor
