/-
  Walks: lines.checkAct, lines.Check; wherryref.ActFault.
-/
import Derived.Test.YtelindfmdakliaaDoorActMem
namespace Go.Proofs.YtelindfmdakliaaDoor
open Go.RowKit Go.Lib

theorem actErr_kind {n : Int} {a : ActV} (h : ¬ (1 ≤ a.kd ∧ a.kd ≤ 9)) : actErr n a = 3 := by unfold actErr; rw [if_pos h]
theorem actErr_nums {n : Int} {a : ActV} (h : 1 ≤ a.kd ∧ a.kd ≤ 9) (h2 : actNums n a = false) : actErr n a = 2 := by unfold actErr; rw [if_neg (fun k => k h), if_pos h2]
theorem actErr_op {n : Int} {a : ActV} (h : 1 ≤ a.kd ∧ a.kd ≤ 9) (h2 : actNums n a = true) (h3 : opErr a.op ≠ 0) : actErr n a = opErr a.op := by unfold actErr; rw [if_neg (fun k => k h), if_neg (by simp [h2]), if_pos h3]
theorem actErr_more {n : Int} {a : ActV} (h : 1 ≤ a.kd ∧ a.kd ≤ 9) (h2 : actNums n a = true) (h3 : opErr a.op = 0) (h4 : actMore a = true) : actErr n a = 4 := by unfold actErr; rw [if_neg (fun k => k h), if_neg (by simp [h2]), if_neg (fun k => k h3), if_pos h4]
theorem actErr_ok {n : Int} {a : ActV} (h : 1 ≤ a.kd ∧ a.kd ≤ 9) (h2 : actNums n a = true) (h3 : opErr a.op = 0) (h4 : actMore a = false) : actErr n a = 0 := by unfold actErr; rw [if_neg (fun k => k h), if_neg (by simp [h2]), if_neg (fun k => k h3), if_neg (by simp [h4])]

set_option maxRecDepth 100000 in
set_option maxHeartbeats 1000000 in
theorem checkAct_any (len : Nat) (ta : Option Addr) (tc : Nat) (kd nd tw pk kp an hd : Int) (op : List Part) (oa : Option Addr) (oc : Nat) (w : World) (hl : len ≤ 7) (hop : OpAt w oa op) (hn : op.length ≤ 9223372036854775806) (hs : ∀ p ∈ op, p.text.size < 9223372036854775807) (hT : Tabs w) :
    Calls Tryd.prog 18 #[.slice ta len tc, .agg #[.int .i64 kd, .int .i64 nd, .int .i64 tw, .int .i64 pk, .int .i64 kp, .slice oa op.length oc, .int .i64 an, .int .i64 hd]] w fun r w' => r = .returned (.int .i64 (actErr (len : Int) ⟨kd, nd, tw, pk, kp, op, oa, oc, an, hd⟩)) ∧ Below w.heap.size w w' := by
  have hb0 := (Below.refl w.heap.size w).alloc (Nat.le_refl _) (.cells #[.int .i64 kd, .int .i64 nd, .int .i64 tw, .int .i64 pk, .int .i64 kp, .slice oa op.length oc, .int .i64 an, .int .i64 hd] 29)
  have hn0 := heap_alloc_new w (.cells #[.int .i64 kd, .int .i64 nd, .int .i64 tw, .int .i64 pk, .int .i64 kp, .slice oa op.length oc, .int .i64 an, .int .i64 hd] 29)
  obtain ⟨n0, nl, _⟩ := blk hn0
  by_cases hk : 1 ≤ kd ∧ kd ≤ 9
  rotate_left
  · rw [actErr_kind hk]
    clear hop hs hT
    by_cases h1 : kd ≤ 0
    · go_enter Tryd.func18, Tryd.ntmps18
      go_wp2_with fail
      go_ret
      exact ⟨rfl, hb0⟩
    · have h2 : (10 : Int) ≤ kd := by omega
      go_enter Tryd.func18, Tryd.ntmps18
      go_wp2_with fail
      go_ret
      exact ⟨rfl, hb0⟩
  have hk1 : ¬ kd ≤ 0 := by omega
  have hk2 : ¬ (10 : Int) ≤ kd := by omega
  have c1 := numsMay_any len ta tc kd nd tw pk kp an hd oa op.length oc (w.alloc (.cells #[.int .i64 kd, .int .i64 nd, .int .i64 tw, .int .i64 pk, .int .i64 kp, .slice oa op.length oc, .int .i64 an, .int .i64 hd] 29)) hl
  have c2 := fun wx (hb : Below w.heap.size w wx) => check_any op oa oc wx (hop.below hb) hn hs (hT.below hb)
  have c3 := fun wx => hasMore_any kd nd tw pk kp an hd oa op.length oc wx hk
  obtain ⟨E, hE⟩ : ∃ E, actErr (len : Int) ⟨kd, nd, tw, pk, kp, op, oa, oc, an, hd⟩ = E := ⟨_, rfl⟩
  rw [hE]
  have e2 := @actErr_nums (len : Int) ⟨kd, nd, tw, pk, kp, op, oa, oc, an, hd⟩ hk
  have e3 := @actErr_op (len : Int) ⟨kd, nd, tw, pk, kp, op, oa, oc, an, hd⟩ hk
  have e4 := @actErr_more (len : Int) ⟨kd, nd, tw, pk, kp, op, oa, oc, an, hd⟩ hk
  have e5 := @actErr_ok (len : Int) ⟨kd, nd, tw, pk, kp, op, oa, oc, an, hd⟩ hk
  rw [hE] at e2 e3 e4 e5
  unfold actNums at e2 e3 e4 e5
  unfold actMore at e4 e5
  simp only at e2 e3 e4 e5
  clear hE
  generalize (decide ((0 ≤ nd ∧ nd ≤ (len : Int) - 1) ∧ (0 ≤ tw ∧ tw ≤ (len : Int) - 1) ∧ (0 ≤ pk ∧ pk ≤ 1048576) ∧ (0 ≤ kp ∧ kp ≤ 8388608) ∧ (0 ≤ an ∧ an ≤ 4000) ∧ (0 ≤ hd ∧ hd ≤ 4000))) = B1 at *
  generalize (decide ((kd = 7 ∧ nd ≠ 0) ∨ (¬ (4 ≤ kd ∧ kd ≤ 6) ∧ (tw ≠ 0 ∨ pk ≠ 0)) ∨ (kd ≠ 8 ∧ kp ≠ 0) ∨ (kd ≠ 1 ∧ 0 < op.length) ∨ (kd ≠ 3 ∧ (an ≠ 0 ∨ hd ≠ 0)))) = B2 at *
  generalize opErr op = B3 at *
  clear hop hs hT hk
  cases B1
  · obtain rfl := e2 rfl
    clear e2 e3 e4 e5 c2 c3
    go_enter Tryd.func18, Tryd.ntmps18
    go_wp2_with fail
    refine c1.mono ?_
    rintro r w1 ⟨rfl, hb1⟩
    go_wp2_with fail
    go_ret
    exact ⟨rfl, below_two hb0 hb1 (Nat.le_refl _)⟩
  · by_cases h3 : B3 = 0
    · subst h3
      have e4' := e4 rfl rfl
      have e5' := e5 rfl rfl
      clear e2 e3 e4 e5
      go_enter Tryd.func18, Tryd.ntmps18
      go_wp2_with fail
      refine c1.mono ?_
      clear c1
      rintro r w1 ⟨rfl, hb1⟩
      have hn1 := (hb1.block _ nl).trans hn0
      have HB1 := below_two hb0 hb1 (Nat.le_refl _)
      clear n0 hn0 hb1 hb0 nl
      obtain ⟨n0, nl, _⟩ := blk hn1
      go_wp2_with fail
      refine (c2 _ HB1).mono ?_
      clear c2
      rintro r w2 ⟨rfl, hb2⟩
      have hn2 := (hb2.block _ nl).trans hn1
      have HB2 := below_two HB1 hb2 (Nat.le_refl _)
      clear n0 hn1 hb2 HB1 nl
      obtain ⟨n0, nl, _⟩ := blk hn2
      go_wp2_with fail
      refine (c3 _).mono ?_
      clear c3
      rintro r w3 ⟨rfl, hb3⟩
      cases B2
      · obtain rfl := e5' rfl
        clear e4' e5'
        go_wp2_with fail
        go_ret
        exact ⟨rfl, below_two HB2 hb3 (Nat.le_refl _)⟩
      · obtain rfl := e4' rfl
        clear e4' e5'
        go_wp2_with fail
        go_ret
        exact ⟨rfl, below_two HB2 hb3 (Nat.le_refl _)⟩
    · have g3 : (B3 != 0) = true := by simpa using h3
      obtain rfl := e3 rfl h3
      clear e2 e3 e4 e5 c3 h3
      go_enter Tryd.func18, Tryd.ntmps18
      go_wp2_with fail
      refine c1.mono ?_
      clear c1
      rintro r w1 ⟨rfl, hb1⟩
      have hn1 := (hb1.block _ nl).trans hn0
      have HB1 := below_two hb0 hb1 (Nat.le_refl _)
      clear n0 hn0 hb1 hb0 nl
      obtain ⟨n0, nl, _⟩ := blk hn1
      go_wp2_with fail
      refine (c2 _ HB1).mono ?_
      clear c2
      rintro r w2 ⟨rfl, hb2⟩
      go_wp2_with fail
      go_ret
      exact ⟨rfl, below_two HB1 hb2 (Nat.le_refl _)⟩

/-- P7.1 -/
def linesErr (T : List Int) (a : ActV) : Int := if treeErr T ≠ 0 then treeErr T else actErr (T.length : Int) a

set_option maxRecDepth 100000 in
set_option maxHeartbeats 1000000 in
theorem linesCheck_any (T : List Int) (ta : Option Addr) (tc : Nat) (kd nd tw pk kp an hd : Int) (op : List Part) (oa : Option Addr) (oc : Nat) (w : World) (hT0 : Ints w ta T) (hop : OpAt w oa op) (hn : op.length ≤ 9223372036854775806) (hs : ∀ p ∈ op, p.text.size < 9223372036854775807) (hT : Tabs w) :
    Calls Tryd.prog 8 #[.slice ta T.length tc, .agg #[.int .i64 kd, .int .i64 nd, .int .i64 tw, .int .i64 pk, .int .i64 kp, .slice oa op.length oc, .int .i64 an, .int .i64 hd]] w fun r w' => r = .returned (.int .i64 (linesErr T ⟨kd, nd, tw, pk, kp, op, oa, oc, an, hd⟩)) ∧ Below w.heap.size w w' := by
  have hb0 := (Below.refl w.heap.size w).alloc (Nat.le_refl _) (.cells #[.int .i64 kd, .int .i64 nd, .int .i64 tw, .int .i64 pk, .int .i64 kp, .slice oa op.length oc, .int .i64 an, .int .i64 hd] 29)
  have hn0 := heap_alloc_new w (.cells #[.int .i64 kd, .int .i64 nd, .int .i64 tw, .int .i64 pk, .int .i64 kp, .slice oa op.length oc, .int .i64 an, .int .i64 hd] 29)
  obtain ⟨n0, nl, _⟩ := blk hn0
  have cT := checkTree_any T ta tc (w.alloc (.cells #[.int .i64 kd, .int .i64 nd, .int .i64 tw, .int .i64 pk, .int .i64 kp, .slice oa op.length oc, .int .i64 an, .int .i64 hd] 29)) (hT0.below ((Below.refl w.heap.size w).alloc (Nat.le_refl _) _))
  by_cases ht : treeErr T = 0
  · have hl := (treeErr_zero ht).1
    have cA := checkAct_any T.length ta tc kd nd tw pk kp an hd op oa oc (w.alloc (.cells #[.int .i64 kd, .int .i64 nd, .int .i64 tw, .int .i64 pk, .int .i64 kp, .slice oa op.length oc, .int .i64 an, .int .i64 hd] 29)) hl.2 (hop.below ((Below.refl w.heap.size w).alloc (Nat.le_refl _) _)) hn hs (hT.below ((Below.refl w.heap.size w).alloc (Nat.le_refl _) _))
    have e : linesErr T ⟨kd, nd, tw, pk, kp, op, oa, oc, an, hd⟩ = actErr (T.length : Int) ⟨kd, nd, tw, pk, kp, op, oa, oc, an, hd⟩ := by unfold linesErr; rw [if_neg (fun k => k ht)]
    rw [e]
    rw [ht] at cT
    clear e ht hT0 hop hs hT hl
    generalize actErr (T.length : Int) ⟨kd, nd, tw, pk, kp, op, oa, oc, an, hd⟩ = E at *
    go_enter Tryd.func8, Tryd.ntmps8
    go_wp2_with fail
    refine cT.mono ?_
    rintro r w1 ⟨rfl, hw⟩
    rw [hw]
    clear hw w1 cT
    go_wp2_with fail
    refine cA.mono ?_
    rintro r w2 ⟨rfl, hb2⟩
    go_wp2_with fail
    go_ret
    exact ⟨rfl, below_two hb0 hb2 (Nat.le_refl _)⟩
  · have e : linesErr T ⟨kd, nd, tw, pk, kp, op, oa, oc, an, hd⟩ = treeErr T := by unfold linesErr; rw [if_pos ht]
    rw [e]
    clear e hT0 hop hs hT
    have g : (treeErr T != 0) = true := by simpa using ht
    generalize treeErr T = E at *
    go_enter Tryd.func8, Tryd.ntmps8
    go_wp2_with fail
    refine cT.mono ?_
    rintro r w1 ⟨rfl, hw⟩
    rw [hw]
    clear hw w1 cT
    go_wp2_with fail
    go_ret
    exact ⟨rfl, hb0⟩

set_option maxRecDepth 100000 in
set_option maxHeartbeats 2000000 in
theorem actFault_any (T : List Int) (ta : Option Addr) (tc : Nat) (kd nd tw pk kp an hd : Int) (op : List Part) (oa : Option Addr) (oc : Nat) (w : World) (hT0 : Ints w ta T) (hlT : T.length ≤ 9223372036854775807) (hop : OpAt w oa op) (hn : op.length ≤ 9223372036854775806) (hs : ∀ p ∈ op, p.text.size ≤ 70368744177664) (hT : Tabs w) :
    Calls Tryd.prog 9 #[.slice ta T.length tc, .agg #[.int .i64 kd, .int .i64 nd, .int .i64 tw, .int .i64 pk, .int .i64 kp, .slice oa op.length oc, .int .i64 an, .int .i64 hd]] w fun r w' => r = .returned (.int .i64 (linesErr T ⟨kd, nd, tw, pk, kp, op, oa, oc, an, hd⟩)) ∧ Below w.heap.size w w' := by
  have hb0 := (Below.refl w.heap.size w).alloc (Nat.le_refl _) (.cells #[.int .i64 kd, .int .i64 nd, .int .i64 tw, .int .i64 pk, .int .i64 kp, .slice oa op.length oc, .int .i64 an, .int .i64 hd] 29)
  have hn0 := heap_alloc_new w (.cells #[.int .i64 kd, .int .i64 nd, .int .i64 tw, .int .i64 pk, .int .i64 kp, .slice oa op.length oc, .int .i64 an, .int .i64 hd] 29)
  obtain ⟨n0, nl, _⟩ := blk hn0
  have cT := treeFault_any T ta tc (w.alloc (.cells #[.int .i64 kd, .int .i64 nd, .int .i64 tw, .int .i64 pk, .int .i64 kp, .slice oa op.length oc, .int .i64 an, .int .i64 hd] 29)) (hT0.below ((Below.refl w.heap.size w).alloc (Nat.le_refl _) _)) hlT
  by_cases ht : treeErr T = 0
  rotate_left
  · have e : linesErr T ⟨kd, nd, tw, pk, kp, op, oa, oc, an, hd⟩ = treeErr T := by unfold linesErr; rw [if_pos ht]
    rw [e]
    clear e hT0 hop hs hT
    have g : (treeErr T != 0) = true := by simpa using ht
    generalize treeErr T = E at *
    go_enter Tryd.func9, Tryd.ntmps9
    go_wp2_with fail
    refine cT.mono ?_
    rintro r w1 ⟨rfl, hw⟩
    rw [hw]
    clear hw w1 cT
    go_wp2_with fail
    go_ret
    exact ⟨rfl, hb0⟩
  have hl := (treeErr_zero ht).1.2
  have hl1 := (treeErr_zero ht).1.1
  have hlz : (T.length : Int) ≤ 7 := by omega
  have hlz0 : (0 : Int) ≤ (T.length : Int) := by omega
  have cO := fun wx (hb : Below w.heap.size w wx) => opFault_any op oa oc wx (hop.below hb) hn hs (hT.below hb)
  have e0 : linesErr T ⟨kd, nd, tw, pk, kp, op, oa, oc, an, hd⟩ = actErr (T.length : Int) ⟨kd, nd, tw, pk, kp, op, oa, oc, an, hd⟩ := by unfold linesErr; rw [if_neg (fun k => k ht)]
  rw [e0]
  rw [ht] at cT
  clear e0 ht hT0 hop hs hT hlT
  generalize hLen : T.length = len at *
  clear hLen T
  by_cases hk : 1 ≤ kd ∧ kd ≤ 9
  rotate_left
  · rw [actErr_kind hk]
    have uk := fun wx => in_known kd 1 9 wx false (decide_eq_false hk)
    clear hk cO
    go_enter Tryd.func9, Tryd.ntmps9
    go_wp2_with fail
    refine cT.mono ?_
    rintro r w1 ⟨rfl, hw⟩
    rw [hw]
    clear hw w1 cT
    go_wp2_with fail
    refine (uk _).mono ?_
    rintro r w1 ⟨rfl, hw⟩
    rw [hw]
    clear hw w1 uk
    go_wp2_with fail
    go_ret
    exact ⟨rfl, hb0⟩
  have uk := fun wx => in_known kd 1 9 wx true (decide_eq_true hk)
  by_cases h0 : (0 ≤ nd ∧ nd ≤ (len : Int) - 1)
  rotate_left
  · rw [actErr_nums hk (decide_eq_false (fun h => h0 h.1))]
    have u0 := fun wx => in_known nd 0 ((len : Int) - 1) wx false (by exact decide_eq_false h0)
    clear hk cO h0
    go_enter Tryd.func9, Tryd.ntmps9
    go_wp2_with fail
    refine (cT).mono ?_
    rintro r w' ⟨rfl, hw⟩
    rw [hw]
    clear hw w' cT
    go_wp2_with fail
    refine (uk _).mono ?_
    rintro r w' ⟨rfl, hw⟩
    rw [hw]
    clear hw w' uk
    go_wp2_with fail
    refine (u0 _).mono ?_
    rintro r w' ⟨rfl, hw⟩
    rw [hw]
    clear hw w' u0
    go_wp2_with fail
    go_ret
    exact ⟨rfl, hb0⟩
  by_cases h1 : (0 ≤ tw ∧ tw ≤ (len : Int) - 1)
  rotate_left
  · rw [actErr_nums hk (decide_eq_false (fun h => h1 h.2.1))]
    have u0 := fun wx => in_known nd 0 ((len : Int) - 1) wx true (by exact decide_eq_true h0)
    have u1 := fun wx => in_known tw 0 ((len : Int) - 1) wx false (by exact decide_eq_false h1)
    clear hk cO h0 h1
    go_enter Tryd.func9, Tryd.ntmps9
    go_wp2_with fail
    refine (cT).mono ?_
    rintro r w' ⟨rfl, hw⟩
    rw [hw]
    clear hw w' cT
    go_wp2_with fail
    refine (uk _).mono ?_
    rintro r w' ⟨rfl, hw⟩
    rw [hw]
    clear hw w' uk
    go_wp2_with fail
    refine (u0 _).mono ?_
    rintro r w' ⟨rfl, hw⟩
    rw [hw]
    clear hw w' u0
    go_wp2_with fail
    refine (u1 _).mono ?_
    rintro r w' ⟨rfl, hw⟩
    rw [hw]
    clear hw w' u1
    go_wp2_with fail
    go_ret
    exact ⟨rfl, hb0⟩
  by_cases h2 : (0 ≤ pk ∧ pk ≤ 1048576)
  rotate_left
  · rw [actErr_nums hk (decide_eq_false (fun h => h2 h.2.2.1))]
    have u0 := fun wx => in_known nd 0 ((len : Int) - 1) wx true (by exact decide_eq_true h0)
    have u1 := fun wx => in_known tw 0 ((len : Int) - 1) wx true (by exact decide_eq_true h1)
    have u2 := fun wx => in_known pk 0 (1048576) wx false (by exact decide_eq_false h2)
    clear hk cO h0 h1 h2
    go_enter Tryd.func9, Tryd.ntmps9
    go_wp2_with fail
    refine (cT).mono ?_
    rintro r w' ⟨rfl, hw⟩
    rw [hw]
    clear hw w' cT
    go_wp2_with fail
    refine (uk _).mono ?_
    rintro r w' ⟨rfl, hw⟩
    rw [hw]
    clear hw w' uk
    go_wp2_with fail
    refine (u0 _).mono ?_
    rintro r w' ⟨rfl, hw⟩
    rw [hw]
    clear hw w' u0
    go_wp2_with fail
    refine (u1 _).mono ?_
    rintro r w' ⟨rfl, hw⟩
    rw [hw]
    clear hw w' u1
    go_wp2_with fail
    refine (u2 _).mono ?_
    rintro r w' ⟨rfl, hw⟩
    rw [hw]
    clear hw w' u2
    go_wp2_with fail
    go_ret
    exact ⟨rfl, hb0⟩
  by_cases h3 : (0 ≤ kp ∧ kp ≤ 8388608)
  rotate_left
  · rw [actErr_nums hk (decide_eq_false (fun h => h3 h.2.2.2.1))]
    have u0 := fun wx => in_known nd 0 ((len : Int) - 1) wx true (by exact decide_eq_true h0)
    have u1 := fun wx => in_known tw 0 ((len : Int) - 1) wx true (by exact decide_eq_true h1)
    have u2 := fun wx => in_known pk 0 (1048576) wx true (by exact decide_eq_true h2)
    have u3 := fun wx => in_known kp 0 (8388608) wx false (by exact decide_eq_false h3)
    clear hk cO h0 h1 h2 h3
    go_enter Tryd.func9, Tryd.ntmps9
    go_wp2_with fail
    refine (cT).mono ?_
    rintro r w' ⟨rfl, hw⟩
    rw [hw]
    clear hw w' cT
    go_wp2_with fail
    refine (uk _).mono ?_
    rintro r w' ⟨rfl, hw⟩
    rw [hw]
    clear hw w' uk
    go_wp2_with fail
    refine (u0 _).mono ?_
    rintro r w' ⟨rfl, hw⟩
    rw [hw]
    clear hw w' u0
    go_wp2_with fail
    refine (u1 _).mono ?_
    rintro r w' ⟨rfl, hw⟩
    rw [hw]
    clear hw w' u1
    go_wp2_with fail
    refine (u2 _).mono ?_
    rintro r w' ⟨rfl, hw⟩
    rw [hw]
    clear hw w' u2
    go_wp2_with fail
    refine (u3 _).mono ?_
    rintro r w' ⟨rfl, hw⟩
    rw [hw]
    clear hw w' u3
    go_wp2_with fail
    go_ret
    exact ⟨rfl, hb0⟩
  by_cases h4 : (0 ≤ an ∧ an ≤ 4000)
  rotate_left
  · rw [actErr_nums hk (decide_eq_false (fun h => h4 h.2.2.2.2.1))]
    have u0 := fun wx => in_known nd 0 ((len : Int) - 1) wx true (by exact decide_eq_true h0)
    have u1 := fun wx => in_known tw 0 ((len : Int) - 1) wx true (by exact decide_eq_true h1)
    have u2 := fun wx => in_known pk 0 (1048576) wx true (by exact decide_eq_true h2)
    have u3 := fun wx => in_known kp 0 (8388608) wx true (by exact decide_eq_true h3)
    have u4 := fun wx => in_known an 0 (4000) wx false (by exact decide_eq_false h4)
    clear hk cO h0 h1 h2 h3 h4
    go_enter Tryd.func9, Tryd.ntmps9
    go_wp2_with fail
    refine (cT).mono ?_
    rintro r w' ⟨rfl, hw⟩
    rw [hw]
    clear hw w' cT
    go_wp2_with fail
    refine (uk _).mono ?_
    rintro r w' ⟨rfl, hw⟩
    rw [hw]
    clear hw w' uk
    go_wp2_with fail
    refine (u0 _).mono ?_
    rintro r w' ⟨rfl, hw⟩
    rw [hw]
    clear hw w' u0
    go_wp2_with fail
    refine (u1 _).mono ?_
    rintro r w' ⟨rfl, hw⟩
    rw [hw]
    clear hw w' u1
    go_wp2_with fail
    refine (u2 _).mono ?_
    rintro r w' ⟨rfl, hw⟩
    rw [hw]
    clear hw w' u2
    go_wp2_with fail
    refine (u3 _).mono ?_
    rintro r w' ⟨rfl, hw⟩
    rw [hw]
    clear hw w' u3
    go_wp2_with fail
    refine (u4 _).mono ?_
    rintro r w' ⟨rfl, hw⟩
    rw [hw]
    clear hw w' u4
    go_wp2_with fail
    go_ret
    exact ⟨rfl, hb0⟩
  by_cases h5 : (0 ≤ hd ∧ hd ≤ 4000)
  rotate_left
  · rw [actErr_nums hk (decide_eq_false (fun h => h5 h.2.2.2.2.2))]
    have u0 := fun wx => in_known nd 0 ((len : Int) - 1) wx true (by exact decide_eq_true h0)
    have u1 := fun wx => in_known tw 0 ((len : Int) - 1) wx true (by exact decide_eq_true h1)
    have u2 := fun wx => in_known pk 0 (1048576) wx true (by exact decide_eq_true h2)
    have u3 := fun wx => in_known kp 0 (8388608) wx true (by exact decide_eq_true h3)
    have u4 := fun wx => in_known an 0 (4000) wx true (by exact decide_eq_true h4)
    have u5 := fun wx => in_known hd 0 (4000) wx false (by exact decide_eq_false h5)
    clear hk cO h0 h1 h2 h3 h4 h5
    go_enter Tryd.func9, Tryd.ntmps9
    go_wp2_with fail
    refine (cT).mono ?_
    rintro r w' ⟨rfl, hw⟩
    rw [hw]
    clear hw w' cT
    go_wp2_with fail
    refine (uk _).mono ?_
    rintro r w' ⟨rfl, hw⟩
    rw [hw]
    clear hw w' uk
    go_wp2_with fail
    refine (u0 _).mono ?_
    rintro r w' ⟨rfl, hw⟩
    rw [hw]
    clear hw w' u0
    go_wp2_with fail
    refine (u1 _).mono ?_
    rintro r w' ⟨rfl, hw⟩
    rw [hw]
    clear hw w' u1
    go_wp2_with fail
    refine (u2 _).mono ?_
    rintro r w' ⟨rfl, hw⟩
    rw [hw]
    clear hw w' u2
    go_wp2_with fail
    refine (u3 _).mono ?_
    rintro r w' ⟨rfl, hw⟩
    rw [hw]
    clear hw w' u3
    go_wp2_with fail
    refine (u4 _).mono ?_
    rintro r w' ⟨rfl, hw⟩
    rw [hw]
    clear hw w' u4
    go_wp2_with fail
    refine (u5 _).mono ?_
    rintro r w' ⟨rfl, hw⟩
    rw [hw]
    clear hw w' u5
    go_wp2_with fail
    go_ret
    exact ⟨rfl, hb0⟩
  have u0 := fun wx => in_known nd 0 ((len : Int) - 1) wx true (decide_eq_true h0)
  have u1 := fun wx => in_known tw 0 ((len : Int) - 1) wx true (decide_eq_true h1)
  have u2 := fun wx => in_known pk 0 (1048576) wx true (decide_eq_true h2)
  have u3 := fun wx => in_known kp 0 (8388608) wx true (decide_eq_true h3)
  have u4 := fun wx => in_known an 0 (4000) wx true (decide_eq_true h4)
  have u5 := fun wx => in_known hd 0 (4000) wx true (decide_eq_true h5)
  have hnums : actNums (len : Int) ⟨kd, nd, tw, pk, kp, op, oa, oc, an, hd⟩ = true := decide_eq_true ⟨h0, h1, h2, h3, h4, h5⟩
  clear h0 h1 h2 h3 h4 h5
  by_cases h3 : opErr op = 0
  rotate_left
  · rw [actErr_op hk hnums h3]
    have g : (opErr op != 0) = true := by simpa using h3
    clear hk hnums h3
    generalize opErr op = E at *
    go_enter Tryd.func9, Tryd.ntmps9
    go_wp2_with fail
    refine (cT).mono ?_
    rintro r w' ⟨rfl, hw⟩
    rw [hw]
    clear hw w' cT
    go_wp2_with fail
    refine (uk _).mono ?_
    rintro r w' ⟨rfl, hw⟩
    rw [hw]
    clear hw w' uk
    go_wp2_with fail
    refine (u0 _).mono ?_
    rintro r w' ⟨rfl, hw⟩
    rw [hw]
    clear hw w' u0
    go_wp2_with fail
    refine (u1 _).mono ?_
    rintro r w' ⟨rfl, hw⟩
    rw [hw]
    clear hw w' u1
    go_wp2_with fail
    refine (u2 _).mono ?_
    rintro r w' ⟨rfl, hw⟩
    rw [hw]
    clear hw w' u2
    go_wp2_with fail
    refine (u3 _).mono ?_
    rintro r w' ⟨rfl, hw⟩
    rw [hw]
    clear hw w' u3
    go_wp2_with fail
    refine (u4 _).mono ?_
    rintro r w' ⟨rfl, hw⟩
    rw [hw]
    clear hw w' u4
    go_wp2_with fail
    refine (u5 _).mono ?_
    rintro r w' ⟨rfl, hw⟩
    rw [hw]
    clear hw w' u5
    go_wp2_with fail
    refine (cO _ hb0).mono ?_
    rintro r w1 ⟨rfl, hb1⟩
    go_wp2_with fail
    go_ret
    exact ⟨rfl, below_two hb0 hb1 (Nat.le_refl _)⟩
  obtain ⟨P, hP⟩ : ∃ P, decide (4 ≤ kd ∧ kd ≤ 6) = P := ⟨_, rfl⟩
  have up := fun wx => in_known kd 4 6 wx P hP
  obtain ⟨E, hE⟩ : ∃ E, actErr (len : Int) ⟨kd, nd, tw, pk, kp, op, oa, oc, an, hd⟩ = E := ⟨_, rfl⟩
  have HT : Hid ((kd = 7 ∧ nd ≠ 0) ∨ (P = false ∧ (tw ≠ 0 ∨ pk ≠ 0)) ∨ (kd ≠ 8 ∧ kp ≠ 0) ∨ (kd ≠ 1 ∧ 0 < op.length) ∨ (kd ≠ 3 ∧ (an ≠ 0 ∨ hd ≠ 0)) → E = 4) := fun h => by
    rw [← hE]
    refine actErr_more hk hnums h3 (decide_eq_true ?_)
    rcases h with h | ⟨h, h'⟩ | h
    · exact .inl h
    · rw [← hP] at h; exact .inr (.inl ⟨of_decide_eq_false h, h'⟩)
    · exact .inr (.inr h)
  have HF : Hid (¬ ((kd = 7 ∧ nd ≠ 0) ∨ (P = false ∧ (tw ≠ 0 ∨ pk ≠ 0)) ∨ (kd ≠ 8 ∧ kp ≠ 0) ∨ (kd ≠ 1 ∧ 0 < op.length) ∨ (kd ≠ 3 ∧ (an ≠ 0 ∨ hd ≠ 0))) → E = 0) := fun h => by
    rw [← hE]
    refine actErr_ok hk hnums h3 (decide_eq_false (fun hx => h ?_))
    rcases hx with hx | ⟨h', hx⟩ | hx
    · exact .inl hx
    · exact .inr (.inl ⟨by rw [← hP]; exact decide_eq_false h', hx⟩)
    · exact .inr (.inr hx)
  rw [hE]
  rw [h3] at cO
  clear hE hP hnums h3 hk hn
  replace HT := HT.out
  replace HF := HF.out
  generalize op.length = m at *
  cases P
  · by_cases hz : m = 0
    · subst hz
      have HG : Hid ((kd = 7 ∧ nd ≠ 0) ∨ tw ≠ 0 ∨ pk ≠ 0 ∨ (kd ≠ 8 ∧ kp ≠ 0) ∨ (kd ≠ 3 ∧ (an ≠ 0 ∨ hd ≠ 0)) → E = 4) := fun h => HT (by simp <;> omega)
      have HS : Hid (¬ ((kd = 7 ∧ nd ≠ 0) ∨ tw ≠ 0 ∨ pk ≠ 0 ∨ (kd ≠ 8 ∧ kp ≠ 0) ∨ (kd ≠ 3 ∧ (an ≠ 0 ∨ hd ≠ 0))) → E = 0) := fun h => HF (by simp <;> omega)
      clear HT HF
      go_enter Tryd.func9, Tryd.ntmps9
      go_wp2_with fail
      refine (cT).mono ?_
      rintro r w' ⟨rfl, hw⟩
      rw [hw]
      clear hw w' cT
      go_wp2_with fail
      refine (uk _).mono ?_
      rintro r w' ⟨rfl, hw⟩
      rw [hw]
      clear hw w' uk
      go_wp2_with fail
      refine (u0 _).mono ?_
      rintro r w' ⟨rfl, hw⟩
      rw [hw]
      clear hw w' u0
      go_wp2_with fail
      refine (u1 _).mono ?_
      rintro r w' ⟨rfl, hw⟩
      rw [hw]
      clear hw w' u1
      go_wp2_with fail
      refine (u2 _).mono ?_
      rintro r w' ⟨rfl, hw⟩
      rw [hw]
      clear hw w' u2
      go_wp2_with fail
      refine (u3 _).mono ?_
      rintro r w' ⟨rfl, hw⟩
      rw [hw]
      clear hw w' u3
      go_wp2_with fail
      refine (u4 _).mono ?_
      rintro r w' ⟨rfl, hw⟩
      rw [hw]
      clear hw w' u4
      go_wp2_with fail
      refine (u5 _).mono ?_
      rintro r w' ⟨rfl, hw⟩
      rw [hw]
      clear hw w' u5
      go_wp2_with fail
      refine (cO _ hb0).mono ?_
      rintro r w1 ⟨rfl, hb1⟩
      have HB1 := below_two hb0 hb1 (Nat.le_refl _)
      have hn1 := (hb1.block _ nl).trans hn0
      clear n0 hn0 hb1 hb0 nl cO
      obtain ⟨n0, nl, _⟩ := blk hn1
      go_wp2_with fail
      refine (up _).mono ?_
      rintro r w' ⟨rfl, hw⟩
      rw [hw]
      clear hw w' up
      go_wp2_with fail
      all_goals
        first
          | (obtain rfl : E = 4 := HG.out (by omega); go_ret; exact ⟨rfl, HB1⟩)
          | (obtain rfl : E = 0 := HS.out (by omega); go_ret; exact ⟨rfl, HB1⟩)
    · have hz0 : (0 : Int) < (m : Int) := by omega
      have HG : Hid ((kd = 7 ∧ nd ≠ 0) ∨ tw ≠ 0 ∨ pk ≠ 0 ∨ (kd ≠ 8 ∧ kp ≠ 0) ∨ kd ≠ 1 ∨ (kd ≠ 3 ∧ (an ≠ 0 ∨ hd ≠ 0)) → E = 4) := fun h => HT (by simp <;> omega)
      have HS : Hid (¬ ((kd = 7 ∧ nd ≠ 0) ∨ tw ≠ 0 ∨ pk ≠ 0 ∨ (kd ≠ 8 ∧ kp ≠ 0) ∨ kd ≠ 1 ∨ (kd ≠ 3 ∧ (an ≠ 0 ∨ hd ≠ 0))) → E = 0) := fun h => HF (by simp <;> omega)
      clear HT HF
      go_enter Tryd.func9, Tryd.ntmps9
      go_wp2_with fail
      refine (cT).mono ?_
      rintro r w' ⟨rfl, hw⟩
      rw [hw]
      clear hw w' cT
      go_wp2_with fail
      refine (uk _).mono ?_
      rintro r w' ⟨rfl, hw⟩
      rw [hw]
      clear hw w' uk
      go_wp2_with fail
      refine (u0 _).mono ?_
      rintro r w' ⟨rfl, hw⟩
      rw [hw]
      clear hw w' u0
      go_wp2_with fail
      refine (u1 _).mono ?_
      rintro r w' ⟨rfl, hw⟩
      rw [hw]
      clear hw w' u1
      go_wp2_with fail
      refine (u2 _).mono ?_
      rintro r w' ⟨rfl, hw⟩
      rw [hw]
      clear hw w' u2
      go_wp2_with fail
      refine (u3 _).mono ?_
      rintro r w' ⟨rfl, hw⟩
      rw [hw]
      clear hw w' u3
      go_wp2_with fail
      refine (u4 _).mono ?_
      rintro r w' ⟨rfl, hw⟩
      rw [hw]
      clear hw w' u4
      go_wp2_with fail
      refine (u5 _).mono ?_
      rintro r w' ⟨rfl, hw⟩
      rw [hw]
      clear hw w' u5
      go_wp2_with fail
      refine (cO _ hb0).mono ?_
      rintro r w1 ⟨rfl, hb1⟩
      have HB1 := below_two hb0 hb1 (Nat.le_refl _)
      have hn1 := (hb1.block _ nl).trans hn0
      clear n0 hn0 hb1 hb0 nl cO
      obtain ⟨n0, nl, _⟩ := blk hn1
      go_wp2_with fail
      refine (up _).mono ?_
      rintro r w' ⟨rfl, hw⟩
      rw [hw]
      clear hw w' up
      go_wp2_with fail
      all_goals
        first
          | (obtain rfl : E = 4 := HG.out (by omega); go_ret; exact ⟨rfl, HB1⟩)
          | (obtain rfl : E = 0 := HS.out (by omega); go_ret; exact ⟨rfl, HB1⟩)
  · by_cases hz : m = 0
    · subst hz
      have HG : Hid ((kd = 7 ∧ nd ≠ 0) ∨ (kd ≠ 8 ∧ kp ≠ 0) ∨ (kd ≠ 3 ∧ (an ≠ 0 ∨ hd ≠ 0)) → E = 4) := fun h => HT (by simp <;> omega)
      have HS : Hid (¬ ((kd = 7 ∧ nd ≠ 0) ∨ (kd ≠ 8 ∧ kp ≠ 0) ∨ (kd ≠ 3 ∧ (an ≠ 0 ∨ hd ≠ 0))) → E = 0) := fun h => HF (by simp <;> omega)
      clear HT HF
      go_enter Tryd.func9, Tryd.ntmps9
      go_wp2_with fail
      refine (cT).mono ?_
      rintro r w' ⟨rfl, hw⟩
      rw [hw]
      clear hw w' cT
      go_wp2_with fail
      refine (uk _).mono ?_
      rintro r w' ⟨rfl, hw⟩
      rw [hw]
      clear hw w' uk
      go_wp2_with fail
      refine (u0 _).mono ?_
      rintro r w' ⟨rfl, hw⟩
      rw [hw]
      clear hw w' u0
      go_wp2_with fail
      refine (u1 _).mono ?_
      rintro r w' ⟨rfl, hw⟩
      rw [hw]
      clear hw w' u1
      go_wp2_with fail
      refine (u2 _).mono ?_
      rintro r w' ⟨rfl, hw⟩
      rw [hw]
      clear hw w' u2
      go_wp2_with fail
      refine (u3 _).mono ?_
      rintro r w' ⟨rfl, hw⟩
      rw [hw]
      clear hw w' u3
      go_wp2_with fail
      refine (u4 _).mono ?_
      rintro r w' ⟨rfl, hw⟩
      rw [hw]
      clear hw w' u4
      go_wp2_with fail
      refine (u5 _).mono ?_
      rintro r w' ⟨rfl, hw⟩
      rw [hw]
      clear hw w' u5
      go_wp2_with fail
      refine (cO _ hb0).mono ?_
      rintro r w1 ⟨rfl, hb1⟩
      have HB1 := below_two hb0 hb1 (Nat.le_refl _)
      have hn1 := (hb1.block _ nl).trans hn0
      clear n0 hn0 hb1 hb0 nl cO
      obtain ⟨n0, nl, _⟩ := blk hn1
      go_wp2_with fail
      refine (up _).mono ?_
      rintro r w' ⟨rfl, hw⟩
      rw [hw]
      clear hw w' up
      go_wp2_with fail
      all_goals
        first
          | (obtain rfl : E = 4 := HG.out (by omega); go_ret; exact ⟨rfl, HB1⟩)
          | (obtain rfl : E = 0 := HS.out (by omega); go_ret; exact ⟨rfl, HB1⟩)
    · have hz0 : (0 : Int) < (m : Int) := by omega
      have HG : Hid ((kd = 7 ∧ nd ≠ 0) ∨ (kd ≠ 8 ∧ kp ≠ 0) ∨ kd ≠ 1 ∨ (kd ≠ 3 ∧ (an ≠ 0 ∨ hd ≠ 0)) → E = 4) := fun h => HT (by simp <;> omega)
      have HS : Hid (¬ ((kd = 7 ∧ nd ≠ 0) ∨ (kd ≠ 8 ∧ kp ≠ 0) ∨ kd ≠ 1 ∨ (kd ≠ 3 ∧ (an ≠ 0 ∨ hd ≠ 0))) → E = 0) := fun h => HF (by simp <;> omega)
      clear HT HF
      go_enter Tryd.func9, Tryd.ntmps9
      go_wp2_with fail
      refine (cT).mono ?_
      rintro r w' ⟨rfl, hw⟩
      rw [hw]
      clear hw w' cT
      go_wp2_with fail
      refine (uk _).mono ?_
      rintro r w' ⟨rfl, hw⟩
      rw [hw]
      clear hw w' uk
      go_wp2_with fail
      refine (u0 _).mono ?_
      rintro r w' ⟨rfl, hw⟩
      rw [hw]
      clear hw w' u0
      go_wp2_with fail
      refine (u1 _).mono ?_
      rintro r w' ⟨rfl, hw⟩
      rw [hw]
      clear hw w' u1
      go_wp2_with fail
      refine (u2 _).mono ?_
      rintro r w' ⟨rfl, hw⟩
      rw [hw]
      clear hw w' u2
      go_wp2_with fail
      refine (u3 _).mono ?_
      rintro r w' ⟨rfl, hw⟩
      rw [hw]
      clear hw w' u3
      go_wp2_with fail
      refine (u4 _).mono ?_
      rintro r w' ⟨rfl, hw⟩
      rw [hw]
      clear hw w' u4
      go_wp2_with fail
      refine (u5 _).mono ?_
      rintro r w' ⟨rfl, hw⟩
      rw [hw]
      clear hw w' u5
      go_wp2_with fail
      refine (cO _ hb0).mono ?_
      rintro r w1 ⟨rfl, hb1⟩
      have HB1 := below_two hb0 hb1 (Nat.le_refl _)
      have hn1 := (hb1.block _ nl).trans hn0
      clear n0 hn0 hb1 hb0 nl cO
      obtain ⟨n0, nl, _⟩ := blk hn1
      go_wp2_with fail
      refine (up _).mono ?_
      rintro r w' ⟨rfl, hw⟩
      rw [hw]
      clear hw w' up
      go_wp2_with fail
      all_goals
        first
          | (obtain rfl : E = 4 := HG.out (by omega); go_ret; exact ⟨rfl, HB1⟩)
          | (obtain rfl : E = 0 := HS.out (by omega); go_ret; exact ⟨rfl, HB1⟩)

end Go.Proofs.YtelindfmdakliaaDoor
