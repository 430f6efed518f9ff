/-
  Walk: wherrylaw.TapeRecovers.
-/
import Derived.Test.YtknjnfknalfbdaaDoorTapeRecov
import Derived.Test.YtknjnfknalfbdaaDoorTapeRecR
import Derived.Test.YtknjnfknalfbdaaDoorTapeRecB
import Derived.Test.YtknjnfknalfbdaaDoorTapeSame
import Derived.Test.YtknjnfknalfbdaaDoorSameRecs
namespace Go.Proofs.YtknjnfknalfbdaaDoor
open Go.RowKit Go.Lib

theorem recOf_lenT (l : List Nat) : (recOf l).2.length ≤ 10000 := by
  unfold recOf
  by_cases h : recFault l ≠ 0
  · rw [if_pos h]; simp
  · rw [if_neg h]
    unfold recFault at h
    by_cases h5 : 50000 < l.length
    · rw [if_pos h5] at h; exact absurd (by decide) h
    · rw [if_neg h5] at h
      by_cases h6 : endE (rest (recP l)) ≠ 0
      · rw [if_pos h6] at h; exact absurd h6 h
      · rw [if_neg h6] at h
        cases hp : recP l with
        | error e => simp
        | ok x =>
          rw [hp] at h
          simp only [ne_eq, Decidable.not_not] at h
          have := (opErr_zero (recordErr_zero h).2.2).many
          simp only
          omega

theorem recAll_facts : ∀ (n : Nat) (l : List Nat), l.length = n → (recAll l).1.length ≤ l.length ∧ ∀ r ∈ (recAll l).1, r.2.length ≤ 10000 := by
  intro n
  induction n using Nat.strongRecOn with
  | _ n ih =>
    intro l hl
    cases h : firstT l with
    | none => rw [recAll_none h]; exact ⟨Nat.zero_le _, fun r hr => by simp at hr⟩
    | some x =>
      obtain ⟨r, k⟩ := x
      rw [recAll_some h]
      have h1 := firstT_size h
      obtain ⟨h2, h3⟩ := ih (l.length - k) (by omega) (l.drop k) (by rw [List.length_drop])
      rw [List.length_drop] at h2
      refine ⟨by simp only [List.length_cons]; omega, fun q hq => ?_⟩
      rcases List.mem_cons.1 hq with rfl | hq
      · unfold firstT at h
        split at h
        · cases h
        · split at h
          · cases h
          · split at h
            · cases h
            · simp only [Option.some.injEq, Prod.mk.injEq] at h
              rw [← h.1]
              exact recOf_lenT _
      · exact h3 q hq
/-- P4.5: what Recover answers -/
def recovT (l : List Nat) (s : Int) : List RecV × List Nat × Int × Int := if tapeOk l.length s then ((recAll l).1, l.take (recAll l).2, min s ((recAll l).2 : Int), 0) else ([], [], 0, 9)
theorem recovT_facts (l : List Nat) (s : Int) : (recovT l s).1.length ≤ 8388608 ∧ ∀ r ∈ (recovT l s).1, r.2.length ≤ 10000 := by
  unfold recovT
  split
  · rename_i h
    have := recAll_facts _ l rfl
    exact ⟨Nat.le_trans this.1 h.1, this.2⟩
  · exact ⟨Nat.zero_le _, fun r hr => by simp at hr⟩
theorem recover_all (l : List Nat) (a : Option Addr) (c : Nat) (s : Int) (w : World) (h : BArg w a c l) (hl : ∀ x ∈ l, x < 256) (hlen : l.length ≤ 140737488351232) (hT : Tabs w) :
    Calls Tryd.prog 45 #[.agg #[.slice a l.length c, .int .i64 s]] w fun r w' => ∃ rv v, r = .returned (.tuple #[rv, .agg #[v, .int .i64 (recovT l s).2.2.1], .int .i64 (recovT l s).2.2.2]) ∧ (∃ K : List RecC, RowRecs w' w.heap.size rv K ∧ Hid (K.map (·.1) = (recovT l s).1)) ∧ w'.ownsRow w.heap.size 5 1 v (recovT l s).2.1.length (octs (recovT l s).2.1) ∧ Below w.heap.size w w' := by
  by_cases hok : tapeOk l.length s
  · have e : recovT l s = ((recAll l).1, l.take (recAll l).2, min s ((recAll l).2 : Int), 0) := by unfold recovT; rw [if_pos hok]
    rw [e]
    exact recover_any l a c s w h hl hlen hT hok
  · have e : recovT l s = ([], [], 0, 9) := by unfold recovT; rw [if_neg hok]
    rw [e]
    refine (recover_bad l a c s w hlen hok).mono ?_
    rintro r w1 ⟨rfl, hb⟩
    exact ⟨_, _, rfl, ⟨[], rowRecs_nil _ _, rfl⟩, tape_own_zero _ _, hb⟩
theorem tapeRecovered_all (l : List Nat) (a : Option Addr) (c : Nat) (s : Int) (w : World) (h : BArg w a c l) (hl : ∀ x ∈ l, x < 256) (hlen : l.length ≤ 140737488351232) (hT : Tabs w) :
    Calls Tryd.prog 46 #[.agg #[.slice a l.length c, .int .i64 s]] w fun r w' => ∃ rv v, r = .returned (.tuple #[rv, .agg #[v, .int .i64 (recovT l s).2.2.1], .int .i64 (recovT l s).2.2.2]) ∧ (∃ K : List RecC, RowRecs w' w.heap.size rv K ∧ Hid (K.map (·.1) = (recovT l s).1)) ∧ w'.ownsRow w.heap.size 5 1 v (recovT l s).2.1.length (octs (recovT l s).2.1) ∧ Below w.heap.size w w' := by
  by_cases hok : tapeOk l.length s
  · have e : recovT l s = ((recAll l).1, l.take (recAll l).2, min s ((recAll l).2 : Int), 0) := by unfold recovT; rw [if_pos hok]
    rw [e]
    exact tapeRecovered_any l a c s w h hl hlen hT hok
  · have e : recovT l s = ([], [], 0, 9) := by unfold recovT; rw [if_neg hok]
    rw [e]
    refine (tapeRecovered_bad l a c s w hlen hok).mono ?_
    rintro r w1 ⟨rfl, hb⟩
    exact ⟨_, _, rfl, ⟨[], rowRecs_nil _ _, rfl⟩, tape_own_zero _ _, hb⟩

set_option maxRecDepth 100000 in
set_option maxHeartbeats 1000000 in
theorem tapeRecovers_walk (l : List Nat) (a : Option Addr) (c : Nat) (s : Int) (w : World) (h : BArg w a c l) (h256 : ∀ x ∈ l, x < 256) (hl : l.length ≤ 140737488351232) (_hs : -9223372036854775808 ≤ s ∧ s ≤ 9223372036854775807) (hT : Tabs w) :
    Calls Tryd.prog 11 #[.agg #[.slice a l.length c, .int .i64 s]] w fun r w' => r = .returned (.bool true) ∧ Below w.heap.size w w' := by
  have hb0 := (Below.refl w.heap.size w).alloc (Nat.le_refl _) (.cells #[.slice a l.length c, .int .i64 s] 80)
  have hp := heap_alloc_new w (.cells #[.slice a l.length c, .int .i64 s] 80)
  have cT := tapes_any l a c s _ (h.below hb0) hl
  have cR := fun w1 (hb : Below w.heap.size w w1) => tapeRecovered_all l a c s w1 (h.below hb) h256 hl (hT.below hb)
  have cS := fun w1 a1 c1 (hb : Below w.heap.size w w1) (hA : BArg w1 a1 c1 l) => recover_all l a1 c1 s w1 hA h256 hl (hT.below hb)
  obtain ⟨hJl, hJs⟩ := recovT_facts l s
  have hby := h.by_
  generalize recovT l s = R at *
  obtain ⟨J, L, y, z⟩ := R
  simp only at cR cS hJl hJs
  clear h hl _hs h256 hT
  obtain ⟨q0, ql0, _⟩ := blk hp
  go_enter Tryd.func11, Tryd.ntmps11
  go_wp2_with fail
  refine cT.mono ?_
  rintro r w1 ⟨v1, rfl, hown1, hb1⟩
  obtain ⟨ka, kc, rfl, hkA⟩ := bArg_own hown1
  have HB1 := below_two hb0 hb1 (Nat.le_refl _)
  have hp1 := row_old ((hb1.block _ ql0).trans hp) (.cells #[.slice ka l.length kc, .int .i64 s] 80)
  have hK := heap_alloc_new w1 (.cells #[.slice ka l.length kc, .int .i64 s] 80)
  have hba := (Below.refl w1.heap.size w1).alloc (Nat.le_refl _) (.cells #[.slice ka l.length kc, .int .i64 s] 80)
  have hk1 := hkA.below hba
  have HB2 := below_two HB1 hba (Nat.le_refl _)
  have cS1 := cS _ ka kc HB2 hk1
  clear cT cS q0 hp hown1 hkA hba HB1
  obtain ⟨q0, ql0, _⟩ := blk hp1
  obtain ⟨q1, ql1, _⟩ := blk hK
  go_wp2_with fail
  refine cS1.mono ?_
  generalize (w1.alloc (.cells #[.slice ka l.length kc, .int .i64 s] 80)) = w2 at *
  rintro r w3 ⟨rv, v3, rfl, ⟨K1, hK1, HK1⟩, hown3, hb3⟩
  obtain ⟨ga, gc, eg, -, -, hGa⟩ := hK1.recs
  rw [HK1.out] at eg hGa
  subst eg
  obtain ⟨va, vc, rfl⟩ := own_form hown3
  have HB3 := below_two HB2 hb3 (Nat.le_refl _)
  have hp3 := row_old ((hb3.block _ ql0).trans hp1) (.cells #[.slice va L.length vc, .int .i64 y] 80)
  have hK3 := row_old ((hb3.block _ ql1).trans hK) (.cells #[.slice va L.length vc, .int .i64 y] 80)
  have hA := heap_alloc_new w3 (.cells #[.slice va L.length vc, .int .i64 y] 80)
  have hba := (Below.refl w3.heap.size w3).alloc (Nat.le_refl _) (.cells #[.slice va L.length vc, .int .i64 y] 80)
  have HB4 := below_two HB3 hba (Nat.le_refl _)
  have hG4 := hGa.below hba
  have hown4 := own_below hown3 hba
  have hk4 := (hk1.below hb3).below hba
  have cR4 := cR _ HB4
  clear cR hown3 hba cS1 q0 q1 ql0 ql1 hk1 hb3 hp1 hK HB3 HB2 hK1 HK1 hGa
  obtain ⟨q0, ql0, _⟩ := blk hp3
  obtain ⟨q1, ql1, _⟩ := blk hK3
  obtain ⟨q2, ql2, _⟩ := blk hA
  go_wp2_with fail
  refine cR4.mono ?_
  generalize (w3.alloc (.cells #[.slice va L.length vc, .int .i64 y] 80)) = w4 at *
  rintro r w5 ⟨rv, v5, rfl, ⟨K2, hK2, HK2⟩, hown5, hb5⟩
  obtain ⟨na, nc, en, -, -, hNa⟩ := hK2.recs
  rw [HK2.out] at en hNa
  subst en
  obtain ⟨ua, uc, rfl⟩ := own_form hown5
  have hp5 := row_old ((hb5.block _ ql0).trans hp3) (.cells #[.slice ua L.length uc, .int .i64 y] 80)
  have hK5 := row_old ((hb5.block _ ql1).trans hK3) (.cells #[.slice ua L.length uc, .int .i64 y] 80)
  have hA5 := row_old ((hb5.block _ ql2).trans hA) (.cells #[.slice ua L.length uc, .int .i64 y] 80)
  have hB5 := heap_alloc_new w5 (.cells #[.slice ua L.length uc, .int .i64 y] 80)
  have hba := (Below.refl w5.heap.size w5).alloc (Nat.le_refl _) (.cells #[.slice ua L.length uc, .int .i64 y] 80)
  have HB6 := below_two (below_two HB4 hb5 (Nat.le_refl _)) hba (Nat.le_refl _)
  have ho4 := own_below (own_below hown4 hb5) hba
  have ho5 := own_below hown5 hba
  have hk6 := (hk4.below hb5).below hba
  have cQ := sameRecords_true J ga na gc nc _ ((hG4.below hb5).below hba) (hNa.below hba) (by omega) hJs
  obtain ⟨_, _, e1, b1⟩ := bArg_own ho4
  obtain ⟨_, _, e2, b2⟩ := bArg_own ho5
  simp only [Value.slice.injEq, true_and] at e1 e2
  obtain ⟨rfl, rfl⟩ := e1
  obtain ⟨rfl, rfl⟩ := e2
  have cE := fun wx (hx : Below (w5.alloc (.cells #[.slice ua L.length uc, .int .i64 y] 80)).heap.size (w5.alloc (.cells #[.slice ua L.length uc, .int .i64 y] 80)) wx) => sameTape_true L va ua vc uc y wx (b1.by_.below hx) (b2.by_.below hx)
  have hy6 := hby.below HB6
  clear cR4 hown4 hown5 ho4 ho5 b1 b2 hb5 hba hG4 hK2 HK2 hNa q0 q1 q2 ql0 ql1 ql2 hA hp3 hK3 hk4 HB4
  obtain ⟨q0, ql0, _⟩ := blk hp5
  obtain ⟨q1, ql1, _⟩ := blk hK5
  obtain ⟨q2, ql2, _⟩ := blk hA5
  obtain ⟨q3, ql3, _⟩ := blk hB5
  go_wp2_with fail
  refine cQ.mono ?_
  generalize (w5.alloc (.cells #[.slice ua L.length uc, .int .i64 y] 80)) = w6 at *
  rintro r wq ⟨rfl, hbq⟩
  have HBq := below_two HB6 hbq (Nat.le_refl _)
  replace hp5 := (hbq.block _ ql0).trans hp5
  replace hK5 := (hbq.block _ ql1).trans hK5
  replace hA5 := (hbq.block _ ql2).trans hA5
  replace hB5 := (hbq.block _ ql3).trans hB5
  replace hk6 := hk6.below hbq
  replace hy6 := hy6.below hbq
  replace cE := cE wq hbq
  clear cQ q0 q1 q2 q3 ql0 ql1 ql2 ql3 hbq HB6
  obtain ⟨q0, ql0, _⟩ := blk hp5
  obtain ⟨q1, ql1, _⟩ := blk hK5
  obtain ⟨q2, _, _⟩ := blk hA5
  obtain ⟨q3, _, _⟩ := blk hB5
  go_wp2_with fail
  refine cE.mono ?_
  rintro r w7 ⟨rfl, hb7⟩
  have HB7 := below_two HBq hb7 (Nat.le_refl _)
  have hp7 := (hb7.block _ ql0).trans hp5
  have hK7 := (hb7.block _ ql1).trans hK5
  have cF := sameTape_true l ka a kc c s w7 (hk6.below hb7).by_ (hy6.below hb7)
  clear cE q0 q1 q2 q3 ql0 ql1 hp5 hK5 hA5 hB5 hk6 hy6
  obtain ⟨q0, _, _⟩ := blk hp7
  obtain ⟨q1, _, _⟩ := blk hK7
  go_wp2_with fail
  refine cF.mono ?_
  rintro r w8 ⟨rfl, hb8⟩
  go_wp2_with fail
  go_ret
  exact ⟨by simp, below_two HB7 hb8 (Nat.le_refl _)⟩

end Go.Proofs.YtknjnfknalfbdaaDoor
