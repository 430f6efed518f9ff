/-
  Walk: wherrylaw.TapeAppends.
-/
import Derived.Test.YtknjnfknalfbdaaDoorTapeSame
import Derived.Test.YtknjnfknalfbdaaDoorTapeAppR
namespace Go.Proofs.YtknjnfknalfbdaaDoor
open Go.RowKit Go.Lib

set_option maxRecDepth 100000 in
set_option maxHeartbeats 1000000 in
theorem tapeAppends_walk (l : List Nat) (a : Option Addr) (c : Nat) (s : Int) (e : Int) (ps : List Part) (ra : Option Addr) (rc : Nat) (w : World) (h : BArg w a c l) (_hx : ∀ x ∈ l, x < 256) (hl : l.length ≤ 140737488351232) (_hs : -9223372036854775808 ≤ s ∧ s ≤ 9223372036854775807) (ho : OpVal w (.slice ra ps.length rc) ps) (hso : OpSmall ps) (hT : Tabs w) :
    Calls Tryd.prog 10 #[.agg #[.slice a l.length c, .int .i64 s], .agg #[.int .i64 e, .slice ra ps.length rc]] w fun r w' => r = .returned (.bool true) ∧ Below w.heap.size w w' := by
  obtain ⟨hp, hq, hb0, hz⟩ := tape_two w (.cells #[.slice a l.length c, .int .i64 s] 80) (.cells #[.int .i64 e, .slice ra ps.length rc] 74)
  have hop : OpAt w ra ps := by
    obtain ⟨a', c', he, h, _, _⟩ := ho.form
    simp only [Value.slice.injEq, true_and] at he
    obtain ⟨rfl, rfl⟩ := he
    exact h
  have h1 := hso.1
  have h2 : ∀ p ∈ ps, p.text.size ≤ 1048576 := fun p hp => (hso.2 p hp).2.2
  have cT := tapes_any l a c s _ (h.below hb0) hl
  have cR := fun w1 (hb : Below w.heap.size w w1) => tapeAppended_any l a c s e ps ra rc w1 (h.below hb) hl (hop.below hb) h1 h2 (hT.below hb)
  have cS : ∀ w1 a1 c1, Below w.heap.size w w1 → BArg w1 a1 c1 l → Calls Tryd.prog 42 #[.agg #[.slice a1 l.length c1, .int .i64 s], .agg #[.int .i64 e, .slice ra ps.length rc]] w1 fun r w' => ∃ v, r = .returned (.tuple #[.agg #[v, .int .i64 (appendT l s e ps).2.1], .int .i64 (appendT l s e ps).2.2]) ∧ w'.ownsRow w1.heap.size 5 1 v (appendT l s e ps).1.length (octs (appendT l s e ps).1) ∧ Below w1.heap.size w1 w' := fun w1 a1 c1 hb hA => append_any l a1 c1 s e ps ra rc w1 hA hl (hop.below hb) h1 h2 (hT.below hb)
  have hby := h.by_
  generalize appendT l s e ps = R at *
  obtain ⟨L, y, z⟩ := R
  simp only at cR cS
  have hz1 : w.heap.size + 1 < ((w.alloc (.cells #[.slice a l.length c, .int .i64 s] 80)).alloc (.cells #[.int .i64 e, .slice ra ps.length rc] 74)).heap.size := by omega
  clear h hl _hs _hx ho hso hop hT h1 h2 hz
  obtain ⟨q0, ql0, _⟩ := blk hp
  obtain ⟨z0, zl0, _⟩ := blk hq
  go_enter Tryd.func10, Tryd.ntmps10
  go_wp2_with fail
  refine cT.mono ?_
  rintro r w1 ⟨v1, rfl, hown1, hb1⟩
  obtain ⟨ka, kc, rfl, hkA⟩ := bArg_own hown1
  have HB1 := below_two hb0 hb1 (Nat.le_refl _)
  have hp1 := row_old ((hb1.block _ ql0).trans hp) (.cells #[.slice ka l.length kc, .int .i64 s] 80)
  have hq1 := row_old ((hb1.block _ zl0).trans hq) (.cells #[.slice ka l.length kc, .int .i64 s] 80)
  have hK := heap_alloc_new w1 (.cells #[.slice ka l.length kc, .int .i64 s] 80)
  have hba := (Below.refl w1.heap.size w1).alloc (Nat.le_refl _) (.cells #[.slice ka l.length kc, .int .i64 s] 80)
  have hk1 := hkA.below hba
  have HB2 := below_two HB1 hba (Nat.le_refl _)
  have cS1 := cS _ ka kc HB2 hk1
  clear cT cS q0 hp z0 zl0 hq hz1 hown1 hkA hba HB1
  obtain ⟨z0, zl0, _⟩ := blk hq1
  obtain ⟨q0, ql0, _⟩ := blk hp1
  obtain ⟨q1, ql1, _⟩ := blk hK
  go_wp2_with fail
  refine cS1.mono ?_
  generalize (w1.alloc (.cells #[.slice ka l.length kc, .int .i64 s] 80)) = w2 at *
  rintro r w3 ⟨v3, rfl, hown3, hb3⟩
  obtain ⟨va, vc, rfl⟩ := own_form hown3
  have HB3 := below_two HB2 hb3 (Nat.le_refl _)
  have hp3 := row_old ((hb3.block _ ql0).trans hp1) (.cells #[.slice va L.length vc, .int .i64 y] 80)
  have hq3 := row_old ((hb3.block _ zl0).trans hq1) (.cells #[.slice va L.length vc, .int .i64 y] 80)
  have hK3 := row_old ((hb3.block _ ql1).trans hK) (.cells #[.slice va L.length vc, .int .i64 y] 80)
  have hA := heap_alloc_new w3 (.cells #[.slice va L.length vc, .int .i64 y] 80)
  have hba := (Below.refl w3.heap.size w3).alloc (Nat.le_refl _) (.cells #[.slice va L.length vc, .int .i64 y] 80)
  have HB4 := below_two HB3 hba (Nat.le_refl _)
  have hown4 := own_below hown3 hba
  have hk4 := (hk1.below hb3).below hba
  have cR4 := cR _ HB4
  clear cR hown3 hba cS1 q0 q1 ql0 ql1 hk1 hb3 hp1 hK HB3 HB2 z0 zl0 hq1
  obtain ⟨z0, _, _⟩ := blk hq3
  obtain ⟨q0, ql0, _⟩ := blk hp3
  obtain ⟨q1, ql1, _⟩ := blk hK3
  obtain ⟨q2, ql2, _⟩ := blk hA
  go_wp2_with fail
  refine cR4.mono ?_
  generalize (w3.alloc (.cells #[.slice va L.length vc, .int .i64 y] 80)) = w4 at *
  rintro r w5 ⟨v5, rfl, hown5, hb5⟩
  obtain ⟨ua, uc, rfl⟩ := own_form hown5
  have hp5 := row_old ((hb5.block _ ql0).trans hp3) (.cells #[.slice ua L.length uc, .int .i64 y] 80)
  have hK5 := row_old ((hb5.block _ ql1).trans hK3) (.cells #[.slice ua L.length uc, .int .i64 y] 80)
  have hA5 := row_old ((hb5.block _ ql2).trans hA) (.cells #[.slice ua L.length uc, .int .i64 y] 80)
  have hB5 := heap_alloc_new w5 (.cells #[.slice ua L.length uc, .int .i64 y] 80)
  have hba := (Below.refl w5.heap.size w5).alloc (Nat.le_refl _) (.cells #[.slice ua L.length uc, .int .i64 y] 80)
  have HB6 := below_two (below_two HB4 hb5 (Nat.le_refl _)) hba (Nat.le_refl _)
  have ho4 := own_below (own_below hown4 hb5) hba
  have ho5 := own_below hown5 hba
  have hk6 := (hk4.below hb5).below hba
  obtain ⟨_, _, e1, b1⟩ := bArg_own ho4
  obtain ⟨_, _, e2, b2⟩ := bArg_own ho5
  simp only [Value.slice.injEq, true_and] at e1 e2
  obtain ⟨rfl, rfl⟩ := e1
  obtain ⟨rfl, rfl⟩ := e2
  have cE := sameTape_true L va ua vc uc y _ b1.by_ b2.by_
  have hy6 := hby.below HB6
  clear cR4 z0 hq3 hown4 hown5 ho4 ho5 b1 b2 hb5 hba q0 q1 q2 ql0 ql1 ql2 hA hp3 hK3 hk4 HB4
  obtain ⟨q0, ql0, _⟩ := blk hp5
  obtain ⟨q1, ql1, _⟩ := blk hK5
  obtain ⟨q2, _, _⟩ := blk hA5
  obtain ⟨q3, _, _⟩ := blk hB5
  go_wp2_with fail
  refine cE.mono ?_
  generalize (w5.alloc (.cells #[.slice ua L.length uc, .int .i64 y] 80)) = w6 at *
  rintro r w7 ⟨rfl, hb7⟩
  have HB7 := below_two HB6 hb7 (Nat.le_refl _)
  have hp7 := (hb7.block _ ql0).trans hp5
  have hK7 := (hb7.block _ ql1).trans hK5
  have cF := sameTape_true l ka a kc c s w7 (hk6.below hb7).by_ (hy6.below hb7)
  clear cE q0 q1 q2 q3 ql0 ql1 hp5 hK5 hA5 hB5 hk6 hy6
  obtain ⟨q0, _, _⟩ := blk hp7
  obtain ⟨q1, _, _⟩ := blk hK7
  go_wp2_with fail
  refine cF.mono ?_
  rintro r w8 ⟨rfl, hb8⟩
  go_wp2_with fail
  go_ret
  exact ⟨by simp, below_two HB7 hb8 (Nat.le_refl _)⟩

end Go.Proofs.YtknjnfknalfbdaaDoor
