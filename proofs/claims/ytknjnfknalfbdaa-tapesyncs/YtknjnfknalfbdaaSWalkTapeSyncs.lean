/-
  Walks: wherrylaw.TapeSyncs.
-/
import Derived.Test.YtknjnfknalfbdaaSTapeSame
import Derived.Test.YtknjnfknalfbdaaSTapeRef
namespace Go.Proofs.Ytknjnfknalfbdaa
open Go.RowKit Go.Lib

set_option maxRecDepth 100000 in
set_option maxHeartbeats 1000000 in
theorem tapeSyncs_walk (l : List Nat) (a : Option Addr) (c : Nat) (s : Int) (w : World) (h : BArg w a c l) (_hx : ∀ x ∈ l, x < 256) (hl : l.length ≤ 140737488351232) (_hs : -9223372036854775808 ≤ s ∧ s ≤ 9223372036854775807) :
    Calls Try.prog 3 #[.agg #[.slice a l.length c, .int .i64 s]] w fun r w' => r = .returned (.bool true) ∧ Below w.heap.size w w' := by
  have hb0 := (Below.refl w.heap.size w).alloc (Nat.le_refl _) (.cells #[.slice a l.length c, .int .i64 s] 24)
  have hp := heap_alloc_new w (.cells #[.slice a l.length c, .int .i64 s] 24)
  have cT := tapes_any l a c s _ (h.below hb0) hl
  have cR := fun w1 (hb : Below w.heap.size w w1) => tapeSynced_any l a c s w1 (h.below hb) hl
  have cS : ∀ w1 v1, w1.ownsRow (w.alloc (.cells #[.slice a l.length c, .int .i64 s] 24)).heap.size 5 1 v1 l.length (octs l) → Calls Try.prog 5 #[.agg #[v1, .int .i64 s]] w1 fun r w' => ∃ v, r = .returned (.tuple #[.agg #[v, .int .i64 (syncT l s).2.1], .int .i64 (syncT l s).2.2]) ∧ w'.ownsRow w1.heap.size 5 1 v (syncT l s).1.length (octs (syncT l s).1) ∧ Below w1.heap.size w1 w' := fun w1 v1 ho => by
    obtain ⟨a1, c1, rfl, hA⟩ := bArg_own ho
    exact sync_any l a1 c1 s w1 hA hl
  generalize syncT l s = R at *
  obtain ⟨L, y, z⟩ := R
  simp only at cR cS
  clear h hl _hs _hx
  obtain ⟨q0, ql0, _⟩ := blk hp
  go_enter Try.func3, Try.ntmps3
  go_wp2_with fail
  refine cT.mono ?_
  rintro r w1 ⟨v1, rfl, hown1, hb1⟩
  have HB1 := below_two hb0 hb1 (Nat.le_refl _)
  have hp1 := (hb1.block _ ql0).trans hp
  have cS1 := cS w1 v1 hown1
  clear cT cS q0 hp hown1
  go_wp2_with fail
  refine cS1.mono ?_
  rintro r w2 ⟨v2, rfl, hown2, hb2⟩
  obtain ⟨va, vc, rfl⟩ := own_form hown2
  have HB2 := below_two HB1 hb2 (Nat.le_refl _)
  have hp2 := (hb2.block _ (Array.getElem?_eq_some_iff.1 hp1).1).trans hp1
  clear cS1 hp1 ql0 hb1 hb2
  have hba := (Below.refl w2.heap.size w2).alloc (Nat.le_refl _) (.cells #[.slice va L.length vc, .int .i64 y] 24)
  have hA := heap_alloc_new w2 (.cells #[.slice va L.length vc, .int .i64 y] 24)
  have hp3 := row_old hp2 (.cells #[.slice va L.length vc, .int .i64 y] 24)
  have HB3 := below_two HB2 hba (Nat.le_refl _)
  have hown3 := own_below hown2 hba
  have cR3 := cR _ HB3
  clear cR hown2 hba hp2
  obtain ⟨q0, ql0, _⟩ := blk hp3
  obtain ⟨q1, ql1, _⟩ := blk hA
  go_wp2_with fail
  refine cR3.mono ?_
  generalize (w2.alloc (.cells #[.slice va L.length vc, .int .i64 y] 24)) = w3 at *
  rintro r w4 ⟨v4, rfl, hown4, hb4⟩
  obtain ⟨ua, uc, rfl⟩ := own_form hown4
  have hA4 := row_old ((hb4.block _ ql1).trans hA) (.cells #[.slice ua L.length uc, .int .i64 y] 24)
  have hB4 := heap_alloc_new w4 (.cells #[.slice ua L.length uc, .int .i64 y] 24)
  have hba := (Below.refl w4.heap.size w4).alloc (Nat.le_refl _) (.cells #[.slice ua L.length uc, .int .i64 y] 24)
  have HB5 := below_two (below_two HB3 hb4 (Nat.le_refl _)) hba (Nat.le_refl _)
  have ho3 := own_below (own_below hown3 hb4) hba
  have ho4 := own_below hown4 hba
  obtain ⟨_, _, e1, b1⟩ := bArg_own ho3
  obtain ⟨_, _, e2, b2⟩ := bArg_own ho4
  simp only [Value.slice.injEq, true_and] at e1 e2
  obtain ⟨rfl, rfl⟩ := e1
  obtain ⟨rfl, rfl⟩ := e2
  have cE := sameTape_true L va ua vc uc y _ b1.by_ b2.by_
  clear cR3 hown3 hown4 ho3 ho4 b1 b2 hb4 hba q0 q1 ql0 ql1 hA hp3
  obtain ⟨q1, _, _⟩ := blk hA4
  obtain ⟨q2, _, _⟩ := blk hB4
  go_wp2_with fail
  refine cE.mono ?_
  rintro r w6 ⟨rfl, hb6⟩
  go_wp2_with fail
  go_ret
  exact ⟨by simp, below_two HB5 hb6 (Nat.le_refl _)⟩

end Go.Proofs.Ytknjnfknalfbdaa
