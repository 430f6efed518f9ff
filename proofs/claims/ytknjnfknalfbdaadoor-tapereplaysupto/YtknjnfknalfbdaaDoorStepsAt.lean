/-
  A slice of steps in memory.
-/
import Derived.Test.YtknjnfknalfbdaaDoorStepsWalk
namespace Go.Proofs.YtknjnfknalfbdaaDoor
open Go.RowKit

/-- the cells of an owned row of steps -/
theorem own_step {w : World} {B : Nat} {v : Value} {l : List Step} (h : w.ownsRow B 154 2 v l.length (stepCells l)) (hl : 0 < l.length) :
    ∃ g cap, v = .slice (some ⟨g, 0, none⟩) l.length cap ∧ ∀ i (hi : i < l.length), w.cell? ⟨g, i * 2, none⟩ = some (.int .i64 l[i].1) ∧ w.cell? ⟨g, i * 2 + 1, none⟩ = some (.int .i32 l[i].2) := by
  obtain ⟨g, cap, rfl, hB, hlt⟩ := h.form hl
  refine ⟨g, cap, rfl, fun i hi => ?_⟩
  have hc := h.cells (g := g) rfl
  have key : ∀ (l : List Step) (i : Nat) (hi : i < l.length), (stepCells l)[i * 2]? = some (.int .i64 l[i].1) ∧ (stepCells l)[i * 2 + 1]? = some (.int .i32 l[i].2) := by
    intro l
    induction l with
    | nil => intro i hi; simp at hi
    | cons s l ih =>
      intro i hi
      have e : stepCells (s :: l) = Value.int .i64 s.1 :: Value.int .i32 s.2 :: stepCells l := by simp [stepCells]
      rw [e]
      cases i with
      | zero => simp
      | succ i =>
        have := ih i (by simpa using hi)
        rw [show (i + 1) * 2 = i * 2 + 1 + 1 by omega]
        simpa using this
  obtain ⟨k1, k2⟩ := key l i hi
  have h1 := hc _ _ k1
  have h2 := hc _ _ k2
  rw [WideShapes.add_plain] at h1 h2
  simp only [Nat.zero_add] at h1 h2
  exact ⟨h1, h2⟩

/-- A slice of steps in memory: its row, two cells a step. -/
def StepsAt (w : World) (a : Option Addr) (l : List Step) : Prop :=
  l = [] ∨ ∃ g cur, a = some ⟨g, 0, none⟩ ∧ w.heap[g]? = some (.cells cur 154 (0, 0)) ∧ ∀ i (h : i < l.length), w.cell? ⟨g, i * 2, none⟩ = some (.int .i64 l[i].1) ∧ w.cell? ⟨g, i * 2 + 1, none⟩ = some (.int .i32 l[i].2)
theorem own_stepsAt {w : World} {B : Nat} {v : Value} {l : List Step} (h : w.ownsRow B 154 2 v l.length (stepCells l)) : ∃ a cap, v = .slice a l.length cap ∧ StepsAt w a l := by
  by_cases hl : 0 < l.length
  · obtain ⟨g, cap, rfl, hc⟩ := own_step h hl
    rcases h.2 with ⟨h', _⟩ | ⟨g', cap', cur, h', _, hg, _⟩
    · simp at h'
    · simp only [Value.slice.injEq, Option.some.injEq, Addr.mk.injEq, and_true] at h'
      obtain ⟨rfl, _⟩ := h'
      exact ⟨_, cap, rfl, .inr ⟨g, cur, rfl, hg, hc⟩⟩
  · have hz : l = [] := List.length_eq_zero_iff.1 (by omega)
    subst hz
    rcases h.2 with ⟨rfl, _⟩ | ⟨g, cap, cur, rfl, _⟩
    · exact ⟨none, 0, rfl, .inl rfl⟩
    · exact ⟨_, cap, rfl, .inl rfl⟩
theorem StepsAt.same {w w' : World} {a : Option Addr} {l : List Step} (h : StepsAt w a l) (hk : ∀ g cur, w.heap[g]? = some (.cells cur 154 (0, 0)) → a = some ⟨g, 0, none⟩ → w'.heap[g]? = w.heap[g]?) : StepsAt w' a l := by
  rcases h with rfl | ⟨g, cur, rfl, hg, hc⟩
  · exact .inl rfl
  · have e := hk g cur hg rfl
    refine .inr ⟨g, cur, rfl, by rw [e]; exact hg, fun i hi => ?_⟩
    obtain ⟨c0, c1⟩ := hc i hi
    rw [World.cell?_of_block (a := ⟨g, i * 2, none⟩) e, World.cell?_of_block (a := ⟨g, i * 2 + 1, none⟩) e]
    exact ⟨c0, c1⟩
theorem StepsAt.below {w w' : World} {a : Option Addr} {l : List Step} (h : StepsAt w a l) (hb : Below w.heap.size w w') : StepsAt w' a l :=
  h.same fun g _ hg _ => hb.block g (lt_of_heap hg)
/-- .. an append to a row of another kind leaves it -/
theorem StepsAt.grown {w w' : World} {a : Option Addr} {l : List Step} {B e size : Nat} {v : Value} {n : Nat} {xs : List Value} (h : StepsAt w a l) (hown : w.ownsRow B e size v n xs) (hg : w.grownBy w' v.ownBlock) (hT : 154 ≠ e) : StepsAt w' a l :=
  h.same fun g _ hr _ => hg.block g (lt_of_heap hr) (row_ne hown hr hT)

end Go.Proofs.YtknjnfknalfbdaaDoor
