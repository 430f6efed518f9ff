/-
  Two rows of steps that grow.
-/
import Derived.Test.YtmdehfomogfmlaaDoorRuneMem
import Derived.Test.YtmdehfomogfmlaaDoorPenWalk
namespace Go.Proofs.YtmdehfomogfmlaaDoor
open Go.RowKit

/-- two rows of steps -/
structure TS (w6 wr : World) (cv dv : Value) (c d : List Step) : Prop where
  oc : wr.ownsRow w6.heap.size 152 2 cv c.length (stepCells c)
  od : wr.ownsRow w6.heap.size 152 2 dv d.length (stepCells d)
  ne : ∀ k, dv.ownBlock = some k → ¬ cv.ownBlock = some k
  bel : Below w6.heap.size w6 wr
theorem TS.symm {w6 wr : World} {cv dv : Value} {c d : List Step} (h : TS w6 wr cv dv c d) : TS w6 wr dv cv d c := ⟨h.od, h.oc, fun k h1 h2 => h.ne k h2 h1, h.bel⟩
theorem TS.addC {w6 wr w1 : World} {cv dv : Value} {c d : List Step} {o : Obj} {g cap n : Nat} (h : TS w6 wr cv dv c d) (s : Step) (hown : w1.ownsRow w6.heap.size 152 2 (.slice (some ⟨g, 0, none⟩) n cap) (c.length + 1) (stepCells c ++ [.int .i64 s.1, .int .i32 s.2])) (hg : (wr.alloc o).grownBy w1 cv.ownBlock) (hat : cv.ownBlock = some g ∨ g = (wr.alloc o).heap.size) :
    TS w6 w1 (.slice (some ⟨g, 0, none⟩) n cap) dv (c ++ [s]) d := by
  have hsz := h.bel.size
  refine ⟨?_, ?_, ?_, (h.bel.alloc hsz _).grown hg (by simp; omega) (fun j e => (h.oc.lt j e).1)⟩
  · rw [stepCells_append, stepCells_one, List.length_append]
    exact hown
  · exact own_chg (F := fun k => cv.ownBlock = some k) (h.od.alloc o) ((Chg.refl _ _).grown hg fun _ _ e => e) h.ne
  · intro k hk e
    simp only [Value.ownBlock, Option.some.injEq] at e
    subst e
    rcases hat with h1 | h1
    · exact h.ne _ hk h1
    · have := (h.od.lt _ hk).2
      simp at h1
      omega
theorem TS.addD {w6 wr w1 : World} {cv dv : Value} {c d : List Step} {o : Obj} {g cap n : Nat} (h : TS w6 wr cv dv c d) (s : Step) (hown : w1.ownsRow w6.heap.size 152 2 (.slice (some ⟨g, 0, none⟩) n cap) (d.length + 1) (stepCells d ++ [.int .i64 s.1, .int .i32 s.2])) (hg : (wr.alloc o).grownBy w1 dv.ownBlock) (hat : dv.ownBlock = some g ∨ g = (wr.alloc o).heap.size) :
    TS w6 w1 cv (.slice (some ⟨g, 0, none⟩) n cap) c (d ++ [s]) := (h.symm.addC s hown hg hat).symm
theorem StepsAt.at {w : World} {a : Option Addr} {l : List Step} (h : StepsAt w a l) {k : Nat} (hk : k < l.length) : ∃ g, a = some ⟨g, 0, none⟩ := by
  rcases h with rfl | ⟨g, cur, rfl, _⟩
  · simp at hk
  · exact ⟨g, rfl⟩
theorem step_cell {w w1 : World} {g : Nat} {l : List Step} (h : StepsAt w (some ⟨g, 0, none⟩) l) (hb : Below w.heap.size w w1) {k : Nat} (hk : k < l.length) {s : Step} (e : l[k] = s) : w1.cell? ⟨g, k * 2, none⟩ = some (.int .i64 s.1) ∧ w1.cell? ⟨g, k * 2 + 1, none⟩ = some (.int .i32 s.2) := by
  rcases h.below hb with rfl | ⟨g', cur, e', _, hc⟩
  · simp at hk
  · simp only [Option.some.injEq, Addr.mk.injEq, and_true] at e'
    subst e'
    rw [← e]
    exact hc k hk

end Go.Proofs.YtmdehfomogfmlaaDoor
