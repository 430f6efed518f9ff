/-
  Walk: wherryref.NodeFault.
-/
import Derived.Test.YtnjhcnfnllojpaaDoorNodeRefS
import Derived.Test.YtnjhcnfnllojpaaDoorOpFault
import Derived.Lib.QuietBelow
import Derived.BigQuiet
namespace Go.Proofs.YtnjhcnfnllojpaaDoor
open Go.RowKit Go.Lib Go.Sort

theorem nodeErr_bad {T : List Int} {n : NodeV} (h : treeErr T = 0) (hb : nodeB T n = false) : nodeErr T n = 9 := by
  unfold nodeErr
  rw [h, hb]
  rfl
theorem nodeErr_good {T : List Int} {n : NodeV} (h : treeErr T = 0) (hb : nodeB T n = true) : nodeErr T n = 0 := by
  unfold nodeErr
  rw [h, hb]
  rfl
theorem nodeB_num {T : List Int} {n : NodeV} (h : numB T n = false) : nodeB T n = false := by unfold nodeB; rw [h]; rfl
theorem nodeB_text {T : List Int} {n : NodeV} (h : textErr n.text ≠ 0) : nodeB T n = false := by unfold nodeB; rw [decide_eq_false h]; simp
theorem nodeB_undo {T : List Int} {n : NodeV} (h : undoB n = false) : nodeB T n = false := by unfold nodeB; rw [h]; simp
theorem nodeB_marks {T : List Int} {n : NodeV} (h : marksB n = false) : nodeB T n = false := by unfold nodeB; rw [h]; simp
theorem nodeB_sides {T : List Int} {n : NodeV} (h : sidesB T n = false) : nodeB T n = false := by unfold nodeB; rw [h]; simp
theorem nodeB_ready {T : List Int} {n : NodeV} (h : readyB n = false) : nodeB T n = false := by unfold nodeB; rw [h]; simp
theorem undoRB_stepR (x : Int) {U : List (List Part)} {g : Nat} (h : g < U.length) : undoRB x (U.take (g + 1)).reverse = (decide (opErr U[g] = 0) && decide (((lens U[g]).1 : Int) = x) && undoRB (lens U[g]).2 (U.take g).reverse) := by
  rw [List.take_succ_eq_append_getElem h, List.reverse_append]
  rfl
theorem firstB_at (ready : Bool) {K : List SideV} (h : 0 < K.length) : firstB ready K = decide (ready = K[0].joined) := by
  cases K with
  | nil => simp at h
  | cons s r => rfl

end Go.Proofs.YtnjhcnfnllojpaaDoor
