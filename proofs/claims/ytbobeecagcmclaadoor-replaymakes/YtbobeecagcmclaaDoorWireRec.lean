/-
  Walks: wire.reader.end, readRecord.
-/
import Derived.Test.YtbobeecagcmclaaDoorWireOp
namespace Go.Proofs.YtbobeecagcmclaaDoor
open Go.RowKit Go.Lib

/-- what is wrong at the end -/
def endE (st : Except Int (List Nat)) : Int := match st with
  | .ok [] => 0
  | .ok _ => 4
  | .error e => e

/-- P3.6: a record, read -/
def recP (l : List Nat) : Except Int ((Nat × List Part) × List Nat) := match numP l with
  | .ok x => if x.1 = 0 then mapR (opP x.2) (fun ps => (0, ps)) else .ok ((x.1, []), x.2)
  | .error e => .error e
theorem rec_cells {w : World} {b : Nat} {x y : Value} (h : w.heap[b]? = some (.cells #[x, y] 44 (0, 0))) : (w.cell? ⟨b, 0, none⟩ = some x ∧ w.cell? ⟨b, 1, none⟩ = some y) ∧ b < w.heap.size ∧ w.frozen? ⟨b, 0, none⟩ = false ∧ w.frozen? ⟨b, 1, none⟩ = false :=
  ⟨⟨by rw [cell_of_row _ _ _ _ _ _ h]; rfl, by rw [cell_of_row _ _ _ _ _ _ h]; rfl⟩, (Array.getElem?_eq_some_iff.1 h).1, by simp [World.frozen?, h], by simp [World.frozen?, h]⟩
theorem rec_store {w : World} {k : Nat} {x y x' y' : Value} (h : w.heap[k]? = some (.cells #[x', y'] 44 (0, 0))) :
    ((w.setCell ⟨k, 0, none⟩ x).setCell ⟨k, 1, none⟩ y).heap[k]? = some (.cells #[x, y] 44 (0, 0)) ∧ Chg (fun i => i = k) w ((w.setCell ⟨k, 0, none⟩ x).setCell ⟨k, 1, none⟩ y) := by
  have s1 : (w.setCell ⟨k, 0, none⟩ x).heap[k]? = some (.cells #[x, y'] 44 (0, 0)) := by rw [heap_setCell_same w k 0 _ _ _ h]; rfl
  exact ⟨by rw [heap_setCell_same _ k 1 _ _ _ s1]; rfl, ((Chg.refl (fun i => i = k) w).setCell (p := ⟨k, 0, none⟩) rfl _).setCell (p := ⟨k, 1, none⟩) rfl _⟩

end Go.Proofs.YtbobeecagcmclaaDoor
