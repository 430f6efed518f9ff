/-
  Walks: wire.reader: part, op.
-/
import Derived.Test.YtbobeecagcmclaaDoorWireText
import Derived.Test.YtbobeecagcmclaaDoorEdgeMem
import Derived.OwnWalk
namespace Go.Proofs.YtbobeecagcmclaaDoor
open Go.RowKit Go.Lib

def mapR {α β : Type} (r : Except Int (α × List Nat)) (f : α → β) : Except Int (β × List Nat) := match r with
  | .ok x => .ok (f x.1, x.2)
  | .error e => .error e
theorem rest_map {α β : Type} (r : Except Int (α × List Nat)) (f : α → β) : rest (mapR r f) = rest r := by cases r <;> rfl
theorem map_ok {α β : Type} {r : Except Int (α × List Nat)} {f : α → β} {v : α} (h : ∀ x, r = .ok x → x.1 = v) : ∀ x, mapR r f = .ok x → x.1 = f v := by
  cases r with
  | error e => intro x hx; cases hx
  | ok y => intro x hx; cases hx; rw [h y rfl]
/-- P3.4: a part, read -/
def partP (l : List Nat) : Except Int (Part × List Nat) := match numP l with
  | .ok x => if x.1 = 2 then mapR (textP x.2) (fun s => ⟨2, 0, s⟩) else mapR (numP x.2) (fun n => ⟨(x.1 : Int), (n : Int), ByteArray.empty⟩)
  | .error e => .error e

theorem part_cells {w : World} {b : Nat} {x y z : Value} (h : w.heap[b]? = some (.cells #[x, y, z] 75 (0, 0))) : (w.cell? ⟨b, 0, none⟩ = some x ∧ w.cell? ⟨b, 1, none⟩ = some y ∧ w.cell? ⟨b, 2, none⟩ = some z) ∧ b < w.heap.size ∧ w.frozen? ⟨b, 0, none⟩ = false ∧ w.frozen? ⟨b, 1, none⟩ = false ∧ w.frozen? ⟨b, 2, none⟩ = false :=
  ⟨⟨by rw [cell_of_row _ _ _ _ _ _ h]; rfl, by rw [cell_of_row _ _ _ _ _ _ h]; rfl, by rw [cell_of_row _ _ _ _ _ _ h]; rfl⟩, (Array.getElem?_eq_some_iff.1 h).1, by simp [World.frozen?, h], by simp [World.frozen?, h], by simp [World.frozen?, h]⟩
theorem Chg.row {F : Nat → Prop} {w w' : World} {k : Nat} {o : Obj} (hc : Chg F w w') (h : w.heap[k]? = some o) (hk : ¬ F k) : w'.heap[k]? = some o := (hc.block k (Array.getElem?_eq_some_iff.1 h).1 hk).trans h
/-- a part that is laid into a result -/
theorem part_store {w : World} {k : Nat} {x y z x' y' z' : Value} (h : w.heap[k]? = some (.cells #[x', y', z'] 75 (0, 0))) :
    (((w.setCell ⟨k, 0, none⟩ x).setCell ⟨k, 1, none⟩ y).setCell ⟨k, 2, none⟩ z).heap[k]? = some (.cells #[x, y, z] 75 (0, 0)) ∧ Chg (fun i => i = k) w (((w.setCell ⟨k, 0, none⟩ x).setCell ⟨k, 1, none⟩ y).setCell ⟨k, 2, none⟩ z) := by
  have s1 : (w.setCell ⟨k, 0, none⟩ x).heap[k]? = some (.cells #[x, y', z'] 75 (0, 0)) := by rw [heap_setCell_same w k 0 _ _ _ h]; rfl
  have s2 : ((w.setCell ⟨k, 0, none⟩ x).setCell ⟨k, 1, none⟩ y).heap[k]? = some (.cells #[x, y, z'] 75 (0, 0)) := by rw [heap_setCell_same _ k 1 _ _ _ s1]; rfl
  exact ⟨by rw [heap_setCell_same _ k 2 _ _ _ s2]; rfl, (((Chg.refl (fun i => i = k) w).setCell (p := ⟨k, 0, none⟩) rfl _).setCell (p := ⟨k, 1, none⟩) rfl _).setCell (p := ⟨k, 2, none⟩) rfl _⟩

end Go.Proofs.YtbobeecagcmclaaDoor
