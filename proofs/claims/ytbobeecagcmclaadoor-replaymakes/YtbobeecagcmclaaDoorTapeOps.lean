/-
  Walks: tape.cut, tape.Sync, tape.Crash.
-/
import Derived.Test.YtbobeecagcmclaaDoorTapeMem
namespace Go.Proofs.YtbobeecagcmclaaDoor
open Go.RowKit Go.Lib

/-- P4.3: what Sync answers -/
def syncT (l : List Nat) (s : Int) : List Nat × Int × Int := if tapeOk l.length s then (l, (l.length : Int), 0) else ([], 0, 9)
/-- P4.4: what Crash answers -/
def crashT (l : List Nat) (s : Int) (k : Int) : List Nat × Int × Int :=
  if tapeOk l.length s then (if k < 0 then ([], 0, 2) else (l.take (s + min k ((l.length : Int) - s)).toNat, s + min k ((l.length : Int) - s), 0)) else ([], 0, 9)

theorem tape_own_zero (w : World) (B : Nat) : w.ownsRow B 5 1 (.slice none 0 0) ([] : List Nat).length (octs []) := World.ownsRow_nil _ _ _ _

theorem tp_keep {b : Nat} {x y : Value} {w' : World} (h : (fun w' => w'.cell? ⟨b, 0, none⟩ = some x ∧ w'.cell? ⟨b, 1, none⟩ = some y) w') (u v : Value) : (fun w' => w'.cell? ⟨b, 0, none⟩ = some x ∧ w'.cell? ⟨b, 1, none⟩ = some y) ((w'.setCell ⟨b + 1, 0, none⟩ u).setCell ⟨b + 1, 1, none⟩ v) := by
  have hc : ∀ j, ((w'.setCell ⟨b + 1, 0, none⟩ u).setCell ⟨b + 1, 1, none⟩ v).cell? ⟨b, j, none⟩ = w'.cell? ⟨b, j, none⟩ := fun j => World.cell?_of_block (a := ⟨b, j, none⟩) (by
    show ((w'.setCell ⟨b + 1, 0, none⟩ u).setCell ⟨b + 1, 1, none⟩ v).heap[b]? = w'.heap[b]?
    have hn : b ≠ b + 1 := by omega
    rw [Below.heap_setCell _ _ _ _ hn, Below.heap_setCell _ _ _ _ hn])
  exact ⟨(hc 0).trans h.1, (hc 1).trans h.2⟩
theorem tp_below {b : Nat} {x y : Value} {w' w'' : World} (h : (fun w' => w'.cell? ⟨b, 0, none⟩ = some x ∧ w'.cell? ⟨b, 1, none⟩ = some y) w') (hb : Below w'.heap.size w' w'') : (fun w' => w'.cell? ⟨b, 0, none⟩ = some x ∧ w'.cell? ⟨b, 1, none⟩ = some y) w'' :=
  ⟨(hb.cell (p := ⟨b, 0, none⟩) (World.block_lt_of_cell? w' _ h.1)).trans h.1, (hb.cell (p := ⟨b, 1, none⟩) (World.block_lt_of_cell? w' _ h.2)).trans h.2⟩
theorem tp_alloc {b : Nat} {x y : Value} {w' : World} (h : (fun w' => w'.cell? ⟨b, 0, none⟩ = some x ∧ w'.cell? ⟨b, 1, none⟩ = some y) w') (o : Obj) : (fun w' => w'.cell? ⟨b, 0, none⟩ = some x ∧ w'.cell? ⟨b, 1, none⟩ = some y) (w'.alloc o) := tp_below h ((Below.refl _ _).alloc (Nat.le_refl _) o)
theorem tp_alloc_drew {b : Nat} {x y : Value} {w' : World} (h : (fun w' => w'.cell? ⟨b, 0, none⟩ = some x ∧ w'.cell? ⟨b, 1, none⟩ = some y) w'.drew) (o : Obj) : (fun w' => w'.cell? ⟨b, 0, none⟩ = some x ∧ w'.cell? ⟨b, 1, none⟩ = some y) (w'.alloc o).drew := tp_alloc (w' := w') h o
theorem tp_of {b : Nat} {x y : Value} {w : World} {T : TypeId} (h : w.heap[b]? = some (.cells #[x, y] T (0, 0))) : (fun w' => w'.cell? ⟨b, 0, none⟩ = some x ∧ w'.cell? ⟨b, 1, none⟩ = some y) w.drew := by
  obtain ⟨q, _, _⟩ := blk h
  exact ⟨(q 0).trans rfl, (q 1).trans rfl⟩
theorem below_drew (w : World) : Below w.heap.size w w.drew := ⟨rfl, rfl, rfl, Nat.le_refl _, fun _ _ => rfl⟩

theorem tape_two (w : World) (o p : Obj) : ((w.alloc o).alloc p).heap[w.heap.size]? = some o ∧ ((w.alloc o).alloc p).heap[w.heap.size + 1]? = some p ∧ Below w.heap.size w ((w.alloc o).alloc p) ∧ ((w.alloc o).alloc p).heap.size = w.heap.size + 2 := by
  have hb1 := (Below.refl w.heap.size w).alloc (Nat.le_refl _) o
  have h2 := heap_alloc_new (w.alloc o) p
  rw [show (w.alloc o).heap.size = w.heap.size + 1 by simp] at h2
  exact ⟨row_old (heap_alloc_new w o) p, h2, hb1.alloc hb1.size p, by simp⟩

end Go.Proofs.YtbobeecagcmclaaDoor
