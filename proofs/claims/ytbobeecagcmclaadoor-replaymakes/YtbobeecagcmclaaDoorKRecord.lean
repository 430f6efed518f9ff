/-
  Walks: wherrykeep.Record, sameRecord.
-/
import Derived.Test.YtbobeecagcmclaaDoorKOps
import Derived.Test.YtbobeecagcmclaaDoorWireBack
import Derived.Test.YtbobeecagcmclaaDoorBytesOpen
namespace Go.Proofs.YtbobeecagcmclaaDoor
open Go.RowKit Go.Lib

theorem partW_length {p : Part} (h : PartW p) : (partW p).length ≤ 8 + p.text.size := by
  unfold partW
  have h1 := sev_le (n := p.kind.toNat) (by have := h.1; omega)
  have h2 := sev_le (n := p.n.toNat) (by have := h.2.1; omega)
  have h3 := sev_le (n := p.text.size) (by have := h.2.2; omega)
  rw [List.length_append]
  split
  · rw [List.length_append, sbytes_length]; omega
  · omega
theorem partsW_length : ∀ (ps : List Part) (m : Nat), (∀ p ∈ ps, PartW p ∧ p.text.size ≤ m) → (ps.flatMap partW).length ≤ ps.length * (8 + m)
  | [], _, _ => by simp
  | p :: ps, m, h => by
    rw [List.flatMap_cons, List.length_append, List.length_cons, Nat.add_mul, Nat.one_mul]
    have h1 := h p (List.mem_cons_self ..)
    have h2 := partW_length h1.1
    have h3 := partsW_length ps m (fun q hq => h q (List.mem_cons_of_mem _ hq))
    omega

/-- a record that was made of raw things -/
structure RecOk (n : Nat) (ps : List Part) : Prop where
  err : recordErr (n : Int) ps = 0
  text : ∀ p ∈ ps, p.text.size ≤ 1048576
  many : (recW n ps).length ≤ 40000

theorem recOk_epoch {k : Nat} (h : k < 1000) : RecOk (1 + k) [] := by
  refine ⟨?_, by simp, ?_⟩
  · unfold recordErr
    rw [show inN ((1 + k : Nat) : Int) = true from decide_eq_true (by omega)]
    simp
    decide +kernel
  · have hl := sev_le (n := 1 + k) (by omega)
    unfold recW
    rw [if_neg (by omega), List.append_nil]
    omega
theorem recOk_op {A : List Step} (h : StepsOk A) (hl : A.length ≤ 44) : RecOk 0 (group A) := by
  have ho := group_ok h (by omega : A.length ≤ 4000)
  have ht : ∀ p ∈ group A, p.text.size ≤ 176 := fun p hp => by have := group_txt A p hp; omega
  have ht2 : ∀ p ∈ group A, p.text.size ≤ 1048576 := fun p hp => by have := ht p hp; omega
  refine ⟨?_, ht2, ?_⟩
  · unfold recordErr
    rw [show inN ((0 : Nat) : Int) = true from rfl]
    simp
    exact ho.err
  · obtain ⟨h1, h2⟩ := opErr_parts ho.err ht2
    have h3 := partsW_length (group A) 176 (fun p hp => ⟨h2 p hp, ht p hp⟩)
    have h4 := group_len A
    have h5 := sev_le (n := (group A).length) (by omega)
    have h6 := sev_le (n := 0) (by omega)
    unfold recW opW
    rw [if_pos rfl, List.length_append, List.length_append]
    omega

theorem raw_cells {w : World} {b : Nat} {x0 x1 x2 x3 x4 : Value} (h : w.heap[b]? = some (.cells #[x0, x1, x2, x3, x4] 42 (0, 0))) : w.cell? ⟨b, 0, none⟩ = some x0 ∧ w.cell? ⟨b, 1, none⟩ = some x1 ∧ w.cell? ⟨b, 2, none⟩ = some x2 ∧ w.cell? ⟨b, 3, none⟩ = some x3 ∧ w.cell? ⟨b, 4, none⟩ = some x4 :=
  ⟨by rw [cell_of_row _ _ _ _ _ _ h]; rfl, by rw [cell_of_row _ _ _ _ _ _ h]; rfl, by rw [cell_of_row _ _ _ _ _ _ h]; rfl, by rw [cell_of_row _ _ _ _ _ _ h]; rfl, by rw [cell_of_row _ _ _ _ _ _ h]; rfl⟩

end Go.Proofs.YtbobeecagcmclaaDoor
