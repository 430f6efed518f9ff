/-
  PLAIN LEAN: the operation that brings a text back.
-/
import Derived.Test.YtepehgjdepioeaaDoorPureApply
import Derived.Test.YtepehgjdepioeaaDoorPureGroup
namespace Go.Proofs.YtepehgjdepioeaaDoor
open Go.RowKit

/-- what undoes steps, given the runes that they begin with -/
def invS : List Nat → List Step → List Step
  | _, [] => []
  | rs, s :: l => if s.1 = 2 then (3, 0) :: invS rs l else if s.1 = 3 then (2, ((rs.headD 0 : Nat) : Int)) :: invS rs.tail l else s :: invS rs.tail l

theorem invS_ins (l : List Step) (xs : List Nat) (rs : List Nat) : invS rs (xs.map (fun r : Nat => ((2 : Int), (r : Int))) ++ l) = List.replicate xs.length (3, 0) ++ invS rs l := by
  induction xs with
  | nil => rfl
  | cons x xs ih => simp [invS, ih, List.replicate_succ]
theorem invS_keep (l : List Step) : ∀ (n : Nat) (rs : List Nat), invS rs (List.replicate n ((1 : Int), (0 : Int)) ++ l) = List.replicate n ((1 : Int), (0 : Int)) ++ invS (rs.drop n) l
  | 0, rs => by simp
  | n + 1, rs => by
    rw [List.replicate_succ, List.cons_append]
    simp only [invS]
    rw [if_neg (by decide), if_neg (by decide), invS_keep l n, List.cons_append]
    cases rs with
    | nil => simp
    | cons x xs => simp
theorem invS_del (l : List Step) : ∀ (n : Nat) (rs : List Nat), n ≤ rs.length → invS rs (List.replicate n ((3 : Int), (0 : Int)) ++ l) = (rs.take n).map (fun r : Nat => ((2 : Int), (r : Int))) ++ invS (rs.drop n) l
  | 0, rs, _ => by simp
  | n + 1, rs, h => by
    rw [List.replicate_succ, List.cons_append]
    simp only [invS]
    rw [if_neg (by decide), if_pos trivial]
    cases rs with
    | nil => simp at h
    | cons x xs =>
      simp only [List.tail_cons, List.headD_cons]
      rw [invS_del l n xs (by simpa using h)]
      simp
/-- P1.6 -/
def invertRes (s : ByteArray) (ps : List Part) : List Part := if applyErr s ps ≠ 0 then [] else group (invS (runes s) (steps ps))

end Go.Proofs.YtepehgjdepioeaaDoor
