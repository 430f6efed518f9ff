/-
  PLAIN LEAN: where a place is behind an operation.
-/
import Derived.Test.YtepehgjdepioeaaDoorPureSteps
namespace Go.Proofs.YtepehgjdepioeaaDoor
open Go.RowKit

/-- one step: how many runes of the old text are behind us, and where the place is by now -/
def moveStep (at_ : Nat) (push : Bool) (st : Nat × Nat) (s : Step) : Nat × Nat :=
  if s.1 = 2 then (st.1, if st.1 < at_ ∨ (st.1 = at_ ∧ push = true) then st.2 + 1 else st.2)
  else (st.1 + 1, if s.1 = 1 ∧ st.1 < at_ then st.2 + 1 else st.2)
def moveAll (at_ : Nat) (push : Bool) (l : List Step) : Nat × Nat := l.foldl (moveStep at_ push) (0, 0)

theorem move_keep (at_ : Nat) (push : Bool) : ∀ (n old new : Nat), (List.replicate n ((1 : Int), (0 : Int))).foldl (moveStep at_ push) (old, new) = (old + n, new + min n (at_ - old))
  | 0, old, new => by simp
  | n + 1, old, new => by
    rw [List.replicate_succ, List.foldl_cons]
    have e : moveStep at_ push (old, new) (1, 0) = (old + 1, if old < at_ then new + 1 else new) := by simp [moveStep]
    rw [e, move_keep at_ push n]
    by_cases h : old < at_
    · rw [if_pos h]; congr 1 <;> omega
    · rw [if_neg h]; congr 1 <;> omega
theorem move_del (at_ : Nat) (push : Bool) : ∀ (n old new : Nat), (List.replicate n ((3 : Int), (0 : Int))).foldl (moveStep at_ push) (old, new) = (old + n, new)
  | 0, old, new => by simp
  | n + 1, old, new => by
    rw [List.replicate_succ, List.foldl_cons]
    have e : moveStep at_ push (old, new) (3, 0) = (old + 1, new) := by simp [moveStep]
    rw [e, move_del at_ push n]
    congr 1; omega
theorem move_ins (at_ : Nat) (push : Bool) : ∀ (rs : List Nat) (old new : Nat), (rs.map (fun r : Nat => ((2 : Int), (r : Int)))).foldl (moveStep at_ push) (old, new) = (old, if old < at_ ∨ (old = at_ ∧ push = true) then new + rs.length else new)
  | [], old, new => by simp
  | r :: rs, old, new => by
    rw [List.map_cons, List.foldl_cons]
    have e : moveStep at_ push (old, new) (2, (r : Int)) = (old, if old < at_ ∨ (old = at_ ∧ push = true) then new + 1 else new) := by simp [moveStep]
    rw [e, move_ins at_ push rs, List.length_cons]
    by_cases h : old < at_ ∨ (old = at_ ∧ push = true)
    · simp only [if_pos h]; congr 1; omega
    · simp only [if_neg h]

theorem moveAll_le (at_ : Nat) (push : Bool) (l : List Step) : ∀ st : Nat × Nat, (l.foldl (moveStep at_ push) st).1 ≤ st.1 + l.length ∧ (l.foldl (moveStep at_ push) st).2 ≤ st.2 + l.length := by
  induction l with
  | nil => intro st; simp
  | cons s l ih =>
    intro st
    rw [List.foldl_cons]
    have h := ih (moveStep at_ push st s)
    have h1 : (moveStep at_ push st s).1 ≤ st.1 + 1 ∧ (moveStep at_ push st s).2 ≤ st.2 + 1 := by
      unfold moveStep
      split
      · simp only; split <;> omega
      · simp only; split <;> omega
    rw [List.length_cons]
    omega
theorem moveAll_append (at_ : Nat) (push : Bool) (a b : List Step) : moveAll at_ push (a ++ b) = b.foldl (moveStep at_ push) (moveAll at_ push a) := by
  simp [moveAll, List.foldl_append]
theorem moveAll_bound (at_ : Nat) (push : Bool) (l : List Step) : (moveAll at_ push l).1 ≤ l.length ∧ (moveAll at_ push l).2 ≤ l.length := by
  have := moveAll_le at_ push l (0, 0)
  simpa [moveAll] using this

/-- P1.9: what is refused -/
def moveErr (at_ : Int) (ps : List Part) : Int := if opErr ps ≠ 0 then opErr ps else if at_ < 0 ∨ (lens ps).1 < at_ then 2 else 0
/-- P1.9 -/
def moveRes (at_ : Int) (ps : List Part) (push : Bool) : Int := if moveErr at_ ps ≠ 0 then 0 else ((moveAll at_.toNat push (steps ps)).2 : Int)

end Go.Proofs.YtepehgjdepioeaaDoor
