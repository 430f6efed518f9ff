/-
  PLAIN LEAN: who keeps all changes nothing; steps that delete nothing, or insert nothing.
-/
import Derived.Test.YtepehgjdepioeaaDoorPureLaws
namespace Go.Proofs.YtepehgjdepioeaaDoor
open Go.RowKit

theorem xf_keepR (A : List Step) (h : StepsOk A) : xf A (List.replicate (oldN A) (1, 0)) = (A, List.replicate (newN A) (1, 0)) := by
  induction A with
  | nil => simp [oldN, newN, xf_nil]
  | cons s A ih =>
    have i := ih h.tail
    rcases h.head with rfl | rfl | ⟨r, _, rfl⟩
    · have e : oldN ((1, 0) :: A) = oldN A + 1 := by simp [oldN]; omega
      have e2 : newN ((1, 0) :: A) = newN A + 1 := by simp [newN]; omega
      rw [e, e2, List.replicate_succ, List.replicate_succ, xf_meet _ _ _ _ (by decide) (by decide), i]
      rfl
    · have e : oldN ((3, 0) :: A) = oldN A + 1 := by simp [oldN]; omega
      have e2 : newN ((3, 0) :: A) = newN A := by simp [newN]
      rw [e, e2, List.replicate_succ, xf_meet _ _ _ _ (by decide) (by decide), i]
      rfl
    · have e : oldN ((2, (r : Int)) :: A) = oldN A := by simp [oldN]
      have e2 : newN ((2, (r : Int)) :: A) = newN A + 1 := by simp [newN]; omega
      rw [e, e2, xf_insL _ _ _ rfl, i, List.replicate_succ]
theorem noIns_keeps (n : Nat) : NoIns (List.replicate n (1, 0)) := by
  intro x r e
  cases n with
  | zero => simp at e
  | succ n => rw [List.replicate_succ] at e; simp at e; rw [← e.1]; decide
theorem xf_keepL (A : List Step) (h : StepsOk A) : xf (List.replicate (oldN A) (1, 0)) A = (List.replicate (newN A) (1, 0), A) := by
  induction A with
  | nil => simp [oldN, newN, xf_nil]
  | cons s A ih =>
    have i := ih h.tail
    rcases h.head with rfl | rfl | ⟨r, _, rfl⟩
    · have e : oldN ((1, 0) :: A) = oldN A + 1 := by simp [oldN]; omega
      have e2 : newN ((1, 0) :: A) = newN A + 1 := by simp [newN]; omega
      rw [e, e2, List.replicate_succ, List.replicate_succ, xf_meet _ _ _ _ (by decide) (by decide), i]
      rfl
    · have e : oldN ((3, 0) :: A) = oldN A + 1 := by simp [oldN]; omega
      have e2 : newN ((3, 0) :: A) = newN A := by simp [newN]
      rw [e, e2, List.replicate_succ, xf_meet _ _ _ _ (by decide) (by decide), i]
      rfl
    · have e : oldN ((2, (r : Int)) :: A) = oldN A := by simp [oldN]
      have e2 : newN ((2, (r : Int)) :: A) = newN A + 1 := by simp [newN]; omega
      rw [e, e2, xf_insR _ _ _ (noIns_keeps _) rfl, i, List.replicate_succ]
/-- where nothing is deleted, or nothing is inserted, there is one form -/
theorem Sim.eq_noDel {a b : List Step} (h : Sim a b) : (∀ s ∈ a, s.1 ≠ 3) → a = b := by
  induction h with
  | refl l => intro _; rfl
  | swap r l => intro hd; exact absurd rfl (hd (3, 0) (by simp))
  | cons s _ ih => intro hd; rw [ih fun x hx => hd x (List.mem_cons_of_mem _ hx)]
  | trans h1 _ i j => intro hd; exact (i hd).trans (j fun x hx => hd x ((h1.mem x).2 hx))
  | symm h1 ih => intro hd; exact (ih fun x hx => hd x ((h1.mem x).1 hx)).symm
theorem Sim.eq_noIns {a b : List Step} (h : Sim a b) : (∀ s ∈ a, s.1 ≠ 2) → a = b := by
  induction h with
  | refl l => intro _; rfl
  | swap r l => intro hd; exact absurd rfl (hd (2, (r : Int)) (by simp))
  | cons s _ ih => intro hd; rw [ih fun x hx => hd x (List.mem_cons_of_mem _ hx)]
  | trans h1 _ i j => intro hd; exact (i hd).trans (j fun x hx => hd x ((h1.mem x).2 hx))
  | symm h1 ih => intro hd; exact (ih fun x hx => hd x ((h1.mem x).1 hx)).symm
theorem Sim.okR {a b : List Step} (h : Sim a b) (k : StepsOk a) : StepsOk b := fun s hs => k s ((h.mem s).2 hs)

end Go.Proofs.YtepehgjdepioeaaDoor
