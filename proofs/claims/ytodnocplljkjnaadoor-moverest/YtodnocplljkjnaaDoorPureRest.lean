/-
  PLAIN LEAN: the rune behind a place stays behind it.
-/
import Derived.Test.YtodnocplljkjnaaDoorPureLaws
namespace Go.Proofs.YtodnocplljkjnaaDoor
open Go.RowKit

theorem keeps_canon {A : List Step} (h : StepsOk A) (hc : steps (group A) = A) : ∀ m : Nat, A.length + m ≤ 4000 → steps (group (A ++ List.replicate m (1, 0))) = A ++ List.replicate m (1, 0)
  | 0, _ => by simpa using hc
  | m + 1, hl => by
    have ih := keeps_canon h hc m (by omega)
    have hok : StepsOk (A ++ List.replicate m (1, 0)) := h.append (.keeps m)
    have hg := (group_chain hok (by simp; omega)).good
    have e : A ++ List.replicate (m + 1) ((1 : Int), (0 : Int)) = (A ++ List.replicate m (1, 0)) ++ [(1, 0)] := by rw [List.replicate_succ', List.append_assoc]
    rw [e]
    have e2 : group ((A ++ List.replicate m ((1 : Int), (0 : Int))) ++ [(1, 0)]) = addKeep (group (A ++ List.replicate m (1, 0))) 1 := by
      unfold group
      have := penOf_keeps (A ++ List.replicate m ((1 : Int), (0 : Int))) 1 (by omega)
      rw [List.replicate_one] at this
      rw [this]
      exact all_keep _
    rw [e2, steps_addKeep (good_all_keep hg), ih]
theorem applyS_append (A B : List Step) : ∀ rs : List Nat, StepsOk A → oldN A ≤ rs.length → applyS rs (A ++ B) = applyS (rs.take (oldN A)) A ++ applyS (rs.drop (oldN A)) B := by
  induction A with
  | nil => intro rs _ _; simp [applyS, oldN]
  | cons s A ih =>
    intro rs h hl
    rcases h.head with rfl | rfl | ⟨r, _, rfl⟩
    · cases rs with
      | nil => simp [oldN] at hl
      | cons x rs =>
        have i := ih rs h.tail (by simp [oldN] at hl; omega)
        have e : oldN ((1, 0) :: A) = oldN A + 1 := by simp [oldN]; omega
        rw [e]
        simp [applyS, i]
    · cases rs with
      | nil => simp [oldN] at hl
      | cons x rs =>
        have i := ih rs h.tail (by simp [oldN] at hl; omega)
        have e : oldN ((3, 0) :: A) = oldN A + 1 := by simp [oldN]; omega
        rw [e]
        simp [applyS, i]
    · have i := ih rs h.tail (by simpa [oldN] using hl)
      have e : oldN ((2, (r : Int)) :: A) = oldN A := by simp [oldN]
      rw [e]
      simp [applyS, i]
/-- what is made of a text by steps on its front: the rest stays behind -/
theorem rest_pure (A : List Step) (T : List Nat) (h : StepsOk A) (hl : oldN A ≤ T.length) :
    applyS T (A ++ List.replicate (T.length - oldN A) (1, 0)) = applyS (T.take (oldN A)) A ++ T.drop (oldN A) ∧ (applyS (T.take (oldN A)) A).length = newN A ∧ (moveAll (oldN A) true (A ++ List.replicate (T.length - oldN A) (1, 0))).2 = newN A := by
  refine ⟨?_, ?_, ?_⟩
  · rw [applyS_append _ _ _ h hl]
    congr 1
    have := applyS_keep [] (T.length - oldN A) (T.drop (oldN A))
    rw [List.append_nil] at this
    rw [this, List.take_of_length_le (by simp)]
    simp [applyS]
  · exact applyS_len A _ h (by simp; omega)
  · rw [moveAll_append]
    have := move_front A (oldN A) h 0 0 (by omega)
    unfold moveAll
    rw [this, move_keep]
    simp

end Go.Proofs.YtodnocplljkjnaaDoor
