/-
  A record is read as it was written.
-/
import Derived.Test.YtknjnfknalfbdaaDoorKRecord
namespace Go.Proofs.YtknjnfknalfbdaaDoor
open Go.RowKit Go.Lib

theorem recFault_back {n : Nat} {ps : List Part} (h : RecOk n ps) : recFault (recW n ps) = 0 ∧ recOf (recW n ps) = (n, ps) := by
  have hp : recP (recW n ps) = .ok ((n, ps), []) := by
    have := rec_sevs h.err h.text []
    rwa [List.append_nil] at this
  have hf : recFault (recW n ps) = 0 := by
    unfold recFault
    rw [if_neg (by have := h.many; omega), hp]
    show (if (0 : Int) ≠ 0 then _ else recordErr (n : Int) ps) = 0
    rw [if_neg (by simp), h.err]
  refine ⟨hf, ?_⟩
  unfold recOf
  rw [hf, hp, if_neg (by simp)]
theorem recFault_more {n : Nat} {ps : List Part} (h : RecOk n ps) (x : Nat) : recFault (recW n ps ++ [x]) = 4 ∧ recOf (recW n ps ++ [x]) = (0, []) := by
  have hf : recFault (recW n ps ++ [x]) = 4 := by
    unfold recFault
    rw [if_neg (by have := h.many; rw [List.length_append]; simp; omega), rec_sevs h.err h.text [x]]
    rfl
  exact ⟨hf, by unfold recOf; rw [hf, if_pos (by decide)]⟩
/-- what is read is written so again -/
theorem recOf_write {l : List Nat} (h256 : ∀ x ∈ l, x < 256) (h : recFault l = 0) : recW (recOf l).1 (recOf l).2 = l ∧ recordErr ((recOf l).1 : Int) (recOf l).2 = 0 ∧ (∀ p ∈ (recOf l).2, p.text.size ≤ 1048576) ∧ l.length ≤ 50000 := by
  have h0 := h
  unfold recFault at h
  by_cases h5 : 50000 < l.length
  · rw [if_pos h5] at h; exact absurd h (by decide)
  · rw [if_neg h5] at h
    by_cases h6 : endE (rest (recP l)) ≠ 0
    · rw [if_pos h6] at h; exact absurd h h6
    · rw [if_neg h6] at h
      cases hp : recP l with
      | error e =>
        rw [hp] at h6 h
        have h7 : e = 0 := h
        exact absurd h7 (recP_err hp)
      | ok x =>
        obtain ⟨⟨e, ps⟩, r⟩ := x
        have hr : r = [] := by
          rw [hp] at h6
          cases r with
          | nil => rfl
          | cons z r => exact absurd (show (4 : Int) ≠ 0 by decide) h6
        subst hr
        have ho : recOf l = (e, ps) := by unfold recOf; rw [h0, if_neg (by simp), hp]
        rw [hp] at h
        have hw := rec_back h256 hp
        rw [List.append_nil] at hw
        rw [ho]
        refine ⟨hw.symm, h, fun p hq => ?_, by omega⟩
        have hz := recordErr_zero h
        have hbp := opErr_bare hz.2.2 p hq
        have h1 := part_text_le hbp
        have h2 := flat_le hq
        have he : e = 0 := by
          rcases Nat.eq_zero_or_pos e with h | h
          · exact h
          · have h9 : ps = [] := hz.2.1 (show ((e : Nat) : Int) ≠ 0 by omega)
            simp only at hq
            rw [h9] at hq; cases hq
        simp only at hq h2
        have h3 : (ps.flatMap partW).length ≤ l.length := by
          rw [hw]; unfold recW opW; rw [if_pos he, List.length_append, List.length_append]; omega
        omega

end Go.Proofs.YtknjnfknalfbdaaDoor
