/-
  PLAIN LEAN: steps grouped as the document's answer does it, held against the pen.
-/
import Derived.Test.YtmdehfomogfmlaaDoorPure
namespace Go.Proofs.YtmdehfomogfmlaaDoor
open Go.RowKit

def keepOf (m : Nat) : List Part := if m = 0 then [] else [⟨1, (m : Int), ByteArray.empty⟩]
def waitT (T : List Nat) : List Part := if T.length = 0 then [] else [⟨2, 0, str T⟩]
def waitG (g : Nat) : List Part := if g = 0 then [] else [⟨3, (g : Int), ByteArray.empty⟩]

theorem encode_size_pos (i : Int) : 1 ≤ (Utf8.encode i).size := by
  unfold Utf8.encode
  simp only
  repeat' split
  all_goals simp [ByteArray.size]

theorem str_empty {T : List Nat} (h : (str T).size = 0) : T = [] := by
  cases T with
  | nil => rfl
  | cons r T =>
    exfalso
    have e : str (r :: T) = str [r] ++ str T := by rw [← str_append]; rfl
    rw [e, ByteArray.size_append, str_one] at h
    have := encode_size_pos (r : Int)
    omega

/-- what the document's answer holds behind k steps, and what a pen holds -/
structure RefRel (k : Nat) (P : PenS) (D : List Part) (T : List Nat) (g m : Nat) : Prop where
  done : P.done = D ++ keepOf m
  ins : P.ins = str T
  del : P.del = g
  wait : 0 < m → T = [] ∧ g = 0 ∧ ∀ D0 p, D = D0 ++ [p] → p.kind ≠ 1
  start : m = 0 → T = [] → g = 0 → D = []
  most : D.length + T.length + g + m ≤ k

theorem RefRel.new : RefRel 0 PenS.new [] [] 0 0 := ⟨rfl, rfl, rfl, fun h => absurd h (by omega), fun _ _ _ => rfl, by simp⟩
theorem keepOf_len (m : Nat) : (keepOf m).length ≤ m := by unfold keepOf; split <;> simp; omega
theorem waitT_len (T : List Nat) : (waitT T).length ≤ T.length := by unfold waitT; split <;> simp; omega
theorem waitG_len (g : Nat) : (waitG g).length ≤ g := by unfold waitG; split <;> simp; omega

theorem RefRel.insert {k : Nat} {P : PenS} {D : List Part} {T : List Nat} {g m : Nat} (h : RefRel k P D T g m) (r : Nat) : RefRel (k + 1) (penStep P (2, (r : Int))) (D ++ keepOf m) (T ++ [r]) g 0 := by
  have hm := h.most
  have := keepOf_len m
  refine ⟨?_, ?_, ?_, fun h => absurd h (by omega), fun _ e => absurd e (by simp), ?_⟩
  · show P.done = _; rw [h.done]; simp [keepOf]
  · show P.ins ++ str [r] = _; rw [h.ins, str_append]
  · exact h.del
  · simp only [List.length_append, List.length_singleton]; omega
theorem RefRel.delete {k : Nat} {P : PenS} {D : List Part} {T : List Nat} {g m : Nat} (h : RefRel k P D T g m) (r : Int) : RefRel (k + 1) (penStep P (3, r)) (D ++ keepOf m) T (g + 1) 0 := by
  have hm := h.most
  have := keepOf_len m
  refine ⟨?_, ?_, ?_, fun h => absurd h (by omega), fun _ _ e => absurd e (by omega), ?_⟩
  · show P.done = _; rw [h.done]; simp [keepOf]
  · exact h.ins
  · show P.del + 1 = _; rw [h.del]
  · simp only [List.length_append]; omega
theorem RefRel.waits {k : Nat} {P : PenS} {D : List Part} {T : List Nat} {g m : Nat} (h : RefRel k P D T g m) : waitIns P ++ waitDel P = waitT T ++ waitG g := by
  unfold waitIns waitDel waitT waitG
  rw [h.ins, h.del]
  by_cases hT : T = []
  · subst hT; simp [str_nil]
  · have : (str T).size ≠ 0 := fun e => hT (str_empty e)
    have hl : T.length ≠ 0 := fun e => hT (List.length_eq_zero_iff.1 e)
    simp [this, hl]
theorem RefRel.all {k : Nat} {P : PenS} {D : List Part} {T : List Nat} {g m : Nat} (h : RefRel k P D T g m) : P.all = (D ++ waitT T ++ waitG g) ++ keepOf m := by
  unfold PenS.all
  rw [List.append_assoc, h.waits, h.done]
  by_cases hm : m = 0
  · subst hm; simp [keepOf]
  · obtain ⟨rfl, rfl, _⟩ := h.wait (by omega)
    simp [waitT, waitG]
theorem RefRel.keep {k : Nat} {P : PenS} {D : List Part} {T : List Nat} {g m : Nat} (h : RefRel k P D T g m) (kd r : Int) (h2 : kd ≠ 2) (h3 : kd ≠ 3) : RefRel (k + 1) (penStep P (kd, r)) (D ++ waitT T ++ waitG g) [] 0 (m + 1) := by
  have hm := h.most
  have t1 := waitT_len T
  have t2 := waitG_len g
  have e : penStep P (kd, r) = P.keep 1 := by simp [penStep, h2, h3]
  rw [e]
  refine ⟨?_, rfl, rfl, fun _ => ⟨rfl, rfl, ?_⟩, fun e => absurd e (by omega), ?_⟩
  · show addKeep P.all 1 = _
    rw [h.all]
    by_cases hz : m = 0
    · subst hz
      simp only [keepOf, if_true, List.append_nil]
      by_cases hw : T = [] ∧ g = 0
      · obtain ⟨rfl, rfl⟩ := hw
        rw [h.start rfl rfl rfl]
        simp [waitT, waitG, addKeep_nil]
      · by_cases hg : g = 0
        · subst hg
          have hT : T.length ≠ 0 := fun e => hw ⟨List.length_eq_zero_iff.1 e, rfl⟩
          simp only [waitT, waitG, if_neg hT, if_true, List.append_nil]
          rw [addKeep_new _ _ _ (by simp)]
          simp
        · simp only [waitG, if_neg hg]
          rw [addKeep_new _ _ _ (by simp)]
          simp
    · obtain ⟨rfl, rfl, _⟩ := h.wait (by omega)
      simp only [keepOf, if_neg hz]
      rw [addKeep_grow _ _ _ rfl]
      simp
  · intro D0 p hD
    by_cases hg : g = 0
    · subst hg
      by_cases hT : T.length = 0
      · obtain rfl := List.length_eq_zero_iff.1 hT
        simp only [waitT, waitG, List.length_nil, if_true, List.append_nil] at hD
        by_cases hz : m = 0
        · subst hz
          rw [h.start rfl rfl rfl] at hD
          simp at hD
        · exact (h.wait (by omega)).2.2 D0 p hD
      · simp only [waitT, waitG, if_neg hT, if_true, List.append_nil] at hD
        have := (List.append_inj' hD rfl).2
        simp at this
        subst this
        simp
    · simp only [waitG, if_neg hg] at hD
      have := (List.append_inj' hD rfl).2
      simp at this
      subst this
      simp
  · simp only [List.length_append, List.length_nil]; omega

end Go.Proofs.YtmdehfomogfmlaaDoor
