/-
  Sides of operations that were made of steps.
-/
import Derived.Test.YtbobeecagcmclaaDoorKCalls
import Derived.Test.YtbobeecagcmclaaDoorEdgeSendAll
import Derived.Test.YtbobeecagcmclaaDoorEdgeSendBad
namespace Go.Proofs.YtbobeecagcmclaaDoor
open Go.RowKit Go.Lib

theorem group_small {S : List Step} (h : StepsOk S) (hl : S.length ≤ 4000) : OpSmall (group S) :=
  ⟨group_many hl, fun p hp => by
    have g := (group_chain h hl).good p hp
    refine ⟨by have := g.kind; omega, ?_, group_text hl p hp⟩
    by_cases h2 : p.kind = 2
    · have := (g.text h2).1; omega
    · have := g.count h2; omega⟩
theorem OpS.val {w : World} {B : Nat} {v : Value} {A : List Step} (h : OpS w B v A) : OpVal w v (group A) := opVal_own h.own
theorem pend_nil (w : World) : PendAt w none 0 [] [] := ⟨rfl, Nat.le_refl _, .inl rfl, fun i h => by simp at h⟩
theorem fits_one (A C : List Step) (hA : StepsOk A) (hC : StepsOk C) (h1 : A.length ≤ 4000) (h2 : C.length ≤ 4000) : fitsB [group A] (group C) = decide (oldN C = newN A) := by
  unfold fitsB
  simp only [List.getLast?_singleton]
  rw [group_lens hA h1, group_lens hC h2]
  simp only
  congr 1
  apply propext
  omega
/-- the first operation is taken -/
theorem send_first (A : List Step) (hA : StepsOk A) (h1 : A.length ≤ 4000) : sendErr 0 0 [] (group A) = 0 := by
  have e : edgeErr 0 0 [] = 0 := by decide +kernel
  unfold sendErr edgeBoth
  rw [e, (group_ok hA h1).err]
  simp [fitsB]
theorem send_second (A C : List Step) (hA : StepsOk A) (hC : StepsOk C) (h1 : A.length ≤ 4000) (h2 : C.length ≤ 4000) : sendErr 1 0 [group A] (group C) = if oldN C = newN A then 0 else 10 := by
  have e : edgeErr 1 0 [group A] = 0 := by
    unfold edgeErr edgeOkB pendOkB pendOkB
    rw [(group_ok hA h1).err]
    simp [fitsB]
  unfold sendErr edgeBoth
  rw [e, (group_ok hC h2).err, fits_one A C hA hC h1 h2]
  by_cases h : oldN C = newN A
  · simp [h]
  · simp [h]

end Go.Proofs.YtbobeecagcmclaaDoor
