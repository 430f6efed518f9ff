/-
  text.Move on operations that were made of steps.
-/
import Derived.Test.YtodnocplljkjnaaDoorKCalls
import Derived.Test.YtodnocplljkjnaaDoorMoveWalk
namespace Go.Proofs.YtodnocplljkjnaaDoor
open Go.RowKit Go.Lib

theorem group_partOk {S : List Step} (h : StepsOk S) (hl : S.length ≤ 4000) : ∀ p ∈ group S, PartOk 1048576 p := fun p hp => by
  have g := (group_chain h hl).good p hp
  refine ⟨by have := g.kind; omega, ?_, group_text hl p hp⟩
  by_cases h2 : p.kind = 2
  · have := (g.text h2).1; omega
  · have := g.count h2; omega
theorem moveCall (x : Nat) (push : Bool) (A : List Step) (v : Value) (B : Nat) (w : World) (ho : OpS w B v A) (hl : A.length ≤ 4000) (he : x ≤ oldN A) (hT : Tabs w) :
    Calls Tryd.prog 11 #[.int .i64 (x : Int), v, .bool push] w fun e w' => e = .returned (.tuple #[.int .i64 ((moveAll x push A).2 : Int), .int .i64 0]) ∧ Below w.heap.size w w' := by
  obtain ⟨a, cap, rfl, hop, _⟩ := own_opAt' ho.own
  have h := move_any x (group A) a cap push w hop (group_many hl) (group_partOk ho.ok hl) hT
  have hE : moveErr x (group A) = 0 := by
    unfold moveErr
    rw [(group_ok ho.ok hl).err, group_lens ho.ok hl]
    simp
    omega
  have hR : moveRes x (group A) push = ((moveAll x push A).2 : Int) := by
    unfold moveRes
    rw [hE, ho.canon]
    simp
  rw [hE, hR] at h
  exact h
theorem moveMiss (x : Int) (push : Bool) (A : List Step) (v : Value) (B : Nat) (w : World) (ho : OpS w B v A) (hl : A.length ≤ 4000) (he : (oldN A : Int) < x) (hT : Tabs w) :
    Calls Tryd.prog 11 #[.int .i64 x, v, .bool push] w fun e w' => e = .returned (.tuple #[.int .i64 0, .int .i64 2]) ∧ Below w.heap.size w w' := by
  obtain ⟨a, cap, rfl, hop, _⟩ := own_opAt' ho.own
  have h := move_any x (group A) a cap push w hop (group_many hl) (group_partOk ho.ok hl) hT
  have hE : moveErr x (group A) = 2 := by
    unfold moveErr
    rw [(group_ok ho.ok hl).err, group_lens ho.ok hl]
    simp
    omega
  have hR : moveRes x (group A) push = 0 := by
    unfold moveRes
    rw [hE]
    simp
  rw [hE, hR] at h
  exact h

end Go.Proofs.YtodnocplljkjnaaDoor
