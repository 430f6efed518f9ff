/-
  text.Compose on operations that were made of steps.
-/
import Derived.Test.YtepehgjdepioeabDoorKCalls
import Derived.Test.YtepehgjdepioeabDoorCompWalk
namespace Go.Proofs.YtepehgjdepioeabDoor
open Go.RowKit Go.Lib

theorem both_okC {S T : List Step} (hS : StepsOk S) (hT : StepsOk T) (h1 : S.length ≤ 4000) (h2 : T.length ≤ 4000) : bothErr (group S) (group T) = 0 := by
  unfold bothErr
  rw [(group_ok hS h1).err, (group_ok hT h2).err]
  simp
theorem composeCall (A C : List Step) (u v : Value) (B B' : Nat) (w : World) (ha : OpS w B u A) (hc : OpS w B' v C) (hl : A.length + C.length ≤ 4000) (he : newN A = oldN C) (hT : Tabs w) :
    Calls Tryd.prog 22 #[u, v] w fun e w' => ∃ x P, e = .returned (.tuple #[x, .int .i64 0]) ∧ OpS w' w.heap.size x P ∧ Sim P (cf A C) ∧ Below w.heap.size w w' := by
  obtain ⟨a, ca, rfl, hopa, hca⟩ := own_opAt' ha.own
  obtain ⟨c, cc, rfl, hopc, hcc⟩ := own_opAt' hc.own
  have hok := cf_ok A C ha.ok hc.ok
  have hle := cf_length A C
  have h := compose_text (group A) (group C) a c ca cc w hopa hopc hca hcc (group_many (by omega)) (group_many (by omega)) (group_text (by omega)) (group_text (by omega)) hT
  have eO : cO (group A) (group C) = group (cf A C) := by unfold cO; rw [ha.canon, hc.canon]
  have hE : compErr (group A) (group C) = 0 := by
    unfold compErr
    rw [both_okC ha.ok hc.ok (by omega) (by omega), group_lens ha.ok (by omega), group_lens hc.ok (by omega), eO, (group_ok hok (by omega)).err, he]
    simp
  have hR : compRes (group A) (group C) = group (cf A C) := by unfold compRes; rw [hE, eO]; simp
  rw [hR, hE] at h
  refine h.mono ?_
  rintro e w' ⟨x, rfl, hx, hb⟩
  obtain ⟨k1, k2⟩ := opS_of hx hok (by omega)
  exact ⟨x, _, rfl, k1, k2, hb⟩
theorem composeMiss (A C : List Step) (u v : Value) (B B' : Nat) (w : World) (ha : OpS w B u A) (hc : OpS w B' v C) (hl : A.length ≤ 4000) (hl' : C.length ≤ 4000) (he : newN A ≠ oldN C) (hT : Tabs w) :
    Calls Tryd.prog 22 #[u, v] w fun e w' => ∃ x, e = .returned (.tuple #[x, .int .i64 10]) ∧ Below w.heap.size w w' := by
  obtain ⟨a, ca, rfl, hopa, hca⟩ := own_opAt' ha.own
  obtain ⟨c, cc, rfl, hopc, hcc⟩ := own_opAt' hc.own
  have h := compose_text (group A) (group C) a c ca cc w hopa hopc hca hcc (group_many (by omega)) (group_many (by omega)) (group_text (by omega)) (group_text (by omega)) hT
  have hE : compErr (group A) (group C) = 10 := by
    unfold compErr
    rw [both_okC ha.ok hc.ok (by omega) (by omega), group_lens ha.ok (by omega), group_lens hc.ok (by omega)]
    simp
    omega
  rw [hE] at h
  refine h.mono ?_
  rintro e w' ⟨x, rfl, _, hb⟩
  exact ⟨x, rfl, hb⟩

end Go.Proofs.YtepehgjdepioeabDoor
