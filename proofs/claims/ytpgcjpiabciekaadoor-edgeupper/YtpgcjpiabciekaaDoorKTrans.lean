/-
  text.Transform on operations that were made of steps.
-/
import Derived.Test.YtpgcjpiabciekaaDoorKCalls
import Derived.Test.YtpgcjpiabciekaaDoorTransWalk
namespace Go.Proofs.YtpgcjpiabciekaaDoor
open Go.RowKit Go.Lib

theorem both_ok {S T : List Step} (hS : StepsOk S) (hT : StepsOk T) (h1 : S.length ≤ 4000) (h2 : T.length ≤ 4000) : bothErr (group S) (group T) = 0 := by
  unfold bothErr
  rw [(group_ok hS h1).err, (group_ok hT h2).err]
  simp
theorem transformCall (A C : List Step) (u v : Value) (B B' : Nat) (w : World) (ha : OpS w B u A) (hc : OpS w B' v C) (hl : A.length + C.length ≤ 4000) (he : oldN A = oldN C) (hT : Tabs w) :
    Calls Tryd.prog 100 #[u, v] w fun e w' => ∃ x y P Q, e = .returned (.tuple #[x, y, .int .i64 0]) ∧ OpS w' w.heap.size x P ∧ OpS w' w.heap.size y Q ∧ Sim P (xf A C).1 ∧ Sim Q (xf A C).2 ∧ Below w.heap.size w w' := by
  obtain ⟨a, ca, rfl, hopa, hca⟩ := own_opAt' ha.own
  obtain ⟨c, cc, rfl, hopc, hcc⟩ := own_opAt' hc.own
  have hok := xf_ok A C ha.ok hc.ok
  have hle := xf_length A C
  have h := transform_text (group A) (group C) a c ca cc w hopa hopc hca hcc (group_many (by omega)) (group_many (by omega)) (group_text (by omega)) (group_text (by omega)) hT
  have eU : xU (group A) (group C) = group (xf A C).1 := by unfold xU; rw [ha.canon, hc.canon]
  have eV : xV (group A) (group C) = group (xf A C).2 := by unfold xV; rw [ha.canon, hc.canon]
  have hE : transErr (group A) (group C) = 0 := by
    unfold transErr
    rw [both_ok ha.ok hc.ok (by omega) (by omega), group_lens ha.ok (by omega), group_lens hc.ok (by omega), eU, eV, both_ok hok.1 hok.2 (by omega) (by omega), he]
    simp
  have hU : transU (group A) (group C) = group (xf A C).1 := by unfold transU; rw [hE, eU]; simp
  have hV : transV (group A) (group C) = group (xf A C).2 := by unfold transV; rw [hE, eV]; simp
  rw [hU, hV, hE] at h
  refine h.mono ?_
  rintro e w' ⟨x, y, rfl, hx, hy, hb⟩
  obtain ⟨k1, k2⟩ := opS_of hx hok.1 (by omega)
  obtain ⟨k3, k4⟩ := opS_of hy hok.2 (by omega)
  exact ⟨x, y, _, _, rfl, k1, k3, k2, k4, hb⟩
/-- lengths that part -/
theorem transformMiss (A C : List Step) (u v : Value) (B B' : Nat) (w : World) (ha : OpS w B u A) (hc : OpS w B' v C) (hl : A.length ≤ 4000) (hl' : C.length ≤ 4000) (he : oldN A ≠ oldN C) (hT : Tabs w) :
    Calls Tryd.prog 100 #[u, v] w fun e w' => ∃ x y, e = .returned (.tuple #[x, y, .int .i64 10]) ∧ Below w.heap.size w w' := by
  obtain ⟨a, ca, rfl, hopa, hca⟩ := own_opAt' ha.own
  obtain ⟨c, cc, rfl, hopc, hcc⟩ := own_opAt' hc.own
  have h := transform_text (group A) (group C) a c ca cc w hopa hopc hca hcc (group_many (by omega)) (group_many (by omega)) (group_text (by omega)) (group_text (by omega)) hT
  have hE : transErr (group A) (group C) = 10 := by
    unfold transErr
    rw [both_ok ha.ok hc.ok (by omega) (by omega), group_lens ha.ok (by omega), group_lens hc.ok (by omega)]
    simp
    omega
  rw [hE] at h
  refine h.mono ?_
  rintro e w' ⟨x, y, rfl, _, _, hb⟩
  exact ⟨x, y, rfl, hb⟩

end Go.Proofs.YtpgcjpiabciekaaDoor
