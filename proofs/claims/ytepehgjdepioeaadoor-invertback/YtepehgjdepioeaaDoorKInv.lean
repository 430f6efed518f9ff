/-
  text.Invert on operations that were made of steps.
-/
import Derived.Test.YtepehgjdepioeaaDoorKCalls
import Derived.Test.YtepehgjdepioeaaDoorInvertWalk
namespace Go.Proofs.YtepehgjdepioeaaDoor
open Go.RowKit Go.Lib

theorem invertCall (rs : List Nat) (A : List Step) (v : Value) (B : Nat) (w : World) (hr : ∀ r ∈ rs, CP r) (ho : OpS w B v A) (hl : A.length ≤ 4000) (he : oldN A = rs.length) (hT : Tabs w) :
    Calls Tryd.prog 22 #[.string (str rs), v] w fun e w' => ∃ x P, e = .returned (.tuple #[x, .int .i64 0]) ∧ OpS w' w.heap.size x P ∧ Sim P (invS rs A) ∧ Below w.heap.size w w' := by
  obtain ⟨a, cap, rfl, hop, _⟩ := own_opAt' ho.own
  have ha := applies_of hr ho.ok hl he
  have h := invert_any (str rs) (group A) a cap w (str_fits hr (by have := oldN_le A; omega)) hop (group_many hl) (group_text hl) hT
  obtain ⟨h1, h2, h3, h4⟩ := inv_ok A rs ho.ok hr he
  have hR : invertRes (str rs) (group A) = group (invS rs A) := by
    unfold invertRes
    rw [ha.err, if_neg (by simp), runes_str hr, ho.canon]
  rw [ha.err, hR] at h
  refine h.mono ?_
  rintro e w' ⟨x, rfl, hx, hb⟩
  obtain ⟨k1, k2⟩ := opS_of hx h1 (by omega)
  exact ⟨x, _, rfl, k1, k2, hb⟩

end Go.Proofs.YtepehgjdepioeaaDoor
