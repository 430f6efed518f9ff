/-
  A mason beside another row.
-/
import Derived.Test.YtodnocplljkjnaaDoorKCalls
namespace Go.Proofs.YtodnocplljkjnaaDoor
open Go.RowKit Go.Lib

/-- the row of an operation lies apart from a mason -/
def Apart (b : Nat) (ov v : Value) : Prop := ∀ k, masonF b ov k → v.ownBlock ≠ some k
theorem Apart.step {w w' : World} {B b : Nat} {ov ov' v : Value} {A : List Step} (h : Apart b ov v) (hst : MasonStep w w' b ov ov') (ho : OpS w B v A) : Apart b ov' v := by
  rintro k (rfl | hk) hv
  · exact h k (.inl rfl) hv
  · rcases hst.mov k hk with h1 | h1
    · exact h k (.inr h1) hv
    · have := (ho.own.lt k hv).2
      omega
theorem OpS.apart {w w' : World} {B b : Nat} {ov ov' v : Value} {A : List Step} (ho : OpS w B v A) (h : Apart b ov v) (hst : MasonStep w w' b ov ov') : OpS w' B v A :=
  ⟨own_chg ho.own hst.chg (fun k hk hF => h k hF hk), ho.ok, ho.canon⟩
theorem below_two'' {w0 w w' : World} {B C b : Nat} {ov ov' : Value} {D : List Part} {left : Int} (h : Below B w0 w) (hst : MasonStep w w' b ov ov') (hm : MasonAt w C b ov D left) (hBC : B ≤ C) : Below B w0 w' :=
  ⟨hst.chg.os.trans h.os, hst.chg.tape.trans h.tape, hst.chg.output.trans h.output, Nat.le_trans h.size hst.chg.size, fun k hk => by
    have h1 := (hm.lt b (.inl rfl)).1
    have h2 := (hm.lt b (.inl rfl)).2
    rw [hst.chg.block k (by omega) (fun hF => by have := (hm.lt k hF).1; omega)]
    exact h.block k hk⟩
theorem steps_take_ok {A : List Step} (h : StepsOk A) (hc : steps (group A) = A) (j : Nat) : StepsOk (steps ((group A).take j)) := by
  intro s hs
  refine h s ?_
  rw [← hc]
  unfold steps at hs ⊢
  obtain ⟨p, hp, hs⟩ := List.mem_flatMap.1 hs
  exact List.mem_flatMap.2 ⟨p, List.mem_of_mem_take hp, hs⟩
theorem steps_take_len {A : List Step} (hc : steps (group A) = A) (j : Nat) : (steps ((group A).take j)).length ≤ A.length := by
  have := steps_take_le (group A) j
  rw [hc] at this
  exact this
/-- one part more -/
theorem addPart (w : World) (B b : Nat) (ov : Value) (A : List Step) (j : Nat) (hj : j < (group A).length) (left : Int) (h : MasonAt w B b ov (group (steps ((group A).take j))) left) (hB : B ≤ w.heap.size) (hok : StepsOk A) (hc : steps (group A) = A) (hl : A.length ≤ 4000) :
    AddCalls w b (group A)[j].kind (group A)[j].n (group A)[j].text fun w' => ∃ ov', MasonAt w' B b ov' (group (steps ((group A).take (j + 1)))) left ∧ MasonStep w w' b ov ov' := by
  have g := (group_chain hok hl).good _ (List.getElem_mem hj)
  have h1 := steps_take_ok hok hc j
  have h2 := steps_take_len hc j
  have ht := group_txt A _ (List.getElem_mem hj)
  rw [steps_take _ _ hj]
  generalize (group A)[j] = p at *
  obtain ⟨kd, n, tx⟩ := p
  rcases g.kind with hk | hk | hk
  · obtain ⟨g1, g2, g3⟩ := g.count (by rw [hk]; decide)
    simp only at hk g1 g2 g3 ht ⊢
    subst hk g3
    obtain ⟨m, rfl⟩ : ∃ m : Nat, n = m := ⟨n.toNat, by omega⟩
    have e : stepsOf ⟨1, (m : Int), ByteArray.empty⟩ = List.replicate m (1, 0) := by simp [stepsOf]
    rw [e]
    exact addK w B b ov _ left m h hB h1 (by omega) (by omega)
  · obtain ⟨g1, g2, g3, g4⟩ := g.text hk
    simp only at hk g1 g2 g3 g4 ht ⊢
    subst hk g1
    have e : stepsOf ⟨2, 0, tx⟩ = insS (runes tx) := by simp [stepsOf, insS]
    rw [e]
    have := addI w B b ov _ left (runes tx) h hB h1 (by omega) (by rw [g2.str]; omega)
    rw [g2.str] at this
    exact this
  · obtain ⟨g1, g2, g3⟩ := g.count (by rw [hk]; decide)
    simp only at hk g1 g2 g3 ht ⊢
    subst hk g3
    obtain ⟨m, rfl⟩ : ∃ m : Nat, n = m := ⟨n.toNat, by omega⟩
    have e : stepsOf ⟨3, (m : Int), ByteArray.empty⟩ = List.replicate m (3, 0) := by simp [stepsOf]
    rw [e]
    exact addD w B b ov _ left m h hB h1 (by omega) (by omega)

end Go.Proofs.YtodnocplljkjnaaDoor
