/-
  Operations that a call has made, in memory.
-/
import Derived.Test.YtepehgjdepioeaaDoorPenMem
namespace Go.Proofs.YtepehgjdepioeaaDoor
open Go.RowKit Go.Lib

/-- an operation that is a call's own, in memory -/
theorem own_opAt {w : World} {B : Nat} {v : Value} {ps : List Part} (h : w.ownsRow B 42 3 v ps.length (partCells ps)) : ∃ a cap, v = .slice a ps.length cap ∧ OpAt w a ps := by
  by_cases hl : 0 < ps.length
  · obtain ⟨g, cap, rfl, _, hlt⟩ := h.form hl
    refine ⟨_, cap, rfl, .inr ⟨g, 0, rfl, hlt, fun i hi => ?_⟩⟩
    have hc := h.cells (g := g) rfl
    have key : ∀ (l : List Part) (i : Nat) (hi : i < l.length), (partCells l)[i * 3]? = some (.int .i64 l[i].kind) ∧ (partCells l)[i * 3 + 1]? = some (.int .i64 l[i].n) ∧ (partCells l)[i * 3 + 2]? = some (.string l[i].text) := by
      intro l
      induction l with
      | nil => intro i hi; simp at hi
      | cons s l ih =>
        intro i hi
        have e : partCells (s :: l) = Value.int .i64 s.kind :: Value.int .i64 s.n :: Value.string s.text :: partCells l := by simp [partCells]
        rw [e]
        cases i with
        | zero => simp
        | succ i =>
          have := ih i (by simpa using hi)
          rw [show (i + 1) * 3 = i * 3 + 1 + 1 + 1 by omega]
          simpa using this
    obtain ⟨k1, k2, k3⟩ := key ps i hi
    have h1 := hc _ _ k1
    have h2 := hc _ _ k2
    have h3 := hc _ _ k3
    rw [WideShapes.add_plain] at h1 h2 h3
    simp only [Nat.zero_add] at h1 h2 h3
    simp only [Nat.zero_add]
    exact ⟨h1, h2, h3⟩
  · have hz : ps = [] := List.length_eq_zero_iff.1 (by omega)
    subst hz
    rcases h.2 with ⟨rfl, _⟩ | ⟨g, cap, cur, rfl, _⟩
    · exact ⟨none, 0, rfl, .inl rfl⟩
    · exact ⟨_, cap, rfl, .inl rfl⟩

theorem pen_below {w w' : World} {B b : Nat} {dv iv dv' iv' : Value} {P : PenS} (hst : PenStep w w' b dv iv dv' iv') (hp : PenAt w B b dv iv P) (hB : B ≤ w.heap.size) : Below B w w' :=
  hst.chg.below (fun k hk => (hp.F_lt k hk).1) hB
theorem own_base {w : World} {B B' e size : Nat} {v : Value} {n : Nat} {xs : List Value} (h : w.ownsRow B e size v n xs) (hB : B' ≤ B) : w.ownsRow B' e size v n xs := by
  refine ⟨h.1, ?_⟩
  rcases h.2 with h2 | ⟨g, cap, cur, hv, hb, r⟩
  · exact .inl h2
  · exact .inr ⟨g, cap, cur, hv, Nat.le_trans hB hb, r⟩

/-- an owned operation, behind calls that change nothing old -/
theorem own_below {w w' : World} {B e size : Nat} {v : Value} {n : Nat} {xs : List Value} (h : w.ownsRow B e size v n xs) (hb : Below w.heap.size w w') : w'.ownsRow B e size v n xs :=
  own_chg (F := fun _ => False) h (Chg.of_below hb) (fun _ _ h => h)


theorem own_opAt' {w : World} {B : Nat} {v : Value} {ps : List Part} (h : w.ownsRow B 42 3 v ps.length (partCells ps)) : ∃ a cap, v = .slice a ps.length cap ∧ OpAt w a ps ∧ ps.length ≤ cap := by
  obtain ⟨a, cap, e, ho⟩ := own_opAt h
  refine ⟨a, cap, e, ho, ?_⟩
  rcases h.2 with ⟨h1, h2⟩ | ⟨g, cap', cur, h1, _, _, h3, _⟩
  · rw [h2]; exact Nat.zero_le _
  · rw [e] at h1
    simp only [Value.slice.injEq] at h1
    omega

end Go.Proofs.YtepehgjdepioeaaDoor
