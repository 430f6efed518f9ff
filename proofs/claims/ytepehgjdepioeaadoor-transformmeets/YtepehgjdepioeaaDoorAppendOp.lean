/-
  'append(x, o...)' of an operation, nil or not.
-/
import Derived.Test.YtepehgjdepioeaaDoorPenMem
import Derived.Laws.AppendOwnNone
import Derived.Maps.AppendAt
namespace Go.Proofs.YtepehgjdepioeaaDoor
open Go.RowKit Go.Lib

/-- an operation whose parts are appended -/
def SrcOp (w : World) (a : Option Addr) (c : Nat) (qs : List Part) : Prop := (a = none ∧ c = 0 ∧ qs = []) ∨ ∃ ad, a = some ad ∧ ∀ j u, (partCells qs)[j]? = some u → w.cell? (ad.add j) = some u
theorem srcOp_own {w : World} {B : Nat} {v : Value} {qs : List Part} (h : w.ownsRow B 42 3 v qs.length (partCells qs)) : ∃ a c, v = .slice a qs.length c ∧ SrcOp w a c qs := by
  rcases h.2 with ⟨rfl, h0⟩ | ⟨g, cap, cur, rfl, _⟩
  · have hz : qs = [] := List.length_eq_zero_iff.1 h0
    subst hz
    exact ⟨none, 0, rfl, .inl ⟨rfl, rfl, rfl⟩⟩
  · exact ⟨_, cap, rfl, .inr ⟨_, rfl, h.cells (g := g) rfl⟩⟩
theorem partCells_one' (qs : List Part) : ∀ u ∈ partCells qs, u.oneCell' = true := by
  intro u hu
  obtain ⟨p, _, hp⟩ := List.mem_flatMap.1 hu
  simp only [List.mem_cons, List.not_mem_nil, or_false] at hp
  rcases hp with rfl | rfl | rfl <;> rfl

theorem run_append_op (w : World) (base : Nat) (ty : TypeId) (hB : base ≤ w.heap.size) (v : Value) (n : Nat) (xs : List Value) (hown : w.ownsRow base 42 3 v n xs) (sa : Option Addr) (c : Nat) (qs : List Part) (hsrc : SrcOp w sa c qs) (hsmall : n + qs.length ≤ 1000000000) :
    ∃ v' w', (Builtin.append_ #[25, 25] ty #[v, .slice sa qs.length c]).run Tryd.prog w = .ok v' w' ∧ w'.ownsRow base 42 3 v' (n + qs.length) (xs ++ partCells qs) ∧ w.grownBy w' v.ownBlock ∧ Moves w v v' := by
  obtain ⟨i0, hi, hz0, hz1, hz2⟩ := info_parts info_part
  rcases hsrc with ⟨rfl, rfl, rfl⟩ | ⟨ad, rfl, hc⟩
  · have hrun := run_append_owned_none (P := Tryd.prog) (w := w) base 25 ty 42 i0 3 Tryd.underlying25 hi v n xs hown
    refine ⟨v, w, hrun, by simpa [partCells] using hown, ⟨rfl, rfl, rfl, Nat.le_refl _, fun _ _ _ => rfl⟩, Moves.refl _ _⟩
  · obtain ⟨v', w', hr, h2, h3, _, h5⟩ := run_append_own_at (P := Tryd.prog) w base 25 ty 42 i0 _ 3 32 Tryd.underlying25 hi hz0 hz1 hz2 rfl (by decide) v n xs hown ad qs.length c (partCells qs) (partCells_length qs) hc (partCells_one' qs) (by unfold maxLen; omega) (by omega) hB
    refine ⟨v', w', hr, h2, h3, fun k hk => ?_⟩
    rcases h5 with h5 | h5
    · exact .inl (by rw [← h5]; exact hk)
    · rw [h5] at hk
      simp at hk
      exact .inr (by omega)

theorem wpList_append_op {w : World} {ops : Array Oper} {rest : List Oper} {o : Oper} {a : Act} {Q : Exit → Act → World → Prop} (hgd : o.guard = none) (s x : Operand)
    (ho : o.op = .call { callee := .builtin .append, args := #[s, x], argTypes := #[25, 25] }) (base : Nat) (hB : base ≤ w.heap.size) (v : Value) (n : Nat) (xs : List Value) (hs : a.eval s = v) (hown : w.ownsRow base 42 3 v n xs) (sa : Option Addr) (c : Nat) (qs : List Part) (hx : a.eval x = .slice sa qs.length c) (hsrc : SrcOp w sa c qs) (hsmall : n + qs.length ≤ 1000000000)
    (h : ∀ v' w', w'.ownsRow base 42 3 v' (n + qs.length) (xs ++ partCells qs) → w.grownBy w' v.ownBlock → Moves w v v' → wpList Tryd.prog ops Q rest (a.put o.dst v') w') : wpList Tryd.prog ops Q (o :: rest) a w := by
  refine wpList_plain hgd fun K hK => ?_
  obtain ⟨v', w', hr, h2, h3, h4⟩ := run_append_op w base o.type hB v n xs hown sa c qs hsrc hsmall
  unfold Oper.wp execOp
  simp only [ho, resolve, invoke, builtin, Sem.run_bind, Sem.run_pure, Result.andThen_ok, List.map_toArray, List.map_cons, List.map_nil, hs, hx, hr]
  exact hK _ _ (h v' w' h2 h3 h4)

end Go.Proofs.YtepehgjdepioeaaDoor
