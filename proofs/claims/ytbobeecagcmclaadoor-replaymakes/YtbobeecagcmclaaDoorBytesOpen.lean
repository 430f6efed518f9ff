/-
  Bytes that came in, and copies of bytes.
-/
import Derived.Test.YtbobeecagcmclaaDoorWireDec
import Derived.Test.YtbobeecagcmclaaDoorWireWrite
namespace Go.Proofs.YtbobeecagcmclaaDoor
open Go.RowKit Go.Lib

/-- bytes that are appended -/
def SrcB (w : World) (a : Option Addr) (c : Nat) (l : List Nat) : Prop := (a = none ∧ c = 0 ∧ l = []) ∨ ∃ ad, a = some ad ∧ ∀ j u, (octs l)[j]? = some u → w.cell? (ad.add j) = some u
theorem octs_length (l : List Nat) : (octs l).length = l.length := List.length_map _
theorem octs_one (l : List Nat) : ∀ u ∈ octs l, u.oneCell' = true := by
  intro u hu
  obtain ⟨x, _, rfl⟩ := List.mem_map.1 hu
  rfl
theorem octs_get {l : List Nat} {i : Nat} (h : i < l.length) : (octs l)[i]? = some (.int .u8 (l[i] : Int)) := by
  unfold octs; rw [List.getElem?_map, List.getElem?_eq_getElem h]; rfl
theorem srcB_own {w : World} {B : Nat} {v : Value} {l : List Nat} (h : w.ownsRow B 5 1 v l.length (octs l)) : ∃ a c, v = .slice a l.length c ∧ SrcB w a c l ∧ Bytes w a l ∧ l.length ≤ c := by
  rcases h.2 with ⟨rfl, h0⟩ | ⟨g, cap, cur, rfl, _, hg, hnc, _⟩
  · have hz : l = [] := List.length_eq_zero_iff.1 h0
    subst hz
    exact ⟨none, 0, rfl, .inl ⟨rfl, rfl, rfl⟩, .inl rfl, Nat.le_refl _⟩
  · refine ⟨_, cap, rfl, .inr ⟨_, rfl, h.cells (g := g) rfl⟩, .inr ⟨g, 0, rfl, (h.lt g rfl).2, fun i hi => ?_⟩, hnc⟩
    have := h.cells (g := g) rfl i _ (octs_get hi)
    rw [WideShapes.add_plain] at this
    exact this
theorem SrcB.below {w w' : World} {a : Option Addr} {c : Nat} {l : List Nat} (h : SrcB w a c l) (hb : Below w.heap.size w w') : SrcB w' a c l := by
  rcases h with h | ⟨ad, rfl, hc⟩
  · exact .inl h
  · refine .inr ⟨ad, rfl, fun j u hj => ?_⟩
    have h1 := hc j u hj
    rw [hb.cell (p := ad.add j) (World.block_lt_of_cell? w _ h1)]
    exact h1
theorem Bytes.below {w w' : World} {a : Option Addr} {l : List Nat} (h : Bytes w a l) (hb : Below w.heap.size w w') : Bytes w' a l := by
  rcases h with rfl | ⟨g, off, rfl, hg, hx⟩
  · exact .inl rfl
  · exact .inr ⟨g, off, rfl, Nat.lt_of_lt_of_le hg hb.size, fun i hi => (hb.cell (p := ⟨g, off + i, none⟩) hg).trans (hx i hi)⟩

theorem run_append_bytes (w : World) (base : Nat) (ty : TypeId) (hB : base ≤ w.heap.size) (v : Value) (n : Nat) (xs : List Value) (hown : w.ownsRow base 5 1 v n xs) (sa : Option Addr) (c : Nat) (l : List Nat) (hsrc : SrcB w sa c l) (hsmall : n + l.length ≤ 140737488355328) :
    ∃ v' w', (Builtin.append_ #[84, 84] ty #[v, .slice sa l.length c]).run Tryd.prog w = .ok v' w' ∧ w'.ownsRow base 5 1 v' (n + l.length) (xs ++ octs l) ∧ w.grownBy w' v.ownBlock ∧ Moves w v v' := by
  obtain ⟨i0, hi, hz0, hz1, hz2⟩ := info_parts info_u8
  rcases hsrc with ⟨rfl, rfl, rfl⟩ | ⟨ad, rfl, hc⟩
  · have hrun := run_append_owned_none (P := Tryd.prog) (w := w) base 84 ty 5 i0 1 Tryd.underlying84 hi v n xs hown
    refine ⟨v, w, hrun, by simpa [octs] using hown, ⟨rfl, rfl, rfl, Nat.le_refl _, fun _ _ _ => rfl⟩, Moves.refl _ _⟩
  · obtain ⟨v', w', hr, h2, h3, _, h5⟩ := run_append_own_at (P := Tryd.prog) w base 84 ty 5 i0 _ 1 1 Tryd.underlying84 hi hz0 hz1 hz2 rfl (by decide) v n xs hown ad l.length c (octs l) (by rw [octs_length, Nat.mul_one]) hc (octs_one l) (by unfold maxLen; omega) (by omega) hB
    refine ⟨v', w', hr, h2, h3, fun k hk => ?_⟩
    rcases h5 with h5 | h5
    · exact .inl (by rw [← h5]; exact hk)
    · rw [h5] at hk
      simp at hk
      exact .inr (by omega)

theorem wpList_append_bytes {w : World} {ops : Array Oper} {rest : List Oper} {o : Oper} {a : Act} {Q : Exit → Act → World → Prop} (hgd : o.guard = none) (s x : Operand)
    (ho : o.op = .call { callee := .builtin .append, args := #[s, x], argTypes := #[84, 84] }) (base : Nat) (hB : base ≤ w.heap.size) (v : Value) (n : Nat) (xs : List Value) (hs : a.eval s = v) (hown : w.ownsRow base 5 1 v n xs) (sa : Option Addr) (c : Nat) (l : List Nat) (hx : a.eval x = .slice sa l.length c) (hsrc : SrcB w sa c l) (hsmall : n + l.length ≤ 140737488355328)
    (h : ∀ v' w', w'.ownsRow base 5 1 v' (n + l.length) (xs ++ octs l) → w.grownBy w' v.ownBlock → Moves w v v' → wpList Tryd.prog ops Q rest (a.put o.dst v') w') : wpList Tryd.prog ops Q (o :: rest) a w := by
  refine wpList_plain hgd fun K hK => ?_
  obtain ⟨v', w', hr, h2, h3, h4⟩ := run_append_bytes w base o.type hB v n xs hown sa c l hsrc hsmall
  unfold Oper.wp execOp
  simp only [ho, resolve, invoke, builtin, Sem.run_bind, Sem.run_pure, Result.andThen_ok, List.map_toArray, List.map_cons, List.map_nil, hs, hx, hr]
  exact hK _ _ (h v' w' h2 h3 h4)

theorem conv_bytes {w : World} {a : Option Addr} {l : List Nat} (h : Bytes w a l) (c : Nat) : (convert 84 9 (.slice a l.length c)).run Tryd.prog w = .ok (.string (bstr l)) w :=
  conv_oct (B := w.heap.size) (b := w.heap.size) (by
    rcases h with rfl | ⟨g, off, rfl, hg, hx⟩
    · exact .inl rfl
    · exact .inr ⟨g, off, rfl, by omega, hg, hx⟩) c


end Go.Proofs.YtbobeecagcmclaaDoor
