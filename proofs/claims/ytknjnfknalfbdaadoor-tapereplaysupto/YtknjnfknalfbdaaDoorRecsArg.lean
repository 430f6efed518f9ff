/-
  Records that came in: they are copied.
-/
import Derived.Test.YtknjnfknalfbdaaDoorTapeReplay
import Derived.Test.YtknjnfknalfbdaaDoorEdgeOpen
namespace Go.Proofs.YtknjnfknalfbdaaDoor
open Go.ChangeShapes Go.WideShapes Go.ChangeAt Go.RowKit Go.Deep Go.Lib

/-- a record in memory, and the slice that holds its operation -/
abbrev RecK := RecI × Value
def cellsI (K : List RecK) : List Value := K.flatMap fun x => [Value.int .i64 x.1.1, x.2]
theorem cellsI_length (K : List RecK) : (cellsI K).length = K.length * 2 := by
  unfold cellsI
  induction K with
  | nil => rfl
  | cons x K ih => simp only [List.flatMap_cons, List.length_append, List.length_cons, List.length_nil, ih]; omega
theorem cellsI_get (K : List RecK) {i : Nat} (h : i < K.length) : (cellsI K)[i * 2]? = some (.int .i64 K[i].1.1) ∧ (cellsI K)[i * 2 + 1]? = some K[i].2 := by
  induction K generalizing i with
  | nil => simp at h
  | cons x K ih =>
    cases i with
    | zero => exact ⟨rfl, rfl⟩
    | succ i =>
      have := ih (i := i) (by simpa using h)
      have e1 : (i + 1) * 2 = i * 2 + 2 := by omega
      rw [e1]
      exact this
theorem info_recI : (Tryd.prog.info? 74).map (fun i => (i.zero, i.size, i.bytes)) = some (some (.agg #[.int .i64 0, .slice none 0 0]), 2, 32) := by kernel_rfl
def SrcRec (w : World) (a : Option Addr) (c : Nat) (K : List RecK) : Prop := (a = none ∧ c = 0 ∧ K = []) ∨ ∃ ad, a = some ad ∧ ∀ j u, (cellsI K)[j]? = some u → w.cell? (ad.add j) = some u
/-- their operations -/
def OpsV (w : World) (K : List RecK) : Prop := ∀ x ∈ K, OpVal w x.2 x.1.2
theorem OpsV.below {w w' : World} {K : List RecK} (h : OpsV w K) (hb : Below w.heap.size w w') : OpsV w' K := fun x hx => (h x hx).below hb
theorem OpsV.one {w : World} {K : List RecK} (h : OpsV w K) : ∀ u ∈ cellsI K, u.oneCell' = true := by
  intro u hu
  obtain ⟨x, hx, hp⟩ := List.mem_flatMap.1 hu
  simp only [List.mem_cons, List.not_mem_nil, or_false] at hp
  rcases hp with rfl | rfl
  · rfl
  · obtain ⟨a, c, e, _⟩ := (h x hx).form
    rw [e]
    rfl
theorem recsIn_of {w : World} {a : Option Addr} {c : Nat} {K : List RecK} (h : SrcRec w a c K) (hv : OpsV w K) : RecsIn w a (K.map (·.1)) := by
  by_cases h0 : K = []
  · subst h0; exact .inl rfl
  · have hpos : 0 < K.length := List.length_pos_iff.2 h0
    rcases h with ⟨_, _, hz⟩ | ⟨ad, rfl, hc⟩
    · exact absurd hz h0
    · obtain ⟨b, off, spot⟩ := ad
      have hc0 := hc _ _ (cellsI_get K hpos).1
      have hspot : spot = none := by simpa [Addr.add] using World.cell?_spot hc0
      subst hspot
      refine .inr ⟨b, off, rfl, World.block_lt_of_cell? w _ hc0, fun i hi => ?_⟩
      have hi' : i < K.length := by simpa using hi
      obtain ⟨g0, g1⟩ := cellsI_get K hi'
      have k0 := hc _ _ g0
      have k1 := hc _ _ g1
      rw [add_plain] at k0 k1
      obtain ⟨oa, oc, e, hop, _⟩ := (hv K[i] (List.getElem_mem hi')).form
      rw [e] at k1
      simp only [List.getElem_map]
      exact ⟨oa, oc, k0, by rw [show off + i * 2 + 1 = off + (i * 2 + 1) by omega]; exact k1, hop⟩

theorem run_append_recs (w : World) (base : Nat) (ty : TypeId) (hB : base ≤ w.heap.size) (v : Value) (n : Nat) (xs : List Value) (hown : w.ownsRow base 74 2 v n xs) (sa : Option Addr) (c : Nat) (qs : List RecK) (hsrc : SrcRec w sa c qs) (hone : ∀ u ∈ cellsI qs, u.oneCell' = true) (hsmall : n + qs.length ≤ 1000000000) :
    ∃ v' w', (Builtin.append_ #[86, 86] ty #[v, .slice sa qs.length c]).run Tryd.prog w = .ok v' w' ∧ w'.ownsRow base 74 2 v' (n + qs.length) (xs ++ cellsI qs) ∧ w.grownBy w' v.ownBlock ∧ Moves w v v' := by
  obtain ⟨i0, hi, hz0, hz1, hz2⟩ := info_parts info_recI
  rcases hsrc with ⟨rfl, rfl, rfl⟩ | ⟨ad, rfl, hc⟩
  · have hrun := run_append_owned_none (P := Tryd.prog) (w := w) base 86 ty 74 i0 2 Tryd.underlying86 hi v n xs hown
    refine ⟨v, w, hrun, by simpa [cellsI] using hown, ⟨rfl, rfl, rfl, Nat.le_refl _, fun _ _ _ => rfl⟩, Moves.refl _ _⟩
  · obtain ⟨v', w', hr, h2, h3, _, h5⟩ := run_append_own_at (P := Tryd.prog) w base 86 ty 74 i0 _ 2 32 Tryd.underlying86 hi hz0 hz1 hz2 rfl (by decide) v n xs hown ad qs.length c (cellsI qs) (cellsI_length qs) hc (hone) (by unfold maxLen; omega) (by omega) hB
    refine ⟨v', w', hr, h2, h3, fun k hk => ?_⟩
    rcases h5 with h5 | h5
    · exact .inl (by rw [← h5]; exact hk)
    · rw [h5] at hk
      simp at hk
      exact .inr (by omega)

theorem wpList_append_recs {w : World} {ops : Array Oper} {rest : List Oper} {o : Oper} {a : Act} {Q : Exit → Act → World → Prop} (hgd : o.guard = none) (s x : Operand)
    (ho : o.op = .call { callee := .builtin .append, args := #[s, x], argTypes := #[86, 86] }) (base : Nat) (hB : base ≤ w.heap.size) (v : Value) (n : Nat) (xs : List Value) (hs : a.eval s = v) (hown : w.ownsRow base 74 2 v n xs) (sa : Option Addr) (c : Nat) (qs : List RecK) (hx : a.eval x = .slice sa qs.length c) (hsrc : SrcRec w sa c qs) (hone : ∀ u ∈ cellsI qs, u.oneCell' = true) (hsmall : n + qs.length ≤ 1000000000)
    (h : ∀ v' w', w'.ownsRow base 74 2 v' (n + qs.length) (xs ++ cellsI qs) → w.grownBy w' v.ownBlock → Moves w v v' → wpList Tryd.prog ops Q rest (a.put o.dst v') w') : wpList Tryd.prog ops Q (o :: rest) a w := by
  refine wpList_plain hgd fun K hK => ?_
  obtain ⟨v', w', hr, h2, h3, h4⟩ := run_append_recs w base o.type hB v n xs hown sa c qs hsrc hone hsmall
  unfold Oper.wp execOp
  simp only [ho, resolve, invoke, builtin, Sem.run_bind, Sem.run_pure, Result.andThen_ok, List.map_toArray, List.map_cons, List.map_nil, hs, hx, hr]
  exact hK _ _ (h v' w' h2 h3 h4)

end Go.Proofs.YtknjnfknalfbdaaDoor
