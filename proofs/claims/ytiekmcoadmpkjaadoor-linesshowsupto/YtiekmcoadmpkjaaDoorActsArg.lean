/-
  Acts that came in: opening them, and their copy.
-/
import Derived.Test.YtiekmcoadmpkjaaDoorActArg
import Derived.Test.YtiekmcoadmpkjaaDoorActRow
namespace Go.Proofs.YtiekmcoadmpkjaaDoor
open Go.ChangeShapes Go.WideShapes Go.ChangeAt Go.RowKit Go.Deep Go.Lib

theorem cells_act : Tryd.prog.cellsOf 29 = 8 := by kernel_rfl
set_option maxRecDepth 100000 in
theorem open_acts {H : Type} {enc : TypeId × Value → H} {W : World} {spare : Nat → Bool} {held : Bool} {fuel : Nat} {v : Value} {x : DataW H × List MemPlace}
    (h : DataW.trod enc Tryd.prog W 0 spare held fuel 33 [v] = some x) (hb : Rows.uptoBulk x.1 ≤ 1048576) :
    ∃ K : List ActK, InK actS W 0 v K ∧ (∀ x ∈ K, ActSmall x.1) ∧ K.length ≤ 1048576 := by
  rcases open_slice Tryd.underlying33 h with ⟨hc, rfl⟩ | ⟨a', len, cap, m, n, D, Pl, hc, hb0, hl, hm, hmm, rfl, hx⟩
  · simp at hc
    subst hc
    exact ⟨[], inK_nil _ _ _, by simp, by simp⟩
  · simp only [List.cons.injEq, and_true] at hc
    subst hc
    have hlm : len ≤ m := by rw [hmm]; split <;> omega
    have hall : ∀ i, i < len → Rows.uptoBulk (D i) ≤ 1048576 := fun i hi => by
      have hm' : D i ∈ (List.range len).map D := List.mem_map.2 ⟨i, List.mem_range.2 hi, rfl⟩
      have := bulk_part_le hm'
      simp only [Rows.uptoBulk] at hb
      omega
    have each : ∀ i, i < len → ∃ p : ActK, (∀ j u, j < 8 → (actVals p.1 p.2)[j]? = some u → W.cell? (a'.add (i * 8 + j)) = some u) ∧ OpVal W p.2 p.1.op ∧ ActSmall p.1 := by
      intro i hi
      obtain ⟨cs', h1, h2⟩ := hx i (by omega)
      rw [cells_act] at h1
      obtain ⟨_, hlen, hcell⟩ := World.cells?_some h1
      obtain ⟨kd, nd, tw, pk, kp, an, hd, ps, a, c, rfl, k1, k2, k3, k4⟩ := open_act h2 (hall i hi)
      refine ⟨(⟨kd, nd, tw, pk, kp, ps, an, hd⟩, .slice a ps.length c), fun j u hj hu => ?_, k1, ⟨k3, k4⟩⟩
      have q := hcell j (by simpa using hj)
      rw [add_add] at q
      rw [q]
      have hu' : ([Value.int .i64 kd, .int .i64 nd, .int .i64 tw, .int .i64 pk, .int .i64 kp, .slice a ps.length c, .int .i64 an, .int .i64 hd])[j]? = some u := hu
      exact hu'
    have : Inhabited ActK := ⟨(act0, .bool false)⟩
    obtain ⟨q, hq⟩ := choose_lt each
    have hblen := bulk_length_le ((List.range len).map D)
    simp only [List.length_map, List.length_range] at hblen
    have hlb : len ≤ 1048576 := by simp only [Rows.uptoBulk] at hb; omega
    refine ⟨(List.range len).map q, ⟨⟨some a', cap, by simp, by simpa using hl, (fun e => by cases e), ?_⟩, ?_⟩, ?_, by simpa using hlb⟩
    · by_cases h0 : len = 0
      · subst h0; exact .inl rfl
      · obtain ⟨b, off, spot⟩ := a'
        have hc := (hq 0 (by omega)).1 0 _ (by omega) rfl
        have hspot : spot = none := by simpa [Addr.add] using World.cell?_spot hc
        subst hspot
        refine .inr ⟨b, off, rfl, Nat.zero_le _, World.block_lt_of_cell? W _ hc, fun j u hj => ?_⟩
        have hjl : j < (actS.all ((List.range len).map q)).length := (List.getElem?_eq_some_iff.1 hj).1
        rw [actS.all_length] at hjl
        have h5 : actS.size = 8 := rfl
        rw [h5] at hjl
        simp only [List.length_map, List.length_range] at hjl
        have hi : j / 8 < len := by omega
        have g := actS.all_get ((List.range len).map q) (i := j / 8) (j := j % 8) (by simpa using hi) (by rw [h5]; omega)
        rw [h5, show j / 8 * 8 + j % 8 = j by omega] at g
        rw [g] at hj
        simp only [List.getElem_map, List.getElem_range] at hj
        have := (hq (j / 8) hi).1 (j % 8) u (by omega) hj
        rw [WideShapes.add_plain, show j / 8 * 8 + j % 8 = j by omega] at this
        exact this
    · intro y hy
      obtain ⟨i, hi, rfl⟩ := List.mem_map.1 hy
      exact slIn_opVal (hq i (List.mem_range.1 hi)).2.1
    · intro y hy
      obtain ⟨i, hi, rfl⟩ := List.mem_map.1 hy
      exact (hq i (List.mem_range.1 hi)).2.2

theorem acts_one {w : World} {B : Nat} {v : Value} {K : List ActK} (h : InK actS w B v K) : ∀ u ∈ actS.all K, u.oneCell' = true := by
  intro u hu
  obtain ⟨x, hx, hp⟩ := List.mem_flatMap.1 hu
  have hp' : u ∈ actVals x.1 x.2 := hp
  unfold actVals at hp'
  simp only [List.mem_cons, List.not_mem_nil, or_false] at hp'
  rcases hp' with rfl | rfl | rfl | rfl | rfl | rfl | rfl | rfl
  all_goals first | rfl | skip
  obtain ⟨a, c, e, _⟩ := h.each x hx
  have e' : x.2 = .slice a (actS.ops x).length c := e
  rw [e']
  rfl
/-- a copy of acts -/
theorem run_append_acts (w : World) (ty : TypeId) (v : Value) (K : List ActK) (h : InK actS w 0 v K) (hsmall : K.length ≤ 1048576) :
    ∃ v' w', (Builtin.append_ #[33, 33] ty #[.slice none 0 0, v]).run Tryd.prog w = .ok v' w' ∧ InK actS w' 0 v' K ∧ Below w.heap.size w w' := by
  obtain ⟨i0, hi, hz0, hz1, hz2⟩ := info_parts info_act
  have hone := acts_one h
  obtain ⟨a, c, rfl, hn, hz, hc⟩ := h.row
  have fin : ∀ (v' : Value) (w' : World), w'.ownsRow w.heap.size 29 8 v' K.length (actS.all K) → w.grownBy w' (Value.slice none 0 0).ownBlock → InK actS w' 0 v' K ∧ Below w.heap.size w w' := fun v' w' ho hg => by
    have hb : Below w.heap.size w w' := (Below.refl _ _).grown hg (Nat.le_refl _) (fun k e => by cases e)
    refine ⟨⟨(SlIn.own ho fun h0 => by rw [List.length_eq_zero_iff.1 h0]; rfl).base (Nat.zero_le _), fun x hx => (h.each x hx).below hb⟩, hb⟩
  cases a with
  | none =>
    have h0 : K.length = 0 := by have := hz rfl; omega
    obtain rfl := List.length_eq_zero_iff.1 h0
    obtain rfl := hz rfl
    have hrun := run_append_owned_none (P := Tryd.prog) (w := w) w.heap.size 33 ty 29 i0 8 Tryd.underlying33 hi (.slice none 0 0) 0 [] (World.ownsRow_nil _ _ _ _)
    exact ⟨_, w, hrun, inK_nil _ _ _, Below.refl _ _⟩
  | some ad =>
    have hsrc : ∀ j u, (actS.all K)[j]? = some u → w.cell? (ad.add j) = some u := by
      rcases hc with h0 | ⟨b, off, e, _, _, hc⟩
      · intro j u hj; rw [h0] at hj; simp at hj
      · cases e
        intro j u hj
        rw [WideShapes.add_plain]
        exact hc j u hj
    obtain ⟨v', w', hr, h2, h3, _, _⟩ := run_append_own_at (P := Tryd.prog) w w.heap.size 33 ty 29 i0 _ 8 80 Tryd.underlying33 hi hz0 hz1 hz2 rfl (by decide) (.slice none 0 0) 0 [] (World.ownsRow_nil _ _ _ _) ad K.length c (actS.all K) (actS.all_length K) hsrc hone (by unfold maxLen; omega) (by omega) (Nat.le_refl _)
    rw [Nat.zero_add, List.nil_append] at h2
    exact ⟨v', w', hr, fin v' w' h2 h3⟩
theorem wpList_append_acts {w : World} {ops : Array Oper} {rest : List Oper} {o : Oper} {a : Act} {Q : Exit → Act → World → Prop} (hgd : o.guard = none) (s x : Operand)
    (ho : o.op = .call { callee := .builtin .append, args := #[s, x], argTypes := #[33, 33] }) (hs : a.eval s = .slice none 0 0) (v : Value) (K : List ActK) (hx : a.eval x = v) (hK : InK actS w 0 v K) (hsmall : K.length ≤ 1048576)
    (h : ∀ v' w', InK actS w' 0 v' K → Below w.heap.size w w' → wpList Tryd.prog ops Q rest (a.put o.dst v') w') : wpList Tryd.prog ops Q (o :: rest) a w := by
  refine wpList_plain hgd fun K' hK' => ?_
  obtain ⟨v', w', hr, h2, h3⟩ := run_append_acts w o.type v K hK hsmall
  unfold Oper.wp execOp
  simp only [ho, resolve, invoke, builtin, Sem.run_bind, Sem.run_pure, Result.andThen_ok, List.map_toArray, List.map_cons, List.map_nil, hs, hx, hr]
  exact hK' _ _ (h v' w' h2 h3)

end Go.Proofs.YtiekmcoadmpkjaaDoor
