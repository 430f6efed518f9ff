/-
  Opening the arguments: a side (a struct with a slice of operations) that came in.
-/
import Derived.Test.YtiekmcoadmpkjaaDoorOpen
import Derived.Test.YtiekmcoadmpkjaaDoorEdgeMem
namespace Go.Proofs.YtiekmcoadmpkjaaDoor
open Go.ChangeShapes Go.WideShapes Go.ChangeAt Go.RowKit Go.Deep
theorem cells_op : Tryd.prog.cellsOf 25 = 1 := by kernel_rfl
/-- the cells of parts, out of 'OpAt' -/
theorem srcOp_of {w : World} {b off c : Nat} {ps : List Part} (h : ∀ i (h : i < ps.length), w.cell? ⟨b, off + i * 3, none⟩ = some (.int .i64 ps[i].kind) ∧ w.cell? ⟨b, off + i * 3 + 1, none⟩ = some (.int .i64 ps[i].n) ∧ w.cell? ⟨b, off + i * 3 + 2, none⟩ = some (.string ps[i].text)) : SrcOp w (some ⟨b, off, none⟩) c ps := by
  refine .inr ⟨_, rfl, fun j u hj => ?_⟩
  rw [add_plain]
  have hjl : j < (partCells ps).length := (List.getElem?_eq_some_iff.1 hj).1
  rw [partCells_length] at hjl
  have key : ∀ (l : List Part) (i : Nat) (hi : i < l.length), (partCells l)[i * 3]? = some (.int .i64 l[i].kind) ∧ (partCells l)[i * 3 + 1]? = some (.int .i64 l[i].n) ∧ (partCells l)[i * 3 + 2]? = some (.string l[i].text) := by
    intro l
    induction l with
    | nil => intro i hi; simp at hi
    | cons s l ih =>
      intro i hi
      have e : partCells (s :: l) = Value.int .i64 s.kind :: Value.int .i64 s.n :: Value.string s.text :: partCells l := by simp [partCells]
      rw [e]
      cases i with
      | zero => simp
      | succ i =>
        have := ih i (by simpa using hi)
        rw [show (i + 1) * 3 = i * 3 + 1 + 1 + 1 by omega]
        simpa using this
  obtain ⟨k1, k2, k3⟩ := key ps (j / 3) (by omega)
  obtain ⟨h1, h2, h3⟩ := h (j / 3) (by omega)
  have hm : j = j / 3 * 3 ∨ j = j / 3 * 3 + 1 ∨ j = j / 3 * 3 + 2 := by omega
  rcases hm with hm | hm | hm
  · rw [hm] at hj
    rw [k1] at hj
    rw [hm]
    exact h1.trans hj
  · rw [hm] at hj
    rw [k2] at hj
    rw [hm]
    exact h2.trans hj
  · rw [hm] at hj
    rw [k3] at hj
    rw [hm]
    exact h3.trans hj
theorem open_opVal {H : Type} {enc : TypeId × Value → H} {W : World} {spare : Nat → Bool} {held : Bool} {fuel : Nat} {v : Value} {x : DataW H × List MemPlace}
    (h : DataW.trod enc Tryd.prog W 0 spare held fuel 25 [v] = some x) :
    ∃ ps : List Part, OpVal W v ps ∧ (∀ p ∈ ps, PartOk (Rows.uptoBulk x.1) p) ∧ ps.length ≤ Rows.uptoBulk x.1 := by
  have hv : ∃ a len cap, v = .slice a len cap ∧ len ≤ cap ∧ (a = none → cap = 0) := by
    rcases open_slice Tryd.underlying25 h with ⟨hc, rfl⟩ | ⟨a', len', cap', m, n, D, Pl, hc, hb, hl, hm, hmm, rfl, hx⟩
    · simp at hc; subst hc; exact ⟨none, 0, 0, rfl, Nat.le_refl _, fun _ => rfl⟩
    · simp only [List.cons.injEq, and_true] at hc; subst hc; exact ⟨some a', len', cap', rfl, hl, fun e => by cases e⟩
  obtain ⟨a, len, cap, rfl, hlc, hn⟩ := hv
  obtain ⟨ps, rfl, hop, hok, hlen⟩ := open_op h
  refine ⟨ps, ⟨a, cap, rfl, hop, hlc, ?_⟩, hok, hlen⟩
  cases a with
  | none => 
    have hc := hn rfl
    exact .inl ⟨rfl, hc, List.length_eq_zero_iff.1 (by omega)⟩
  | some ad =>
    rcases hop with rfl | ⟨b, off, e, hbl, hc⟩
    · exact .inr ⟨ad, rfl, fun j u hj => by simp [partCells] at hj⟩
    · simp only [Option.some.injEq] at e
      subst e
      exact srcOp_of hc

end Go.Proofs.YtiekmcoadmpkjaaDoor
