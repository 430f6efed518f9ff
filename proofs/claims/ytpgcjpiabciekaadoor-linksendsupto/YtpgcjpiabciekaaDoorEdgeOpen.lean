/-
  Opening the arguments: a side (a struct with a slice of operations) that came in.
-/
import Derived.Test.YtpgcjpiabciekaaDoorOpen
import Derived.Test.YtpgcjpiabciekaaDoorEdgeMem
namespace Go.Proofs.YtpgcjpiabciekaaDoor
open Go.ChangeShapes Go.WideShapes Go.ChangeAt Go.RowKit Go.Deep

theorem cells_edge : Tryd.prog.cellsOf 26 = 3 := by kernel_rfl
theorem cells_op : Tryd.prog.cellsOf 31 = 1 := by kernel_rfl
theorem cells_ops : Tryd.prog.cellsOf 24 = 1 := by kernel_rfl

/-- the cells of parts, out of 'OpAt' -/
theorem srcOp_of {w : World} {b off c : Nat} {ps : List Part} (h : ∀ i (h : i < ps.length), w.cell? ⟨b, off + i * 3, none⟩ = some (.int .i64 ps[i].kind) ∧ w.cell? ⟨b, off + i * 3 + 1, none⟩ = some (.int .i64 ps[i].n) ∧ w.cell? ⟨b, off + i * 3 + 2, none⟩ = some (.string ps[i].text)) : SrcOp w (some ⟨b, off, none⟩) c ps := by
  refine .inr ⟨_, rfl, fun j u hj => ?_⟩
  rw [add_plain]
  have hjl : j < (partCells ps).length := (List.getElem?_eq_some_iff.1 hj).1
  rw [partCells_length] at hjl
  have key : ∀ (l : List Part) (i : Nat) (hi : i < l.length), (partCells l)[i * 3]? = some (.int .i64 l[i].kind) ∧ (partCells l)[i * 3 + 1]? = some (.int .i64 l[i].n) ∧ (partCells l)[i * 3 + 2]? = some (.string l[i].text) := by
    intro l
    induction l with
    | nil => intro i hi; simp at hi
    | cons s l ih =>
      intro i hi
      have e : partCells (s :: l) = Value.int .i64 s.kind :: Value.int .i64 s.n :: Value.string s.text :: partCells l := by simp [partCells]
      rw [e]
      cases i with
      | zero => simp
      | succ i =>
        have := ih i (by simpa using hi)
        rw [show (i + 1) * 3 = i * 3 + 1 + 1 + 1 by omega]
        simpa using this
  obtain ⟨k1, k2, k3⟩ := key ps (j / 3) (by omega)
  obtain ⟨h1, h2, h3⟩ := h (j / 3) (by omega)
  have hm : j = j / 3 * 3 ∨ j = j / 3 * 3 + 1 ∨ j = j / 3 * 3 + 2 := by omega
  rcases hm with hm | hm | hm
  · rw [hm] at hj
    rw [k1] at hj
    rw [hm]
    exact h1.trans hj
  · rw [hm] at hj
    rw [k2] at hj
    rw [hm]
    exact h2.trans hj
  · rw [hm] at hj
    rw [k3] at hj
    rw [hm]
    exact h3.trans hj
theorem open_opVal {H : Type} {enc : TypeId × Value → H} {W : World} {spare : Nat → Bool} {held : Bool} {fuel : Nat} {v : Value} {x : DataW H × List MemPlace}
    (h : DataW.trod enc Tryd.prog W 0 spare held fuel 31 [v] = some x) :
    ∃ ps : List Part, OpVal W v ps ∧ (∀ p ∈ ps, PartOk (Rows.uptoBulk x.1) p) ∧ ps.length ≤ Rows.uptoBulk x.1 := by
  have hv : ∃ a len cap, v = .slice a len cap ∧ len ≤ cap ∧ (a = none → cap = 0) := by
    rcases open_slice Tryd.underlying31 h with ⟨hc, rfl⟩ | ⟨a', len', cap', m, n, D, Pl, hc, hb, hl, hm, hmm, rfl, hx⟩
    · simp at hc; subst hc; exact ⟨none, 0, 0, rfl, Nat.le_refl _, fun _ => rfl⟩
    · simp only [List.cons.injEq, and_true] at hc; subst hc; exact ⟨some a', len', cap', rfl, hl, fun e => by cases e⟩
  obtain ⟨a, len, cap, rfl, hlc, hn⟩ := hv
  obtain ⟨ps, rfl, hop, hok, hlen⟩ := open_op h
  refine ⟨ps, ⟨a, cap, rfl, hop, hlc, ?_⟩, hok, hlen⟩
  cases a with
  | none => 
    have hc := hn rfl
    exact .inl ⟨rfl, hc, List.length_eq_zero_iff.1 (by omega)⟩
  | some ad =>
    rcases hop with rfl | ⟨b, off, e, hbl, hc⟩
    · exact .inr ⟨ad, rfl, fun j u hj => by simp [partCells] at hj⟩
    · simp only [Option.some.injEq] at e
      subst e
      exact srcOp_of hc

set_option maxRecDepth 100000 in
theorem open_ops {H : Type} {enc : TypeId × Value → H} {W : World} {spare : Nat → Bool} {held : Bool} {fuel : Nat} {v : Value} {x : DataW H × List MemPlace}
    (h : DataW.trod enc Tryd.prog W 0 spare held fuel 24 [v] = some x) (hb : Rows.uptoBulk x.1 ≤ 1048576) :
    ∃ (E : List (List Part)) (vs : List Value) (a : Option Addr) (c : Nat), v = .slice a E.length c ∧ PendAt W a c E vs ∧ (∀ q ∈ E, OpSmall q) ∧ E.length ≤ 1048576 := by
  rcases open_slice Tryd.underlying24 h with ⟨hc, rfl⟩ | ⟨a', len, cap, m, n, D, Pl, hc, hb0, hl, hm, hmm, rfl, hx⟩
  · simp at hc
    subst hc
    exact ⟨[], [], none, 0, rfl, ⟨rfl, Nat.le_refl _, .inl rfl, fun i hi => by simp at hi⟩, by simp, by simp⟩
  · simp only [List.cons.injEq, and_true] at hc
    subst hc
    have hlm : len ≤ m := by rw [hmm]; split <;> omega
    have hall : ∀ i, i < len → Rows.uptoBulk (D i) ≤ 1048576 := fun i hi => by
      have hm' : D i ∈ (List.range len).map D := List.mem_map.2 ⟨i, List.mem_range.2 hi, rfl⟩
      have := bulk_part_le hm'
      simp only [Rows.uptoBulk] at hb
      omega
    have each : ∀ i, i < len → ∃ p : Value × List Part, W.cell? (a'.add i) = some p.1 ∧ OpVal W p.1 p.2 ∧ OpSmall p.2 := by
      intro i hi
      obtain ⟨cs', h1, h2⟩ := hx i (by omega)
      rw [cells_op] at h1
      obtain ⟨_, hlen, hcell⟩ := World.cells?_some h1
      match cs', hlen with
      | [v0], _ =>
        obtain ⟨ps, k1, k2, k3⟩ := open_opVal h2
        have q0 := hcell 0 (by omega)
        rw [add_add] at q0
        have hbi := hall i hi
        exact ⟨(v0, ps), by simpa using q0, k1, Nat.le_trans k3 hbi, fun p hp => (k2 p hp).mono hbi⟩
    have : Inhabited (Value × List Part) := ⟨(.bool false, [])⟩
    obtain ⟨q, hq⟩ := choose_lt each
    have hblen := bulk_length_le ((List.range len).map D)
    simp only [List.length_map, List.length_range] at hblen
    have hlb : len ≤ 1048576 := by simp only [Rows.uptoBulk] at hb; omega
    refine ⟨(List.range len).map fun i => (q i).2, (List.range len).map fun i => (q i).1, some a', cap, by simp, ⟨by simp, by simpa using hl, ?_, ?_⟩, ?_, by simpa using hlb⟩
    · by_cases h0 : len = 0
      · subst h0; exact .inl rfl
      · obtain ⟨b, off, spot⟩ := a'
        have hc := (hq 0 (by omega)).1
        have hspot : spot = none := by simpa [Addr.add] using World.cell?_spot hc
        subst hspot
        refine .inr ⟨b, off, rfl, World.block_lt_of_cell? W _ hc, fun i hi => ?_⟩
        have hi' : i < len := by simpa using hi
        have := (hq i hi').1
        rw [add_plain] at this
        simpa using this
    · intro i hi hi'
      have hl' : i < len := by simpa using hi
      simp only [List.getElem_map, List.getElem_range]
      exact (hq i hl').2.1
    · intro ps hps
      obtain ⟨i, hi, rfl⟩ := List.mem_map.1 hps
      exact (hq i (List.mem_range.1 hi)).2.2

set_option maxRecDepth 100000 in
theorem open_edge {H : Type} {enc : TypeId × Value → H} {W : World} {spare : Nat → Bool} {held : Bool} {fuel : Nat} {cs : List Value} {x : DataW H × List MemPlace}
    (h : DataW.trod enc Tryd.prog W 0 spare held fuel 26 cs = some x) (hb : Rows.uptoBulk x.1 ≤ 1048576) :
    ∃ (sent heard : Int) (E : List (List Part)) (vs : List Value) (a : Option Addr) (c : Nat), cs = [.int .i64 sent, .int .i64 heard, .slice a E.length c] ∧ PendAt W a c E vs ∧ (∀ q ∈ E, OpSmall q) ∧ E.length ≤ 1048576 ∧ (-9223372036854775808 ≤ sent ∧ sent ≤ 9223372036854775807) ∧ (-9223372036854775808 ≤ heard ∧ heard ≤ 9223372036854775807) := by
  obtain ⟨y0, y1, y2, k, hxy, hlen, g0, g1, g2⟩ := trod_struct3 Tryd.underlying26 h
  rw [cells_edge] at hlen
  match cs, hlen with
  | [v0, v1, v2], _ =>
    simp only [cells_int, cells_ops, List.drop_zero, List.take_succ_cons, List.take_zero, List.drop_succ_cons] at g0 g1 g2
    obtain ⟨n0, e0, rfl, w0⟩ := DataW.trod_int Tryd.underlying3 g0
    obtain ⟨n1, e1, rfl, w1⟩ := DataW.trod_int Tryd.underlying3 g1
    simp only [List.cons.injEq, and_true] at e0 e1
    subst e0 e1
    have hb2 : Rows.uptoBulk y2.1 ≤ 1048576 := by
      rw [hxy] at hb
      simp only [Rows.uptoBulk, Rows.uptoBulkAll] at hb
      omega
    obtain ⟨E, vs, a, c, rfl, hp, hE, hl⟩ := open_ops g2 hb2
    exact ⟨n0, n1, E, vs, a, c, rfl, hp, hE, hl, bounds_i64 w0, bounds_i64 w1⟩

end Go.Proofs.YtpgcjpiabciekaaDoor
