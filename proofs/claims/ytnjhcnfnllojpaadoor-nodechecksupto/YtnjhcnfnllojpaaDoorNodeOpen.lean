/-
  Opening the arguments: a node that came in.
-/
import Derived.Test.YtnjhcnfnllojpaaDoorNodeMem
import Derived.Test.YtnjhcnfnllojpaaDoorEdgeOpen
import Derived.Test.YtnjhcnfnllojpaaDoorLinkOpen
namespace Go.Proofs.YtnjhcnfnllojpaaDoor
open Go.ChangeShapes Go.WideShapes Go.ChangeAt Go.RowKit Go.Deep

theorem trodS4 {P : Program} {w : World} {base : Nat} {spare : Nat → Bool} {held : Bool} {H : Type} {enc : TypeId × Value → H} {t : TypeId} {f0 f1 f2 f3 : Field} {fuel : Nat} {cs : List Value} {x : DataW H × List MemPlace} (ht : P.underlying t = some (.struct #[f0, f1, f2, f3])) (h : DataW.trod enc P w base spare held fuel t cs = some x) :
    ∃ y0 y1 y2 y3 n, x.1 = .agg [y0.1, y1.1, y2.1, y3.1] ∧ cs.length = P.cellsOf t ∧ DataW.trod enc P w base spare held n f0.type ((cs.drop f0.offset).take (P.cellsOf f0.type)) = some y0 ∧
      DataW.trod enc P w base spare held n f1.type ((cs.drop f1.offset).take (P.cellsOf f1.type)) = some y1 ∧ DataW.trod enc P w base spare held n f2.type ((cs.drop f2.offset).take (P.cellsOf f2.type)) = some y2 ∧
      DataW.trod enc P w base spare held n f3.type ((cs.drop f3.offset).take (P.cellsOf f3.type)) = some y3 := by
  obtain ⟨xs, n, _, rfl, hl, hlen, hf⟩ := DataW.trod_struct ht h
  match xs, hlen with
  | [y0, y1, y2, y3], _ => exact ⟨y0, y1, y2, y3, n, by simp, hl, by simpa using hf 0 f0 rfl, by simpa using hf 1 f1 rfl, by simpa using hf 2 f2 rfl, by simpa using hf 3 f3 rfl⟩
theorem trodS8 {P : Program} {w : World} {base : Nat} {spare : Nat → Bool} {held : Bool} {H : Type} {enc : TypeId × Value → H} {t : TypeId} {f0 f1 f2 f3 f4 f5 f6 f7 : Field} {fuel : Nat} {cs : List Value} {x : DataW H × List MemPlace} (ht : P.underlying t = some (.struct #[f0, f1, f2, f3, f4, f5, f6, f7])) (h : DataW.trod enc P w base spare held fuel t cs = some x) :
    ∃ y0 y1 y2 y3 y4 y5 y6 y7 n, x.1 = .agg [y0.1, y1.1, y2.1, y3.1, y4.1, y5.1, y6.1, y7.1] ∧ cs.length = P.cellsOf t ∧ DataW.trod enc P w base spare held n f0.type ((cs.drop f0.offset).take (P.cellsOf f0.type)) = some y0 ∧
      DataW.trod enc P w base spare held n f1.type ((cs.drop f1.offset).take (P.cellsOf f1.type)) = some y1 ∧ DataW.trod enc P w base spare held n f2.type ((cs.drop f2.offset).take (P.cellsOf f2.type)) = some y2 ∧
      DataW.trod enc P w base spare held n f3.type ((cs.drop f3.offset).take (P.cellsOf f3.type)) = some y3 ∧ DataW.trod enc P w base spare held n f4.type ((cs.drop f4.offset).take (P.cellsOf f4.type)) = some y4 ∧
      DataW.trod enc P w base spare held n f5.type ((cs.drop f5.offset).take (P.cellsOf f5.type)) = some y5 ∧ DataW.trod enc P w base spare held n f6.type ((cs.drop f6.offset).take (P.cellsOf f6.type)) = some y6 ∧
      DataW.trod enc P w base spare held n f7.type ((cs.drop f7.offset).take (P.cellsOf f7.type)) = some y7 := by
  obtain ⟨xs, n, _, rfl, hl, hlen, hf⟩ := DataW.trod_struct ht h
  match xs, hlen with
  | [y0, y1, y2, y3, y4, y5, y6, y7], _ => exact ⟨y0, y1, y2, y3, y4, y5, y6, y7, n, by simp, hl, by simpa using hf 0 f0 rfl, by simpa using hf 1 f1 rfl, by simpa using hf 2 f2 rfl, by simpa using hf 3 f3 rfl, by simpa using hf 4 f4 rfl, by simpa using hf 5 f5 rfl, by simpa using hf 6 f6 rfl, by simpa using hf 7 f7 rfl⟩
theorem cells_side : Tryd.prog.cellsOf 182 = 10 := by kernel_rfl
theorem cells_mark : Tryd.prog.cellsOf 125 = 2 := by kernel_rfl
theorem cells_node : Tryd.prog.cellsOf 114 = 8 := by kernel_rfl
theorem cells_sides : Tryd.prog.cellsOf 111 = 1 := by kernel_rfl
theorem cells_marks : Tryd.prog.cellsOf 112 = 1 := by kernel_rfl
theorem cells_boolN : Tryd.prog.cellsOf 4 = 1 := by kernel_rfl

set_option maxRecDepth 100000 in
theorem open_mark {H : Type} {enc : TypeId × Value → H} {W : World} {spare : Nat → Bool} {held : Bool} {fuel : Nat} {cs : List Value} {x : DataW H × List MemPlace}
    (h : DataW.trod enc Tryd.prog W 0 spare held fuel 125 cs = some x) : ∃ m : MarkV, cs = markVals m := by
  obtain ⟨y0, y1, n, hxy, hlen, g0, g1⟩ := trod_struct2 Tryd.underlying125 h
  rw [cells_mark] at hlen
  match cs, hlen with
  | [v0, v1], _ =>
    simp only [cells_int, List.drop_zero, List.take_succ_cons, List.take_zero, List.drop_succ_cons] at g0 g1
    obtain ⟨n0, e0, rfl, w0⟩ := DataW.trod_int Tryd.underlying3 g0
    obtain ⟨n1, e1, rfl, w1⟩ := DataW.trod_int Tryd.underlying3 g1
    simp only [List.cons.injEq, and_true] at e0 e1
    subst e0 e1
    exact ⟨(n0, n1), rfl⟩

set_option maxRecDepth 100000 in
theorem open_side {H : Type} {enc : TypeId × Value → H} {W : World} {spare : Nat → Bool} {held : Bool} {fuel : Nat} {cs : List Value} {x : DataW H × List MemPlace}
    (h : DataW.trod enc Tryd.prog W 0 spare held fuel 182 cs = some x) (hb : Rows.uptoBulk x.1 ≤ 1048576) : ∃ s : SideV, cs = sideVals s ∧ SideAt W s := by
  obtain ⟨y0, y1, y2, y3, n, hxy, hlen, g0, g1, g2, g3⟩ := trodS4 Tryd.underlying182 h
  rw [cells_side] at hlen
  match cs, hlen with
  | [v0, v1, v2, v3, v4, v5, v6, v7, v8, v9], _ =>
    simp only [cells_int, cells_boolN, cells_edge, cells_link, List.drop_zero, List.take_succ_cons, List.take_zero, List.drop_succ_cons] at g0 g1 g2 g3
    obtain ⟨n0, e0, rfl, w0⟩ := DataW.trod_int Tryd.underlying3 g0
    obtain ⟨b, e1, rfl⟩ := DataW.trod_bool Tryd.underlying4 g1
    simp only [List.cons.injEq, and_true] at e0 e1
    subst e0 e1
    rw [hxy] at hb
    simp only [Rows.uptoBulk, Rows.uptoBulkAll] at hb
    obtain ⟨sent, heard, E, vs, a, c, hc, hp, hE, hl, bs, _⟩ := open_edge g2 (by omega)
    obtain ⟨ep, nx, hd, S, Q, sv, qv, hc2, i1, i2, i3, i4, i5, i6, _⟩ := open_link g3 (by omega)
    simp only [List.cons.injEq, and_true] at hc hc2
    obtain ⟨rfl, rfl, rfl⟩ := hc
    obtain ⟨rfl, rfl, rfl, rfl, rfl⟩ := hc2
    exact ⟨⟨n0, b, sent, heard, E, vs, a, c, ep, nx, hd, S, Q, _, _⟩, rfl, ⟨hp, hE, hl, bs, i1, i2, i3, i4, by simp only; omega, by simp only; omega⟩⟩

set_option maxRecDepth 100000 in
theorem open_cells {α : Type} {T E size : Nat} (hT : Tryd.prog.underlying T = some (.slice E)) (hs : Tryd.prog.cellsOf E = size) (f : α → List Value) (G : α → Prop) {H : Type} {enc : TypeId × Value → H} {W : World} {spare : Nat → Bool} {held : Bool} {fuel : Nat} {v : Value} {x : DataW H × List MemPlace} [Inhabited α]
    (hE : ∀ (n : Nat) (cs : List Value) (y : DataW H × List MemPlace), DataW.trod enc Tryd.prog W 0 spare held n E cs = some y → Rows.uptoBulk y.1 ≤ 1048576 → ∃ z : α, cs = f z ∧ G z) (hlen : ∀ z, (f z).length = size) (h0 : 0 < size)
    (h : DataW.trod enc Tryd.prog W 0 spare held fuel T [v] = some x) (hb : Rows.uptoBulk x.1 ≤ 1048576) :
    ∃ (a : Option Addr) (c : Nat) (K : List α), v = .slice a K.length c ∧ K.length ≤ c ∧ CellsAt W a size (K.map f) ∧ (∀ z ∈ K, G z) ∧ K.length ≤ 1048576 := by
  rcases open_slice hT h with ⟨hc, rfl⟩ | ⟨a', len, cap, m, n, D, Pl, hc, hb0, hl, hm, hmm, rfl, hx⟩
  · simp at hc
    subst hc
    exact ⟨none, 0, [], rfl, Nat.le_refl _, .inl rfl, by simp, by simp⟩
  · simp only [List.cons.injEq, and_true] at hc
    subst hc
    have hlm : len ≤ m := by rw [hmm]; split <;> omega
    have hall : ∀ i, i < len → Rows.uptoBulk (D i) ≤ 1048576 := fun i hi => by
      have hm' : D i ∈ (List.range len).map D := List.mem_map.2 ⟨i, List.mem_range.2 hi, rfl⟩
      have := bulk_part_le hm'
      simp only [Rows.uptoBulk] at hb
      omega
    have each : ∀ i, i < len → ∃ z : α, (∀ j u, (f z)[j]? = some u → W.cell? (a'.add (i * size + j)) = some u) ∧ G z := by
      intro i hi
      obtain ⟨cs', h1, h2⟩ := hx i (by omega)
      rw [hs] at h1
      obtain ⟨_, hln, hcell⟩ := World.cells?_some h1
      obtain ⟨z, rfl, hG⟩ := hE _ _ _ h2 (hall i hi)
      refine ⟨z, fun j u hu => ?_, hG⟩
      have q := hcell j (by have h9 := (List.getElem?_eq_some_iff.1 hu).1; rw [hlen] at h9; exact h9)
      rw [add_add] at q
      rw [q]
      exact hu
    obtain ⟨q, hq⟩ := choose_lt each
    have hblen := bulk_length_le ((List.range len).map D)
    simp only [List.length_map, List.length_range] at hblen
    have hlb : len ≤ 1048576 := by simp only [Rows.uptoBulk] at hb; omega
    refine ⟨some a', cap, (List.range len).map q, by simp, by simpa using hl, ?_, ?_, by simpa using hlb⟩
    · by_cases hz : len = 0
      · subst hz; exact .inl rfl
      · obtain ⟨b, off, spot⟩ := a'
        obtain ⟨u, hu⟩ : ∃ u, (f (q 0))[0]? = some u := ⟨_, List.getElem?_eq_getElem (by rw [hlen]; exact h0)⟩
        have hc := (hq 0 (by omega)).1 0 u hu
        have hspot : spot = none := by simpa [Addr.add] using World.cell?_spot hc
        subst hspot
        refine .inr ⟨b, off, rfl, by have h9 := World.block_lt_of_cell? W _ hc; simpa [Addr.add] using h9, fun i hi j u hj => ?_⟩
        have hi' : i < len := by simpa using hi
        simp only [List.getElem_map, List.getElem_range] at hj
        have := (hq i hi').1 j u hj
        rw [add_plain, ← Nat.add_assoc] at this
        exact this
    · intro z hz
      obtain ⟨i, hi, rfl⟩ := List.mem_map.1 hz
      exact (hq i (List.mem_range.1 hi)).2

set_option maxRecDepth 100000 in
theorem open_node {H : Type} {enc : TypeId × Value → H} {W : World} {spare : Nat → Bool} {held : Bool} {fuel : Nat} {cs : List Value} {x : DataW H × List MemPlace}
    (h : DataW.trod enc Tryd.prog W 0 spare held fuel 114 cs = some x) (hb : Rows.uptoBulk x.1 ≤ 1048576) : ∃ n : NodeV, cs = nodeVals n ∧ NodeAt W n := by
  obtain ⟨y0, y1, y2, y3, y4, y5, y6, y7, n, hxy, hlen, g0, g1, g2, g3, g4, g5, g6, g7⟩ := trodS8 Tryd.underlying114 h
  rw [cells_node] at hlen
  match cs, hlen with
  | [v0, v1, v2, v3, v4, v5, v6, v7], _ =>
    simp only [cells_int, cells_boolN, cells_string, cells_sides, cells_ops, cells_marks, List.drop_zero, List.take_succ_cons, List.take_zero, List.drop_succ_cons] at g0 g1 g2 g3 g4 g5 g6 g7
    obtain ⟨n0, e0, rfl, w0⟩ := DataW.trod_int Tryd.underlying3 g0
    obtain ⟨n1, e1, rfl, w1⟩ := DataW.trod_int Tryd.underlying3 g1
    obtain ⟨n2, e2, rfl, w2⟩ := DataW.trod_int Tryd.underlying3 g2
    obtain ⟨b, e3, rfl⟩ := DataW.trod_bool Tryd.underlying4 g3
    obtain ⟨s, e4, rfl, _⟩ := DataW.trod_string Tryd.underlying9 g4
    simp only [List.cons.injEq, and_true] at e0 e1 e2 e3 e4
    subst e0 e1 e2 e3 e4
    rw [hxy] at hb
    simp only [Rows.uptoBulk, Rows.uptoBulkAll] at hb
    have : Inhabited SideV := ⟨⟨0, false, 0, 0, [], [], none, 0, 0, 0, 0, [], [], .bool false, .bool false⟩⟩
    obtain ⟨sa, sc, K, rfl, k1, k2, k3, k4⟩ := open_cells Tryd.underlying111 cells_side sideVals (SideAt W) (fun _ _ _ h hb => open_side h hb) (fun _ => rfl) (by omega) g5 (by omega)
    obtain ⟨E, vs, ua, uc, rfl, u1, u2, u3⟩ := open_ops g6 (by omega)
    obtain ⟨ma, mc, M, rfl, m1, m2, _, m4⟩ := open_cells Tryd.underlying112 cells_mark markVals (fun _ => True) (fun _ _ _ h _ => by obtain ⟨m, hm⟩ := open_mark h; exact ⟨m, hm, trivial⟩) (fun _ => rfl) (by omega) g7 (by omega)
    have := size_list s
    exact ⟨⟨n0, n1, n2, b, s, K, sa, sc, E, vs, ua, uc, M, ma, mc⟩, rfl, ⟨by simp only; omega, ⟨k1, k2, k3⟩, u1, u2, ⟨m1, m2⟩, k4, u3, m4⟩⟩

end Go.Proofs.YtnjhcnfnllojpaaDoor
