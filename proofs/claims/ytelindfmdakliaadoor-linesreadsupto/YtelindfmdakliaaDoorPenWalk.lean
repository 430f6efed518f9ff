/-
  Walks: the pen's methods.
-/
import Derived.Test.YtelindfmdakliaaDoorPenMem
import Derived.Deep.RegionHeld3
import Derived.Deep.RegionLaw
import Derived.Deep.DeepCutAuto
import Derived.Test.YtelindfmdakliaaDoorPure
import Derived.Lib.Builder

/- Walks: the pen's methods. -/
namespace Go.Proofs.YtelindfmdakliaaDoor
open Go.RowKit Go.Lib
/-- one of the pen's own three cells is written -/
theorem penStep_set {w : World} {b : Nat} {dv iv dv' iv' : Value} {j : Nat} {u : Value} (m1 : Moves w dv dv') (m2 : Moves w iv iv') : PenStep w (w.setCell ⟨b, j, none⟩ u) b dv iv dv' iv' :=
  ⟨(Chg.refl _ w).setCell (p := ⟨b, j, none⟩) (.inl rfl) u, m1, m2⟩

theorem own_set {w : World} {B : Nat} {e : TypeId} {size : Nat} {v : Value} {n : Nat} {xs : List Value} {b j : Nat} {cs : Array Value} {T : TypeId} {fr : Nat × Nat} (h : w.ownsRow B e size v n xs) (hb : w.heap[b]? = some (.cells cs T fr)) (hT : T ≠ e) (u : Value) : (w.setCell ⟨b, j, none⟩ u).ownsRow B e size v n xs :=
  own_chg (F := fun k => k = b) h ((Chg.refl (fun k => k = b) w).setCell (p := ⟨b, j, none⟩) rfl u) (fun k hk e => by subst e; exact row_ne h hb hT hk.symm)

/-- rows of two kinds of elements are two rows -/
theorem own_ne {w : World} {B e e' size size' : Nat} {v v' : Value} {n n' : Nat} {xs xs' : List Value} (h : w.ownsRow B e size v n xs) (h' : w.ownsRow B e' size' v' n' xs') (hT : e ≠ e') : ∀ k, v.ownBlock = some k → ¬ v'.ownBlock = some k := by
  intro k hk hk'
  rcases h.2 with ⟨rfl, _⟩ | ⟨g, cap, cur, rfl, _, hg, _⟩
  · simp [Value.ownBlock] at hk
  · simp [Value.ownBlock] at hk
    subst hk
    exact row_ne h' hg hT hk'.symm

/-- 'x[:0]' of an owned row -/
theorem own_zero {w : World} {B e size : Nat} {a : Option Addr} {n cap : Nat} {xs : List Value} (h : w.ownsRow B e size (.slice a n cap) n xs) : w.ownsRow B e size (.slice a 0 cap) 0 [] := by
  refine ⟨by simp, ?_⟩
  rcases h.2 with ⟨h1, h2⟩ | ⟨g, cap', cur, h1, hb, hg, h2, h3, h4, h5⟩
  · left
    simp at h1
    obtain ⟨rfl, _, rfl⟩ := h1
    exact ⟨rfl, rfl⟩
  · right
    simp at h1
    obtain ⟨rfl, rfl⟩ := h1
    exact ⟨g, cap, cur, rfl, hb, hg, Nat.zero_le _, h3, h4, by simp⟩

set_option maxRecDepth 100000 in
set_option maxHeartbeats 1000000 in
/-- 'string(p.inserted)' -/
theorem conv_ins (w : World) (B : Nat) (iv : Value) (s : ByteArray) (h : w.ownsRow B 5 1 iv s.size (strCells s)) (hs : s.size ≠ 0) : (convert 44 9 iv).run Tryd.prog w = .ok (.string s) w := by
  obtain ⟨g, cap, rfl, _, _⟩ := h.form (by omega)
  have hc := h.cells (g := g) rfl
  have hb := run_convert_bytes_back (P := Tryd.prog) w 44 9 5 ⟨g, 0, none⟩ cap s.data.toList Tryd.underlying44 Tryd.underlying5 Tryd.underlying9 (fun j hj => hc j _ (by simp only [strCells, List.getElem?_map, List.getElem?_eq_getElem hj, Option.map_some]))
  rw [bytes_len] at hb
  exact hb

end Go.Proofs.YtelindfmdakliaaDoor

/- Walks: the pen's keep and op. -/
namespace Go.Proofs.YtelindfmdakliaaDoor
open Go.RowKit Go.Lib

theorem PenS.all_len (P : PenS) : P.all.length ≤ P.done.length + 2 := by
  unfold PenS.all waitIns waitDel
  simp only [List.length_append]
  split <;> split <;> simp

theorem grown_drew {w w' : World} {row : Option Nat} (h : w.grownBy w' row) : w.drew.grownBy w' row := ⟨h.os, h.tape, h.output, h.size, h.block⟩

/-- the last part's cells -/
theorem own_last {w : World} {B : Nat} {v : Value} {D : List Part} {p : Part} (h : w.ownsRow B 63 3 v (D ++ [p]).length (partCells (D ++ [p]))) :
    ∃ g cap, v = .slice (some ⟨g, 0, none⟩) (D.length + 1) cap ∧ w.cell? ⟨g, D.length * 3, none⟩ = some (.int .i64 p.kind) ∧ w.cell? ⟨g, D.length * 3 + 1, none⟩ = some (.int .i64 p.n) := by
  obtain ⟨g, cap, rfl, _, _⟩ := h.form (by simp)
  have hc := h.cells (g := g) rfl
  have e : partCells (D ++ [p]) = partCells D ++ [Value.int .i64 p.kind, Value.int .i64 p.n, Value.string p.text] := by rw [partCells_append, partCells_one]
  have l := partCells_length D
  have h0 := hc (D.length * 3) (.int .i64 p.kind) (by rw [e, List.getElem?_append_right (by omega), l]; simp)
  have h1 := hc (D.length * 3 + 1) (.int .i64 p.n) (by rw [e, List.getElem?_append_right (by omega), l, show D.length * 3 + 1 - D.length * 3 = 1 by omega]; rfl)
  rw [WideShapes.add_plain] at h0 h1
  simp only [Nat.zero_add] at h0 h1
  exact ⟨g, cap, by simp, h0, h1⟩

end Go.Proofs.YtelindfmdakliaaDoor

/- The pen's methods, told by the steps that it has written. -/
namespace Go.Proofs.YtelindfmdakliaaDoor
open Go.RowKit Go.Lib
end Go.Proofs.YtelindfmdakliaaDoor

/- Two pens side by side. -/
namespace Go.Proofs.YtelindfmdakliaaDoor
open Go.RowKit Go.Lib
theorem alloc2 (w : World) (A C : Obj) : Below w.heap.size w ((w.alloc A).alloc C) := ((Below.refl _ _).alloc (Nat.le_refl _) _).alloc (by simp) _

end Go.Proofs.YtelindfmdakliaaDoor

/- Walk: text.meet. -/
namespace Go.Proofs.YtelindfmdakliaaDoor
open Go.RowKit Go.Lib
end Go.Proofs.YtelindfmdakliaaDoor
