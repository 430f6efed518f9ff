/-
  Rows of operations of one's own.
-/
import Derived.Test.YtbobeecagcmclaaDoorEdgeMem
import Derived.Test.YtbobeecagcmclaaDoorPenWalk
import Derived.Test.YtbobeecagcmclaaDoorBlk
import Derived.OwnWalk
namespace Go.Proofs.YtbobeecagcmclaaDoor
open Go.RowKit Go.Lib

/-- a row of operations, all of them one's own -/
structure RowOps (w : World) (B : Nat) (ov : Value) (E : List (List Part)) (us : List Value) : Prop where
  len : us.length = E.length
  row : w.ownsRow B 31 1 ov E.length us
  each : ∀ m (h : m < us.length) (h' : m < E.length), w.ownsRow B 75 3 us[m] E[m].length (partCells E[m])
theorem rowOps_nil (w : World) (B : Nat) : RowOps w B (.slice none 0 0) [] [] := ⟨rfl, World.ownsRow_nil _ _ _ _, fun m h => by simp at h⟩
theorem RowOps.below {w w' : World} {B : Nat} {ov : Value} {E : List (List Part)} {us : List Value} (h : RowOps w B ov E us) (hb : Below w.heap.size w w') : RowOps w' B ov E us :=
  ⟨h.len, own_below h.row hb, fun m h1 h2 => own_below (h.each m h1 h2) hb⟩
theorem RowOps.base {w : World} {B B' : Nat} {ov : Value} {E : List (List Part)} {us : List Value} (h : RowOps w B ov E us) (hB : B' ≤ B) : RowOps w B' ov E us :=
  ⟨h.len, own_base h.row hB, fun m h1 h2 => own_base (h.each m h1 h2) hB⟩
/-- a store into a block of another type -/
theorem RowOps.stored {w w' : World} {B : Nat} {ov : Value} {E : List (List Part)} {us : List Value} {b : Nat} {cs : Array Value} {T : TypeId} (h : RowOps w B ov E us) (hb : w.heap[b]? = some (.cells cs T (0, 0))) (h1 : T ≠ 31) (h2 : T ≠ 75) (hc : Chg (fun k => k = b) w w') : RowOps w' B ov E us :=
  ⟨h.len, own_chg h.row hc (fun k hk e => row_ne h.row hb h1 (by rw [← e]; exact hk.symm)), fun m hm hm' => own_chg (h.each m hm hm') hc (fun k hk e => row_ne (h.each m hm hm') hb h2 (by rw [← e]; exact hk.symm))⟩
theorem RowOps.app {w w' : World} {B : Nat} {ov : Value} {E : List (List Part)} {us : List Value} {ps : List Part} {u ov' : Value} {o : Obj} (h : RowOps w B ov E us) (hu : w.ownsRow B 75 3 u ps.length (partCells ps)) (hr : w'.ownsRow B 31 1 ov' (E.length + 1) (us ++ [u])) (hg : (w.alloc o).grownBy w' ov.ownBlock) : RowOps w' B ov' (E ++ [ps]) (us ++ [u]) := by
  have hch : Chg (fun k => ov.ownBlock = some k) w w' := ((Chg.refl _ w).alloc _).grown hg (fun k _ e => e)
  have hl := h.len
  refine ⟨by simp [hl], by rw [List.length_append]; exact hr, fun m h1 h2 => ?_⟩
  by_cases hm : m < us.length
  · have hm' : m < E.length := by omega
    rw [List.getElem_append_left hm, List.getElem_append_left hm']
    exact own_chg (h.each m hm hm') hch (own_ne (h.each m hm hm') h.row (by decide))
  · have hmj : m = E.length := by simp at h2; omega
    subst hmj
    rw [List.getElem_append_right (by omega), List.getElem_append_right (by omega)]
    simp only [hl, Nat.sub_self, List.getElem_cons_zero]
    exact own_chg hu hch (own_ne hu h.row (by decide))
theorem RowOps.pend {w : World} {B : Nat} {a : Option Addr} {c : Nat} {E : List (List Part)} {us : List Value} (h : RowOps w B (.slice a E.length c) E us) : PendAt w a c E us := by
  refine ⟨h.len, ?_, ?_, fun i h1 h2 => opVal_own (h.each i h2 h1)⟩
  · rcases h.row.2 with ⟨_, h0⟩ | ⟨g, cap, cur, hv, _, _, hn, _⟩
    · rw [h0]; exact Nat.zero_le _
    · simp only [Value.slice.injEq] at hv
      omega
  · by_cases h0 : us = []
    · exact .inl h0
    · have hpos : 0 < E.length := by rw [← h.len]; exact List.length_pos_iff.2 h0
      obtain ⟨g, cap, hv, _, hlt⟩ := h.row.form hpos
      simp only [Value.slice.injEq, true_and] at hv
      obtain ⟨rfl, rfl⟩ := hv
      refine .inr ⟨g, 0, rfl, hlt, fun i hi => ?_⟩
      have := h.row.cells (g := g) rfl i us[i] (List.getElem?_eq_getElem hi)
      rw [WideShapes.add_plain] at this
      exact this
theorem info_opR : (Tryd.prog.info? 31).map (fun i => (i.zero, i.size, i.bytes)) = some (some (.slice none 0 0), 1, 24) := by kernel_rfl

end Go.Proofs.YtbobeecagcmclaaDoor
