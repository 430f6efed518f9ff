/-
  Sides in memory: their operations that are pending.
-/
import Derived.Test.YtbobeecagcmclaaDoorPenMem
import Derived.Test.YtbobeecagcmclaaDoorPureLaws
namespace Go.Proofs.YtbobeecagcmclaaDoor
open Go.RowKit Go.Lib

/-- an operation as a value -/
structure OpVal (w : World) (v : Value) (ps : List Part) : Prop where
  form : ∃ a c, v = .slice a ps.length c ∧ OpAt w a ps ∧ ps.length ≤ c ∧ SrcOp w a c ps
theorem srcOp_below {w w' : World} {a : Option Addr} {c : Nat} {ps : List Part} (h : SrcOp w a c ps) (ho : OpAt w a ps) (hb : Below w.heap.size w w') : SrcOp w' a c ps := by
  rcases h with h | ⟨ad, rfl, hc⟩
  · exact .inl h
  · refine .inr ⟨ad, rfl, fun j u hj => ?_⟩
    have h1 := hc j u hj
    have hl := World.block_lt_of_cell? w _ h1
    have := hb.cell (p := ad.add j) hl
    rw [this]
    exact h1
theorem OpVal.below {w w' : World} {v : Value} {ps : List Part} (h : OpVal w v ps) (hb : Below w.heap.size w w') : OpVal w' v ps := by
  obtain ⟨a, c, rfl, h1, h2, h3⟩ := h.form
  exact ⟨a, c, rfl, h1.below hb, h2, srcOp_below h3 h1 hb⟩
theorem opVal_own {w : World} {B : Nat} {v : Value} {ps : List Part} (h : w.ownsRow B 75 3 v ps.length (partCells ps)) : OpVal w v ps := by
  obtain ⟨a, c, e, ho, hc⟩ := own_opAt' h
  obtain ⟨a', c', e', hs⟩ := srcOp_own h
  rw [e] at e'
  simp only [Value.slice.injEq, true_and] at e'
  obtain ⟨rfl, rfl⟩ := e'
  exact ⟨a, c, e, ho, hc, hs⟩

/-- a slice of values in memory, a cell each -/
def ValsAt (w : World) (a : Option Addr) (vs : List Value) : Prop := vs = [] ∨ ∃ b off, a = some ⟨b, off, none⟩ ∧ b < w.heap.size ∧ ∀ i (h : i < vs.length), w.cell? ⟨b, off + i, none⟩ = some vs[i]
theorem ValsAt.below {w w' : World} {a : Option Addr} {vs : List Value} (h : ValsAt w a vs) (hb : Below w.heap.size w w') : ValsAt w' a vs := by
  rcases h with rfl | ⟨b, off, rfl, hl, hc⟩
  · exact .inl rfl
  · exact .inr ⟨b, off, rfl, Nat.lt_of_lt_of_le hl hb.size, fun i hi => (hb.cell (p := ⟨b, off + i, none⟩) hl).trans (hc i hi)⟩
/-- what is pending, in memory -/
structure PendAt (w : World) (a : Option Addr) (c : Nat) (E : List (List Part)) (vs : List Value) : Prop where
  len : vs.length = E.length
  cap : E.length ≤ c
  vals : ValsAt w a vs
  each : ∀ i (h : i < E.length) (h' : i < vs.length), OpVal w vs[i] E[i]
theorem PendAt.below {w w' : World} {a : Option Addr} {c : Nat} {E : List (List Part)} {vs : List Value} (h : PendAt w a c E vs) (hb : Below w.heap.size w w') : PendAt w' a c E vs :=
  ⟨h.len, h.cap, h.vals.below hb, fun i hi hi' => (h.each i hi hi').below hb⟩

/-- operations whose numbers and texts are not too great -/
def OpSmall (ps : List Part) : Prop := ps.length ≤ 1048576 ∧ ∀ p ∈ ps, PartOk 1048576 p

/-- does an operation fit behind these? -/
def fitsB (E : List (List Part)) (ps : List Part) : Bool := match E.getLast? with
  | none => true
  | some q => decide ((lens ps).1 = (lens q).2)
/-- P2.1 of what is pending -/
def pendOkB : List (List Part) → List (List Part) → Bool
  | _, [] => true
  | P, ps :: R => decide (opErr ps = 0) && fitsB P ps && pendOkB (P ++ [ps]) R
/-- P2.1 -/
def edgeOkB (sent heard : Int) (E : List (List Part)) : Bool := decide (0 ≤ sent ∧ sent ≤ 1048576) && decide (0 ≤ heard ∧ heard ≤ 1048576) && decide ((E.length : Int) ≤ sent) && pendOkB [] E
def edgeErr (sent heard : Int) (E : List (List Part)) : Int := if edgeOkB sent heard E = true then 0 else 9

theorem pendOkB_step (E : List (List Part)) (j : Nat) (h : j < E.length) : pendOkB (E.take j) (E.drop j) = (decide (opErr E[j] = 0) && fitsB (E.take j) E[j] && pendOkB (E.take (j + 1)) (E.drop (j + 1))) := by
  rw [List.drop_eq_getElem_cons h]
  show (decide (opErr E[j] = 0) && fitsB (E.take j) E[j] && pendOkB (E.take j ++ [E[j]]) (E.drop (j + 1))) = _
  rw [← List.take_succ_eq_append_getElem h]

end Go.Proofs.YtbobeecagcmclaaDoor
