/-
  Rows of records of one's own; records in memory.
-/
import Derived.Test.YtbobeecagcmclaaDoorTapeDef
import Derived.OwnWalk
namespace Go.Proofs.YtbobeecagcmclaaDoor
open Go.RowKit Go.Lib

theorem own_two {w : World} {B e e' size size' : Nat} {v v' : Value} {n n' : Nat} {xs xs' : List Value} (h : w.ownsRow B e size v n xs) (h' : w.ownsRow B e' size' v' n' xs') (hT : e ≠ e') : ∀ k, v.ownBlock = some k → ¬ v'.ownBlock = some k := by
  intro k hk hk'
  rcases h.2 with ⟨rfl, _⟩ | ⟨g, cap, cur, rfl, _, hg, _⟩
  · simp [Value.ownBlock] at hk
  · simp [Value.ownBlock] at hk
    subst hk
    exact row_ne h' hg hT hk'.symm
/-- a record in a row, and the slice that holds its operation -/
abbrev RecC := RecV × Value
def recCells (K : List RecC) : List Value := K.flatMap fun x => [Value.int .i64 (x.1.1 : Int), x.2]
theorem recCells_length (K : List RecC) : (recCells K).length = K.length * 2 := by
  unfold recCells
  induction K with
  | nil => rfl
  | cons x K ih => simp only [List.flatMap_cons, List.length_append, List.length_cons, List.length_nil, ih]; omega
theorem recCells_append (a b : List RecC) : recCells (a ++ b) = recCells a ++ recCells b := by simp [recCells]
theorem recCells_one (x : RecC) : recCells [x] = [Value.int .i64 (x.1.1 : Int), x.2] := rfl
theorem recCells_get (K : List RecC) {i : Nat} (h : i < K.length) : (recCells K)[i * 2]? = some (.int .i64 (K[i].1.1 : Int)) ∧ (recCells K)[i * 2 + 1]? = some K[i].2 := by
  induction K generalizing i with
  | nil => simp at h
  | cons x K ih =>
    cases i with
    | zero => exact ⟨rfl, rfl⟩
    | succ i =>
      have := ih (i := i) (by simpa using h)
      have e1 : (i + 1) * 2 = i * 2 + 2 := by omega
      rw [e1]
      exact this
theorem info_rec : (Tryd.prog.info? 44).map (fun i => (i.zero, i.size, i.bytes)) = some (some (.agg #[.int .i64 0, .slice none 0 0]), 2, 32) := by kernel_rfl
/-- a row of records, all of them one's own -/
structure RowRecs (w : World) (B : Nat) (rv : Value) (K : List RecC) : Prop where
  row : w.ownsRow B 44 2 rv K.length (recCells K)
  each : ∀ x ∈ K, w.ownsRow B 75 3 x.2 x.1.2.length (partCells x.1.2)
theorem rowRecs_nil (w : World) (B : Nat) : RowRecs w B (.slice none 0 0) [] := ⟨World.ownsRow_nil _ _ _ _, fun x h => by simp at h⟩
theorem RowRecs.below {w w' : World} {B : Nat} {rv : Value} {K : List RecC} (h : RowRecs w B rv K) (hb : Below w.heap.size w w') : RowRecs w' B rv K :=
  ⟨own_below h.row hb, fun x hx => own_below (h.each x hx) hb⟩
theorem RowRecs.base {w : World} {B B' : Nat} {rv : Value} {K : List RecC} (h : RowRecs w B rv K) (hB : B' ≤ B) : RowRecs w B' rv K :=
  ⟨own_base h.row hB, fun x hx => own_base (h.each x hx) hB⟩
/-- a store into a block of another type -/
theorem RowRecs.stored {w w' : World} {B : Nat} {rv : Value} {K : List RecC} {b : Nat} {cs : Array Value} {T : TypeId} (h : RowRecs w B rv K) (hb : w.heap[b]? = some (.cells cs T (0, 0))) (h1 : T ≠ 44) (h2 : T ≠ 75) (hc : Chg (fun k => k = b) w w') : RowRecs w' B rv K :=
  ⟨own_chg h.row hc (fun k hk e => row_ne h.row hb h1 (by rw [← e]; exact hk.symm)), fun x hx => own_chg (h.each x hx) hc (fun k hk e => row_ne (h.each x hx) hb h2 (by rw [← e]; exact hk.symm))⟩
theorem RowRecs.app {w w' : World} {B : Nat} {rv : Value} {K : List RecC} {n : Nat} {ps : List Part} {u rv' : Value} {o : Obj} (h : RowRecs w B rv K) (hu : w.ownsRow B 75 3 u ps.length (partCells ps)) (hr : w'.ownsRow B 44 2 rv' (K.length + 1) (recCells K ++ [.int .i64 (n : Int), u])) (hg : (w.alloc o).grownBy w' rv.ownBlock) : RowRecs w' B rv' (K ++ [((n, ps), u)]) := by
  have hch : Chg (fun k => rv.ownBlock = some k) w w' := ((Chg.refl _ w).alloc _).grown hg (fun k _ e => e)
  refine ⟨by rw [List.length_append, recCells_append, recCells_one]; exact hr, fun x hx => ?_⟩
  rcases List.mem_append.1 hx with hx | hx
  · exact own_chg (h.each x hx) hch (own_two (h.each x hx) h.row (by decide))
  · simp only [List.mem_singleton] at hx
    subst hx
    exact own_chg hu hch (own_two hu h.row (by decide))

/-- records in memory -/
def RecsAt (w : World) (a : Option Addr) (rs : List RecV) : Prop :=
  rs = [] ∨ ∃ b off, a = some ⟨b, off, none⟩ ∧ b < w.heap.size ∧ ∀ i (h : i < rs.length), ∃ oa oc, w.cell? ⟨b, off + i * 2, none⟩ = some (.int .i64 (rs[i].1 : Int)) ∧ w.cell? ⟨b, off + i * 2 + 1, none⟩ = some (.slice oa rs[i].2.length oc) ∧ OpAt w oa rs[i].2
theorem RecsAt.below {w w' : World} {a : Option Addr} {rs : List RecV} (h : RecsAt w a rs) (hb : Below w.heap.size w w') : RecsAt w' a rs := by
  rcases h with rfl | ⟨b, off, rfl, hl, hc⟩
  · exact .inl rfl
  · refine .inr ⟨b, off, rfl, Nat.lt_of_lt_of_le hl hb.size, fun i hi => ?_⟩
    obtain ⟨oa, oc, h1, h2, h3⟩ := hc i hi
    exact ⟨oa, oc, (hb.cell (p := ⟨b, off + i * 2, none⟩) hl).trans h1, (hb.cell (p := ⟨b, off + i * 2 + 1, none⟩) hl).trans h2, h3.below hb⟩
theorem RowRecs.recs {w : World} {B : Nat} {rv : Value} {K : List RecC} (h : RowRecs w B rv K) : ∃ a c, rv = .slice a (K.map (·.1)).length c ∧ (K.map (·.1)).length ≤ c ∧ (a = none → c = 0) ∧ RecsAt w a (K.map (·.1)) := by
  rcases h.row.2 with ⟨rfl, h0⟩ | ⟨g, cap, cur, rfl, hb, hg, hn, hm, hs, ht⟩
  · have : K = [] := List.length_eq_zero_iff.1 h0
    subst this
    exact ⟨none, 0, rfl, Nat.le_refl _, fun _ => rfl, .inl rfl⟩
  · refine ⟨some ⟨g, 0, none⟩, cap, (by rw [List.length_map]), (by rw [List.length_map]; exact hn), (fun e => by cases e), .inr ⟨g, 0, rfl, (h.row.lt g rfl).2, fun i hi => ?_⟩⟩
    have hi' : i < K.length := by simpa using hi
    obtain ⟨c0, c1⟩ := recCells_get K hi'
    have k0 := h.row.cells (g := g) rfl _ _ c0
    have k1 := h.row.cells (g := g) rfl _ _ c1
    rw [WideShapes.add_plain] at k0 k1
    obtain ⟨oa, oc, he, hop⟩ := own_opAt (h.each K[i] (List.getElem_mem hi'))
    rw [he] at k1
    simp only [List.getElem_map]
    exact ⟨oa, oc, k0, by rw [show 0 + i * 2 + 1 = 0 + (i * 2 + 1) by omega]; exact k1, hop⟩

end Go.Proofs.YtbobeecagcmclaaDoor
