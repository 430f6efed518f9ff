/-
  Opening the arguments: an operation (a slice of parts) that came in; what the bound on the bulk gives.
-/
import Derived.Test.YtelindfmdakliaaDoorRows
import Derived.Test.YtelindfmdakliaaDoorPure
import Derived.ProofKit
import Derived.OpenShut
import Derived.ChangeOld
import Derived.Deep.Slices
import Derived.Deep.Strs
namespace Go.Proofs.YtelindfmdakliaaDoor
open Go.ChangeShapes Go.WideShapes Go.ChangeAt Go.RowKit Go.Deep

/- What the bulk gives -/
theorem bulk_one_le {H : Type} (d : DataW H) : 1 ≤ Rows.uptoBulk d := by
  cases d with
  | lit l => cases l <;> simp [Rows.uptoBulk]
  | nil => simp [Rows.uptoBulk]
  | ptr d => simp [Rows.uptoBulk]
  | slice elems spare => simp [Rows.uptoBulk]
  | agg parts => simp [Rows.uptoBulk]
  | iface t d => simp [Rows.uptoBulk]
  | map entries => simp [Rows.uptoBulk]
  | held h => simp [Rows.uptoBulk]
theorem bulk_part_le {H : Type} {d : DataW H} {l : List (DataW H)} (h : d ∈ l) : Rows.uptoBulk d ≤ Rows.uptoBulkAll l := by
  induction l with
  | nil => cases h
  | cons x r ih =>
    simp only [Rows.uptoBulkAll]
    cases List.mem_cons.1 h with
    | inl e => subst e; omega
    | inr e => have := ih e; omega
theorem bulk_length_le {H : Type} (l : List (DataW H)) : l.length ≤ Rows.uptoBulkAll l := by
  induction l with
  | nil => simp [Rows.uptoBulkAll]
  | cons x r ih => have := bulk_one_le x; simp only [Rows.uptoBulkAll, List.length_cons]; omega
theorem bulk_bound {H : Type} {l : List (DataW H)} (hk : Rows.uptoSmall H l = true) : Rows.uptoBulkAll l ≤ 1048576 := of_decide_eq_true hk

theorem cells_part : Tryd.prog.cellsOf 63 = 3 := by kernel_rfl
theorem cells_int : Tryd.prog.cellsOf 3 = 1 := by kernel_rfl
theorem cells_string : Tryd.prog.cellsOf 9 = 1 := by kernel_rfl

theorem size_list (s : ByteArray) : s.data.toList.length = s.size := by rw [Array.length_toList]; rfl

set_option maxRecDepth 100000 in
/-- A slice of parts, read: its parts lie in memory; there are at most as many as the datum's bulk, and so of each text's bytes. -/
theorem open_op {H : Type} {enc : TypeId × Value → H} {W : World} {spare : Nat → Bool} {held : Bool} {fuel : Nat} {a : Option Addr} {len cap : Nat} {x : DataW H × List MemPlace}
    (h : DataW.trod enc Tryd.prog W 0 spare held fuel 25 [.slice a len cap] = some x) :
    ∃ ps : List Part, ps.length = len ∧ OpAt W a ps ∧ (∀ p ∈ ps, PartOk (Rows.uptoBulk x.1) p) ∧ len ≤ Rows.uptoBulk x.1 := by
  rcases open_slice Tryd.underlying25 h with ⟨hc, rfl⟩ | ⟨a', len', cap', m, n, D, Pl, hc, hb, hl, hm, hmm, rfl, hx⟩
  · simp at hc
    obtain ⟨rfl, rfl, rfl⟩ := hc
    exact ⟨[], rfl, .inl rfl, by simp, by simp⟩
  · simp only [List.cons.injEq, Value.slice.injEq, and_true] at hc
    obtain ⟨rfl, rfl, rfl⟩ := hc
    have hlm : len ≤ m := by rw [hmm]; split <;> omega
    have each : ∀ i, i < len → ∃ p : Int × Int × ByteArray, W.cell? (a'.add (i * 3)) = some (.int .i64 p.1) ∧ W.cell? (a'.add (i * 3 + 1)) = some (.int .i64 p.2.1) ∧ W.cell? (a'.add (i * 3 + 2)) = some (.string p.2.2) ∧
        (Lit.int .i64 p.1).wf = true ∧ (Lit.int .i64 p.2.1).wf = true ∧ p.2.2.size ≤ Rows.uptoBulk (D i) := by
      intro i hi
      obtain ⟨cs', h1, h2⟩ := hx i (by omega)
      rw [cells_part] at h1
      obtain ⟨_, hlen, hcell⟩ := World.cells?_some h1
      obtain ⟨y0, y1, y2, k, hxy, _, g0, g1, g2⟩ := trod_struct3 Tryd.underlying63 h2
      match cs', hlen with
      | [v0, v1, v2], _ =>
        simp only [cells_int, cells_string, List.drop_zero, List.take_succ_cons, List.take_zero, List.drop_succ_cons] at g0 g1 g2
        obtain ⟨n0, e0, rfl, w0⟩ := DataW.trod_int Tryd.underlying3 g0
        obtain ⟨n1, e1, rfl, w1⟩ := DataW.trod_int Tryd.underlying3 g1
        obtain ⟨s, e2, rfl, _⟩ := DataW.trod_string Tryd.underlying9 g2
        simp only [List.cons.injEq, and_true] at e0 e1 e2
        subst e0 e1 e2
        have q0 := hcell 0 (by omega)
        have q1 := hcell 1 (by omega)
        have q2 := hcell 2 (by omega)
        rw [add_add] at q0 q1 q2
        simp only [Prod.mk.injEq] at hxy
        refine ⟨(n0, n1, s), by simpa using q0, by simpa using q1, by simpa using q2, w0, w1, ?_⟩
        rw [hxy.1]
        simp only [Rows.uptoBulk, Rows.uptoBulkAll]
        have := size_list s
        omega
    have : ∃ ps : List Part, ps.length = len ∧ ∀ i (hi : i < ps.length), W.cell? (a'.add (i * 3)) = some (.int .i64 ps[i].kind) ∧ W.cell? (a'.add (i * 3 + 1)) = some (.int .i64 ps[i].n) ∧ W.cell? (a'.add (i * 3 + 2)) = some (.string ps[i].text) ∧ PartOk (Rows.uptoBulk (D i)) ps[i] := by
      obtain ⟨q, hq⟩ := choose_lt each
      refine ⟨(List.range len).map fun i => ⟨(q i).1, (q i).2.1, (q i).2.2⟩, by simp, fun i hi => ?_⟩
      have hi' : i < len := by simpa using hi
      obtain ⟨a1, a2, a3, a4, a5, a6⟩ := hq i hi'
      simp only [List.getElem_map, List.getElem_range]
      refine ⟨a1, a2, a3, ?_, ?_, a6⟩
      · exact bounds_i64 a4
      · exact bounds_i64 a5
    obtain ⟨ps, hpl, hps⟩ := this
    refine ⟨ps, hpl, ?_, ?_, ?_⟩
    · by_cases h0 : ps = []
      · exact .inl h0
      · have hpos : 0 < ps.length := List.length_pos_iff.2 h0
        obtain ⟨b, off, spot⟩ := a'
        have hc := (hps 0 hpos).1
        have hspot : spot = none := by simpa [Addr.add] using World.cell?_spot hc
        subst hspot
        refine .inr ⟨b, off, rfl, World.block_lt_of_cell? W _ hc, fun i hi => ?_⟩
        obtain ⟨a1, a2, a3, _⟩ := hps i hi
        simp only [add_plain] at a1 a2 a3
        exact ⟨a1, by simpa [Nat.add_assoc] using a2, by simpa [Nat.add_assoc] using a3⟩
    · intro p hp
      obtain ⟨i, hi, rfl⟩ := List.getElem_of_mem hp
      obtain ⟨_, _, _, k1, k2, k3⟩ := hps i hi
      refine ⟨k1, k2, Nat.le_trans k3 ?_⟩
      have hm' : D i ∈ (List.range len).map D := List.mem_map.2 ⟨i, List.mem_range.2 (by omega), rfl⟩
      have := bulk_part_le hm'
      simp only [Rows.uptoBulk]
      omega
    · have := bulk_length_le ((List.range len).map D)
      simp only [List.length_map, List.length_range] at this
      simp only [Rows.uptoBulk]
      omega

end Go.Proofs.YtelindfmdakliaaDoor
