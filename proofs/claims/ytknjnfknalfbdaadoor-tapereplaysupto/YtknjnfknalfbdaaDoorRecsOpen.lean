/-
  Opening an argument: records that came in.
-/
import Derived.Test.YtknjnfknalfbdaaDoorRecsArg
namespace Go.Proofs.YtknjnfknalfbdaaDoor
open Go.ChangeShapes Go.WideShapes Go.ChangeAt Go.RowKit Go.Deep

theorem cells_rec : Tryd.prog.cellsOf 74 = 2 := by kernel_rfl
theorem srcRec_of {w : World} {ad : Addr} {c : Nat} {K : List RecK} (h : ∀ i (h : i < K.length), w.cell? (ad.add (i * 2)) = some (.int .i64 K[i].1.1) ∧ w.cell? (ad.add (i * 2 + 1)) = some K[i].2) : SrcRec w (some ad) c K := by
  refine .inr ⟨_, rfl, fun j u hj => ?_⟩
  have hjl : j < (cellsI K).length := (List.getElem?_eq_some_iff.1 hj).1
  rw [cellsI_length] at hjl
  obtain ⟨k1, k2⟩ := cellsI_get K (i := j / 2) (by omega)
  obtain ⟨h1, h2⟩ := h (j / 2) (by omega)
  have hm : j = j / 2 * 2 ∨ j = j / 2 * 2 + 1 := by omega
  rcases hm with hm | hm
  · rw [hm] at hj
    rw [k1] at hj
    rw [hm]
    exact h1.trans hj
  · rw [hm] at hj
    rw [k2] at hj
    rw [hm]
    exact h2.trans hj

set_option maxRecDepth 100000 in
theorem open_recs {H : Type} {enc : TypeId × Value → H} {W : World} {spare : Nat → Bool} {held : Bool} {fuel : Nat} {a0 : Option Addr} {len0 cap0 : Nat} {x : DataW H × List MemPlace}
    (h : DataW.trod enc Tryd.prog W 0 spare held fuel 86 [.slice a0 len0 cap0] = some x) (hb : Rows.uptoBulk x.1 ≤ 1048576) :
    ∃ (K : List RecK), K.length = len0 ∧ SrcRec W a0 cap0 K ∧ OpsV W K ∧ (∀ x ∈ K, OpSmall x.1.2) ∧ K.length ≤ 1048576 := by
  rcases open_slice Tryd.underlying86 h with ⟨hc, rfl⟩ | ⟨a', len, cap, m, n, D, Pl, hc, hb0, hl, hm, hmm, rfl, hx⟩
  · simp at hc
    obtain ⟨rfl, rfl, rfl⟩ := hc
    exact ⟨[], rfl, .inl ⟨rfl, rfl, rfl⟩, (fun x hx => by simp at hx), by simp, by simp⟩
  · simp only [List.cons.injEq, Value.slice.injEq, and_true] at hc
    obtain ⟨rfl, rfl, rfl⟩ := hc
    have hlm : len0 ≤ m := by rw [hmm]; split <;> omega
    have hall : ∀ i, i < len0 → Rows.uptoBulk (D i) ≤ 1048576 := fun i hi => by
      have hm' : D i ∈ (List.range len0).map D := List.mem_map.2 ⟨i, List.mem_range.2 hi, rfl⟩
      have := bulk_part_le hm'
      simp only [Rows.uptoBulk] at hb
      omega
    have each : ∀ i, i < len0 → ∃ p : RecK, W.cell? (a'.add (i * 2)) = some (.int .i64 p.1.1) ∧ W.cell? (a'.add (i * 2 + 1)) = some p.2 ∧ OpVal W p.2 p.1.2 ∧ OpSmall p.1.2 := by
      intro i hi
      obtain ⟨cs', h1, h2⟩ := hx i (by omega)
      rw [cells_rec] at h1
      obtain ⟨_, hlen, hcell⟩ := World.cells?_some h1
      obtain ⟨y0, y1, k, hxy, _, g0, g1⟩ := trod_struct2 Tryd.underlying74 h2
      match cs', hlen with
      | [v0, v1], _ =>
        simp only [cells_int, cells_op, List.drop_zero, List.take_succ_cons, List.take_zero, List.drop_succ_cons] at g0 g1
        obtain ⟨n0, e0, _, w0⟩ := DataW.trod_int Tryd.underlying3 g0
        simp only [List.cons.injEq, and_true] at e0
        subst e0
        obtain ⟨ps, k1, k2, k3⟩ := open_opVal g1
        have q0 := hcell 0 (by omega)
        have q1 := hcell 1 (by omega)
        rw [add_add] at q0 q1
        have hbi := hall i hi
        have hxy' : D i = .agg [y0.1, y1.1] := (Prod.mk.inj hxy).1
        have hby : Rows.uptoBulk y1.1 ≤ 1048576 := by
          rw [hxy'] at hbi
          simp only [Rows.uptoBulk, Rows.uptoBulkAll] at hbi
          omega
        exact ⟨((n0, ps), v1), by simpa using q0, by simpa using q1, k1, Nat.le_trans k3 hby, fun p hp => (k2 p hp).mono hby⟩
    have : Inhabited RecK := ⟨((0, []), .bool false)⟩
    obtain ⟨q, hq⟩ := choose_lt each
    have hblen := bulk_length_le ((List.range len0).map D)
    simp only [List.length_map, List.length_range] at hblen
    have hlb : len0 ≤ 1048576 := by simp only [Rows.uptoBulk] at hb; omega
    refine ⟨(List.range len0).map q, by simp, srcRec_of fun i hi => ?_, fun x hx => ?_, fun x hx => ?_, by simpa using hlb⟩
    · have hl' : i < len0 := by simpa using hi
      simp only [List.getElem_map, List.getElem_range]
      exact ⟨(hq i hl').1, (hq i hl').2.1⟩
    · obtain ⟨i, hi, rfl⟩ := List.mem_map.1 hx
      exact (hq i (List.mem_range.1 hi)).2.2.1
    · obtain ⟨i, hi, rfl⟩ := List.mem_map.1 hx
      exact (hq i (List.mem_range.1 hi)).2.2.2

end Go.Proofs.YtknjnfknalfbdaaDoor
