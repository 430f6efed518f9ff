/-
  Opening the arguments: a side of a session that came in.
-/
import Derived.Test.YtnpjcdfkjgenbaaDoorLinkMem
import Derived.Test.YtnpjcdfkjgenbaaDoorWireOpen
namespace Go.Proofs.YtnpjcdfkjgenbaaDoor
open Go.ChangeShapes Go.WideShapes Go.ChangeAt Go.RowKit Go.Deep

theorem cells_frames : Tryd.prog.cellsOf 22 = 1 := by kernel_rfl
theorem cells_link : Tryd.prog.cellsOf 24 = 5 := by kernel_rfl

set_option maxRecDepth 100000 in
theorem open_frames {H : Type} {enc : TypeId × Value → H} {W : World} {spare : Nat → Bool} {held : Bool} {fuel : Nat} {v : Value} {x : DataW H × List MemPlace}
    (h : DataW.trod enc Tryd.prog W 0 spare held fuel 22 [v] = some x) (hb : Rows.uptoBulk x.1 ≤ 1048576) :
    ∃ K : List FrK, InK frS W 0 v K ∧ (∀ x ∈ K, FrSmall x.1) ∧ K.length ≤ 1048576 := by
  rcases open_slice Tryd.underlying22 h with ⟨hc, rfl⟩ | ⟨a', len, cap, m, n, D, Pl, hc, hb0, hl, hm, hmm, rfl, hx⟩
  · simp at hc
    subst hc
    exact ⟨[], inK_nil _ _ _, by simp, by simp⟩
  · simp only [List.cons.injEq, and_true] at hc
    subst hc
    have hlm : len ≤ m := by rw [hmm]; split <;> omega
    have hall : ∀ i, i < len → Rows.uptoBulk (D i) ≤ 1048576 := fun i hi => by
      have hm' : D i ∈ (List.range len).map D := List.mem_map.2 ⟨i, List.mem_range.2 hi, rfl⟩
      have := bulk_part_le hm'
      simp only [Rows.uptoBulk] at hb
      omega
    have each : ∀ i, i < len → ∃ p : FrK, (∀ j u, j < 5 → (frVals p.1 p.2)[j]? = some u → W.cell? (a'.add (i * 5 + j)) = some u) ∧ OpVal W p.2 p.1.op ∧ FrSmall p.1 := by
      intro i hi
      obtain ⟨cs', h1, h2⟩ := hx i (by omega)
      rw [cells_frame] at h1
      obtain ⟨_, hlen, hcell⟩ := World.cells?_some h1
      obtain ⟨k, hd, e, ps, a, c, tx, rfl, k1, k2, k3, k4, _⟩ := open_frame h2 (hall i hi)
      refine ⟨(⟨k, hd, e, ps, tx⟩, .slice a ps.length c), fun j u hj hu => ?_, k1, ⟨k3, k4⟩⟩
      have q := hcell j (by simpa using hj)
      rw [add_add] at q
      rw [q]
      have hu' : ([Value.int .i64 k, .int .i64 hd, .int .i64 e, .slice a ps.length c, .string tx])[j]? = some u := hu
      exact hu'
    have : Inhabited FrK := ⟨(fr0, .bool false)⟩
    obtain ⟨q, hq⟩ := choose_lt each
    have hblen := bulk_length_le ((List.range len).map D)
    simp only [List.length_map, List.length_range] at hblen
    have hlb : len ≤ 1048576 := by simp only [Rows.uptoBulk] at hb; omega
    refine ⟨(List.range len).map q, ⟨⟨some a', cap, by simp, by simpa using hl, (fun e => by cases e), ?_⟩, ?_⟩, ?_, by simpa using hlb⟩
    · by_cases h0 : len = 0
      · subst h0; exact .inl rfl
      · obtain ⟨b, off, spot⟩ := a'
        have hc := (hq 0 (by omega)).1 0 _ (by omega) rfl
        have hspot : spot = none := by simpa [Addr.add] using World.cell?_spot hc
        subst hspot
        refine .inr ⟨b, off, rfl, Nat.zero_le _, World.block_lt_of_cell? W _ hc, fun j u hj => ?_⟩
        have hjl : j < (frS.all ((List.range len).map q)).length := (List.getElem?_eq_some_iff.1 hj).1
        rw [frS.all_length] at hjl
        have h5 : frS.size = 5 := rfl
        rw [h5] at hjl
        simp only [List.length_map, List.length_range] at hjl
        have hi : j / 5 < len := by omega
        have g := frS.all_get ((List.range len).map q) (i := j / 5) (j := j % 5) (by simpa using hi) (by rw [h5]; omega)
        rw [h5, show j / 5 * 5 + j % 5 = j by omega] at g
        rw [g] at hj
        simp only [List.getElem_map, List.getElem_range] at hj
        have := (hq (j / 5) hi).1 (j % 5) u (by omega) hj
        rw [add_plain, show j / 5 * 5 + j % 5 = j by omega] at this
        exact this
    · intro y hy
      obtain ⟨i, hi, rfl⟩ := List.mem_map.1 hy
      exact slIn_opVal (hq i (List.mem_range.1 hi)).2.1
    · intro y hy
      obtain ⟨i, hi, rfl⟩ := List.mem_map.1 hy
      exact (hq i (List.mem_range.1 hi)).2.2

set_option maxRecDepth 100000 in
theorem open_link {H : Type} {enc : TypeId × Value → H} {W : World} {spare : Nat → Bool} {held : Bool} {fuel : Nat} {cs : List Value} {x : DataW H × List MemPlace}
    (h : DataW.trod enc Tryd.prog W 0 spare held fuel 24 cs = some x) (hb : Rows.uptoBulk x.1 ≤ 1048576) :
    ∃ (ep nx hd : Int) (S Q : List FrK) (sv qv : Value), cs = [.int .i64 ep, .int .i64 nx, sv, qv, .int .i64 hd] ∧ InK frS W 0 sv S ∧ InK frS W 0 qv Q ∧ (∀ x ∈ S, FrSmall x.1) ∧ (∀ x ∈ Q, FrSmall x.1) ∧ S.length ≤ 1048576 ∧ Q.length ≤ 1048576 ∧ (-9223372036854775808 ≤ ep ∧ ep ≤ 9223372036854775807) ∧ (-9223372036854775808 ≤ nx ∧ nx ≤ 9223372036854775807) ∧ (-9223372036854775808 ≤ hd ∧ hd ≤ 9223372036854775807) := by
  obtain ⟨y0, y1, y2, y3, y4, n, hxy, hlen, g0, g1, g2, g3, g4⟩ := trodS5 Tryd.underlying24 h
  rw [cells_link] at hlen
  match cs, hlen with
  | [v0, v1, v2, v3, v4], _ =>
    simp only [cells_int, cells_frames, List.drop_zero, List.take_succ_cons, List.take_zero, List.drop_succ_cons] at g0 g1 g2 g3 g4
    obtain ⟨n0, e0, rfl, w0⟩ := DataW.trod_int Tryd.underlying3 g0
    obtain ⟨n1, e1, rfl, w1⟩ := DataW.trod_int Tryd.underlying3 g1
    obtain ⟨n4, e4, rfl, w4⟩ := DataW.trod_int Tryd.underlying3 g4
    simp only [List.cons.injEq, and_true] at e0 e1 e4
    subst e0 e1 e4
    rw [hxy] at hb
    simp only [Rows.uptoBulk, Rows.uptoBulkAll] at hb
    obtain ⟨S, h1, h2, h3⟩ := open_frames g2 (by omega)
    obtain ⟨Q, i1, i2, i3⟩ := open_frames g3 (by omega)
    exact ⟨n0, n1, n4, S, Q, v2, v3, rfl, h1, i1, h2, i2, h3, i3, bounds_i64 w0, bounds_i64 w1, bounds_i64 w4⟩

end Go.Proofs.YtnpjcdfkjgenbaaDoor
