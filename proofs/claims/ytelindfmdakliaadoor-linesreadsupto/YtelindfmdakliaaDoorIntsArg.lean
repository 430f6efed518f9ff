/-
  Opening an argument: numbers that came in.
-/
import Derived.Test.YtelindfmdakliaaDoorTreeAt
import Derived.Test.YtelindfmdakliaaDoorOpen
namespace Go.Proofs.YtelindfmdakliaaDoor
open Go.ChangeShapes Go.WideShapes Go.ChangeAt Go.RowKit Go.Deep

theorem cells_int1 : Tryd.prog.cellsOf 3 = 1 := by kernel_rfl

set_option maxRecDepth 100000 in
theorem open_ints {T : TypeId} (hT : Tryd.prog.underlying T = some (.slice 3)) {H : Type} {enc : TypeId × Value → H} {W : World} {spare : Nat → Bool} {held : Bool} {fuel : Nat} {a : Option Addr} {len cap : Nat} {x : DataW H × List MemPlace}
    (h : DataW.trod enc Tryd.prog W 0 spare held fuel T [.slice a len cap] = some x) :
    ∃ l : List Int, l.length = len ∧ Ints W a l ∧ (∀ n ∈ l, -9223372036854775808 ≤ n ∧ n ≤ 9223372036854775807) ∧ len ≤ 9223372036854775807 ∧ len ≤ cap := by
  rcases open_slice1 hT cells_int1 h with ⟨hc, rfl⟩ | ⟨a', len', cap', m, n, V, D, Pl, hc, hb, hl, hm, hmm, rfl, hx⟩
  · simp at hc
    obtain ⟨rfl, rfl, rfl⟩ := hc
    exact ⟨[], rfl, .inl rfl, by simp, by simp, Nat.le_refl _⟩
  · simp only [List.cons.injEq, Value.slice.injEq, and_true] at hc
    obtain ⟨rfl, rfl, rfl⟩ := hc
    have hlm : len ≤ m := by rw [hmm]; split <;> omega
    have each : ∀ i, i < len → ∃ p : Int, W.cell? (a'.add i) = some (.int .i64 p) ∧ -9223372036854775808 ≤ p ∧ p ≤ 9223372036854775807 := by
      intro i hi
      obtain ⟨h1, h2⟩ := hx i (by omega)
      obtain ⟨n0, e0, _, w0⟩ := DataW.trod_int Tryd.underlying3 h2
      simp only [List.cons.injEq, and_true] at e0
      rw [e0] at h1
      exact ⟨n0, h1, bounds_i64 w0⟩
    obtain ⟨q, hq⟩ := choose_lt each
    have hcs : ∀ i (hi : i < ((List.range len).map q).length), W.cell? (a'.add i) = some (.int .i64 ((List.range len).map q)[i]) ∧ (-9223372036854775808 ≤ ((List.range len).map q)[i] ∧ ((List.range len).map q)[i] ≤ 9223372036854775807) := by
      intro i hi
      have hi' : i < len := by simpa using hi
      simp only [List.getElem_map, List.getElem_range]
      exact hq i hi'
    have hlen : ((List.range len).map q).length = len := by simp
    generalize (List.range len).map q = l at *
    refine ⟨l, hlen, ?_, ?_, ?_, hl⟩
    · by_cases h0 : l = []
      · exact .inl h0
      · have hpos : 0 < l.length := List.length_pos_iff.2 h0
        obtain ⟨b, off, spot⟩ := a'
        have hc := (hcs 0 hpos).1
        have hspot : spot = none := by simpa [Addr.add] using World.cell?_spot hc
        subst hspot
        refine .inr ⟨b, off, rfl, World.block_lt_of_cell? W _ hc, fun i hi => ?_⟩
        have := (hcs i hi).1
        rw [add_plain] at this
        exact this
    · intro y hy
      obtain ⟨i, hi, rfl⟩ := List.getElem_of_mem hy
      exact (hcs i hi).2
    · simp only [maxLen] at hm
      omega

end Go.Proofs.YtelindfmdakliaaDoor
