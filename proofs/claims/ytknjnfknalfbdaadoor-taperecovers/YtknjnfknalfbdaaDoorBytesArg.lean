/-
  Opening an argument: bytes that came in.
-/
import Derived.Test.YtknjnfknalfbdaaDoorBytesOpen
import Derived.Test.YtknjnfknalfbdaaDoorOpen
namespace Go.Proofs.YtknjnfknalfbdaaDoor
open Go.ChangeShapes Go.WideShapes Go.ChangeAt Go.RowKit Go.Deep

theorem bytes_u8 : Tryd.prog.bytesOf 5 = 1 := by kernel_rfl
theorem cells_u8 : Tryd.prog.cellsOf 5 = 1 := by kernel_rfl

set_option maxRecDepth 100000 in
theorem open_bytes {H : Type} {enc : TypeId × Value → H} {W : World} {spare : Nat → Bool} {held : Bool} {fuel : Nat} {a : Option Addr} {len cap : Nat} {x : DataW H × List MemPlace}
    (h : DataW.trod enc Tryd.prog W 0 spare held fuel 75 [.slice a len cap] = some x) :
    ∃ l : List Nat, l.length = len ∧ Bytes W a l ∧ SrcB W a cap l ∧ (∀ x ∈ l, x < 256) ∧ len ≤ cap ∧ len ≤ Rows.uptoBulk x.1 ∧ (len = 0 ∨ ∃ elems spare, x.1 = .slice elems spare ∧ elems.length = len) := by
  rcases open_slice1 Tryd.underlying75 cells_u8 h with ⟨hc, rfl⟩ | ⟨a', len', cap', m, n, V, D, Pl, hc, hb, hl, hm, hmm, rfl, hx⟩
  · simp at hc
    obtain ⟨rfl, rfl, rfl⟩ := hc
    exact ⟨[], rfl, .inl rfl, .inl ⟨rfl, rfl, rfl⟩, by simp, Nat.le_refl _, by simp, .inl rfl⟩
  · simp only [List.cons.injEq, Value.slice.injEq, and_true] at hc
    obtain ⟨rfl, rfl, rfl⟩ := hc
    have hlm : len ≤ m := by rw [hmm]; split <;> omega
    have each : ∀ i, i < len → ∃ p : Nat, W.cell? (a'.add i) = some (.int .u8 (p : Int)) ∧ p < 256 := by
      intro i hi
      obtain ⟨h1, h2⟩ := hx i (by omega)
      obtain ⟨n0, e0, _, w0⟩ := DataW.trod_int Tryd.underlying5 h2
      simp only [List.cons.injEq, and_true] at e0
      rw [e0] at h1
      have hb := bounds_u8 w0
      exact ⟨n0.toNat, by rw [show ((n0.toNat : Nat) : Int) = n0 by omega]; exact h1, by omega⟩
    obtain ⟨q, hq⟩ := choose_lt each
    have hcs : ∀ i (hi : i < ((List.range len).map q).length), W.cell? (a'.add i) = some (.int .u8 (((List.range len).map q)[i] : Int)) ∧ ((List.range len).map q)[i] < 256 := by
      intro i hi
      have hi' : i < len := by simpa using hi
      simp only [List.getElem_map, List.getElem_range]
      exact hq i hi'
    have hlen : ((List.range len).map q).length = len := by simp
    generalize (List.range len).map q = l at *
    refine ⟨l, hlen, ?_, ?_, ?_, hl, ?_, .inr ⟨_, _, rfl, by simp⟩⟩
    · by_cases h0 : l = []
      · exact .inl h0
      · have hpos : 0 < l.length := List.length_pos_iff.2 h0
        obtain ⟨b, off, spot⟩ := a'
        have hc := (hcs 0 hpos).1
        have hspot : spot = none := by simpa [Addr.add] using World.cell?_spot hc
        subst hspot
        refine .inr ⟨b, off, rfl, World.block_lt_of_cell? W _ hc, fun i hi => ?_⟩
        have := (hcs i hi).1
        rw [add_plain] at this
        exact this
    · refine .inr ⟨a', rfl, fun j u hj => ?_⟩
      have hjl : j < l.length := by
        have := (List.getElem?_eq_some_iff.1 hj).1
        rwa [octs_length] at this
      rw [octs_get hjl] at hj
      cases hj
      exact (hcs j hjl).1
    · intro y hy
      obtain ⟨i, hi, rfl⟩ := List.getElem_of_mem hy
      exact (hcs i hi).2
    · have := bulk_length_le ((List.range len).map D)
      simp only [List.length_map, List.length_range] at this
      simp only [Rows.uptoBulk]
      omega

end Go.Proofs.YtknjnfknalfbdaaDoor
