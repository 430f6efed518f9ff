/-
  Opening an argument: a tape that came in.
-/
import Derived.Test.YtknjnfknalfbdaaDoorBytesArg
import Derived.Test.YtknjnfknalfbdaaDoorTapeMem
import Derived.SizedLaws
namespace Go.Proofs.YtknjnfknalfbdaaDoor
open Go.ChangeShapes Go.WideShapes Go.ChangeAt Go.RowKit Go.Deep

theorem cells_bytes : Tryd.prog.cellsOf 75 = 1 := by kernel_rfl
set_option maxRecDepth 100000 in
theorem open_tape {H : Type} {enc : TypeId × Value → H} {W : World} {spare : Nat → Bool} {held : Bool} {fuel : Nat} {cs : List Value} {x : DataW H × List MemPlace}
    (h : DataW.trod enc Tryd.prog W 0 spare held fuel 80 cs = some x) :
    ∃ (l : List Nat) (a : Option Addr) (c : Nat) (s : Int), cs = [.slice a l.length c, .int .i64 s] ∧ BArg W a c l ∧ (∀ x ∈ l, x < 256) ∧ (-9223372036854775808 ≤ s ∧ s ≤ 9223372036854775807) ∧ l.length ≤ Rows.uptoBulk x.1 ∧ (l.length = 0 ∨ ∃ elems spare y, x.1 = .agg [.slice elems spare, y] ∧ elems.length = l.length) := by
  obtain ⟨y0, y1, n, hxy, hlen, g0, g1⟩ := trod_struct2 Tryd.underlying80 h
  rw [show Tryd.prog.cellsOf 80 = 2 by kernel_rfl] at hlen
  match cs, hlen with
  | [v0, v1], _ =>
    simp only [cells_int, cells_bytes, List.drop_zero, List.take_succ_cons, List.take_zero, List.drop_succ_cons] at g0 g1
    obtain ⟨n1, e1, rfl, w1⟩ := DataW.trod_int Tryd.underlying3 g1
    simp only [List.cons.injEq, and_true] at e1
    subst e1
    have hf : ∃ a len cap, v0 = .slice a len cap := by
      rcases open_slice1 Tryd.underlying75 cells_u8 g0 with ⟨hc, _⟩ | ⟨a', len', cap', m, n, V, D, Pl, hc, _⟩
      · simp only [List.cons.injEq, and_true] at hc
        exact ⟨_, _, _, hc⟩
      · simp only [List.cons.injEq, and_true] at hc
        exact ⟨_, _, _, hc⟩
    obtain ⟨a, len, cap, rfl⟩ := hf
    obtain ⟨l, rfl, hb, hs, h256, hc, hbk, hz⟩ := open_bytes g0
    refine ⟨l, a, cap, n1, rfl, BArg.mk' hb hs hc, h256, bounds_i64 w1, ?_, ?_⟩
    · rw [hxy]
      simp only [Rows.uptoBulk, Rows.uptoBulkAll]
      omega
    · rcases hz with hz | ⟨e, sp, h1, h2⟩
      · exact .inl hz
      · exact .inr ⟨e, sp, _, by rw [hxy]; simp only [h1]; rfl, h2⟩

/-- the row's own bound -/
theorem tape_sized {H : Type} {ts : List TypeId} {ds : List (DataW H)} {j : Nat} {elems spare : List (DataW H)} {y : DataW H} (h : (DataW.weightsEach Tryd.prog ts ds).all (· ≤ reachBytes) = true) (ht : ts[j]? = some 80) (hd : ds[j]? = some (.agg [.slice elems spare, y])) : elems.length ≤ 140737488351232 := by
  have hm : (elems.length + spare.length) * Tryd.prog.bytesOf 5 ≤ reachBytes := by
    have := List.all_eq_true.1 h _ (DataW.weights_mem_each ht hd ((elems.length + spare.length) * Tryd.prog.bytesOf 5) (by simp [DataW.weights, Tryd.underlying80, DataW.weightsEach, Tryd.underlying75]))
    simpa using this
  rw [bytes_u8] at hm
  simp only [reachBytes] at hm
  omega

end Go.Proofs.YtknjnfknalfbdaaDoor
