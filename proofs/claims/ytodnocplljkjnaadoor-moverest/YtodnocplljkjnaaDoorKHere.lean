/-
  Walk: wherrykeep.here; parts of a text's runes as texts.
-/
import Derived.Test.YtodnocplljkjnaaDoorKCalls
import Derived.Test.YtodnocplljkjnaaDoorPureLaws
namespace Go.Proofs.YtodnocplljkjnaaDoor
open Go.RowKit Go.Lib

theorem mason_new (w : World) (left : Int) : MasonAt (w.alloc (.cells #[.slice none 0 0, .int .i64 left] 30)) w.heap.size w.heap.size (.slice none 0 0) (group []) left :=
  ⟨Nat.le_refl _, heap_alloc_new w _, World.ownsRow_nil _ _ _ _⟩
theorem str_le {rs : List Nat} (h : ∀ r ∈ rs, CP r) : (str rs).size ≤ 4 * rs.length := by
  have e1 : (str rs).size = (encs rs).length := by rw [← str_bytes, bytes_len]
  have := encs_le h
  omega
theorem noDel_canon {S : List Step} (h : StepsOk S) (hl : S.length ≤ 4000) (hd : ∀ s ∈ S, s.1 ≠ 3) : steps (group S) = S := ((group_sim h hl).symm.eq_noDel hd).symm

/-- 'string(r[i:j])' of the runes of a text -/
theorem conv_part (w : World) (s : ByteArray) (c G i n cap : Nat) (hG : w.heap[G]? = some (.cells (runeRow s c) 21 (0, 0))) (h : i + n ≤ (runes s).length) :
    (convert 40 9 (.slice (some ⟨G, i, none⟩) n cap)).run Tryd.prog w = .ok (.string (str (((runes s).drop i).take n))) w := by
  have hr := run_convert_runes (P := Tryd.prog) w 40 9 21 ⟨G, i, none⟩ n cap ((((runes s).drop i).take n).map fun r : Nat => (r : Int)) (by simp; omega) Tryd.underlying40 Tryd.underlying21 Tryd.underlying9 (fun j hj => by
    have hj' : j < n := by simp at hj; omega
    rw [WideShapes.add_plain]
    rw [cell_of_row _ _ _ _ _ _ hG, runeRow_get s c (i + j) (by omega)]
    congr 2
    rw [List.getD_eq_getElem?_getD, List.getElem?_map, List.getElem?_take, if_pos hj', List.getElem?_drop, List.getElem?_eq_getElem (by omega)]
    rfl)
  have e : ((((runes s).drop i).take n).map fun r : Nat => (r : Int)).take n = (((runes s).drop i).take n).map fun r : Nat => (r : Int) := by
    rw [List.take_of_length_le (by simp; omega)]
  rw [e, runesBytes_str] at hr
  exact hr

/-- 'string(r[x:])' of the runes of a text, as the walk writes it -/
theorem conv_tail (w : World) (s : ByteArray) (c G x n m : Nat) (hG : w.heap[G]? = some (.cells (runeRow s c) 21 (0, 0))) (hn : n = (runes s).length) (hx : x ≤ n) (hm : n ≤ m) :
    (convert 40 9 (.slice (if m = x then some ⟨G, 0, none⟩ else some ⟨G, x, none⟩) (n - x) (m - x))).run Tryd.prog w = .ok (.string (str ((runes s).drop x))) w := by
  by_cases h : m = x
  · rw [if_pos h]
    have h0 : n - x = 0 := by omega
    have := conv_part w s c G 0 (n - x) (m - x) hG (by omega)
    rw [this, List.drop_zero, h0, List.take_zero, List.drop_of_length_le (by omega)]
  · rw [if_neg h]
    have := conv_part w s c G x (n - x) (m - x) hG (by omega)
    rw [this, List.take_of_length_le (by simp; omega)]
/-- 'r[x:]', under a name -/
def cutV (G x n m : Nat) : Value := .slice (if m = x then some ⟨G, 0, none⟩ else some ⟨G, x, none⟩) (n - x) (m - x)
theorem run_cutV (w : World) (G x n m : Nat) (h : (x : Int) ≤ (n : Int)) : (Instr.slice 40 (.slice (some ⟨G, 0, none⟩) n m) (some (.int .i64 (x : Int))) none none).run Tryd.prog w = .ok (cutV G x n m) w := by
  have h0 : (0 : Int) ≤ (x : Int) := by omega
  have e : Tryd.prog.underlying 40 = some (.slice (Tryd.prog.elem 40)) := by kernel_rfl
  rw [run_slice_l w 40 (some ⟨G, 0, none⟩) n m e .i64 (x : Int) h0 h]
  have hs : (sizeOf (Tryd.prog.elem 40)).run Tryd.prog w = .ok 1 w := by kernel_rfl
  rw [hs]
  by_cases hx : x = 0
  · subst hx; simp [Result.andThen, sliced, cutV, Addr.add]
  · simp [Result.andThen, sliced, cutV, Addr.add, hx]

end Go.Proofs.YtodnocplljkjnaaDoor
