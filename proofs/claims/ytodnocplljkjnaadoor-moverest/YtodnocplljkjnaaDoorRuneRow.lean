/-
  Rows of runes, and what steps go through.
-/
import Derived.Test.YtodnocplljkjnaaDoorPenMem
import Derived.Test.YtodnocplljkjnaaDoorPure
namespace Go.Proofs.YtodnocplljkjnaaDoor
open Go.RowKit

/-- runes as cells -/
def runeVals (l : List Nat) : List Value := l.map fun r : Nat => Value.int .i32 (r : Int)
theorem info_i32 : (Tryd.prog.info? 21).map (fun i => (i.zero, i.size, i.bytes)) = some (some (.int .i32 0), 1, 4) := by kernel_rfl

/-- 'string(out)' -/
theorem conv_back (w : World) (B : Nat) (v : Value) (l : List Nat) (h : w.ownsRow B 21 1 v l.length (runeVals l)) : (convert 40 9 v).run Tryd.prog w = .ok (.string (str l)) w := by
  by_cases hl : 0 < l.length
  · obtain ⟨g, cap, rfl, _, _⟩ := h.form hl
    have hc := h.cells (g := g) rfl
    have hr := run_convert_runes (P := Tryd.prog) w 40 9 21 ⟨g, 0, none⟩ l.length cap (l.map fun r : Nat => (r : Int)) (by simp) Tryd.underlying40 Tryd.underlying21 Tryd.underlying9 (fun j hj => hc j _ (by
      have hj' : j < l.length := by simpa using hj
      simp [runeVals, hj', List.getD]))
    have e : (l.map fun r : Nat => (r : Int)).take l.length = l.map fun r : Nat => (r : Int) := by
      rw [List.take_of_length_le (by simp)]
    rw [e, runesBytes_str] at hr
    exact hr
  · have hz : l = [] := List.length_eq_zero_iff.1 (by omega)
    subst hz
    rcases h.2 with ⟨rfl, _⟩ | ⟨g, cap, cur, rfl, _⟩
    · exact run_convert_runes_nil w _ _ _ _ _ Tryd.underlying40 Tryd.underlying21 Tryd.underlying9
    · exact run_convert_runes (P := Tryd.prog) w 40 9 21 ⟨g, 0, none⟩ 0 cap [] (by simp) Tryd.underlying40 Tryd.underlying21 Tryd.underlying9 (fun j hj => by simp at hj)

/-- how many runes of the old text steps go through -/
def olds : List Step → Nat
  | [] => 0
  | s :: l => (if s.1 = 2 then 0 else 1) + olds l
theorem olds_append (a b : List Step) : olds (a ++ b) = olds a + olds b := by
  induction a with
  | nil => simp [olds]
  | cons s a ih => simp only [List.cons_append, olds, ih]; omega
theorem olds_steps {ps : List Part} (h : ∀ p ∈ ps, Good p) : olds (steps ps) = fromN ps := by
  induction ps with
  | nil => rfl
  | cons p r ih =>
    rw [steps_cons, olds_append, ih fun q hq => h q (List.mem_cons_of_mem _ hq)]
    show _ = (if p.kind = 2 then 0 else p.n.toNat) + fromN r
    congr 1
    by_cases hk : p.kind = 2
    · rw [if_pos hk, stepsOf_ins hk]
      generalize runes p.text = rs
      induction rs with
      | nil => rfl
      | cons r rs ih => simp [olds, ih]
    · rw [if_neg hk]
      have e : stepsOf p = List.replicate p.n.toNat (p.kind, 0) := by simp [stepsOf, hk]
      rw [e]
      generalize p.n.toNat = m
      induction m with
      | zero => rfl
      | succ m ih => simp only [List.replicate_succ, olds, hk, if_false, ih]; omega
theorem steps_nonneg (ps : List Part) : ∀ s ∈ steps ps, 0 ≤ s.2 := by
  intro s hs
  obtain ⟨p, _, hs⟩ := List.mem_flatMap.1 hs
  unfold stepsOf at hs
  split at hs
  · obtain ⟨r, _, rfl⟩ := List.mem_map.1 hs
    simp
  · have := List.eq_of_mem_replicate hs
    subst this
    simp

theorem rune_row {wr w6 : World} {G g1 len cap1 : Nat} {ov : Value} {o : Obj} {cs : Array Value} {T : TypeId} {fr : Nat × Nat} (hng : ov.ownBlock ≠ some G) (hG : G < wr.heap.size) (hat : ov.ownBlock = some g1 ∨ g1 = (wr.alloc o).heap.size) (hgrow : (wr.alloc o).grownBy w6 ov.ownBlock) (hrw : wr.heap[G]? = some (.cells cs T fr)) :
    (Value.slice (some ⟨g1, 0, none⟩) len cap1).ownBlock ≠ some G ∧ w6.heap[G]? = some (.cells cs T fr) := by
  refine ⟨?_, ?_⟩
  · intro e
    simp [Value.ownBlock] at e
    subst e
    rcases hat with h | h
    · exact hng h
    · simp at h; omega
  · rw [hgrow.block G (by simp; omega) (fun e => hng e.symm)]
    exact row_old hrw o

end Go.Proofs.YtodnocplljkjnaaDoor
