/-
  Walks: wire.reader: refuse, take, number.
-/
import Derived.Test.YtbobeecagcmclaaDoorPenMem
import Derived.Deep.QuietTactic
import Derived.BigQuiet
namespace Go.Proofs.YtbobeecagcmclaaDoor
open Go.RowKit Go.Lib

/-- bytes of a row that is not the reader's own block -/
def Oct (w : World) (B b : Nat) (a : Option Addr) (l : List Nat) : Prop := l = [] ∨ ∃ g off, a = some ⟨g, off, none⟩ ∧ g ≠ b ∧ g < B ∧ ∀ i (h : i < l.length), w.cell? ⟨g, off + i, none⟩ = some (.int .u8 (l[i] : Int))
theorem Oct.chg {F : Nat → Prop} {w w' : World} {B b : Nat} {a : Option Addr} {l : List Nat} (h : Oct w B b a l) (hc : Chg F w w') (hB : B ≤ w.heap.size) (hF : ∀ k, F k → k = b ∨ B ≤ k) : Oct w' B b a l := by
  rcases h with rfl | ⟨g, off, rfl, hg, hl, hx⟩
  · exact .inl rfl
  · refine .inr ⟨g, off, rfl, hg, hl, fun i hi => ?_⟩
    rw [World.cell?_of_block (a := ⟨g, off + i, none⟩) (hc.block g (by omega) (fun h => by have := hF g h; omega))]
    exact hx i hi
/-- 'r.rest[:n]' and 'r.rest[n:]' -/
theorem cut_bytes (a : Option Addr) (L c n : Nat) (hn : n ≤ L) (hc : L ≤ c) (z : Int) (hz : z = (n : Int)) :
    (∀ wx : World, (Instr.slice 84 (.slice a L c) none (some (.int .i64 z)) none).run Tryd.prog wx = .ok (.slice a n c) wx) ∧
    (∀ wx : World, (Instr.slice 84 (.slice a L c) (some (.int .i64 z)) none none).run Tryd.prog wx = .ok (.slice (if c = n then a else a.map (·.add n)) (L - n) (c - n)) wx) := by
  subst hz
  have e : Tryd.prog.underlying 84 = some (.slice (Tryd.prog.elem 84)) := by kernel_rfl
  have hs : ∀ wx, (sizeOf (Tryd.prog.elem 84)).run Tryd.prog wx = .ok 1 wx := fun wx => by kernel_rfl
  refine ⟨fun wx => ?_, fun wx => ?_⟩
  · rw [run_slice_h wx 84 a L c e .i64 (n : Int) (by omega) (by omega), hs]
    simp [Result.andThen, sliced, Addr.add]
  · rw [run_slice_l wx 84 a L c e .i64 (n : Int) (by omega) (by omega), hs]
    simp [Result.andThen, sliced]

theorem oct_drop {w : World} {B b : Nat} {a : Option Addr} {l : List Nat} {c : Nat} (h : Oct w B b a l) (hc : l.length ≤ c) (n : Nat) : Oct w B b (if c = n then a else a.map (·.add n)) (l.drop n) := by
  by_cases h0 : l.drop n = []
  · exact .inl h0
  · have hl : n < l.length := by
      apply Nat.lt_of_not_le
      intro h
      exact h0 (List.drop_of_length_le h)
    rcases h with rfl | ⟨g, off, rfl, hg, hgl, hx⟩
    · simp at hl
    · refine .inr ⟨g, off + n, by rw [if_neg (by omega)]; simp [Addr.add], hg, hgl, fun i hi => ?_⟩
      rw [List.length_drop] at hi
      have := hx (n + i) (by omega)
      rw [List.getElem_drop, ← this, Nat.add_assoc]
theorem oct_take {w : World} {B b : Nat} {a : Option Addr} {l : List Nat} (h : Oct w B b a l) (n : Nat) : Oct w B b a (l.take n) := by
  rcases h with rfl | ⟨g, off, rfl, hg, hgl, hx⟩
  · exact .inl (by simp)
  · refine .inr ⟨g, off, rfl, hg, hgl, fun i hi => ?_⟩
    rw [List.length_take] at hi
    rw [List.getElem_take]
    exact hx i (by omega)

end Go.Proofs.YtbobeecagcmclaaDoor
