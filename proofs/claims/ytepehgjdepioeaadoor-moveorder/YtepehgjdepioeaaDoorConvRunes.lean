/-
  '[]rune(s)' in memory.
-/
import Derived.Test.YtepehgjdepioeaaDoorLens
import Derived.Deep.QuietTactic
import Derived.BigQuiet
namespace Go.Proofs.YtepehgjdepioeaaDoor
open Go.RowKit

/-- What '[]rune(s)' lays: the runes, then zeros up to the capacity. -/
def runeRow (s : ByteArray) (cap : Nat) : Array Value := ((runes s).map fun r => Value.int .i32 (Int.ofNat r)).toArray ++ Array.replicate (cap - (runes s).length) (.int .i32 0)

/-- '[]rune(s)': the walk's fact: a slice as long as the text has runes, in new memory. -/
theorem conv_runes (s : ByteArray) (hs : s.size ≤ 70368744177664) (w : World) :
    (convert 9 46 (.string s)).run Tryd.prog w = .ok (.slice (some ⟨w.heap.size, 0, none⟩) (runes s).length (grownCap w (runes s).length 0 21))
      (w.drew.alloc (.cells (runeRow s (grownCap w (runes s).length 0 21)) 21)) := by
  have h := run_runes_of_string (P := Tryd.prog) w 9 46 21 s Tryd.underlying9 Tryd.underlying46 Tryd.underlying21 (by rw [runesFrom_size]; have := runes_le s; omega)
  rw [runesFrom_size] at h
  have e : Conv.runesFrom s s.size 0 #[] = ((runes s).map fun r => Value.int .i32 (Int.ofNat r)).toArray := by
    apply Array.ext'
    rw [runesFrom_eq]
    simp [runes]
  rw [e] at h
  exact h

theorem runeRow_get (s : ByteArray) (cap j : Nat) (h : j < (runes s).length) : (runeRow s cap)[j]? = some (.int .i32 ((runes s)[j] : Int)) := by
  unfold runeRow
  rw [Array.getElem?_append_left (by simpa using h)]
  simp [h]

end Go.Proofs.YtepehgjdepioeaaDoor
