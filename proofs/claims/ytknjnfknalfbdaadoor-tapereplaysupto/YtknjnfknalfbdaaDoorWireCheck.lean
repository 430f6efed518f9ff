/-
  Walks: the checks of package wire.
-/
import Derived.Test.YtknjnfknalfbdaaDoorCheck
import Derived.Deep.QuietTactic
import Derived.BigQuiet
namespace Go.Proofs.YtknjnfknalfbdaaDoor
open Go.RowKit Go.Lib

/-- a number from 0 to 2^20 -/
def inN (n : Int) : Bool := decide (0 ≤ n ∧ n ≤ 1048576)
/-- has a frame what its kind has? -/
def ownB (k h e : Int) (n : Nat) (tx : ByteArray) : Bool := if k = 1 then decide (e = 0) && decide (tx.size = 0) else if k = 2 then !decide (e = 0) && decide (n = 0) && decide (tx.size = 0) else !decide (e = 0) && decide (n = 0) && decide (h = 0)
/-- P3.1 -/
def frameErr (k h e : Int) (ps : List Part) (tx : ByteArray) : Int := if ¬ (k = 1 ∨ k = 2 ∨ k = 3) then 3 else if inN h = false then 2 else if inN e = false then 2 else if opErr ps ≠ 0 then opErr ps else if textErr tx ≠ 0 then textErr tx else if ownB k h e ps.length tx = true then 0 else 4
/-- P3.3 -/
def recordErr (e : Int) (ps : List Part) : Int := if inN e = false then 2 else if e ≠ 0 ∧ ps.length ≠ 0 then 4 else opErr ps
/-- an empty frame -/
def emptyB (k h e : Int) (n : Nat) (tx : ByteArray) : Bool := decide (k = 0) && decide (h = 0) && decide (e = 0) && decide (n = 0) && decide (tx.size = 0)
/-- P3.2 -/
def packetErr (ep num : Int) (bare : Bool) (ack k h e : Int) (ps : List Part) (tx : ByteArray) : Int := if inN ep = false then 2 else if inN num = false then 2 else if inN ack = false then 2 else if bare = true then (if num = 0 ∧ emptyB k h e ps.length tx = true then 0 else 4) else if num = 0 then 4 else if ep = 0 then 4 else frameErr k h e ps tx

theorem frame_cells {w : World} {b : Nat} {x0 x1 x2 x3 x4 : Value} (h : w.heap[b]? = some (.cells #[x0, x1, x2, x3, x4] 130 (0, 0))) : w.cell? ⟨b, 0, none⟩ = some x0 ∧ w.cell? ⟨b, 1, none⟩ = some x1 ∧ w.cell? ⟨b, 2, none⟩ = some x2 ∧ w.cell? ⟨b, 3, none⟩ = some x3 ∧ w.cell? ⟨b, 4, none⟩ = some x4 :=
  ⟨by rw [cell_of_row _ _ _ _ _ _ h]; rfl, by rw [cell_of_row _ _ _ _ _ _ h]; rfl, by rw [cell_of_row _ _ _ _ _ _ h]; rfl, by rw [cell_of_row _ _ _ _ _ _ h]; rfl, by rw [cell_of_row _ _ _ _ _ _ h]; rfl⟩

set_option maxHeartbeats 400000 in
theorem wcounts_same (n : Int) (w : World) :
    Calls Tryd.prog 102 #[.int .i64 n] w fun e w' => e = .returned (.bool (inN n)) ∧ w' = w := by
  unfold inN
  by_cases h1 : 0 ≤ n
  · by_cases h2 : n ≤ 1048576
    · have e : decide (0 ≤ n ∧ n ≤ 1048576) = true := decide_eq_true ⟨h1, h2⟩
      rw [e]
      clear e
      go_enter Tryd.func102, Tryd.ntmps102
      go_wp2
      go_ret
      exact ⟨rfl, rfl⟩
    · have e : decide (0 ≤ n ∧ n ≤ 1048576) = false := decide_eq_false fun h => h2 h.2
      rw [e]
      clear e
      go_enter Tryd.func102, Tryd.ntmps102
      go_wp2
      go_ret
      exact ⟨rfl, rfl⟩
  · have e : decide (0 ≤ n ∧ n ≤ 1048576) = false := decide_eq_false fun h => h1 h.1
    rw [e]
    clear e
    go_enter Tryd.func102, Tryd.ntmps102
    go_wp2
    go_ret
    exact ⟨rfl, rfl⟩

end Go.Proofs.YtknjnfknalfbdaaDoor
