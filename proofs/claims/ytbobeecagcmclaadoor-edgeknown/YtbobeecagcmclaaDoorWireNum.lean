/-
  Walk: wire.reader.number.
-/
import Derived.Test.YtbobeecagcmclaaDoorWireRead
namespace Go.Proofs.YtbobeecagcmclaaDoor
open Go.RowKit Go.Lib

/-- a number, digit by digit: how many digits it may still have, the digit's place, what is there so far -/
def numGo : Nat → Nat → Nat → List Nat → Except Int (Nat × List Nat)
  | 0, _, _, _ => .error 4
  | _ + 1, _, _, [] => .error 5
  | k + 1, i, acc, x :: l => if x < 128 then (if x = 0 ∧ 0 < i then .error 4 else .ok (acc + x * 128 ^ i, l)) else numGo k (i + 1) (acc + x % 128 * 128 ^ i) l
/-- P3.4: a number, read -/
def numP (l : List Nat) : Except Int (Nat × List Nat) := numGo 4 0 0 l

theorem val_eq {a b : Int} (h : a = b) : Value.int .i64 a = .int .i64 b := by rw [h]
theorem ret_eq {a b : Int} (h : a = b) : Ending.returned (.int .i64 a) = .returned (.int .i64 b) := by rw [h]

/-- what is left behind a reading -/
def rest {α : Type} (r : Except Int (α × List Nat)) : Except Int (List Nat) := match r with
  | .ok x => .ok x.2
  | .error e => .error e

end Go.Proofs.YtbobeecagcmclaaDoor
