/-
  Walks: the checks of package wire.
-/
import Derived.Test.YtelindfmdakliaaDoorCheck
import Derived.Deep.QuietTactic
import Derived.BigQuiet
namespace Go.Proofs.YtelindfmdakliaaDoor
open Go.RowKit Go.Lib

/-- a number from 0 to 2^20 -/
def inN (n : Int) : Bool := decide (0 ≤ n ∧ n ≤ 1048576)
/-- has a frame what its kind has? -/
def ownB (k h e : Int) (n : Nat) (tx : ByteArray) : Bool := if k = 1 then decide (e = 0) && decide (tx.size = 0) else if k = 2 then !decide (e = 0) && decide (n = 0) && decide (tx.size = 0) else !decide (e = 0) && decide (n = 0) && decide (h = 0)
/-- P3.1 -/
def frameErr (k h e : Int) (ps : List Part) (tx : ByteArray) : Int := if ¬ (k = 1 ∨ k = 2 ∨ k = 3) then 3 else if inN h = false then 2 else if inN e = false then 2 else if opErr ps ≠ 0 then opErr ps else if textErr tx ≠ 0 then textErr tx else if ownB k h e ps.length tx = true then 0 else 4
/-- P3.3 -/
def recordErr (e : Int) (ps : List Part) : Int := if inN e = false then 2 else if e ≠ 0 ∧ ps.length ≠ 0 then 4 else opErr ps
/-- an empty frame -/
def emptyB (k h e : Int) (n : Nat) (tx : ByteArray) : Bool := decide (k = 0) && decide (h = 0) && decide (e = 0) && decide (n = 0) && decide (tx.size = 0)
/-- P3.2 -/
def packetErr (ep num : Int) (bare : Bool) (ack k h e : Int) (ps : List Part) (tx : ByteArray) : Int := if inN ep = false then 2 else if inN num = false then 2 else if inN ack = false then 2 else if bare = true then (if num = 0 ∧ emptyB k h e ps.length tx = true then 0 else 4) else if num = 0 then 4 else if ep = 0 then 4 else frameErr k h e ps tx

end Go.Proofs.YtelindfmdakliaaDoor
