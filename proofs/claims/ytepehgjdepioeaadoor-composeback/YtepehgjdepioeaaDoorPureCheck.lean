/-
  PLAIN LEAN: what may be: texts, parts, operations.
-/
import Derived.Test.YtepehgjdepioeaaDoorPure
import Derived.Lib.ValidU
namespace Go.Proofs.YtepehgjdepioeaaDoor
open Go.RowKit

/-- P1.1 -/
def textErr (s : ByteArray) : Int := if Lib.validD s.data.toList = false then 4 else if 4000 < (runes s).length then 1 else 0
/-- P1.2: of a Keep and a Delete -/
def countErr (p : Part) : Int := if p.n < 1 ∨ 4000 < p.n then 2 else if p.text.size ≠ 0 then 4 else 0
/-- P1.2: of an Insert -/
def insertErr (p : Part) : Int := if textErr p.text ≠ 0 then textErr p.text else if p.text.size = 0 ∨ p.n ≠ 0 then 4 else 0
def bodyErr (p : Part) : Int := if p.kind = 1 ∨ p.kind = 3 then countErr p else if p.kind = 2 then insertErr p else 3
def partErr (ahead : Int) (p : Part) : Int := if bodyErr p ≠ 0 then bodyErr p else if ahead = p.kind ∨ (ahead = 3 ∧ p.kind = 2) then 4 else 0
def partsErr : Int → List Part → Int
  | _, [] => 0
  | ahead, p :: r => if partErr ahead p ≠ 0 then partErr ahead p else partsErr p.kind r
/-- P1.2 -/
def opErr (ps : List Part) : Int := if 8001 < ps.length then 1 else if partsErr 0 ps ≠ 0 then partsErr 0 ps else if 4000 < (lens ps).1 ∨ 4000 < (lens ps).2 then 1 else 0

theorem bodyErr_kind {p : Part} (h : bodyErr p = 0) : p.kind = 1 ∨ p.kind = 2 ∨ p.kind = 3 := by
  unfold bodyErr at h
  split at h
  · omega
  · split at h <;> omega

end Go.Proofs.YtepehgjdepioeaaDoor
