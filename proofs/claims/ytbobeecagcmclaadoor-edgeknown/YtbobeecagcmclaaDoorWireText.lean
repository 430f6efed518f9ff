/-
  Walks: wire.reader: number in any state, text, part.
-/
import Derived.Test.YtbobeecagcmclaaDoorWireNum
import Derived.Laws.BytesArg
namespace Go.Proofs.YtbobeecagcmclaaDoor
open Go.RowKit Go.Lib

/-- a reading, if nothing was wrong ahead -/
def andR {α : Type} (st : Except Int (List Nat)) (p : List Nat → Except Int (α × List Nat)) : Except Int (α × List Nat) := match st with
  | .ok l => p l
  | .error e => .error e

/-- bytes as a text -/
def bstr (l : List Nat) : ByteArray := strOfNums (l.map fun n : Nat => (n : Int))
theorem bstr_nil : bstr [] = ByteArray.empty := by
  simp [bstr, strOfNums, ByteArray.empty, ByteArray.emptyWithCapacity]
  rfl
theorem bstr_size (l : List Nat) : (bstr l).size = l.length := by unfold bstr; rw [strOfNums_size, List.length_map]
/-- P3.4: a text, read -/
def textP (l : List Nat) : Except Int (ByteArray × List Nat) := match numP l with
  | .ok x => if x.1 ≤ x.2.length then .ok (bstr (x.2.take x.1), x.2.drop x.1) else .error 5
  | .error e => .error e

theorem conv_oct {w : World} {B b : Nat} {a : Option Addr} {l : List Nat} (h : Oct w B b a l) (c : Nat) : (convert 84 9 (.slice a l.length c)).run Tryd.prog w = .ok (.string (bstr l)) w := by
  have hnil : ∀ a, (convert 84 9 (.slice a 0 c)).run Tryd.prog w = .ok (.string (bstr [])) w := fun a => by
    cases a with
    | none => rw [bstr_nil]; exact run_convert_bytes_nil w 84 5 Tryd.underlying84 Tryd.underlying5 0 c 9 Tryd.underlying9
    | some ad => 
      rw [run_convert_bytes_string w 84 9 5 _ 0 c Tryd.underlying84 Tryd.underlying5 Tryd.underlying9]
      rw [run_bytesToString w ad 0 c [] (by simp [loadCells]; rfl), bstr_nil]
      rfl
  rcases h with rfl | ⟨g, off, rfl, _, _, hc⟩
  · exact hnil a
  · refine run_convert_bytes_arg w 84 5 Tryd.underlying84 Tryd.underlying5 g off l.length c (l.map fun n : Nat => (n : Int)) (by simp) (fun i hi => ?_) 9 Tryd.underlying9
    rw [hc i hi]
    simp [List.getD, hi]

end Go.Proofs.YtbobeecagcmclaaDoor
