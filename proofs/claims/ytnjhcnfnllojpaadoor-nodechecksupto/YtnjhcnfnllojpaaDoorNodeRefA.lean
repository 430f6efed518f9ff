/-
  Walk: wherryref.NodeFault.
-/
import Derived.Test.YtnjhcnfnllojpaaDoorNodeRefR
import Derived.Test.YtnjhcnfnllojpaaDoorNodeRefY
import Derived.Test.YtnjhcnfnllojpaaDoorNodeRefN
namespace Go.Proofs.YtnjhcnfnllojpaaDoor
open Go.RowKit Go.Lib

theorem nodeFault_any (T : List Int) (a : Option Addr) (c : Nat) (me ep up : Int) (ready : Bool) (text : ByteArray) (sides : List SideV) (sa : Option Addr) (sc : Nat) (undo : List (List Part)) (uvs : List Value) (ua : Option Addr) (uc : Nat) (marks : List MarkV) (ma : Option Addr) (mc : Nat) (w : World) (hin : Ints w a T) (hl : T.length ≤ 9223372036854775807) (hnd : NodeAt w ⟨me, ep, up, ready, text, sides, sa, sc, undo, uvs, ua, uc, marks, ma, mc⟩) (hT : Tabs w) :
    Calls Tryd.prog 57 #[.slice a T.length c, .agg #[.int .i64 me, .int .i64 ep, .int .i64 up, .bool ready, .string text, .slice sa sides.length sc, .slice ua undo.length uc, .slice ma marks.length mc]] w fun e w' => e = .returned (.int .i64 (nodeErr T ⟨me, ep, up, ready, text, sides, sa, sc, undo, uvs, ua, uc, marks, ma, mc⟩)) ∧ Below w.heap.size w w' := by
  by_cases h : me = 0
  · exact nodeFault_root T a c me ep up ready text sides sa sc undo uvs ua uc marks ma mc w hin hl hnd hT ⟨h, trivial⟩
  · by_cases hr : ready = true
    · exact nodeFault_ready T a c me ep up ready text sides sa sc undo uvs ua uc marks ma mc w hin hl hnd hT ⟨h, hr⟩
    · exact nodeFault_not T a c me ep up ready text sides sa sc undo uvs ua uc marks ma mc w hin hl hnd hT ⟨h, by simpa using hr⟩

end Go.Proofs.YtnjhcnfnllojpaaDoor
