/-
  Walk: wherryref.TextFault.
-/
import Derived.Test.YtelindfmdakliaaDoorCheck
namespace Go.Proofs.YtelindfmdakliaaDoor
open Go.RowKit

set_option maxHeartbeats 400000 in
theorem textFault_any (s : ByteArray) (w : World) (hs : s.size ≤ 70368744177664) (hT : Tabs w) :
    Calls Tryd.prog 52 #[.string s] w fun e w' => e = .returned (.int .i64 (textErr s)) ∧ Below w.heap.size w w' := by
  have cV := valid_any s w (by omega) hT
  have hcv := conv_runes s hs
  unfold textErr
  generalize Lib.validD s.data.toList = V at cV ⊢
  cases V with
  | false =>
    go_enter Tryd.func52, Tryd.ntmps52
    go_wp2_with (go_at_call 66; refine cV.mono ?_; rintro e w' ⟨rfl, hb⟩)
    go_ret
    exact ⟨rfl, hb⟩
  | true =>
    have hr := runes_le s
    by_cases h4 : 4000 < (runes s).length
    · have h4z : (4000 : Int) < ((runes s).length : Int) := by omega
      simp only [h4, if_true]
      go_enter Tryd.func52, Tryd.ntmps52
      go_wp2_with (go_at_call 66; refine cV.mono ?_; rintro e w' ⟨rfl, hb⟩)
      go_ret
      exact ⟨rfl, (hb.alloc hb.size _).drew⟩
    · have h4z : ¬ (4000 : Int) < ((runes s).length : Int) := by omega
      simp only [h4, if_false]
      go_enter Tryd.func52, Tryd.ntmps52
      go_wp2_with (go_at_call 66; refine cV.mono ?_; rintro e w' ⟨rfl, hb⟩)
      go_ret
      exact ⟨rfl, (hb.alloc hb.size _).drew⟩

end Go.Proofs.YtelindfmdakliaaDoor
