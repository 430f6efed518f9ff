/-
  Walk: text.CheckText.
-/
import Derived.Test.YtepehgjdepioeaaDoorValid
import Derived.Test.YtepehgjdepioeaaDoorPureCheck
import Derived.Test.YtepehgjdepioeaaDoorConvRunes
namespace Go.Proofs.YtepehgjdepioeaaDoor
open Go.RowKit

set_option maxHeartbeats 400000 in
theorem checkText_any (s : ByteArray) (w : World) (hs : s.size < 9223372036854775807) (hT : Tabs w) :
    Calls Tryd.prog 20 #[.string s] w fun e w' => e = .returned (.int .i64 (textErr s)) ∧ Below w.heap.size w w' := by
  have cV := valid_any s w (by omega) hT
  unfold textErr
  generalize Lib.validD s.data.toList = V at cV ⊢
  cases V with
  | false =>
    go_enter Tryd.func20, Tryd.ntmps20
    go_wp2_with (go_at_call 39; refine cV.mono ?_; rintro e w' ⟨rfl, hb⟩)
    go_ret
    exact ⟨rfl, hb⟩
  | true =>
    have hr := runes_le s
    by_cases h4 : 4000 < (runes s).length
    · have h4z : (4000 : Int) < ((runes s).length : Int) := by omega
      simp only [h4, if_true]
      go_enter Tryd.func20, Tryd.ntmps20
      go_wp2_with (first | (go_at_call 39; refine cV.mono ?_; rintro e w' ⟨rfl, hb⟩) | (go_at_call 34; refine (count_any _ _ hs).mono ?_; rintro e w2 ⟨rfl, hb2⟩))
      go_ret
      exact ⟨rfl, hb.trans (hb2.mono hb.size)⟩
    · have h4z : ¬ (4000 : Int) < ((runes s).length : Int) := by omega
      simp only [h4, if_false]
      go_enter Tryd.func20, Tryd.ntmps20
      go_wp2_with (first | (go_at_call 39; refine cV.mono ?_; rintro e w' ⟨rfl, hb⟩) | (go_at_call 34; refine (count_any _ _ hs).mono ?_; rintro e w2 ⟨rfl, hb2⟩))
      go_ret
      exact ⟨rfl, hb.trans (hb2.mono hb.size)⟩

end Go.Proofs.YtepehgjdepioeaaDoor
