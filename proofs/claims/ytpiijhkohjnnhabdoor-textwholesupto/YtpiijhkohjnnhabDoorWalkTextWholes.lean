/-
  Walk: wherrylaw.TextWholes.
-/
import Derived.Test.YtpiijhkohjnnhabDoorWholeOpWalk
import Derived.Test.YtpiijhkohjnnhabDoorSameOp
namespace Go.Proofs.YtpiijhkohjnnhabDoor
open Go.RowKit Go.Lib

/-- an owned operation, behind calls that change nothing old -/
theorem own_below {w w' : World} {B e size : Nat} {v : Value} {n : Nat} {xs : List Value} (h : w.ownsRow B e size v n xs) (hb : Below w.heap.size w w') : w'.ownsRow B e size v n xs :=
  own_chg (F := fun _ => False) h (Chg.of_below hb) (fun _ _ h => h)

theorem wholeRes_length (s t : ByteArray) : (wholeRes s t).length ≤ 2 := by
  unfold wholeRes wholeOp
  split
  · simp
  · split <;> split <;> simp

set_option maxHeartbeats 1000000 in
theorem textWholes_walk (s t : ByteArray) (w : World) (hs : s.size ≤ 1048576) (ht : t.size ≤ 1048576) (hT : Tabs w) :
    Calls Tryd.prog 5 #[.string s, .string t] w fun e w' => e = .returned (.bool true) ∧ Below w.heap.size w w' := by
  go_enter Tryd.func5, Tryd.ntmps5
  go_wp2_with fail
  refine (whole_any s t w hs ht hT).mono ?_
  rintro e w1 ⟨v1, rfl, hown1, hb1⟩
  go_wp2_with fail
  refine (wholeOp_any s t w1 hs ht (hT.below hb1)).mono ?_
  rintro e w2 ⟨v2, rfl, hown2, hb2⟩
  have hl := wholeRes_length s t
  generalize wholeRes s t = R at *
  generalize wholeErr s t = E at *
  obtain ⟨a1, c1, rfl, ho1⟩ := own_opAt (own_below hown1 hb2)
  obtain ⟨a2, c2, rfl, ho2⟩ := own_opAt hown2
  have g1 : (E == E) = true := by simp
  have cS := sameOp_true R a1 a2 c1 c2 w2 ho1 ho2 (by omega)
  clear hown1 hown2 ho1 ho2
  go_wp2_with (go_at_call 12; refine cS.mono ?_; rintro e w3 ⟨rfl, hb3⟩)
  go_ret
  exact ⟨rfl, below_two (below_two hb1 hb2 (Nat.le_refl _)) hb3 (Nat.le_refl _)⟩

end Go.Proofs.YtpiijhkohjnnhabDoor
