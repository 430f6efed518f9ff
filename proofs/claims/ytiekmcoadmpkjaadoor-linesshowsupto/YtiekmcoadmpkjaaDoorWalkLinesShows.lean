/-
  Walk: wherrylaw.LinesShows.
-/
import Derived.Test.YtiekmcoadmpkjaaDoorLineB
import Derived.Test.YtiekmcoadmpkjaaDoorActsArg
namespace Go.Proofs.YtiekmcoadmpkjaaDoor
open Go.RowKit Go.Lib

set_option maxRecDepth 100000 in
set_option maxHeartbeats 1000000 in
theorem linesShows_walk (T : List Int) (a : Option Addr) (c : Nat) (K : List ActK) (v : Value) (w : World) (hin : Ints w a T) (_hok : ∀ n ∈ T, -9223372036854775808 ≤ n ∧ n ≤ 9223372036854775807) (hl : T.length ≤ 9223372036854775807) (_hc : T.length ≤ c) (hK : InK actS w 0 v K) (hsm : ∀ x ∈ K, ActSmall x.1) (hlk : K.length ≤ 1048576) (hT : LTabs w) :
    Calls Tryd.prog 4 #[.slice a T.length c, v] w fun e w' => e = .returned (.bool true) ∧ Below w.heap.size w w' := by
  have c1 : ∀ wx v', Below w.heap.size w wx → InK actS wx 0 v' K → Calls Tryd.prog 10 #[.slice a T.length c, v'] wx fun r w' => r = .returned (.tuple #[.string (bstr (showR T (K.map (·.1))).1), .int .i64 ((showR T (K.map (·.1))).2.1 : Int), .int .i64 (showR T (K.map (·.1))).2.2]) ∧ Below wx.heap.size wx w' := fun wx v' hb hk => by
    have hk0 := hk
    obtain ⟨la, lc, rfl, _⟩ := hk0.row
    exact show_any T a c K la lc wx (hin.below hb) hk hsm hlk (hT.below hb)
  have c2 : ∀ wx, Below w.heap.size w wx → Calls Tryd.prog 11 #[.slice a T.length c, v] wx fun r w' => r = .returned (.tuple #[.string (bstr (showR T (K.map (·.1))).1), .int .i64 ((showR T (K.map (·.1))).2.1 : Int), .int .i64 (showR T (K.map (·.1))).2.2]) ∧ Below wx.heap.size wx w' := fun wx hb => by
    have hk := hK.below hb
    have hk0 := hk
    obtain ⟨la, lc, rfl, _⟩ := hk0.row
    exact shown_any T a c K la lc wx (hin.below hb) hl hk hsm hlk (hT.tabs.below hb)
  generalize showR T (K.map (·.1)) = R at *
  obtain ⟨S, n, E⟩ := R
  simp only at c1 c2
  generalize bstr S = Z at *
  have g2 : (Z.toList == Z.toList) = true := by simp
  clear hin hsm hT _hok _hc
  go_enter Tryd.func4, Tryd.ntmps4
  go_wp2_with (at_builtin; refine wpList_append_acts rfl _ _ rfl rfl v K rfl hK hlk ?_; intro v1 w1 hk1 hb1)
  replace c1 := c1 w1 v1 hb1 hk1
  clear hk1 hK
  refine c1.mono ?_
  rintro e w2 ⟨rfl, hb2⟩
  have HB2 := below_two hb1 hb2 (Nat.le_refl _)
  replace c2 := c2 w2 HB2
  clear c1 hb1 hb2
  go_wp2_with fail
  refine c2.mono ?_
  rintro e w3 ⟨rfl, hb3⟩
  have HB3 := below_two HB2 hb3 (Nat.le_refl _)
  go_wp2_with fail
  go_ret
  exact ⟨by simp, HB3⟩

end Go.Proofs.YtiekmcoadmpkjaaDoor
