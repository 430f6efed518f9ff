/-
  Walk: wherrylaw.LinesChecks.
-/
import Derived.Test.YtiekmcoadmpkjaaDoorActChk
import Derived.Test.YtiekmcoadmpkjaaDoorEdgeMem
namespace Go.Proofs.YtiekmcoadmpkjaaDoor
open Go.RowKit Go.Lib

set_option maxRecDepth 100000 in
theorem linesChecks_walk (T : List Int) (a : Option Addr) (c : Nat) (kd nd tw pk kp an hd : Int) (op : List Part) (oa : Option Addr) (oc : Nat) (w : World) (hin : Ints w a T) (_hok : ∀ n ∈ T, -9223372036854775808 ≤ n ∧ n ≤ 9223372036854775807) (hl : T.length ≤ 9223372036854775807) (_hc : T.length ≤ c) (hop : OpAt w oa op) (hsm : OpSmall op) (hT : Tabs w) :
    Calls Tryd.prog 3 #[.slice a T.length c, .agg #[.int .i64 kd, .int .i64 nd, .int .i64 tw, .int .i64 pk, .int .i64 kp, .slice oa op.length oc, .int .i64 an, .int .i64 hd]] w fun e w' => e = .returned (.bool true) ∧ Below w.heap.size w w' := by
  have HB0 := (Below.refl w.heap.size w).alloc (Nat.le_refl _) (.cells #[.int .i64 kd, .int .i64 nd, .int .i64 tw, .int .i64 pk, .int .i64 kp, .slice oa op.length oc, .int .i64 an, .int .i64 hd] 29)
  have hn := heap_alloc_new w (.cells #[.int .i64 kd, .int .i64 nd, .int .i64 tw, .int .i64 pk, .int .i64 kp, .slice oa op.length oc, .int .i64 an, .int .i64 hd] 29)
  have c1 := fun wx (hx : Below w.heap.size w wx) => linesCheck_any T a c kd nd tw pk kp an hd op oa oc wx (hin.below hx) (hop.below hx) (by have := hsm.1; omega) (fun p hp => by have := (hsm.2 p hp).2.2; omega) (hT.below hx)
  have c2 := fun wx (hx : Below w.heap.size w wx) => actFault_any T a c kd nd tw pk kp an hd op oa oc wx (hin.below hx) hl (hop.below hx) (by have := hsm.1; omega) (fun p hp => by have := (hsm.2 p hp).2.2; omega) (hT.below hx)
  generalize linesErr T ⟨kd, nd, tw, pk, kp, op, oa, oc, an, hd⟩ = E at *
  clear hin hop hT _hok hsm
  obtain ⟨n0, nl0, _⟩ := blk hn
  go_enter Tryd.func3, Tryd.ntmps3
  go_wp2_with fail
  refine (c1 _ HB0).mono ?_
  rintro r w1 ⟨rfl, hb1⟩
  have HB1 := below_two HB0 hb1 (Nat.le_refl _)
  have hn1 := (hb1.block _ nl0).trans hn
  clear n0 nl0 c1
  obtain ⟨n0, nl0, _⟩ := blk hn1
  go_wp2_with fail
  refine (c2 _ HB1).mono ?_
  rintro r w2 ⟨rfl, hb2⟩
  go_wp2_with fail
  go_ret
  exact ⟨by simp, below_two HB1 hb2 (Nat.le_refl _)⟩

end Go.Proofs.YtiekmcoadmpkjaaDoor
