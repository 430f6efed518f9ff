/-
  Walk: wherrylaw.NodeChecks.
-/
import Derived.Test.YtnjhcnfnllojpaaDoorNodeCheck
import Derived.Test.YtnjhcnfnllojpaaDoorNodeRefA
namespace Go.Proofs.YtnjhcnfnllojpaaDoor
open Go.RowKit Go.Lib

set_option maxRecDepth 100000 in
theorem nodeChecks_walk (T : List Int) (a : Option Addr) (c : Nat) (n : NodeV) (w : World) (hin : Ints w a T) (_hok : ∀ n ∈ T, -9223372036854775808 ≤ n ∧ n ≤ 9223372036854775807) (hl : T.length ≤ 9223372036854775807) (_hc : T.length ≤ c) (hnd : NodeAt w n) (hT : Tabs w) :
    Calls Tryd.prog 15 #[.slice a T.length c, .agg #[.int .i64 n.me, .int .i64 n.ep, .int .i64 n.up, .bool n.ready, .string n.text, .slice n.sa n.sides.length n.sc, .slice n.ua n.undo.length n.uc, .slice n.ma n.marks.length n.mc]] w fun e w' => e = .returned (.bool true) ∧ Below w.heap.size w w' := by
  obtain ⟨me, ep, up, ready, text, sides, sa, sc, undo, uvs, ua, uc, marks, ma, mc⟩ := n
  simp only
  have HB0 := (Below.refl w.heap.size w).alloc (Nat.le_refl _) (.cells #[.int .i64 me, .int .i64 ep, .int .i64 up, .bool ready, .string text, .slice sa sides.length sc, .slice ua undo.length uc, .slice ma marks.length mc] 114)
  have hn := heap_alloc_new w (.cells #[.int .i64 me, .int .i64 ep, .int .i64 up, .bool ready, .string text, .slice sa sides.length sc, .slice ua undo.length uc, .slice ma marks.length mc] 114)
  have c1 := fun wx (hx : Below w.heap.size w wx) => nodeCheck_any T a c me ep up ready text sides sa sc undo uvs ua uc marks ma mc wx (hin.below hx) (hnd.below hx) (hT.below hx)
  have c2 := fun wx (hx : Below w.heap.size w wx) => nodeFault_any T a c me ep up ready text sides sa sc undo uvs ua uc marks ma mc wx (hin.below hx) hl (hnd.below hx) (hT.below hx)
  generalize nodeErr T ⟨me, ep, up, ready, text, sides, sa, sc, undo, uvs, ua, uc, marks, ma, mc⟩ = E at *
  clear hin hnd hT _hok
  obtain ⟨n0, nl0, _⟩ := blk hn
  go_enter Tryd.func15, Tryd.ntmps15
  go_wp2_with fail
  refine (c1 _ HB0).mono ?_
  rintro r w1 ⟨rfl, hb1⟩
  have HB1 := below_two HB0 hb1 (Nat.le_refl _)
  have hn1 := (hb1.block _ nl0).trans hn
  clear n0 nl0 c1
  obtain ⟨n0, nl0, _⟩ := blk hn1
  go_wp2_with fail
  refine (c2 _ HB1).mono ?_
  rintro r w2 ⟨rfl, hb2⟩
  go_wp2_with fail
  go_ret
  exact ⟨by simp, below_two HB1 hb2 (Nat.le_refl _)⟩

end Go.Proofs.YtnjhcnfnllojpaaDoor
