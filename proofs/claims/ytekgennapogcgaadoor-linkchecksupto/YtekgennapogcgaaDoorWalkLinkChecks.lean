/-
  Walk: wherrylaw.LinkChecks.
-/
import Derived.Test.YtekgennapogcgaaDoorLinkMayR
import Derived.Test.YtekgennapogcgaaDoorLinkOpen
namespace Go.Proofs.YtekgennapogcgaaDoor
open Go.RowKit Go.Lib

set_option maxRecDepth 100000 in
set_option maxHeartbeats 1000000 in
theorem linkChecks_walk (ep nx hd : Int) (S Q : List FrK) (sv qv : Value) (w : World) (hS : InK frS w 0 sv S) (hQ : InK frS w 0 qv Q) (fS : ∀ x ∈ S, FrSmall x.1) (fQ : ∀ x ∈ Q, FrSmall x.1) (lS : S.length ≤ 1048576) (lQ : Q.length ≤ 1048576) (_be : -9223372036854775808 ≤ ep ∧ ep ≤ 9223372036854775807) (_bn : -9223372036854775808 ≤ nx ∧ nx ≤ 9223372036854775807) (_bh : -9223372036854775808 ≤ hd ∧ hd ≤ 9223372036854775807) (hT : Tabs w) :
    Calls Tryd.prog 8 #[.agg #[.int .i64 ep, .int .i64 nx, sv, qv, .int .i64 hd]] w fun r w' => r = .returned (.bool true) ∧ Below w.heap.size w w' := by
  have cC := fun w1 (hb : Below w.heap.size w w1) => linkCheck_any ep nx hd S Q sv qv w1 (hS.below hb) (hQ.below hb) fS fQ (by omega) (by omega) (hT.below hb)
  have cM := fun w1 (hb : Below w.heap.size w w1) => linkMay_any ep nx hd S Q sv qv w1 (hS.below hb) (hQ.below hb) fS fQ (by omega) (by omega) (hT.below hb)
  obtain ⟨sa, sc, rfl, _⟩ := hS.row
  obtain ⟨qa, qc, rfl, _⟩ := hQ.row
  have hb0 := (Below.refl w.heap.size w).alloc (Nat.le_refl _) (.cells #[.int .i64 ep, .int .i64 nx, .slice sa S.length sc, .slice qa Q.length qc, .int .i64 hd] 74)
  have hp := heap_alloc_new w (.cells #[.int .i64 ep, .int .i64 nx, .slice sa S.length sc, .slice qa Q.length qc, .int .i64 hd] 74)
  clear hS hQ fS fQ hT
  have h9 : linkErr (mkL ep nx hd S Q) = 0 ∨ linkErr (mkL ep nx hd S Q) = 9 := by unfold linkErr; split <;> simp
  generalize linkErr (mkL ep nx hd S Q) = E at *
  obtain ⟨q0, ql0, _⟩ := blk hp
  rcases h9 with rfl | rfl
  · go_enter Tryd.func8, Tryd.ntmps8
    go_wp2_with fail
    refine (cC _ hb0).mono ?_
    rintro r w1 ⟨rfl, hb1⟩
    have HB1 := below_two hb0 hb1 (Nat.le_refl _)
    replace hp := (hb1.block _ ql0).trans hp
    clear q0 ql0
    obtain ⟨q0, ql0, _⟩ := blk hp
    go_wp2_with fail
    refine (cM _ HB1).mono ?_
    rintro r w2 ⟨rfl, hb2⟩
    go_wp2_with fail
    go_ret
    exact ⟨rfl, below_two HB1 hb2 (Nat.le_refl _)⟩
  · go_enter Tryd.func8, Tryd.ntmps8
    go_wp2_with fail
    refine (cC _ hb0).mono ?_
    rintro r w1 ⟨rfl, hb1⟩
    have HB1 := below_two hb0 hb1 (Nat.le_refl _)
    replace hp := (hb1.block _ ql0).trans hp
    clear q0 ql0
    obtain ⟨q0, ql0, _⟩ := blk hp
    go_wp2_with fail
    refine (cM _ HB1).mono ?_
    rintro r w2 ⟨rfl, hb2⟩
    go_wp2_with fail
    go_ret
    exact ⟨rfl, below_two HB1 hb2 (Nat.le_refl _)⟩

end Go.Proofs.YtekgennapogcgaaDoor
