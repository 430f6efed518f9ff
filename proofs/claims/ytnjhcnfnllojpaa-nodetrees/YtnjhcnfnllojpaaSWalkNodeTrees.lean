/-
  Walk: wherrylaw.NodeTrees.
-/
import Derived.Test.YtnjhcnfnllojpaaSKTree
namespace Go.Proofs.Ytnjhcnfnllojpaa
open Go.RowKit Go.Lib

set_option maxRecDepth 100000 in
theorem nodeTrees_walk (l : List Int) (a : Option Addr) (c : Nat) (w : World) (h : Ints w a l) (_hok : ∀ n ∈ l, I64 n) (hl : l.length ≤ 9223372036854775807) (_hc : l.length ≤ c) :
    Calls Try.prog 3 #[.slice a l.length c] w fun e w' => e = .returned (.bool true) ∧ Below w.heap.size w w' := by
  have c1 := checkTree_any l a c w h
  have c2 := treeFault_any l a c w h hl
  generalize treeErr l = E at *
  clear h hl _hok
  go_enter Try.func3, Try.ntmps3
  go_wp2_with fail
  refine c1.mono ?_
  rintro r w1 ⟨rfl, hw1⟩
  rw [hw1]
  clear hw1 w1
  go_wp2_with fail
  refine c2.mono ?_
  rintro r w2 ⟨rfl, hw2⟩
  rw [hw2]
  clear hw2 w2
  go_wp2_with fail
  go_ret
  exact ⟨by simp, Below.refl _ _⟩

end Go.Proofs.Ytnjhcnfnllojpaa
