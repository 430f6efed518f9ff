/-
  Walks: wherryref.PacketFault, RecordFault.
-/
import Derived.Test.YtknjnfknalfbdaaDoorWireFault
namespace Go.Proofs.YtknjnfknalfbdaaDoor
open Go.RowKit Go.Lib
set_option maxRecDepth 100000 in
set_option maxHeartbeats 2000000 in
theorem recordFault_any (e : Int) (ps : List Part) (a : Option Addr) (c : Nat) (w : World) (hop : OpAt w a ps) (hn : ps.length ≤ 9223372036854775806) (hs : ∀ p ∈ ps, p.text.size ≤ 70368744177664) (hT : Tabs w) :
    Calls Tryd.prog 80 #[.agg #[.int .i64 e, .slice a ps.length c]] w fun r w' => r = .returned (.int .i64 (recordErr e ps)) ∧ Below w.heap.size w w' := by
  have hb0 := (Below.refl w.heap.size w).alloc (Nat.le_refl _) (.cells #[.int .i64 e, .slice a ps.length c] 74)
  have cA := fun w => in_any e 0 1048576 w
  have cF := opFault_any ps a c _ (hop.below hb0) hn hs (hT.below hb0)
  cases hA : inN e with
  | false =>
    have er : recordErr e ps = 2 := by unfold recordErr; rw [if_pos hA]
    rw [er]
    rw [show decide (0 ≤ e ∧ e ≤ 1048576) = inN e from rfl, hA] at cA
    clear er hA cF
    go_enter Tryd.func80, Tryd.ntmps80
    go_wp2_with fail
    refine (cA _).mono ?_
    rintro r w' ⟨rfl, hw'⟩
    rw [hw']
    clear hw'
    go_wp2_with fail
    go_ret
    exact ⟨rfl, hb0⟩
  | true =>
    have er : recordErr e ps = if e ≠ 0 ∧ ps.length ≠ 0 then 4 else opErr ps := by unfold recordErr; rw [if_neg (by rw [hA]; decide)]
    rw [er]
    rw [show decide (0 ≤ e ∧ e ≤ 1048576) = inN e from rfl, hA] at cA
    clear er hA
    generalize opErr ps = er at *
    clear hop hn hs hT
    generalize ps.length = n at *
    by_cases he0 : e = 0
    · subst he0
      rw [if_neg (fun x => x.1 rfl)]
      go_enter Tryd.func80, Tryd.ntmps80
      go_wp2_with fail
      refine (cA _).mono ?_
      rintro r w' ⟨rfl, hw'⟩
      rw [hw']
      clear hw'
      go_wp2_with fail
      refine cF.mono ?_
      rintro r w1 ⟨rfl, hb1⟩
      go_wp2_with fail
      go_ret
      exact ⟨rfl, below_two hb0 hb1 (Nat.le_refl _)⟩
    · have g2 : (e != 0) = true := by simpa using he0
      by_cases hn0 : n = 0
      · subst hn0
        rw [if_neg (fun x => x.2 rfl)]
        clear he0
        go_enter Tryd.func80, Tryd.ntmps80
        go_wp2_with fail
        refine (cA _).mono ?_
        rintro r w' ⟨rfl, hw'⟩
        rw [hw']
        clear hw'
        go_wp2_with fail
        refine cF.mono ?_
        rintro r w1 ⟨rfl, hb1⟩
        go_wp2_with fail
        go_ret
        exact ⟨rfl, below_two hb0 hb1 (Nat.le_refl _)⟩
      · rw [if_pos ⟨he0, hn0⟩]
        have gn2 : (0 : Int) < (n : Int) := by omega
        clear he0 cF
        go_enter Tryd.func80, Tryd.ntmps80
        go_wp2_with fail
        refine (cA _).mono ?_
        rintro r w' ⟨rfl, hw'⟩
        rw [hw']
        clear hw'
        go_wp2_with fail
        go_ret
        exact ⟨rfl, hb0⟩

end Go.Proofs.YtknjnfknalfbdaaDoor
