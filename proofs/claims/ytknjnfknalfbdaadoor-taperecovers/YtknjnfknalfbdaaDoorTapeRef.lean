/-
  Walks: wherryref.In, TapeMay, TapeSynced, TapeCrashed.
-/
import Derived.Test.YtknjnfknalfbdaaDoorTapeOps
import Derived.Test.YtknjnfknalfbdaaDoorJoined
namespace Go.Proofs.YtknjnfknalfbdaaDoor
open Go.RowKit Go.Lib

set_option maxRecDepth 100000 in
set_option maxHeartbeats 1000000 in
theorem tapeMay_any (n : Nat) (s : Int) (a : Option Addr) (c : Nat) (w : World) (hn : n ≤ 9223372036854775807) :
    Calls Tryd.prog 88 #[.agg #[.slice a n c, .int .i64 s]] w fun r w' => r = .returned (.bool (decide (tapeOk n s))) ∧ Below w.heap.size w w' := by
  obtain ⟨R, hR⟩ : ∃ R, R = decide (tapeOk n s) := ⟨_, rfl⟩
  rw [← hR]
  have hb0 := (Below.refl w.heap.size w).alloc (Nat.le_refl _) (.cells #[.slice a n c, .int .i64 s] 80)
  have hpb := heap_alloc_new w (.cells #[.slice a n c, .int .i64 s] 80)
  obtain ⟨q0, ql0, _⟩ := blk hpb
  have cI : ∀ (wx : World), Calls Tryd.prog 74 #[.int .i64 s, .int .i64 0, .int .i64 (n : Int)] wx fun r w' => r = .returned (.bool (decide (0 ≤ s ∧ s ≤ (n : Int)))) ∧ w' = wx := by
    intro wx
    obtain ⟨R, hR⟩ : ∃ R, R = decide (0 ≤ s ∧ s ≤ (n : Int)) := ⟨_, rfl⟩
    rw [← hR]
    by_cases h1 : 0 ≤ s
    · by_cases h2 : s ≤ (n : Int)
      · have HR : Hid (R = true) := by show _ = _; rw [hR]; exact decide_eq_true ⟨h1, h2⟩
        clear hR
        go_enter Tryd.func74, Tryd.ntmps74
        go_wp2_with fail
        go_ret
        exact ⟨by rw [HR.out]; simp, rfl⟩
      · have HR : Hid (R = false) := by show _ = _; rw [hR]; exact decide_eq_false (fun h => h2 h.2)
        clear hR
        go_enter Tryd.func74, Tryd.ntmps74
        go_wp2_with fail
        go_ret
        exact ⟨by rw [HR.out]; simp, rfl⟩
    · have HR : Hid (R = false) := by show _ = _; rw [hR]; exact decide_eq_false (fun h => h1 h.1)
      clear hR
      go_enter Tryd.func74, Tryd.ntmps74
      go_wp2_with fail
      go_ret
      exact ⟨by rw [HR.out]; simp, rfl⟩
  by_cases h1 : n ≤ 8388608
  · have g1 : (n : Int) ≤ 8388608 := by omega
    have HR : Hid (R = decide (0 ≤ s ∧ s ≤ (n : Int))) := by show _ = _; rw [hR]; unfold tapeOk; simp [h1]
    clear hR
    generalize decide (0 ≤ s ∧ s ≤ (n : Int)) = D at *
    go_enter Tryd.func88, Tryd.ntmps88
    go_wp2_with fail
    refine (cI _).mono ?_
    rintro r w1 ⟨rfl, rfl⟩
    go_wp2_with fail
    go_ret
    exact ⟨by rw [HR.out]; simp, hb0⟩
  · have g1 : ¬ (n : Int) ≤ 8388608 := by omega
    have HR : Hid (R = false) := by show _ = _; rw [hR]; exact decide_eq_false (fun h => h1 h.1)
    clear hR
    go_enter Tryd.func88, Tryd.ntmps88
    go_wp2_with fail
    go_ret
    exact ⟨by rw [HR.out]; simp, hb0⟩

/-- 'joined(b)' -/
theorem join1 {w : World} {L : List Nat} {a : Option Addr} {c : Nat} (h : BArg w a c L) (hl : L.length ≤ 50000000000) :
    Calls Tryd.prog 82 #[.slice (some ⟨w.heap.size, 0, none⟩) 1 1] (w.alloc (.cells #[.slice a L.length c] 75)) fun r w' => ∃ v, r = .returned v ∧ w'.ownsRow w.heap.size 5 1 v L.length (octs L) ∧ Below w.heap.size w w' := by
  have hb0 := (Below.refl w.heap.size w).alloc (Nat.le_refl _) (.cells #[.slice a L.length c] 75)
  have hblk := heap_alloc_new w (.cells #[.slice a L.length c] 75)
  obtain ⟨q0, ql0, _⟩ := blk hblk
  have hf : [L].flatten = L := by simp
  have cJ := joined_any [L] (some ⟨w.heap.size, 0, none⟩) 1 (w.alloc (.cells #[.slice a L.length c] 75)) (.inr ⟨w.heap.size, 0, rfl, ql0, fun i hi => by
    have : i = 0 := by simp at hi; omega
    subst this
    exact ⟨a, c, by rw [q0]; rfl, h.by_.below hb0⟩⟩) (by rw [hf]; exact hl) (by simp)
  rw [hf] at cJ
  refine cJ.mono ?_
  rintro r w1 ⟨v, rfl, hown, hb1⟩
  exact ⟨v, rfl, own_base hown hb0.size, below_two hb0 hb1 (Nat.le_refl _)⟩

end Go.Proofs.YtknjnfknalfbdaaDoor
