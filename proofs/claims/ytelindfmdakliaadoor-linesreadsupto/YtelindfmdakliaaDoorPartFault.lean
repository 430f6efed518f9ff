/-
  Walks: wherryref.In, partFault.
-/
import Derived.Test.YtelindfmdakliaaDoorCheck
import Derived.Test.YtelindfmdakliaaDoorTextFault
import Derived.Deep.RegionWith
namespace Go.Proofs.YtelindfmdakliaaDoor
open Go.RowKit

set_option maxHeartbeats 400000 in
theorem in_any (n low high : Int) (w : World) :
    Calls Tryd.prog 20 #[.int .i64 n, .int .i64 low, .int .i64 high] w fun e w' => e = .returned (.bool (decide (low ≤ n ∧ n ≤ high))) ∧ w' = w := by
  by_cases h1 : low ≤ n
  · by_cases h2 : n ≤ high
    · have g1 : decide (low ≤ n) = true := by simpa using h1
      have g2 : decide (n ≤ high) = true := by simpa using h2
      have V : decide (low ≤ n ∧ n ≤ high) = true := by simp [h1, h2]
      rw [V]
      clear V
      go_enter Tryd.func20, Tryd.ntmps20
      go_wp2
      go_ret
      exact ⟨rfl, rfl⟩
    · have g1 : decide (low ≤ n) = true := by simpa using h1
      have g2 : decide (n ≤ high) = false := by simpa using h2
      have V : decide (low ≤ n ∧ n ≤ high) = false := by simp [h2]
      rw [V]
      clear V
      go_enter Tryd.func20, Tryd.ntmps20
      go_wp2
      go_ret
      exact ⟨rfl, rfl⟩
  · have g1 : decide (low ≤ n) = false := by simpa using h1
    have V : decide (low ≤ n ∧ n ≤ high) = false := by simp [h1]
    rw [V]
    clear V
    go_enter Tryd.func20, Tryd.ntmps20
    go_wp2
    go_ret
    exact ⟨rfl, rfl⟩

/-- a test whose outcome is known -/
theorem in_known (n low high : Int) (w : World) (b : Bool) (h : decide (low ≤ n ∧ n ≤ high) = b) :
    Calls Tryd.prog 20 #[.int .i64 n, .int .i64 low, .int .i64 high] w fun e w' => e = .returned (.bool b) ∧ w' = w := h ▸ in_any n low high w

set_option maxHeartbeats 400000 in
theorem partFault_any (p : Part) (w : World) (hs : p.text.size ≤ 70368744177664) (hT : Tabs w) :
    Calls Tryd.prog 32 #[.agg #[.int .i64 p.kind, .int .i64 p.n, .string p.text]] w fun e w' => e = .returned (.int .i64 (bodyErr p)) ∧ Below w.heap.size w w' := by
  have b0 : Below w.heap.size w (w.alloc (.cells #[.int .i64 p.kind, .int .i64 p.n, .string p.text] 63)) := (Below.refl _ _).alloc (Nat.le_refl _) _
  have cT := textFault_any p.text _ hs (hT.below b0)
  unfold bodyErr countErr insertErr
  obtain ⟨kd, n, tx⟩ := p
  simp only at hs cT b0 ⊢
  clear hs hT
  have hk : kd = 2 ∨ (kd = 1 ∨ kd = 3) ∨ (¬ kd = 1 ∧ ¬ kd = 3 ∧ ¬ kd = 2) := by omega
  rcases hk with rfl | hk | ⟨h1, h3, h2⟩
  · have I3 : decide ((1 : Int) ≤ 2 ∧ (2 : Int) ≤ 3) = true := by decide
    have I4 : decide ((1 : Int) ≤ 2 ∧ (2 : Int) ≤ 3) = true := I3
    rw [if_neg (by omega), if_pos rfl]
    generalize textErr tx = E at *
    by_cases h0 : E = 0
    · subst h0
      rw [if_neg (by omega)]
      by_cases hz : tx.size = 0
      · obtain rfl := empty_of tx hz
        rw [if_pos (.inl rfl)]
        clear hz
        go_enter Tryd.func32, Tryd.ntmps32
        go_wp2_with (first | (go_at_call_of 20 (Value.int IntKind.i64 3); refine (in_known _ _ _ _ _ I3).mono ?_; rintro e w' ⟨rfl, rfl⟩) | (go_at_call 20; refine (in_known _ _ _ _ _ I4).mono ?_; rintro e w' ⟨rfl, rfl⟩) | (go_at_call 52; refine cT.mono ?_; rintro e w' ⟨rfl, hb⟩; have c1 := hb.cell (p := ⟨w.heap.size, 1, none⟩) (by simp); have c2 := hb.cell (p := ⟨w.heap.size, 2, none⟩) (by simp); simp at c1 c2))
        go_ret
        exact ⟨rfl, below_two b0 hb (Nat.le_refl _)⟩
      · have h4 := isEmpty_of tx hz
        by_cases h5 : n = 0
        · subst h5
          rw [if_neg (by omega)]
          clear hz
          go_enter Tryd.func32, Tryd.ntmps32
          go_wp2_with (first | (go_at_call_of 20 (Value.int IntKind.i64 3); refine (in_known _ _ _ _ _ I3).mono ?_; rintro e w' ⟨rfl, rfl⟩) | (go_at_call 20; refine (in_known _ _ _ _ _ I4).mono ?_; rintro e w' ⟨rfl, rfl⟩) | (go_at_call 52; refine cT.mono ?_; rintro e w' ⟨rfl, hb⟩; have c1 := hb.cell (p := ⟨w.heap.size, 1, none⟩) (by simp); have c2 := hb.cell (p := ⟨w.heap.size, 2, none⟩) (by simp); simp at c1 c2))
          go_ret
          exact ⟨rfl, below_two b0 hb (Nat.le_refl _)⟩
        · rw [if_pos (.inr h5)]
          have h6 : (n != 0) = true := by simpa using h5
          clear hz h5
          go_enter Tryd.func32, Tryd.ntmps32
          go_wp2_with (first | (go_at_call_of 20 (Value.int IntKind.i64 3); refine (in_known _ _ _ _ _ I3).mono ?_; rintro e w' ⟨rfl, rfl⟩) | (go_at_call 20; refine (in_known _ _ _ _ _ I4).mono ?_; rintro e w' ⟨rfl, rfl⟩) | (go_at_call 52; refine cT.mono ?_; rintro e w' ⟨rfl, hb⟩; have c1 := hb.cell (p := ⟨w.heap.size, 1, none⟩) (by simp); have c2 := hb.cell (p := ⟨w.heap.size, 2, none⟩) (by simp); simp at c1 c2))
          go_ret
          exact ⟨rfl, below_two b0 hb (Nat.le_refl _)⟩
    · have g0 : (E == 0) = false := by simpa using h0
      rw [if_pos h0]
      clear h0
      go_enter Tryd.func32, Tryd.ntmps32
      go_wp2_with (first | (go_at_call_of 20 (Value.int IntKind.i64 3); refine (in_known _ _ _ _ _ I3).mono ?_; rintro e w' ⟨rfl, rfl⟩) | (go_at_call 20; refine (in_known _ _ _ _ _ I4).mono ?_; rintro e w' ⟨rfl, rfl⟩) | (go_at_call 52; refine cT.mono ?_; rintro e w' ⟨rfl, hb⟩; have c1 := hb.cell (p := ⟨w.heap.size, 1, none⟩) (by simp); have c2 := hb.cell (p := ⟨w.heap.size, 2, none⟩) (by simp); simp at c1 c2))
      go_ret
      exact ⟨rfl, below_two b0 hb (Nat.le_refl _)⟩
  · have I3 : decide ((1 : Int) ≤ kd ∧ kd ≤ 3) = true := by simp; omega
    have g2 : (kd == 2) = false := by simp; omega
    rw [if_pos hk]
    clear hk cT
    by_cases hn : n < 1 ∨ 4000 < n
    · have I4 : decide ((1 : Int) ≤ n ∧ n ≤ 4000) = false := by simp; omega
      rw [if_pos hn]
      clear hn
      go_enter Tryd.func32, Tryd.ntmps32
      go_wp2_with (first | (go_at_call_of 20 (Value.int IntKind.i64 3); refine (in_known _ _ _ _ _ I3).mono ?_; rintro e w' ⟨rfl, rfl⟩) | (go_at_call 20; refine (in_known _ _ _ _ _ I4).mono ?_; rintro e w' ⟨rfl, rfl⟩) | (go_at_call 52; refine cT.mono ?_; rintro e w' ⟨rfl, hb⟩; have c1 := hb.cell (p := ⟨w.heap.size, 1, none⟩) (by simp); have c2 := hb.cell (p := ⟨w.heap.size, 2, none⟩) (by simp); simp at c1 c2))
      go_ret
      exact ⟨rfl, b0⟩
    · have I4 : decide ((1 : Int) ≤ n ∧ n ≤ 4000) = true := by simp; omega
      rw [if_neg hn]
      clear hn
      by_cases hz : tx.size = 0
      · obtain rfl := empty_of tx hz
        rw [if_neg (by omega)]
        clear hz
        go_enter Tryd.func32, Tryd.ntmps32
        go_wp2_with (first | (go_at_call_of 20 (Value.int IntKind.i64 3); refine (in_known _ _ _ _ _ I3).mono ?_; rintro e w' ⟨rfl, rfl⟩) | (go_at_call 20; refine (in_known _ _ _ _ _ I4).mono ?_; rintro e w' ⟨rfl, rfl⟩) | (go_at_call 52; refine cT.mono ?_; rintro e w' ⟨rfl, hb⟩; have c1 := hb.cell (p := ⟨w.heap.size, 1, none⟩) (by simp); have c2 := hb.cell (p := ⟨w.heap.size, 2, none⟩) (by simp); simp at c1 c2))
        go_ret
        exact ⟨rfl, b0⟩
      · have h4 := isEmpty_of tx hz
        rw [if_pos hz]
        clear hz
        go_enter Tryd.func32, Tryd.ntmps32
        go_wp2_with (first | (go_at_call_of 20 (Value.int IntKind.i64 3); refine (in_known _ _ _ _ _ I3).mono ?_; rintro e w' ⟨rfl, rfl⟩) | (go_at_call 20; refine (in_known _ _ _ _ _ I4).mono ?_; rintro e w' ⟨rfl, rfl⟩) | (go_at_call 52; refine cT.mono ?_; rintro e w' ⟨rfl, hb⟩; have c1 := hb.cell (p := ⟨w.heap.size, 1, none⟩) (by simp); have c2 := hb.cell (p := ⟨w.heap.size, 2, none⟩) (by simp); simp at c1 c2))
        go_ret
        exact ⟨rfl, b0⟩
  · have I3 : decide ((1 : Int) ≤ kd ∧ kd ≤ 3) = false := by simp; omega
    have I4 : decide ((1 : Int) ≤ kd ∧ kd ≤ 3) = false := I3
    rw [if_neg (by omega), if_neg h2]
    clear h1 h2 h3 cT
    go_enter Tryd.func32, Tryd.ntmps32
    go_wp2_with (first | (go_at_call_of 20 (Value.int IntKind.i64 3); refine (in_known _ _ _ _ _ I3).mono ?_; rintro e w' ⟨rfl, rfl⟩) | (go_at_call 20; refine (in_known _ _ _ _ _ I4).mono ?_; rintro e w' ⟨rfl, rfl⟩) | (go_at_call 52; refine cT.mono ?_; rintro e w' ⟨rfl, hb⟩; have c1 := hb.cell (p := ⟨w.heap.size, 1, none⟩) (by simp); have c2 := hb.cell (p := ⟨w.heap.size, 2, none⟩) (by simp); simp at c1 c2))
    go_ret
    exact ⟨rfl, b0⟩

end Go.Proofs.YtelindfmdakliaaDoor
