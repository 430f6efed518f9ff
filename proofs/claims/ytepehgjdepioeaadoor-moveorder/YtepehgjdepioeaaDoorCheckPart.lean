/-
  Walks: text.checkCount, checkInsert, checkPart; wherryref.In, partFault.
-/
import Derived.Test.YtepehgjdepioeaaDoorCheckText
import Derived.Test.YtepehgjdepioeaaDoorPureSteps
namespace Go.Proofs.YtepehgjdepioeaaDoor
open Go.RowKit

theorem isEmpty_of (s : ByteArray) (h : s.size ≠ 0) : s.toList.isEmpty = false := by
  rw [ByteArray.toList_eq]
  cases hl : s.data.toList with
  | nil => exact absurd (by have := congrArg List.length hl; simpa using this) h
  | cons a r => rfl

set_option maxHeartbeats 400000 in
theorem checkCount_any (p : Part) (w : World) :
    Calls Tryd.prog 50 #[.agg #[.int .i64 p.kind, .int .i64 p.n, .string p.text]] w fun e w' => e = .returned (.int .i64 (countErr p)) ∧ Below w.heap.size w w' := by
  obtain ⟨kd, n, tx⟩ := p
  unfold countErr
  simp only
  by_cases h1 : n < 1
  · simp only [h1, true_or, if_true]
    go_enter Tryd.func50, Tryd.ntmps50
    go_wp2
    go_ret
    exact ⟨rfl, (Below.refl _ _).alloc (Nat.le_refl _) _⟩
  · by_cases h2 : 4000 < n
    · simp only [h1, h2, or_true, if_true]
      go_enter Tryd.func50, Tryd.ntmps50
      go_wp2
      go_ret
      exact ⟨rfl, (Below.refl _ _).alloc (Nat.le_refl _) _⟩
    · by_cases h3 : tx.size = 0
      · obtain rfl := empty_of tx h3
        simp only [h1, h2, or_false, if_false]
        go_enter Tryd.func50, Tryd.ntmps50
        go_wp2
        go_ret
        exact ⟨rfl, (Below.refl _ _).alloc (Nat.le_refl _) _⟩
      · have h4 := isEmpty_of tx h3
        rw [if_neg (by omega), if_pos h3]
        clear h3
        go_enter Tryd.func50, Tryd.ntmps50
        go_wp2
        go_ret
        exact ⟨rfl, (Below.refl _ _).alloc (Nat.le_refl _) _⟩

/-- Two callees behind one another: what lies below stays. -/
theorem below_two {B : Nat} {w a b : World} (h1 : Below B w a) (h2 : Below a.heap.size a b) (hB : B ≤ w.heap.size) : Below B w b :=
  h1.trans (h2.mono (Nat.le_trans hB h1.size))

set_option maxHeartbeats 400000 in
theorem checkInsert_any (p : Part) (w : World) (hs : p.text.size < 9223372036854775807) (hT : Tabs w) :
    Calls Tryd.prog 51 #[.agg #[.int .i64 p.kind, .int .i64 p.n, .string p.text]] w fun e w' => e = .returned (.int .i64 (insertErr p)) ∧ Below w.heap.size w w' := by
  obtain ⟨kd, n, tx⟩ := p
  simp only at hs
  unfold insertErr
  simp only
  have b0 : Below w.heap.size w (w.alloc (.cells #[.int .i64 kd, .int .i64 n, .string tx] 42)) := (Below.refl _ _).alloc (Nat.le_refl _) _
  have cT := checkText_any tx _ hs (hT.below b0)
  by_cases h0 : textErr tx = 0
  · rw [if_neg (by omega)]
    rw [h0] at cT
    clear h0
    by_cases h3 : tx.size = 0
    · obtain rfl := empty_of tx h3
      rw [if_pos (.inl rfl)]
      clear h3
      go_enter Tryd.func51, Tryd.ntmps51
      go_wp2_with (go_at_call 20; refine cT.mono ?_; rintro e w' ⟨rfl, hb⟩; have c0 := hb.cell (p := ⟨w.heap.size, 1, none⟩) (by simp); have c2 := hb.cell (p := ⟨w.heap.size, 2, none⟩) (by simp); simp at c0 c2)
      go_ret
      exact ⟨rfl, below_two b0 hb (Nat.le_refl _)⟩
    · have h4 := isEmpty_of tx h3
      by_cases h5 : n = 0
      · subst h5
        rw [if_neg (by omega)]
        clear h3
        go_enter Tryd.func51, Tryd.ntmps51
        go_wp2_with (go_at_call 20; refine cT.mono ?_; rintro e w' ⟨rfl, hb⟩; have c0 := hb.cell (p := ⟨w.heap.size, 1, none⟩) (by simp); have c2 := hb.cell (p := ⟨w.heap.size, 2, none⟩) (by simp); simp at c0 c2)
        go_ret
        exact ⟨rfl, below_two b0 hb (Nat.le_refl _)⟩
      · rw [if_pos (.inr h5)]
        have h6 : (n != 0) = true := by simpa using h5
        clear h3 h5
        go_enter Tryd.func51, Tryd.ntmps51
        go_wp2_with (go_at_call 20; refine cT.mono ?_; rintro e w' ⟨rfl, hb⟩; have c0 := hb.cell (p := ⟨w.heap.size, 1, none⟩) (by simp); have c2 := hb.cell (p := ⟨w.heap.size, 2, none⟩) (by simp); simp at c0 c2)
        go_ret
        exact ⟨rfl, below_two b0 hb (Nat.le_refl _)⟩
  · rw [if_pos h0]
    generalize textErr tx = E at *
    have h1 : (E != 0) = true := by simpa using h0
    clear h0
    go_enter Tryd.func51, Tryd.ntmps51
    go_wp2_with (go_at_call 20; refine cT.mono ?_; rintro e w' ⟨rfl, hb⟩)
    go_ret
    exact ⟨rfl, below_two b0 hb (Nat.le_refl _)⟩

set_option maxHeartbeats 400000 in
theorem checkPart_any (ahead : Int) (p : Part) (w : World) (hs : p.text.size < 9223372036854775807) (hT : Tabs w) :
    Calls Tryd.prog 40 #[.int .i64 ahead, .agg #[.int .i64 p.kind, .int .i64 p.n, .string p.text]] w fun e w' => e = .returned (.int .i64 (partErr ahead p)) ∧ Below w.heap.size w w' := by
  have b0 : Below w.heap.size w (w.alloc (.cells #[.int .i64 p.kind, .int .i64 p.n, .string p.text] 42)) := (Below.refl _ _).alloc (Nat.le_refl _) _
  have cC := checkCount_any p (w.alloc (.cells #[.int .i64 p.kind, .int .i64 p.n, .string p.text] 42))
  have cI := checkInsert_any p _ hs (hT.below b0)
  have HB : Hid (bodyErr p = if p.kind = 1 ∨ p.kind = 3 then countErr p else if p.kind = 2 then insertErr p else 3) := rfl
  unfold partErr
  generalize bodyErr p = E at *
  generalize countErr p = EC at *
  generalize insertErr p = EI at *
  obtain ⟨kd, n, tx⟩ := p
  simp only at hs HB cC cI b0 ⊢
  have hk : kd = 1 ∨ kd = 3 ∨ kd = 2 ∨ (¬ kd = 1 ∧ ¬ kd = 3 ∧ ¬ kd = 2) := by omega
  rcases hk with rfl | rfl | rfl | ⟨h1, h3, h2⟩
  · obtain rfl : E = EC := HB.out
    clear HB
    by_cases h0 : E = 0
    · subst h0
      by_cases ha : ahead = 1
      · subst ha
        rw [if_neg (by omega), if_pos (by omega)]
        go_enter Tryd.func40, Tryd.ntmps40
        go_wp2_with (first | (go_at_call 50; refine cC.mono ?_; rintro e w' ⟨rfl, hb⟩; have c0 := hb.cell (p := ⟨w.heap.size, 0, none⟩) (by simp); simp at c0) | (go_at_call 51; refine cI.mono ?_; rintro e w' ⟨rfl, hb⟩; have c0 := hb.cell (p := ⟨w.heap.size, 0, none⟩) (by simp); simp at c0))
        go_ret
        exact ⟨rfl, below_two b0 hb (Nat.le_refl _)⟩
      · have g1 : (ahead == 1) = false := by simpa using ha
        rw [if_neg (by omega), if_neg (by omega)]
        by_cases hb3 : ahead = 3
        · subst hb3
          clear ha
          go_enter Tryd.func40, Tryd.ntmps40
          go_wp2_with (first | (go_at_call 50; refine cC.mono ?_; rintro e w' ⟨rfl, hb⟩; have c0 := hb.cell (p := ⟨w.heap.size, 0, none⟩) (by simp); simp at c0) | (go_at_call 51; refine cI.mono ?_; rintro e w' ⟨rfl, hb⟩; have c0 := hb.cell (p := ⟨w.heap.size, 0, none⟩) (by simp); simp at c0))
          go_ret
          exact ⟨rfl, below_two b0 hb (Nat.le_refl _)⟩
        · have g2 : (ahead == 3) = false := by simpa using hb3
          clear ha hb3
          go_enter Tryd.func40, Tryd.ntmps40
          go_wp2_with (first | (go_at_call 50; refine cC.mono ?_; rintro e w' ⟨rfl, hb⟩; have c0 := hb.cell (p := ⟨w.heap.size, 0, none⟩) (by simp); simp at c0) | (go_at_call 51; refine cI.mono ?_; rintro e w' ⟨rfl, hb⟩; have c0 := hb.cell (p := ⟨w.heap.size, 0, none⟩) (by simp); simp at c0))
          go_ret
          exact ⟨rfl, below_two b0 hb (Nat.le_refl _)⟩
    · have g0 : (E != 0) = true := by simpa using h0
      rw [if_pos h0]
      clear h0
      go_enter Tryd.func40, Tryd.ntmps40
      go_wp2_with (first | (go_at_call 50; refine cC.mono ?_; rintro e w' ⟨rfl, hb⟩; have c0 := hb.cell (p := ⟨w.heap.size, 0, none⟩) (by simp); simp at c0) | (go_at_call 51; refine cI.mono ?_; rintro e w' ⟨rfl, hb⟩; have c0 := hb.cell (p := ⟨w.heap.size, 0, none⟩) (by simp); simp at c0))
      go_ret
      exact ⟨rfl, below_two b0 hb (Nat.le_refl _)⟩
  · obtain rfl : E = EC := HB.out
    clear HB
    by_cases h0 : E = 0
    · subst h0
      by_cases ha : ahead = 3
      · subst ha
        rw [if_neg (by omega), if_pos (by omega)]
        go_enter Tryd.func40, Tryd.ntmps40
        go_wp2_with (first | (go_at_call 50; refine cC.mono ?_; rintro e w' ⟨rfl, hb⟩; have c0 := hb.cell (p := ⟨w.heap.size, 0, none⟩) (by simp); simp at c0) | (go_at_call 51; refine cI.mono ?_; rintro e w' ⟨rfl, hb⟩; have c0 := hb.cell (p := ⟨w.heap.size, 0, none⟩) (by simp); simp at c0))
        go_ret
        exact ⟨rfl, below_two b0 hb (Nat.le_refl _)⟩
      · have g1 : (ahead == 3) = false := by simpa using ha
        rw [if_neg (by omega), if_neg (by omega)]
        clear ha
        go_enter Tryd.func40, Tryd.ntmps40
        go_wp2_with (first | (go_at_call 50; refine cC.mono ?_; rintro e w' ⟨rfl, hb⟩; have c0 := hb.cell (p := ⟨w.heap.size, 0, none⟩) (by simp); simp at c0) | (go_at_call 51; refine cI.mono ?_; rintro e w' ⟨rfl, hb⟩; have c0 := hb.cell (p := ⟨w.heap.size, 0, none⟩) (by simp); simp at c0))
        go_ret
        exact ⟨rfl, below_two b0 hb (Nat.le_refl _)⟩
    · have g0 : (E != 0) = true := by simpa using h0
      rw [if_pos h0]
      clear h0
      go_enter Tryd.func40, Tryd.ntmps40
      go_wp2_with (first | (go_at_call 50; refine cC.mono ?_; rintro e w' ⟨rfl, hb⟩; have c0 := hb.cell (p := ⟨w.heap.size, 0, none⟩) (by simp); simp at c0) | (go_at_call 51; refine cI.mono ?_; rintro e w' ⟨rfl, hb⟩; have c0 := hb.cell (p := ⟨w.heap.size, 0, none⟩) (by simp); simp at c0))
      go_ret
      exact ⟨rfl, below_two b0 hb (Nat.le_refl _)⟩
  · obtain rfl : E = EI := HB.out
    clear HB
    by_cases h0 : E = 0
    · subst h0
      by_cases ha : ahead = 2
      · subst ha
        rw [if_neg (by omega), if_pos (by omega)]
        go_enter Tryd.func40, Tryd.ntmps40
        go_wp2_with (first | (go_at_call 50; refine cC.mono ?_; rintro e w' ⟨rfl, hb⟩; have c0 := hb.cell (p := ⟨w.heap.size, 0, none⟩) (by simp); simp at c0) | (go_at_call 51; refine cI.mono ?_; rintro e w' ⟨rfl, hb⟩; have c0 := hb.cell (p := ⟨w.heap.size, 0, none⟩) (by simp); simp at c0))
        go_ret
        exact ⟨rfl, below_two b0 hb (Nat.le_refl _)⟩
      · have g1 : (ahead == 2) = false := by simpa using ha
        by_cases hb3 : ahead = 3
        · subst hb3
          rw [if_neg (by omega), if_pos (by omega)]
          clear ha
          go_enter Tryd.func40, Tryd.ntmps40
          go_wp2_with (first | (go_at_call 50; refine cC.mono ?_; rintro e w' ⟨rfl, hb⟩; have c0 := hb.cell (p := ⟨w.heap.size, 0, none⟩) (by simp); simp at c0) | (go_at_call 51; refine cI.mono ?_; rintro e w' ⟨rfl, hb⟩; have c0 := hb.cell (p := ⟨w.heap.size, 0, none⟩) (by simp); simp at c0))
          go_ret
          exact ⟨rfl, below_two b0 hb (Nat.le_refl _)⟩
        · have g2 : (ahead == 3) = false := by simpa using hb3
          rw [if_neg (by omega), if_neg (by omega)]
          clear ha hb3
          go_enter Tryd.func40, Tryd.ntmps40
          go_wp2_with (first | (go_at_call 50; refine cC.mono ?_; rintro e w' ⟨rfl, hb⟩; have c0 := hb.cell (p := ⟨w.heap.size, 0, none⟩) (by simp); simp at c0) | (go_at_call 51; refine cI.mono ?_; rintro e w' ⟨rfl, hb⟩; have c0 := hb.cell (p := ⟨w.heap.size, 0, none⟩) (by simp); simp at c0))
          go_ret
          exact ⟨rfl, below_two b0 hb (Nat.le_refl _)⟩
    · have g0 : (E != 0) = true := by simpa using h0
      rw [if_pos h0]
      clear h0
      go_enter Tryd.func40, Tryd.ntmps40
      go_wp2_with (first | (go_at_call 50; refine cC.mono ?_; rintro e w' ⟨rfl, hb⟩; have c0 := hb.cell (p := ⟨w.heap.size, 0, none⟩) (by simp); simp at c0) | (go_at_call 51; refine cI.mono ?_; rintro e w' ⟨rfl, hb⟩; have c0 := hb.cell (p := ⟨w.heap.size, 0, none⟩) (by simp); simp at c0))
      go_ret
      exact ⟨rfl, below_two b0 hb (Nat.le_refl _)⟩
  · obtain rfl : E = 3 := by rw [HB.out, if_neg (by omega), if_neg (by omega)]
    have g1 : (kd == 1) = false := by simpa using h1
    have g2 : (kd == 2) = false := by simpa using h2
    have g3 : (kd == 3) = false := by simpa using h3
    rw [if_pos (by omega)]
    clear h1 h2 h3 HB
    go_enter Tryd.func40, Tryd.ntmps40
    go_wp2
    go_ret
    exact ⟨rfl, b0⟩

end Go.Proofs.YtepehgjdepioeaaDoor
