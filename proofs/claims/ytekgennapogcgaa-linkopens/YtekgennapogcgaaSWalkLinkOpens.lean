/-
  Walks: wherrylaw.LinkOpens and what it calls.
-/
import Derived.Test.YtekgennapogcgaaSBase
namespace Go.Proofs.Ytekgennapogcgaa
open Go.RowKit Go.Lib

set_option maxHeartbeats 400000 in
theorem lcounts_same (n : Int) (w : World) :
    Calls Try.prog 7 #[.int .i64 n] w fun e w' => e = .returned (.bool (decide (0 ≤ n ∧ n ≤ 1048576))) ∧ w' = w := by
  by_cases h1 : 0 ≤ n
  · by_cases h2 : n ≤ 1048576
    · have e : decide (0 ≤ n ∧ n ≤ 1048576) = true := decide_eq_true ⟨h1, h2⟩
      rw [e]
      clear e
      go_enter Try.func7, Try.ntmps7
      go_wp2
      go_ret
      exact ⟨rfl, rfl⟩
    · have e : decide (0 ≤ n ∧ n ≤ 1048576) = false := decide_eq_false fun h => h2 h.2
      rw [e]
      clear e
      go_enter Try.func7, Try.ntmps7
      go_wp2
      go_ret
      exact ⟨rfl, rfl⟩
  · have e : decide (0 ≤ n ∧ n ≤ 1048576) = false := decide_eq_false fun h => h1 h.1
    rw [e]
    clear e
    go_enter Try.func7, Try.ntmps7
    go_wp2
    go_ret
    exact ⟨rfl, rfl⟩
set_option maxHeartbeats 400000 in
theorem in_same (n : Int) (w : World) :
    Calls Try.prog 8 #[.int .i64 n, .int .i64 1, .int .i64 1048576] w fun e w' => e = .returned (.bool (decide (1 ≤ n ∧ n ≤ 1048576))) ∧ w' = w := by
  by_cases h1 : 1 ≤ n
  · by_cases h2 : n ≤ 1048576
    · have e : decide (1 ≤ n ∧ n ≤ 1048576) = true := decide_eq_true ⟨h1, h2⟩
      rw [e]
      clear e
      go_enter Try.func8, Try.ntmps8
      go_wp2
      go_ret
      exact ⟨rfl, rfl⟩
    · have e : decide (1 ≤ n ∧ n ≤ 1048576) = false := decide_eq_false fun h => h2 h.2
      rw [e]
      clear e
      go_enter Try.func8, Try.ntmps8
      go_wp2
      go_ret
      exact ⟨rfl, rfl⟩
  · have e : decide (1 ≤ n ∧ n ≤ 1048576) = false := decide_eq_false fun h => h1 h.1
    rw [e]
    clear e
    go_enter Try.func8, Try.ntmps8
    go_wp2
    go_ret
    exact ⟨rfl, rfl⟩
set_option maxHeartbeats 400000 in
theorem open_ok (ep : Int) (h : 1 ≤ ep ∧ ep ≤ 1048576) (w : World) :
    Calls Try.prog 4 #[.int .i64 ep] w fun r w' => r = .returned (.tuple #[.agg #[.int .i64 ep, .int .i64 1, .slice none 0 0, .slice none 0 0, .int .i64 0], .int .i64 0]) ∧ Below w.heap.size w w' := by
  have cN := fun w => lcounts_same ep w
  rw [decide_eq_true (show 0 ≤ ep ∧ ep ≤ 1048576 by omega)] at cN
  have g : (ep == 0) = false := by simp; omega
  go_enter Try.func4, Try.ntmps4
  go_wp2_with fail
  refine (cN _).mono ?_
  rintro r w' ⟨rfl, hw'⟩
  rw [hw']
  clear hw' cN
  go_wp2_with fail
  exact bodyPost_ret (v := .tuple #[.agg #[.int .i64 ep, .int .i64 1, .slice none 0 0, .slice none 0 0, .int .i64 0], .int .i64 0]) (by simp [results, Try.results4, go_sem]) rfl ⟨rfl, (Below.refl _ _).alloc (Nat.le_refl _) _⟩
set_option maxHeartbeats 400000 in
theorem open_bad (ep : Int) (h : ¬ (1 ≤ ep ∧ ep ≤ 1048576)) (w : World) :
    Calls Try.prog 4 #[.int .i64 ep] w fun r w' => r = .returned (.tuple #[.agg #[.int .i64 0, .int .i64 0, .slice none 0 0, .slice none 0 0, .int .i64 0], .int .i64 2]) ∧ Below w.heap.size w w' := by
  have cN := fun w => lcounts_same ep w
  by_cases h0 : ep = 0
  · subst h0
    rw [decide_eq_true (show (0 : Int) ≤ 0 ∧ (0 : Int) ≤ 1048576 by omega)] at cN
    clear h
    go_enter Try.func4, Try.ntmps4
    go_wp2_with fail
    refine (cN _).mono ?_
    rintro r w' ⟨rfl, hw'⟩
    rw [hw']
    clear hw' cN
    go_wp2_with fail
    exact bodyPost_ret (v := .tuple #[.agg #[.int .i64 0, .int .i64 0, .slice none 0 0, .slice none 0 0, .int .i64 0], .int .i64 2]) (by simp [results, Try.results4, go_sem]) rfl ⟨rfl, (Below.refl _ _).alloc (Nat.le_refl _) _⟩
  · rw [decide_eq_false (show ¬ (0 ≤ ep ∧ ep ≤ 1048576) by omega)] at cN
    clear h h0
    go_enter Try.func4, Try.ntmps4
    go_wp2_with fail
    refine (cN _).mono ?_
    rintro r w' ⟨rfl, hw'⟩
    rw [hw']
    clear hw' cN
    go_wp2_with fail
    exact bodyPost_ret (v := .tuple #[.agg #[.int .i64 0, .int .i64 0, .slice none 0 0, .slice none 0 0, .int .i64 0], .int .i64 2]) (by simp [results, Try.results4, go_sem]) rfl ⟨rfl, (Below.refl _ _).alloc (Nat.le_refl _) _⟩
set_option maxHeartbeats 400000 in
theorem opened_any (ep : Int) (w : World) :
    Calls Try.prog 5 #[.int .i64 ep] w fun r w' => r = .returned (.tuple (if 1 ≤ ep ∧ ep ≤ 1048576 then #[.agg #[.int .i64 ep, .int .i64 1, .slice none 0 0, .slice none 0 0, .int .i64 0], .int .i64 0] else #[.agg #[.int .i64 0, .int .i64 0, .slice none 0 0, .slice none 0 0, .int .i64 0], .int .i64 2])) ∧ Below w.heap.size w w' := by
  have cN := fun w => in_same ep w
  by_cases h : 1 ≤ ep ∧ ep ≤ 1048576
  · rw [if_pos h]
    rw [decide_eq_true h] at cN
    go_enter Try.func5, Try.ntmps5
    go_wp2_with fail
    refine (cN _).mono ?_
    rintro r w' ⟨rfl, hw'⟩
    rw [hw']
    clear hw' cN
    go_wp2_with fail
    exact bodyPost_ret (v := .tuple #[.agg #[.int .i64 ep, .int .i64 1, .slice none 0 0, .slice none 0 0, .int .i64 0], .int .i64 0]) (by simp [results, Try.results5, go_sem]) rfl ⟨rfl, (Below.refl _ _).alloc (Nat.le_refl _) _⟩
  · rw [if_neg h]
    rw [decide_eq_false h] at cN
    go_enter Try.func5, Try.ntmps5
    go_wp2_with fail
    refine (cN _).mono ?_
    rintro r w' ⟨rfl, hw'⟩
    rw [hw']
    clear hw' cN
    go_wp2_with fail
    exact bodyPost_ret (v := .tuple #[.agg #[.int .i64 0, .int .i64 0, .slice none 0 0, .slice none 0 0, .int .i64 0], .int .i64 2]) (by simp [results, Try.results5, go_sem]) rfl ⟨rfl, (Below.refl _ _).alloc (Nat.le_refl _) _⟩
set_option maxHeartbeats 400000 in
theorem sameFrames_nil (w : World) :
    Calls Try.prog 9 #[.slice none 0 0, .slice none 0 0] w fun r w' => r = .returned (.bool true) ∧ Below w.heap.size w w' := by
  go_enter Try.func9, Try.ntmps9
  go_wp2_with fail
  go_loopg [5] 0 (fun _ iv wr => iv = .int .i64 0 ∧ Below w.heap.size w wr)
  case atStart => exact ⟨rfl, Below.refl _ _⟩
  case round =>
    obtain ⟨rfl, hb⟩ := hrel
    go_wp2_with fail
    go_ret
    exact ⟨rfl, hb⟩

set_option maxRecDepth 100000 in
set_option maxHeartbeats 1000000 in
theorem sameLink_nil (ep nx hd : Int) (w : World) :
    Calls Try.prog 6 #[.agg #[.int .i64 ep, .int .i64 nx, .slice none 0 0, .slice none 0 0, .int .i64 hd], .agg #[.int .i64 ep, .int .i64 nx, .slice none 0 0, .slice none 0 0, .int .i64 hd]] w fun r w' => r = .returned (.bool true) ∧ Below w.heap.size w w' := by
  have hb1 := (Below.refl w.heap.size w).alloc (Nat.le_refl _) (.cells #[.int .i64 ep, .int .i64 nx, .slice none 0 0, .slice none 0 0, .int .i64 hd] 24)
  have hb2 := hb1.alloc hb1.size (.cells #[.int .i64 ep, .int .i64 nx, .slice none 0 0, .slice none 0 0, .int .i64 hd] 24)
  have ha := row_old (heap_alloc_new w (.cells #[.int .i64 ep, .int .i64 nx, .slice none 0 0, .slice none 0 0, .int .i64 hd] 24)) (.cells #[.int .i64 ep, .int .i64 nx, .slice none 0 0, .slice none 0 0, .int .i64 hd] 24)
  have hb := heap_alloc_new (w.alloc (.cells #[.int .i64 ep, .int .i64 nx, .slice none 0 0, .slice none 0 0, .int .i64 hd] 24)) (.cells #[.int .i64 ep, .int .i64 nx, .slice none 0 0, .slice none 0 0, .int .i64 hd] 24)
  rw [show (w.alloc (.cells #[.int .i64 ep, .int .i64 nx, .slice none 0 0, .slice none 0 0, .int .i64 hd] 24)).heap.size = w.heap.size + 1 by simp] at hb
  obtain ⟨a0, al0, _⟩ := blk ha
  obtain ⟨b0, bl0, _⟩ := blk hb
  go_enter Try.func6, Try.ntmps6
  go_wp2_with fail
  refine (sameFrames_nil _).mono ?_
  generalize ((w.alloc (.cells #[.int .i64 ep, .int .i64 nx, .slice none 0 0, .slice none 0 0, .int .i64 hd] 24)).alloc (.cells #[.int .i64 ep, .int .i64 nx, .slice none 0 0, .slice none 0 0, .int .i64 hd] 24)) = w0 at *
  rintro r w1 ⟨rfl, hb3⟩
  have HB := below_two hb2 hb3 (Nat.le_refl _)
  replace ha := (hb3.block _ al0).trans ha
  replace hb := (hb3.block _ bl0).trans hb
  clear a0 al0 b0 bl0
  obtain ⟨a0, al0, _⟩ := blk ha
  obtain ⟨b0, bl0, _⟩ := blk hb
  go_wp2_with fail
  refine (sameFrames_nil _).mono ?_
  rintro r w2 ⟨rfl, hb4⟩
  go_wp2_with fail
  go_ret
  exact ⟨rfl, below_two HB hb4 (Nat.le_refl _)⟩

set_option maxRecDepth 100000 in
set_option maxHeartbeats 1000000 in
theorem linkOpens_walk (ep : Int) (w : World) (_hi : -9223372036854775808 ≤ ep ∧ ep ≤ 9223372036854775807) :
    Calls Try.prog 3 #[.int .i64 ep] w fun r w' => r = .returned (.bool true) ∧ Below w.heap.size w w' := by
  obtain ⟨x, y, e, c1, c2⟩ : ∃ x y e : Int, (∀ w, Calls Try.prog 4 #[.int .i64 ep] w fun r w' => r = .returned (.tuple #[.agg #[.int .i64 x, .int .i64 y, .slice none 0 0, .slice none 0 0, .int .i64 0], .int .i64 e]) ∧ Below w.heap.size w w') ∧ (∀ w, Calls Try.prog 5 #[.int .i64 ep] w fun r w' => r = .returned (.tuple #[.agg #[.int .i64 x, .int .i64 y, .slice none 0 0, .slice none 0 0, .int .i64 0], .int .i64 e]) ∧ Below w.heap.size w w') := by
    by_cases h : 1 ≤ ep ∧ ep ≤ 1048576
    · exact ⟨ep, 1, 0, open_ok ep h, fun w => by have := opened_any ep w; rw [if_pos h] at this; exact this⟩
    · exact ⟨0, 0, 2, open_bad ep h, fun w => by have := opened_any ep w; rw [if_neg h] at this; exact this⟩
  go_enter Try.func3, Try.ntmps3
  go_wp2_with fail
  refine (c1 _).mono ?_
  rintro r w1 ⟨rfl, hb1⟩
  have HB1 := hb1.alloc hb1.size (.cells #[.int .i64 x, .int .i64 y, .slice none 0 0, .slice none 0 0, .int .i64 0] 24)
  have ha := heap_alloc_new w1 (.cells #[.int .i64 x, .int .i64 y, .slice none 0 0, .slice none 0 0, .int .i64 0] 24)
  obtain ⟨a0, al0, _⟩ := blk ha
  go_wp2_with fail
  refine (c2 _).mono ?_
  generalize (w1.alloc (.cells #[.int .i64 x, .int .i64 y, .slice none 0 0, .slice none 0 0, .int .i64 0] 24)) = w2 at *
  rintro r w3 ⟨rfl, hb3⟩
  have HB3 := below_two HB1 hb3 (Nat.le_refl _)
  have HB4 := HB3.alloc HB3.size (.cells #[.int .i64 x, .int .i64 y, .slice none 0 0, .slice none 0 0, .int .i64 0] 24)
  have ha4 := row_old ((hb3.block _ al0).trans ha) (.cells #[.int .i64 x, .int .i64 y, .slice none 0 0, .slice none 0 0, .int .i64 0] 24)
  have hb4 := heap_alloc_new w3 (.cells #[.int .i64 x, .int .i64 y, .slice none 0 0, .slice none 0 0, .int .i64 0] 24)
  clear a0 al0
  obtain ⟨a0, al0, _⟩ := blk ha4
  obtain ⟨b0, bl0, _⟩ := blk hb4
  go_wp2_with fail
  refine (sameLink_nil x y 0 _).mono ?_
  rintro r w5 ⟨rfl, hb5⟩
  go_wp2_with fail
  go_ret
  exact ⟨by simp, below_two HB4 hb5 (Nat.le_refl _)⟩

end Go.Proofs.Ytekgennapogcgaa
