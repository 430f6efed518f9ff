/-
  Walks: node.isNode, node.checkBegin; node.Begin, where it refuses.
-/
import Derived.Test.YtpgcjpiabciekaaDoorTreeAt
import Derived.Test.YtpgcjpiabciekaaDoorCheck
namespace Go.Proofs.YtpgcjpiabciekaaDoor
open Go.RowKit Go.Lib

set_option maxHeartbeats 400000 in
theorem isNode_any (l : List Int) (a : Option Addr) (c : Nat) (me : Int) (w : World) :
    Calls Tryd.prog 91 #[.slice a l.length c, .int .i64 me] w fun e w' => e = .returned (.bool (decide (0 ≤ me ∧ me < (l.length : Int)))) ∧ w' = w := by
  by_cases h1 : 0 ≤ me
  · by_cases h2 : me < (l.length : Int)
    · rw [decide_eq_true ⟨h1, h2⟩]
      go_enter Tryd.func91, Tryd.ntmps91
      go_wp2
      go_ret
      exact ⟨rfl, rfl⟩
    · rw [decide_eq_false (fun h : 0 ≤ me ∧ me < (l.length : Int) => h2 h.2)]
      go_enter Tryd.func91, Tryd.ntmps91
      go_wp2
      go_ret
      exact ⟨rfl, rfl⟩
  · rw [decide_eq_false (fun h : 0 ≤ me ∧ me < (l.length : Int) => h1 h.1)]
    go_enter Tryd.func91, Tryd.ntmps91
    go_wp2
    go_ret
    exact ⟨rfl, rfl⟩

/-- P6.5 -/
def beginErr (l : List Int) (me births : Int) (s : ByteArray) : Int := if treeErr l ≠ 0 then treeErr l else if ¬ (0 ≤ me ∧ me < (l.length : Int)) then 13 else if births < 1 ∨ 250 < births then 2 else if textErr s ≠ 0 then textErr s else if me ≠ 0 ∧ s.size ≠ 0 then 4 else 0

set_option maxRecDepth 100000 in
set_option maxHeartbeats 1000000 in
theorem checkBegin_any (l : List Int) (a : Option Addr) (c : Nat) (me births : Int) (s : ByteArray) (w : World) (h : Ints w a l) (hs : s.size < 9223372036854775807) (hT : Tabs w) :
    Calls Tryd.prog 67 #[.slice a l.length c, .int .i64 me, .int .i64 births, .string s] w fun e w' => e = .returned (.int .i64 (beginErr l me births s)) ∧ Below w.heap.size w w' := by
  have c1 := checkTree_any l a c w h
  have c2 := isNode_any l a c me w
  have c3 := checkText_any s w hs hT
  unfold beginErr
  generalize treeErr l = E at *
  by_cases h1 : E = 0
  rotate_left
  · rw [if_pos h1]
    have g1 : (E != 0) = true := by simpa using h1
    clear h c2 c3 h1
    go_enter Tryd.func67, Tryd.ntmps67
    go_wp2_with fail
    refine c1.mono ?_
    rintro r w1 ⟨rfl, rfl⟩
    go_wp2_with fail
    go_ret
    exact ⟨rfl, Below.refl _ _⟩
  rw [if_neg (by simpa using h1)]
  subst h1
  by_cases h2 : 0 ≤ me ∧ me < (l.length : Int)
  rotate_left
  · rw [if_pos h2]
    rw [decide_eq_false h2] at c2
    clear h h2 c3
    go_enter Tryd.func67, Tryd.ntmps67
    go_wp2_with fail
    refine c1.mono ?_
    rintro r w1 ⟨rfl, rfl⟩
    go_wp2_with fail
    refine c2.mono ?_
    rintro r w1 ⟨rfl, rfl⟩
    go_wp2_with fail
    go_ret
    exact ⟨rfl, Below.refl _ _⟩
  rw [if_neg (by simpa using h2)]
  rw [decide_eq_true h2] at c2
  clear h2
  by_cases h3 : births < 1
  · rw [if_pos (.inl h3)]
    clear h c3
    go_enter Tryd.func67, Tryd.ntmps67
    go_wp2_with fail
    refine c1.mono ?_
    rintro r w1 ⟨rfl, rfl⟩
    go_wp2_with fail
    refine c2.mono ?_
    rintro r w1 ⟨rfl, rfl⟩
    go_wp2_with fail
    go_ret
    exact ⟨rfl, Below.refl _ _⟩
  by_cases h4 : 250 < births
  · rw [if_pos (.inr h4)]
    clear h c3
    go_enter Tryd.func67, Tryd.ntmps67
    go_wp2_with fail
    refine c1.mono ?_
    rintro r w1 ⟨rfl, rfl⟩
    go_wp2_with fail
    refine c2.mono ?_
    rintro r w1 ⟨rfl, rfl⟩
    go_wp2_with fail
    go_ret
    exact ⟨rfl, Below.refl _ _⟩
  rw [if_neg (by omega)]
  generalize textErr s = F at *
  by_cases h5 : F = 0
  rotate_left
  · rw [if_pos h5]
    have g5 : (F != 0) = true := by simpa using h5
    clear h h5
    go_enter Tryd.func67, Tryd.ntmps67
    go_wp2_with fail
    refine c1.mono ?_
    rintro r w1 ⟨rfl, rfl⟩
    go_wp2_with fail
    refine c2.mono ?_
    rintro r w1 ⟨rfl, rfl⟩
    go_wp2_with fail
    refine c3.mono ?_
    rintro r w1 ⟨rfl, hb⟩
    go_wp2_with fail
    go_ret
    exact ⟨rfl, hb⟩
  rw [if_neg (by simpa using h5)]
  subst h5
  by_cases h6 : me = 0
  · rw [if_neg (fun hh => hh.1 h6)]
    subst h6
    clear h
    go_enter Tryd.func67, Tryd.ntmps67
    go_wp2_with fail
    refine c1.mono ?_
    rintro r w1 ⟨rfl, rfl⟩
    go_wp2_with fail
    refine c2.mono ?_
    rintro r w1 ⟨rfl, rfl⟩
    go_wp2_with fail
    refine c3.mono ?_
    rintro r w1 ⟨rfl, hb⟩
    go_wp2_with fail
    go_ret
    exact ⟨rfl, hb⟩
  have g6 : (me != 0) = true := by simpa using h6
  by_cases h7 : s.size = 0
  · rw [if_neg (fun hh => hh.2 h7)]
    obtain rfl := empty_of s h7
    clear h h7 h6
    go_enter Tryd.func67, Tryd.ntmps67
    go_wp2_with fail
    refine c1.mono ?_
    rintro r w1 ⟨rfl, rfl⟩
    go_wp2_with fail
    refine c2.mono ?_
    rintro r w1 ⟨rfl, rfl⟩
    go_wp2_with fail
    refine c3.mono ?_
    rintro r w1 ⟨rfl, hb⟩
    go_wp2_with fail
    go_ret
    exact ⟨rfl, hb⟩
  · rw [if_pos ⟨h6, h7⟩]
    have g7 := isEmpty_of s h7
    clear h h7 h6
    go_enter Tryd.func67, Tryd.ntmps67
    go_wp2_with fail
    refine c1.mono ?_
    rintro r w1 ⟨rfl, rfl⟩
    go_wp2_with fail
    refine c2.mono ?_
    rintro r w1 ⟨rfl, rfl⟩
    go_wp2_with fail
    refine c3.mono ?_
    rintro r w1 ⟨rfl, hb⟩
    go_wp2_with fail
    go_ret
    exact ⟨rfl, hb⟩

set_option maxRecDepth 100000 in
set_option maxHeartbeats 1000000 in
theorem begin_bad (l : List Int) (a : Option Addr) (c : Nat) (me births : Int) (s : ByteArray) (w : World) (h : Ints w a l) (hs : s.size < 9223372036854775807) (hT : Tabs w) (E : Int) (hE : beginErr l me births s = E) (hE0 : E ≠ 0) :
    Calls Tryd.prog 30 #[.slice a l.length c, .int .i64 me, .int .i64 births, .string s] w fun e w' => e = .returned (.tuple #[.agg #[.int .i64 0, .int .i64 0, .int .i64 0, .bool false, .string ⟨#[]⟩, .slice none 0 0, .slice none 0 0, .slice none 0 0, .slice none 0 0, .slice none 0 0], .int .i64 E]) ∧ Below w.heap.size w w' := by
  have hb0 := (Below.refl w.heap.size w).alloc (Nat.le_refl _) (.cells #[.int .i64 0, .int .i64 0, .int .i64 0, .bool false, .string ⟨#[]⟩, .slice none 0 0, .slice none 0 0, .slice none 0 0, .slice none 0 0, .slice none 0 0] 78)
  have c1 := checkBegin_any l a c me births s (w.alloc (.cells #[.int .i64 0, .int .i64 0, .int .i64 0, .bool false, .string ⟨#[]⟩, .slice none 0 0, .slice none 0 0, .slice none 0 0, .slice none 0 0, .slice none 0 0] 78)) (h.below hb0) hs (hT.below hb0)
  rw [hE] at c1
  have g1 : (E != 0) = true := by simpa using hE0
  clear h hE hE0
  go_enter Tryd.func30, Tryd.ntmps30
  go_wp2_with fail
  refine c1.mono ?_
  rintro r w1 ⟨rfl, hb⟩
  have HB := below_two hb0 hb (Nat.le_refl _)
  have hr := (hb.block _ (by simp)).trans (heap_alloc_new w (.cells #[.int .i64 0, .int .i64 0, .int .i64 0, .bool false, .string ⟨#[]⟩, .slice none 0 0, .slice none 0 0, .slice none 0 0, .slice none 0 0, .slice none 0 0] 78))
  obtain ⟨hfin, hch⟩ := puts_all hr [.int .i64 0, .int .i64 0, .int .i64 0, .bool false, .string ⟨#[]⟩, .slice none 0 0, .slice none 0 0, .slice none 0 0, .slice none 0 0, .slice none 0 0] rfl
  simp only [puts, Nat.zero_add, Nat.reduceAdd] at hfin hch
  have HB2 := HB.trans (hch.below (B := w.heap.size) (fun i e => by omega) HB.size)
  obtain ⟨r0, rl0, rf0⟩ := blk hr
  clear hch hb hb0
  go_wp2_with fail
  generalize ((((((((((w1.setCell ⟨w.heap.size, 0, none⟩ (.int .i64 0)).setCell ⟨w.heap.size, 1, none⟩ (.int .i64 0)).setCell ⟨w.heap.size, 2, none⟩ (.int .i64 0)).setCell ⟨w.heap.size, 3, none⟩ (.bool false)).setCell ⟨w.heap.size, 4, none⟩ (.string ⟨#[]⟩)).setCell ⟨w.heap.size, 5, none⟩ (.slice none 0 0)).setCell ⟨w.heap.size, 6, none⟩ (.slice none 0 0)).setCell ⟨w.heap.size, 7, none⟩ (.slice none 0 0)).setCell ⟨w.heap.size, 8, none⟩ (.slice none 0 0)).setCell ⟨w.heap.size, 9, none⟩ (.slice none 0 0)) = w9 at *
  obtain ⟨t9, _, _⟩ := blk hfin
  exact bodyPost_ret (v := .tuple #[.agg #[.int .i64 0, .int .i64 0, .int .i64 0, .bool false, .string ⟨#[]⟩, .slice none 0 0, .slice none 0 0, .slice none 0 0, .slice none 0 0, .slice none 0 0], .int .i64 E]) (by simp [results, Tryd.results30, go_sem, t9]) rfl ⟨rfl, HB2⟩

end Go.Proofs.YtpgcjpiabciekaaDoor
