/-
  Walk: wherryref.WholeOp.
-/
import Derived.Test.YtpiijhkohjnnhabDoorWholeWalk
namespace Go.Proofs.YtpiijhkohjnnhabDoor
open Go.RowKit Go.Lib

set_option maxRecDepth 100000 in
theorem heap_two (w : World) (A B : Obj) : ((w.alloc A).alloc B).drew.heap[w.heap.size + 1]? = some B := by
  have h := heap_alloc_new (w.alloc A) B
  have e : (w.alloc A).heap.size = w.heap.size + 1 := by simp
  rw [e] at h
  exact h

set_option maxRecDepth 100000 in
set_option maxHeartbeats 1000000 in
theorem wholeOp_any (s t : ByteArray) (w : World) (hs : s.size ≤ 1048576) (ht : t.size ≤ 1048576) (hT : Tabs w) :
    Calls Tryd.prog 16 #[.string s, .string t] w fun e w' => ∃ v, e = .returned (.tuple #[v, .int .i64 (wholeErr s t)]) ∧ w'.ownsRow w.heap.size 49 3 v (wholeRes s t).length (partCells (wholeRes s t)) ∧ Below w.heap.size w w' := by
  obtain ⟨i0, hi, hz0, hz1, hz2⟩ := info_parts info_part
  have c1 := textFault_any s w (by omega) hT
  by_cases h0 : textErr s = 0
  · rw [h0] at c1
    by_cases h1 : textErr t = 0
    · have hE : wholeErr s t = 0 := by unfold wholeErr; rw [if_neg (by omega), h1]
      have hR : wholeRes s t = wholeOp s t := by unfold wholeRes; rw [if_neg (by omega)]
      rw [hE, hR]
      clear hE hR
      have HC := fun w1 hb1 => textFault_any t w1 (by omega) (hT.below (w' := w1) hb1)
      rw [h1] at HC
      clear h1
      unfold wholeOp
      by_cases hz : s.size = 0
      · obtain rfl := empty_of s hz
        rw [if_pos hz]
        by_cases ho : t.size = 0
        · obtain rfl := empty_of t ho
          rw [if_pos ho]
          clear ho hz
          go_enter Tryd.func16, Tryd.ntmps16
          go_wp2_with fail
          refine c1.mono ?_
          rintro e w1 ⟨rfl, hb1⟩
          have c2 := HC w1 hb1
          go_wp2_with fail
          refine c2.mono ?_
          rintro e w2 ⟨rfl, hb2⟩
          clear h0 c1 c2 HC
          have hb12 := below_two hb1 hb2 (Nat.le_refl _)
          go_wp2
          go_ret2
          exact ⟨_, rfl, World.ownsRow_nil _ _ _ _, hb12⟩
        · rw [if_neg ho]
          have htE := isEmpty_of t ho
          clear ho hz
          go_enter Tryd.func16, Tryd.ntmps16
          go_wp2_with fail
          refine c1.mono ?_
          rintro e w1 ⟨rfl, hb1⟩
          have c2 := HC w1 hb1
          go_wp2_with fail
          refine c2.mono ?_
          rintro e w2 ⟨rfl, hb2⟩
          clear h0 c1 c2 HC
          have hb12 := below_two hb1 hb2 (Nat.le_refl _)
          go_wp2_with (at_builtin; refine wpList_append_lies _ rfl (.tmp 19) (.tmp 22) 23 rfl w.heap.size 49 i0 _ 3 32 Tryd.underlying23 hi hz0 hz1 hz2 rfl (by decide) (.slice none 0 0) 0 [] rfl (World.ownsRow_nil _ _ _ _) ⟨w2.heap.size, 0, none⟩ 1 1 [.int .i64 2, .int .i64 0, .string t] rfl rfl (World.news_of_block (cs := #[.int .i64 2, .int .i64 0, .string t]) (t := 49) (fr := (0, 0)) (heap_alloc_new w2 _)) (by simp [Value.oneCell']) (by omega) (by unfold maxLen; omega) (by omega) (by have := hb12.size; simp; omega) _ rfl ?_; intro g1 cap1 x1 hown1 hgrow1 hat1 hlt1; have bx1 : Below w.heap.size w x1 := (hb12.alloc hb12.size _).grown hgrow1 (by have := hb12.size; simp; omega) (fun k e => by simp [Value.ownBlock] at e))
          go_ret2
          exact ⟨_, rfl, hown1, bx1⟩
      · rw [if_neg hz]
        have hsE := isEmpty_of s hz
        have hcv := conv_runes s (by omega)
        have hrl := runes_le s
        by_cases ho : t.size = 0
        · obtain rfl := empty_of t ho
          rw [if_pos ho]
          clear ho hz
          go_enter Tryd.func16, Tryd.ntmps16
          go_wp2_with fail
          refine c1.mono ?_
          rintro e w1 ⟨rfl, hb1⟩
          have c2 := HC w1 hb1
          go_wp2_with fail
          refine c2.mono ?_
          rintro e w2 ⟨rfl, hb2⟩
          clear h0 c1 c2 HC
          have hb12 := below_two hb1 hb2 (Nat.le_refl _)
          go_wp2_with (at_builtin; refine wpList_append_lies _ rfl (.tmp 26) (.tmp 31) 23 rfl w.heap.size 49 i0 _ 3 32 Tryd.underlying23 hi hz0 hz1 hz2 rfl (by decide) (.slice none 0 0) 0 [] rfl (World.ownsRow_nil _ _ _ _) ⟨w2.heap.size + 1, 0, none⟩ 1 1 [.int .i64 3, .int .i64 ((runes s).length : Int), .string .empty] rfl rfl (World.news_of_block (cs := #[.int .i64 3, .int .i64 ((runes s).length : Int), .string .empty]) (t := 49) (fr := (0, 0)) (heap_two w2 _ _)) (by simp [Value.oneCell']) (by omega) (by unfold maxLen; omega) (by omega) (by have := hb12.size; simp; omega) _ rfl ?_; intro g2 cap2 x2 hown2 hgrow2 hat2 hlt2)
          go_ret2
          exact ⟨_, rfl, hown2, (((hb12.alloc hb12.size _).alloc (by have := hb12.size; simp; omega) _).drew).grown hgrow2 (by have := hb12.size; simp; omega) (fun k e => by simp [Value.ownBlock] at e)⟩
        · rw [if_neg ho]
          have htE := isEmpty_of t ho
          clear ho hz
          go_enter Tryd.func16, Tryd.ntmps16
          go_wp2_with fail
          refine c1.mono ?_
          rintro e w1 ⟨rfl, hb1⟩
          have c2 := HC w1 hb1
          go_wp2_with fail
          refine c2.mono ?_
          rintro e w2 ⟨rfl, hb2⟩
          clear h0 c1 c2 HC
          have hb12 := below_two hb1 hb2 (Nat.le_refl _)
          go_wp2_with (first | (at_builtin; refine wpList_append_lies _ rfl (.tmp 19) (.tmp 22) 23 rfl w.heap.size 49 i0 _ 3 32 Tryd.underlying23 hi hz0 hz1 hz2 rfl (by decide) (.slice none 0 0) 0 [] rfl (World.ownsRow_nil _ _ _ _) ⟨w2.heap.size, 0, none⟩ 1 1 [.int .i64 2, .int .i64 0, .string t] rfl rfl (World.news_of_block (cs := #[.int .i64 2, .int .i64 0, .string t]) (t := 49) (fr := (0, 0)) (heap_alloc_new w2 _)) (by simp [Value.oneCell']) (by omega) (by unfold maxLen; omega) (by omega) (by have := hb12.size; simp; omega) _ rfl ?_; intro g1 cap1 x1 hown1 hgrow1 hat1 hlt1; have bx1 : Below w.heap.size w x1 := (hb12.alloc hb12.size _).grown hgrow1 (by have := hb12.size; simp; omega) (fun k e => by simp [Value.ownBlock] at e)) | (at_builtin; refine wpList_append_lies _ rfl (.tmp 26) (.tmp 31) 23 rfl w.heap.size 49 i0 _ 3 32 Tryd.underlying23 hi hz0 hz1 hz2 rfl (by decide) (.slice (some ⟨g1, 0, none⟩) 1 cap1) 1 _ rfl (own_drew ((hown1.alloc _).alloc _)) ⟨x1.heap.size + 1, 0, none⟩ 1 1 [.int .i64 3, .int .i64 ((runes s).length : Int), .string .empty] rfl rfl (World.news_of_block (cs := #[.int .i64 3, .int .i64 ((runes s).length : Int), .string .empty]) (t := 49) (fr := (0, 0)) (heap_two x1 _ _)) (by simp [Value.oneCell']) (by omega) (by unfold maxLen; omega) (by omega) (by have := hb12.size; have := bx1.size; simp; omega) _ rfl ?_; intro g2 cap2 x2 hown2 hgrow2 hat2 hlt2))
          go_ret2
          exact ⟨_, rfl, hown2, (((bx1.alloc bx1.size _).alloc (by have := bx1.size; simp; omega) _).drew).grown hgrow2 (by have := bx1.size; simp; omega) (fun k e => (hown1.lt k e).1)⟩
    · have hE : wholeErr s t = textErr t := by unfold wholeErr; rw [if_neg (by omega)]
      have hR : wholeRes s t = [] := by unfold wholeRes; rw [hE, if_pos h1]
      rw [hE, hR]
      clear hE hR
      have HC := fun w1 hb1 => textFault_any t w1 (by omega) (hT.below (w' := w1) hb1)
      generalize textErr t = E at *
      have g1 : (E != 0) = true := by simpa using h1
      go_enter Tryd.func16, Tryd.ntmps16
      go_wp2_with fail
      refine c1.mono ?_
      rintro e w1 ⟨rfl, hb1⟩
      have c2 := HC w1 hb1
      clear HC c1 h0 h1
      go_wp2_with fail
      refine c2.mono ?_
      rintro e w2 ⟨rfl, hb2⟩
      go_wp2
      go_ret2
      exact ⟨_, rfl, World.ownsRow_nil _ _ _ _, below_two hb1 hb2 (Nat.le_refl _)⟩
  · have hE : wholeErr s t = textErr s := by unfold wholeErr; rw [if_pos h0]
    have hR : wholeRes s t = [] := by unfold wholeRes; rw [hE, if_pos h0]
    rw [hE, hR]
    clear hE hR
    generalize textErr s = E at *
    have g1 : (E != 0) = true := by simpa using h0
    have g2 : (E == 0) = false := by simpa using h0
    clear h0
    go_enter Tryd.func16, Tryd.ntmps16
    go_wp2_with fail
    refine c1.mono ?_
    rintro e w1 ⟨rfl, hb1⟩
    go_wp2
    go_ret2
    exact ⟨_, rfl, World.ownsRow_nil _ _ _ _, hb1⟩

end Go.Proofs.YtpiijhkohjnnhabDoor
