/-
  Walks: text.Whole, wherryref.WholeOp, wherrylaw.sameOp.
-/
import Derived.Test.YtepehgjdepioeaaDoorPenWalk
import Derived.Test.YtepehgjdepioeaaDoorPenMem
namespace Go.Proofs.YtepehgjdepioeaaDoor
open Go.RowKit Go.Lib

/-- P1.10 -/
def wholeOp (s t : ByteArray) : List Part := (if t.size = 0 then [] else [⟨2, 0, t⟩]) ++ if s.size = 0 then [] else [⟨3, ((runes s).length : Int), ByteArray.empty⟩]
def wholeErr (s t : ByteArray) : Int := if textErr s ≠ 0 then textErr s else textErr t
def wholeRes (s t : ByteArray) : List Part := if wholeErr s t ≠ 0 then [] else wholeOp s t

theorem runes_zero (s : ByteArray) : (runes s).length = 0 ↔ s.size = 0 := by
  constructor
  · intro h
    rcases Nat.eq_zero_or_pos s.size with h0 | h0
    · exact h0
    · obtain ⟨f, _, hr⟩ := runesAt_step s s.size 0 h0 (by omega)
      unfold runes at h
      rw [hr] at h
      simp at h
  · intro h
    have := runes_le s
    omega

/-- a new pen -/
theorem pen_new (w : World) : PenAt (w.alloc (.cells #[.slice none 0 0, .slice none 0 0, .int .i64 0] 81)) w.heap.size w.heap.size (.slice none 0 0) (.slice none 0 0) ⟨[], ByteArray.empty, 0⟩ :=
  ⟨Nat.le_refl _, heap_alloc_new w _, World.ownsRow_nil _ _ _ _, World.ownsRow_nil _ _ _ _⟩

set_option maxHeartbeats 1000000 in
theorem whole_any (s t : ByteArray) (w : World) (hs : s.size ≤ 1048576) (ht : t.size ≤ 1048576) (hT : Tabs w) :
    Calls Tryd.prog 31 #[.string s, .string t] w fun e w' => ∃ v, e = .returned (.tuple #[v, .int .i64 (wholeErr s t)]) ∧ w'.ownsRow w.heap.size 42 3 v (wholeRes s t).length (partCells (wholeRes s t)) ∧ Below w.heap.size w w' := by
  have c1 := checkText_any s w (by omega) hT
  by_cases h0 : textErr s = 0
  · rw [h0] at c1
    by_cases h1 : textErr t = 0
    · have hE : wholeErr s t = 0 := by unfold wholeErr; rw [if_neg (by omega), h1]
      have hR : wholeRes s t = wholeOp s t := by unfold wholeRes; rw [if_neg (by omega)]
      rw [hE, hR]
      clear hE hR
      go_enter Tryd.func31, Tryd.ntmps31
      go_wp2_with fail
      refine c1.mono ?_
      rintro e w1 ⟨rfl, hb1⟩
      have c2 := checkText_any t w1 (by omega) (hT.below hb1)
      rw [h1] at c2
      go_wp2_with fail
      refine c2.mono ?_
      rintro e w2 ⟨rfl, hb2⟩
      clear h0 h1 c1 c2
      have hb12 := below_two hb1 hb2 (Nat.le_refl _)
      go_wp2_with fail
      refine (insert_any _ w2.heap.size w2.heap.size _ _ _ t (pen_new w2) (by simp) (by simpa using (by omega : t.size ≤ 1000000000))).mono ?_
      rintro e w3 ⟨rfl, iv3, hp3, hst3⟩
      go_wp2_with fail
      refine (count_any s w3 (by omega)).mono ?_
      rintro e w4 ⟨rfl, hb4⟩
      have hp4 := hp3.kept (F := fun _ => False) (Chg.of_below hb4) (fun _ _ h => h)
      have hrl := runes_le s
      go_wp2_with fail
      refine (remove_any w4 w2.heap.size w2.heap.size _ _ _ (runes s).length hp4 (by simp only; omega)).mono ?_
      rintro e w5 ⟨rfl, hp5, hst5⟩
      have sz : w2.heap.size ≤ w5.heap.size := by have := hst3.chg.size; have := hb4.size; have := hst5.chg.size; simp at *; omega
      go_wp2_with fail
      refine (op_any w5 w2.heap.size w2.heap.size _ _ _ hp5 sz (by simp) (by simpa using (by omega : t.size ≤ 1000000000)) (by simp only; omega)).mono ?_
      rintro e w6 ⟨dv6, iv6, rfl, hp6, hst6⟩
      have hD : PenS.all ⟨[], ByteArray.empty ++ t, 0 + (runes s).length⟩ = wholeOp s t := by
        unfold PenS.all waitIns waitDel wholeOp
        have e := runes_zero s
        simp only [ByteArray.empty_append, Nat.zero_add, List.nil_append]
        by_cases hz : s.size = 0
        · rw [if_pos (e.2 hz), if_pos hz]
        · rw [if_neg (fun h => hz (e.1 h)), if_neg hz]
      rw [hD] at hp6
      clear hD
      have b3 : Below w2.heap.size w2 w3 := ((Below.refl _ w2).alloc (Nat.le_refl _) _).trans (pen_below hst3 (pen_new w2) (by simp))
      have b4 : Below w2.heap.size w2 w4 := b3.trans (hb4.mono b3.size)
      have b5 : Below w2.heap.size w2 w5 := b4.trans (pen_below hst5 hp4 b4.size)
      have b6 : Below w2.heap.size w2 w6 := b5.trans (pen_below hst6 hp5 b5.size)
      obtain ⟨da, dc, rfl⟩ := own_form hp6.own
      simp only at hp6
      generalize hW : wholeOp s t = W at *
      go_wp2
      go_ret2
      rw [hW]
      exact ⟨_, rfl, own_base hp6.own hb12.size, hb12.trans (b6.mono hb12.size)⟩
    · have hE : wholeErr s t = textErr t := by unfold wholeErr; rw [if_neg (by omega)]
      have hR : wholeRes s t = [] := by unfold wholeRes; rw [hE, if_pos h1]
      rw [hE, hR]
      clear hE hR
      have HC := fun w1 hb1 => checkText_any t w1 (by omega) (hT.below (w' := w1) hb1)
      generalize textErr t = E at *
      have g1 : (E != 0) = true := by simpa using h1
      go_enter Tryd.func31, Tryd.ntmps31
      go_wp2_with fail
      refine c1.mono ?_
      rintro e w1 ⟨rfl, hb1⟩
      have c2 := HC w1 hb1
      clear HC c1 h0 h1
      go_wp2_with fail
      refine c2.mono ?_
      rintro e w2 ⟨rfl, hb2⟩
      go_wp2
      go_ret2
      exact ⟨_, rfl, World.ownsRow_nil _ _ _ _, below_two hb1 hb2 (Nat.le_refl _)⟩
  · have hE : wholeErr s t = textErr s := by unfold wholeErr; rw [if_pos h0]
    have hR : wholeRes s t = [] := by unfold wholeRes; rw [hE, if_pos h0]
    rw [hE, hR]
    clear hE hR
    generalize textErr s = E at *
    have g1 : (E != 0) = true := by simpa using h0
    clear h0
    go_enter Tryd.func31, Tryd.ntmps31
    go_wp2_with fail
    refine c1.mono ?_
    rintro e w1 ⟨rfl, hb1⟩
    go_wp2
    go_ret2
    exact ⟨_, rfl, World.ownsRow_nil _ _ _ _, hb1⟩

end Go.Proofs.YtepehgjdepioeaaDoor
