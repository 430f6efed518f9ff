/-
  Walks: node.numbersMayBe, readyMayBe, Check.
-/
import Derived.Test.YtpgcjpiabciekaaDoorNodeSides
import Derived.Test.YtpgcjpiabciekaaDoorNodeParts
import Derived.Test.YtpgcjpiabciekaaDoorNodeBeg
namespace Go.Proofs.YtpgcjpiabciekaaDoor
open Go.RowKit Go.Lib

def num2B (me ep up : Int) : Bool := decide (1 ≤ ep ∧ ep ≤ 1048575) && decide (0 ≤ up ∧ up ≤ 1048576) && (decide (me ≠ 0) || decide (up = 0))
set_option maxRecDepth 100000 in
set_option maxHeartbeats 1000000 in
theorem numMay_any (me ep up : Int) (ready : Bool) (text : ByteArray) (sa ua ma : Option Addr) (sn sc un uc mn mc : Nat) (w : World) :
    Calls Tryd.prog 92 #[.agg #[.int .i64 me, .int .i64 ep, .int .i64 up, .bool ready, .string text, .slice sa sn sc, .slice ua un uc, .slice ma mn mc]] w fun e w' => e = .returned (.bool (num2B me ep up)) ∧ Below w.heap.size w w' := by
  have hb0 := (Below.refl w.heap.size w).alloc (Nat.le_refl _) (.cells #[.int .i64 me, .int .i64 ep, .int .i64 up, .bool ready, .string text, .slice sa sn sc, .slice ua un uc, .slice ma mn mc] 74)
  have hn := heap_alloc_new w (.cells #[.int .i64 me, .int .i64 ep, .int .i64 up, .bool ready, .string text, .slice sa sn sc, .slice ua un uc, .slice ma mn mc] 74)
  obtain ⟨n0, nl0, _⟩ := blk hn
  obtain ⟨R, hR⟩ : ∃ R, num2B me ep up = R := ⟨_, rfl⟩
  rw [hR]
  unfold num2B at hR
  have hcase : ep < 1 ∧ R = false ∨ (¬ ep < 1) ∧ 1048575 < ep ∧ R = false ∨ (¬ ep < 1) ∧ (¬ 1048575 < ep) ∧ up < 0 ∧ R = false ∨ (¬ ep < 1) ∧ (¬ 1048575 < ep) ∧ (¬ up < 0) ∧ 1048576 < up ∧ R = false ∨ (¬ ep < 1) ∧ (¬ 1048575 < ep) ∧ (¬ up < 0) ∧ (¬ 1048576 < up) ∧ (me != 0) = true ∧ R = true ∨ (¬ ep < 1) ∧ (¬ 1048575 < ep) ∧ (¬ up < 0) ∧ (¬ 1048576 < up) ∧ (me != 0) = false ∧ R = (up == 0) := by
    subst hR
    by_cases h1 : ep < 1
    · left; exact ⟨h1, by rw [decide_eq_false (by omega)]; rfl⟩
    · by_cases h2 : 1048575 < ep
      · right; left; exact ⟨h1, h2, by rw [decide_eq_false (by omega)]; rfl⟩
      · rw [decide_eq_true (by omega : 1 ≤ ep ∧ ep ≤ 1048575), Bool.true_and]
        by_cases h3 : up < 0
        · right; right; left; exact ⟨h1, h2, h3, by rw [decide_eq_false (by omega)]; rfl⟩
        · by_cases h4 : 1048576 < up
          · right; right; right; left; exact ⟨h1, h2, h3, h4, by rw [decide_eq_false (by omega)]; rfl⟩
          · rw [decide_eq_true (by omega : 0 ≤ up ∧ up ≤ 1048576), Bool.true_and]
            right; right; right; right
            by_cases h5 : me = 0
            · right; exact ⟨h1, h2, h3, h4, by simpa using h5, by rw [decide_eq_false (by simpa using h5), Bool.false_or, Bool.eq_iff_iff]; simp⟩
            · left; exact ⟨h1, h2, h3, h4, by simpa using h5, by rw [decide_eq_true (by simpa using h5), Bool.true_or]⟩
  clear hR
  rcases hcase with ⟨g1, hR⟩ | ⟨g1, g2, hR⟩ | ⟨g1, g2, g3, hR⟩ | ⟨g1, g2, g3, g4, hR⟩ | ⟨g1, g2, g3, g4, g5, hR⟩ | ⟨g1, g2, g3, g4, g5, hR⟩
  all_goals
    subst hR
    go_enter Tryd.func92, Tryd.ntmps92
    go_wp2_with fail
    go_ret
    exact ⟨rfl, hb0⟩

set_option maxRecDepth 100000 in
set_option maxHeartbeats 1000000 in
theorem readyMay_any (me ep up : Int) (ready : Bool) (text : ByteArray) (sides : List SideV) (sa : Option Addr) (sc : Nat) (undo : List (List Part)) (uvs : List Value) (ua : Option Addr) (uc : Nat) (marks : List MarkV) (ma : Option Addr) (mc : Nat) (w : World) (hs : SidesAt w sa sc sides) (hpos : me ≠ 0 → 0 < sides.length) :
    Calls Tryd.prog 97 #[.agg #[.int .i64 me, .int .i64 ep, .int .i64 up, .bool ready, .string text, .slice sa sides.length sc, .slice ua undo.length uc, .slice ma marks.length mc]] w fun e w' => e = .returned (.bool (readyB ⟨me, ep, up, ready, text, sides, sa, sc, undo, uvs, ua, uc, marks, ma, mc⟩)) ∧ Below w.heap.size w w' := by
  have hb0 := (Below.refl w.heap.size w).alloc (Nat.le_refl _) (.cells #[.int .i64 me, .int .i64 ep, .int .i64 up, .bool ready, .string text, .slice sa sides.length sc, .slice ua undo.length uc, .slice ma marks.length mc] 74)
  have hn := heap_alloc_new w (.cells #[.int .i64 me, .int .i64 ep, .int .i64 up, .bool ready, .string text, .slice sa sides.length sc, .slice ua undo.length uc, .slice ma marks.length mc] 74)
  obtain ⟨n0, nl0, _⟩ := blk hn
  obtain ⟨R, hR⟩ : ∃ R, readyB ⟨me, ep, up, ready, text, sides, sa, sc, undo, uvs, ua, uc, marks, ma, mc⟩ = R := ⟨_, rfl⟩
  rw [hR]
  unfold readyB at hR
  simp only at hR
  by_cases h0 : me = 0
  · rw [if_pos h0] at hR
    subst hR
    subst h0
    clear hs hpos
    go_enter Tryd.func97, Tryd.ntmps97
    go_wp2_with fail
    go_ret
    exact ⟨rfl, hb0⟩
  rw [if_neg h0] at hR
  have g0 : (me == 0) = false := by simpa using h0
  have hp := hpos h0
  obtain ⟨b, off, ea, hb, hcell⟩ := (hs.below hb0).get hp
  subst ea
  have k1 : (w.alloc (.cells #[.int .i64 me, .int .i64 ep, .int .i64 up, .bool ready, .string text, .slice (some ⟨b, off, none⟩) sides.length sc, .slice ua undo.length uc, .slice ma marks.length mc] 74)).cell? ⟨b, off + 1, none⟩ = some (.bool sides[0].joined) := by
    have := hcell 1 _ rfl
    rw [Nat.zero_mul, Nat.add_zero] at this
    exact this
  have hpz : (0 : Int) < (sides.length : Int) := by omega
  rw [firstB_get ready hp] at hR
  generalize sides[0].joined = j at *
  have hz0 : w.heap.size < (w.alloc (.cells #[.int .i64 me, .int .i64 ep, .int .i64 up, .bool ready, .string text, .slice (some ⟨b, off, none⟩) sides.length sc, .slice ua undo.length uc, .slice ma marks.length mc] 74)).heap.size := nl0
  clear hcell hs hpos h0
  cases ready with
  | true =>
    cases j with
    | false =>
      rw [decide_eq_false (by decide), Bool.false_and] at hR
      subst hR
      go_enter Tryd.func97, Tryd.ntmps97
      go_wp2_with fail
      generalize (w.alloc (.cells #[.int .i64 me, .int .i64 ep, .int .i64 up, .bool true, .string text, .slice (some ⟨b, off, none⟩) sides.length sc, .slice ua undo.length uc, .slice ma marks.length mc] 74)) = w0 at *
      go_quiet (fail)
      have hn2 : (w0.drewN nq).heap[w.heap.size]? = some (.cells #[.int .i64 me, .int .i64 ep, .int .i64 up, .bool true, .string text, .slice (some ⟨b, off, none⟩) sides.length sc, .slice ua undo.length uc, .slice ma marks.length mc] 74 (0, 0)) := hn
      have hb2 : Below w.heap.size w (w0.drewN nq) := hb0.trans ⟨rfl, rfl, rfl, Nat.le_refl _, fun _ _ => rfl⟩
      clear n0 nl0 hn hb0 k1
      generalize w0.drewN nq = w2 at *
      obtain ⟨n0, nl0, _⟩ := blk hn2
      go_wp2_with fail
      go_ret
      exact ⟨rfl, hb2⟩
    | true =>
      rw [decide_eq_true rfl, Bool.true_and, Bool.true_or] at hR
      subst hR
      go_enter Tryd.func97, Tryd.ntmps97
      go_wp2_with fail
      generalize (w.alloc (.cells #[.int .i64 me, .int .i64 ep, .int .i64 up, .bool true, .string text, .slice (some ⟨b, off, none⟩) sides.length sc, .slice ua undo.length uc, .slice ma marks.length mc] 74)) = w0 at *
      go_quiet (fail)
      have hn2 : (w0.drewN nq).heap[w.heap.size]? = some (.cells #[.int .i64 me, .int .i64 ep, .int .i64 up, .bool true, .string text, .slice (some ⟨b, off, none⟩) sides.length sc, .slice ua undo.length uc, .slice ma marks.length mc] 74 (0, 0)) := hn
      have hb2 : Below w.heap.size w (w0.drewN nq) := hb0.trans ⟨rfl, rfl, rfl, Nat.le_refl _, fun _ _ => rfl⟩
      clear n0 nl0 hn hb0 k1
      generalize w0.drewN nq = w2 at *
      obtain ⟨n0, nl0, _⟩ := blk hn2
      go_wp2_with fail
      go_ret
      exact ⟨rfl, hb2⟩
  | false =>
    cases j with
    | true =>
      rw [decide_eq_false (by decide), Bool.false_and] at hR
      subst hR
      go_enter Tryd.func97, Tryd.ntmps97
      go_wp2_with fail
      generalize (w.alloc (.cells #[.int .i64 me, .int .i64 ep, .int .i64 up, .bool false, .string text, .slice (some ⟨b, off, none⟩) sides.length sc, .slice ua undo.length uc, .slice ma marks.length mc] 74)) = w0 at *
      go_quiet (fail)
      have hn2 : (w0.drewN nq).heap[w.heap.size]? = some (.cells #[.int .i64 me, .int .i64 ep, .int .i64 up, .bool false, .string text, .slice (some ⟨b, off, none⟩) sides.length sc, .slice ua undo.length uc, .slice ma marks.length mc] 74 (0, 0)) := hn
      have hb2 : Below w.heap.size w (w0.drewN nq) := hb0.trans ⟨rfl, rfl, rfl, Nat.le_refl _, fun _ _ => rfl⟩
      clear n0 nl0 hn hb0 k1
      generalize w0.drewN nq = w2 at *
      obtain ⟨n0, nl0, _⟩ := blk hn2
      go_wp2_with fail
      go_ret
      exact ⟨rfl, hb2⟩
    | false =>
      rw [decide_eq_true rfl, Bool.true_and, Bool.false_or] at hR
      by_cases h2 : text.size = 0
      rotate_left
      · rw [decide_eq_false h2, Bool.false_and, Bool.false_and] at hR
        subst hR
        have g2 := isEmpty_of text h2
        clear h2
        go_enter Tryd.func97, Tryd.ntmps97
        go_wp2_with fail
        generalize (w.alloc (.cells #[.int .i64 me, .int .i64 ep, .int .i64 up, .bool false, .string text, .slice (some ⟨b, off, none⟩) sides.length sc, .slice ua undo.length uc, .slice ma marks.length mc] 74)) = w0 at *
        go_quiet (fail)
        have hn2 : (w0.drewN nq).heap[w.heap.size]? = some (.cells #[.int .i64 me, .int .i64 ep, .int .i64 up, .bool false, .string text, .slice (some ⟨b, off, none⟩) sides.length sc, .slice ua undo.length uc, .slice ma marks.length mc] 74 (0, 0)) := hn
        have hb2 : Below w.heap.size w (w0.drewN nq) := hb0.trans ⟨rfl, rfl, rfl, Nat.le_refl _, fun _ _ => rfl⟩
        clear n0 nl0 hn hb0 k1
        generalize w0.drewN nq = w2 at *
        obtain ⟨n0, nl0, _⟩ := blk hn2
        go_wp2_with fail
        go_ret
        exact ⟨rfl, hb2⟩
      obtain rfl := empty_of text h2
      rw [decide_eq_true h2, Bool.true_and] at hR
      by_cases h3 : undo.length = 0
      rotate_left
      · rw [decide_eq_false h3, Bool.false_and] at hR
        subst hR
        have g3 : ((undo.length : Int) == 0) = false := by simpa using h3
        clear h2 h3
        go_enter Tryd.func97, Tryd.ntmps97
        go_wp2_with fail
        generalize (w.alloc (.cells #[.int .i64 me, .int .i64 ep, .int .i64 up, .bool false, .string ByteArray.empty, .slice (some ⟨b, off, none⟩) sides.length sc, .slice ua undo.length uc, .slice ma marks.length mc] 74)) = w0 at *
        go_quiet (fail)
        have hn2 : (w0.drewN nq).heap[w.heap.size]? = some (.cells #[.int .i64 me, .int .i64 ep, .int .i64 up, .bool false, .string ByteArray.empty, .slice (some ⟨b, off, none⟩) sides.length sc, .slice ua undo.length uc, .slice ma marks.length mc] 74 (0, 0)) := hn
        have hb2 : Below w.heap.size w (w0.drewN nq) := hb0.trans ⟨rfl, rfl, rfl, Nat.le_refl _, fun _ _ => rfl⟩
        clear n0 nl0 hn hb0 k1
        generalize w0.drewN nq = w2 at *
        obtain ⟨n0, nl0, _⟩ := blk hn2
        go_wp2_with fail
        go_ret
        exact ⟨rfl, hb2⟩
      rw [decide_eq_true h3, Bool.true_and] at hR
      have g3 : ((undo.length : Int) == 0) = true := by simpa using h3
      have hR' : R = ((marks.length : Int) == 0) := by rw [← hR, Bool.eq_iff_iff]; simp
      subst hR'
      clear h2 h3 hR
      go_enter Tryd.func97, Tryd.ntmps97
      go_wp2_with fail
      generalize (w.alloc (.cells #[.int .i64 me, .int .i64 ep, .int .i64 up, .bool false, .string ByteArray.empty, .slice (some ⟨b, off, none⟩) sides.length sc, .slice ua undo.length uc, .slice ma marks.length mc] 74)) = w0 at *
      go_quiet (fail)
      have hn2 : (w0.drewN nq).heap[w.heap.size]? = some (.cells #[.int .i64 me, .int .i64 ep, .int .i64 up, .bool false, .string ByteArray.empty, .slice (some ⟨b, off, none⟩) sides.length sc, .slice ua undo.length uc, .slice ma marks.length mc] 74 (0, 0)) := hn
      have hb2 : Below w.heap.size w (w0.drewN nq) := hb0.trans ⟨rfl, rfl, rfl, Nat.le_refl _, fun _ _ => rfl⟩
      clear n0 nl0 hn hb0 k1
      generalize w0.drewN nq = w2 at *
      obtain ⟨n0, nl0, _⟩ := blk hn2
      go_wp2_with fail
      go_ret
      exact ⟨rfl, hb2⟩

set_option maxRecDepth 100000 in
set_option maxHeartbeats 2000000 in
theorem nodeCheck_any (T : List Int) (a : Option Addr) (c : Nat) (me ep up : Int) (ready : Bool) (text : ByteArray) (sides : List SideV) (sa : Option Addr) (sc : Nat) (undo : List (List Part)) (uvs : List Value) (ua : Option Addr) (uc : Nat) (marks : List MarkV) (ma : Option Addr) (mc : Nat) (w : World) (hin : Ints w a T) (hnd : NodeAt w ⟨me, ep, up, ready, text, sides, sa, sc, undo, uvs, ua, uc, marks, ma, mc⟩) (hT : Tabs w) :
    Calls Tryd.prog 39 #[.slice a T.length c, .agg #[.int .i64 me, .int .i64 ep, .int .i64 up, .bool ready, .string text, .slice sa sides.length sc, .slice ua undo.length uc, .slice ma marks.length mc]] w fun e w' => e = .returned (.int .i64 (nodeErr T ⟨me, ep, up, ready, text, sides, sa, sc, undo, uvs, ua, uc, marks, ma, mc⟩)) ∧ Below w.heap.size w w' := by
  have HB0 := (Below.refl w.heap.size w).alloc (Nat.le_refl _) (.cells #[.int .i64 me, .int .i64 ep, .int .i64 up, .bool ready, .string text, .slice sa sides.length sc, .slice ua undo.length uc, .slice ma marks.length mc] 74)
  have hn := heap_alloc_new w (.cells #[.int .i64 me, .int .i64 ep, .int .i64 up, .bool ready, .string text, .slice sa sides.length sc, .slice ua undo.length uc, .slice ma marks.length mc] 74)
  obtain ⟨n0, nl0, _⟩ := blk hn
  obtain ⟨htx, hsd, hun, husm, hmk, hls, hlu, hlm⟩ := id hnd
  simp only at htx hsd hun husm hmk hls hlu hlm
  have c0 := checkTree_any T a c _ (hin.below HB0)
  have c1 := fun wx (hx : Below w.heap.size w wx) => isNode_any T a c me wx
  have c2 := fun wx (hx : Below w.heap.size w wx) => numMay_any me ep up ready text sa ua ma sides.length sc undo.length uc marks.length mc wx
  have c3 := fun wx (hx : Below w.heap.size w wx) => checkText_any text wx (by omega) (hT.below hx)
  have c4 := fun wx (hx : Below w.heap.size w wx) => undoMay_any ⟨me, ep, up, ready, text, sides, sa, sc, undo, uvs, ua, uc, marks, ma, mc⟩ wx (hnd.below hx) (hT.below hx)
  have c5 := fun wx (hx : Below w.heap.size w wx) => marksMay_any ⟨me, ep, up, ready, text, sides, sa, sc, undo, uvs, ua, uc, marks, ma, mc⟩ wx (hnd.below hx)
  have c6 := fun (hme : 0 ≤ me ∧ me < (T.length : Int)) (hl : T.length ≤ 7) wx (hx : Below w.heap.size w wx) => sidesMay_any T a c me ep up ready text sa ua ma sc undo.length uc marks.length mc sides wx (hin.below hx) hme hl (hsd.below hx) hls htx (hT.below hx)
  have c7 := fun (hp : me ≠ 0 → 0 < sides.length) wx (hx : Below w.heap.size w wx) => readyMay_any me ep up ready text sides sa sc undo uvs ua uc marks ma mc wx (hsd.below hx) hp
  simp only at c4 c5
  obtain ⟨R, hR⟩ : ∃ R, nodeErr T ⟨me, ep, up, ready, text, sides, sa, sc, undo, uvs, ua, uc, marks, ma, mc⟩ = R := ⟨_, rfl⟩
  rw [hR]
  unfold nodeErr nodeB numB sidesB at hR
  simp only at hR
  have hTl : treeErr T = 0 → T.length ≤ 7 := fun h => (treeErr_zero h).1.2
  have hpos : sides.map (·.peer) = peersL T me → me ≠ 0 → 0 < sides.length := fun h hme => by
    have := congrArg List.length h
    unfold peersL preL at this
    rw [if_neg hme] at this
    simp at this
    omega
  clear hnd hin hsd hun husm hmk hT hls hlu hlm htx
  generalize treeErr T = E0 at *
  by_cases h0 : E0 = 0
  rotate_left
  · rw [if_pos h0] at hR
    subst hR
    have g0 : (E0 != 0) = true := by simpa using h0
    clear c1 c2 c3 c4 c5 c6 c7 h0 hTl hpos
    go_enter Tryd.func39, Tryd.ntmps39
    go_wp2_with fail
    refine c0.mono ?_
    rintro r w1 ⟨rfl, hw1⟩
    rw [hw1]
    clear hw1 w1 c0
    go_wp2_with fail
    go_ret
    exact ⟨rfl, HB0⟩
  subst h0
  rw [if_neg (by simp)] at hR
  by_cases h1 : 0 ≤ me ∧ me < (T.length : Int)
  rotate_left
  · rw [decide_eq_false h1] at hR c1
    simp only [Bool.false_and, Bool.false_eq_true, if_false] at hR
    subst hR
    clear c2 c3 c4 c5 c6 c7 h1 hTl hpos
    go_enter Tryd.func39, Tryd.ntmps39
    go_wp2_with fail
    refine c0.mono ?_
    rintro r w1 ⟨rfl, hw1⟩
    rw [hw1]
    clear hw1 w1 c0
    go_wp2_with fail
    refine (c1 _ HB0).mono ?_
    rintro r w1 ⟨rfl, hw1⟩
    rw [hw1]
    clear hw1 w1 c1
    go_wp2_with fail
    go_ret
    exact ⟨rfl, HB0⟩
  rw [decide_eq_true h1] at hR c1
  replace c6 := c6 h1 (hTl rfl)
  have hnum : (true && decide (1 ≤ ep ∧ ep ≤ 1048575) && decide (0 ≤ up ∧ up ≤ 1048576) && (decide (me ≠ 0) || decide (up = 0))) = num2B me ep up := by unfold num2B; rw [Bool.true_and]
  rw [hnum] at hR
  clear hnum h1 hTl
  generalize num2B me ep up = B2 at *
  generalize textErr text = E3 at *
  generalize undoB ⟨me, ep, up, ready, text, sides, sa, sc, undo, uvs, ua, uc, marks, ma, mc⟩ = B4 at *
  generalize marksB ⟨me, ep, up, ready, text, sides, sa, sc, undo, uvs, ua, uc, marks, ma, mc⟩ = B5 at *
  generalize readyB ⟨me, ep, up, ready, text, sides, sa, sc, undo, uvs, ua, uc, marks, ma, mc⟩ = B7 at *
  obtain ⟨B6, hB6⟩ : ∃ B6, (decide (sides.map (·.peer) = peersL T me) && sides.all (sideB ready text)) = B6 := ⟨_, rfl⟩
  rw [hB6] at hR c6
  have hpos' : B6 = true → me ≠ 0 → 0 < sides.length := fun h => hpos (by rw [h] at hB6; rw [Bool.and_eq_true] at hB6; exact of_decide_eq_true hB6.1)
  clear hB6 hpos
  cases B2 with
  | false =>
    simp only [Bool.false_and, Bool.false_eq_true, if_false] at hR
    subst hR
    clear c3 c4 c5 c6 c7
    clear hpos'
    go_enter Tryd.func39, Tryd.ntmps39
    go_wp2_with fail
    refine c0.mono ?_
    rintro r w1 ⟨rfl, hw1⟩
    rw [hw1]
    clear hw1 w1 c0
    go_wp2_with fail
    refine (c1 _ HB0).mono ?_
    rintro r w1 ⟨rfl, hw1⟩
    rw [hw1]
    clear hw1 w1 c1
    go_wp2_with fail
    refine (c2 _ HB0).mono ?_
    rintro r v2 ⟨rfl, hb2⟩
    have HB2 := below_two HB0 hb2 (Nat.le_refl _)
    replace hn := (hb2.block _ nl0).trans hn
    clear n0 nl0 c2
    obtain ⟨n0, nl0, _⟩ := blk hn
    go_wp2_with fail
    go_ret
    exact ⟨rfl, HB2⟩
  | true =>
  by_cases h3 : E3 = 0
  rotate_left
  · rw [decide_eq_false h3] at hR
    simp only [Bool.false_and, Bool.and_false, Bool.false_eq_true, if_false] at hR
    subst hR
    have g3 : (E3 != 0) = true := by simpa using h3
    clear h3 hpos' c4 c5 c6 c7
    go_enter Tryd.func39, Tryd.ntmps39
    go_wp2_with fail
    refine c0.mono ?_
    rintro r w1 ⟨rfl, hw1⟩
    rw [hw1]
    clear hw1 w1 c0
    go_wp2_with fail
    refine (c1 _ HB0).mono ?_
    rintro r w1 ⟨rfl, hw1⟩
    rw [hw1]
    clear hw1 w1 c1
    go_wp2_with fail
    refine (c2 _ HB0).mono ?_
    rintro r v2 ⟨rfl, hb2⟩
    have HB2 := below_two HB0 hb2 (Nat.le_refl _)
    replace hn := (hb2.block _ nl0).trans hn
    clear n0 nl0 c2
    obtain ⟨n0, nl0, _⟩ := blk hn
    go_wp2_with fail
    refine (c3 _ HB2).mono ?_
    rintro r v3 ⟨rfl, hb3⟩
    have HB3 := below_two HB2 hb3 (Nat.le_refl _)
    replace hn := (hb3.block _ nl0).trans hn
    clear n0 nl0 c3
    obtain ⟨n0, nl0, _⟩ := blk hn
    go_wp2_with fail
    go_ret
    exact ⟨rfl, HB3⟩
  subst h3
  cases B4 with
  | false =>
    simp only [Bool.false_and, Bool.and_false, Bool.false_eq_true, if_false] at hR
    subst hR
    clear c5 c6 c7
    clear hpos'
    go_enter Tryd.func39, Tryd.ntmps39
    go_wp2_with fail
    refine c0.mono ?_
    rintro r w1 ⟨rfl, hw1⟩
    rw [hw1]
    clear hw1 w1 c0
    go_wp2_with fail
    refine (c1 _ HB0).mono ?_
    rintro r w1 ⟨rfl, hw1⟩
    rw [hw1]
    clear hw1 w1 c1
    go_wp2_with fail
    refine (c2 _ HB0).mono ?_
    rintro r v2 ⟨rfl, hb2⟩
    have HB2 := below_two HB0 hb2 (Nat.le_refl _)
    replace hn := (hb2.block _ nl0).trans hn
    clear n0 nl0 c2
    obtain ⟨n0, nl0, _⟩ := blk hn
    go_wp2_with fail
    refine (c3 _ HB2).mono ?_
    rintro r v3 ⟨rfl, hb3⟩
    have HB3 := below_two HB2 hb3 (Nat.le_refl _)
    replace hn := (hb3.block _ nl0).trans hn
    clear n0 nl0 c3
    obtain ⟨n0, nl0, _⟩ := blk hn
    go_wp2_with fail
    refine (c4 _ HB3).mono ?_
    rintro r v4 ⟨rfl, hb4⟩
    have HB4 := below_two HB3 hb4 (Nat.le_refl _)
    replace hn := (hb4.block _ nl0).trans hn
    clear n0 nl0 c4
    obtain ⟨n0, nl0, _⟩ := blk hn
    go_wp2_with fail
    go_ret
    exact ⟨rfl, HB4⟩
  | true =>
  cases B5 with
  | false =>
    simp only [Bool.false_and, Bool.and_false, Bool.false_eq_true, if_false] at hR
    subst hR
    clear c6 c7
    clear hpos'
    go_enter Tryd.func39, Tryd.ntmps39
    go_wp2_with fail
    refine c0.mono ?_
    rintro r w1 ⟨rfl, hw1⟩
    rw [hw1]
    clear hw1 w1 c0
    go_wp2_with fail
    refine (c1 _ HB0).mono ?_
    rintro r w1 ⟨rfl, hw1⟩
    rw [hw1]
    clear hw1 w1 c1
    go_wp2_with fail
    refine (c2 _ HB0).mono ?_
    rintro r v2 ⟨rfl, hb2⟩
    have HB2 := below_two HB0 hb2 (Nat.le_refl _)
    replace hn := (hb2.block _ nl0).trans hn
    clear n0 nl0 c2
    obtain ⟨n0, nl0, _⟩ := blk hn
    go_wp2_with fail
    refine (c3 _ HB2).mono ?_
    rintro r v3 ⟨rfl, hb3⟩
    have HB3 := below_two HB2 hb3 (Nat.le_refl _)
    replace hn := (hb3.block _ nl0).trans hn
    clear n0 nl0 c3
    obtain ⟨n0, nl0, _⟩ := blk hn
    go_wp2_with fail
    refine (c4 _ HB3).mono ?_
    rintro r v4 ⟨rfl, hb4⟩
    have HB4 := below_two HB3 hb4 (Nat.le_refl _)
    replace hn := (hb4.block _ nl0).trans hn
    clear n0 nl0 c4
    obtain ⟨n0, nl0, _⟩ := blk hn
    go_wp2_with fail
    refine (c5 _ HB4).mono ?_
    rintro r v5 ⟨rfl, hb5⟩
    have HB5 := below_two HB4 hb5 (Nat.le_refl _)
    replace hn := (hb5.block _ nl0).trans hn
    clear n0 nl0 c5
    obtain ⟨n0, nl0, _⟩ := blk hn
    go_wp2_with fail
    go_ret
    exact ⟨rfl, HB5⟩
  | true =>
  cases B6 with
  | false =>
    simp only [Bool.false_and, Bool.and_false, Bool.false_eq_true, if_false] at hR
    subst hR
    clear c7
    clear hpos'
    go_enter Tryd.func39, Tryd.ntmps39
    go_wp2_with fail
    refine c0.mono ?_
    rintro r w1 ⟨rfl, hw1⟩
    rw [hw1]
    clear hw1 w1 c0
    go_wp2_with fail
    refine (c1 _ HB0).mono ?_
    rintro r w1 ⟨rfl, hw1⟩
    rw [hw1]
    clear hw1 w1 c1
    go_wp2_with fail
    refine (c2 _ HB0).mono ?_
    rintro r v2 ⟨rfl, hb2⟩
    have HB2 := below_two HB0 hb2 (Nat.le_refl _)
    replace hn := (hb2.block _ nl0).trans hn
    clear n0 nl0 c2
    obtain ⟨n0, nl0, _⟩ := blk hn
    go_wp2_with fail
    refine (c3 _ HB2).mono ?_
    rintro r v3 ⟨rfl, hb3⟩
    have HB3 := below_two HB2 hb3 (Nat.le_refl _)
    replace hn := (hb3.block _ nl0).trans hn
    clear n0 nl0 c3
    obtain ⟨n0, nl0, _⟩ := blk hn
    go_wp2_with fail
    refine (c4 _ HB3).mono ?_
    rintro r v4 ⟨rfl, hb4⟩
    have HB4 := below_two HB3 hb4 (Nat.le_refl _)
    replace hn := (hb4.block _ nl0).trans hn
    clear n0 nl0 c4
    obtain ⟨n0, nl0, _⟩ := blk hn
    go_wp2_with fail
    refine (c5 _ HB4).mono ?_
    rintro r v5 ⟨rfl, hb5⟩
    have HB5 := below_two HB4 hb5 (Nat.le_refl _)
    replace hn := (hb5.block _ nl0).trans hn
    clear n0 nl0 c5
    obtain ⟨n0, nl0, _⟩ := blk hn
    go_wp2_with fail
    refine (c6 _ HB5).mono ?_
    rintro r v6 ⟨rfl, hb6⟩
    have HB6 := below_two HB5 hb6 (Nat.le_refl _)
    replace hn := (hb6.block _ nl0).trans hn
    clear n0 nl0 c6
    obtain ⟨n0, nl0, _⟩ := blk hn
    go_wp2_with fail
    go_ret
    exact ⟨rfl, HB6⟩
  | true =>
  replace c7 := c7 (hpos' rfl)
  clear hpos'
  cases B7 with
  | false =>
    simp only [Bool.and_false, Bool.false_eq_true, if_false] at hR
    subst hR
    go_enter Tryd.func39, Tryd.ntmps39
    go_wp2_with fail
    refine c0.mono ?_
    rintro r w1 ⟨rfl, hw1⟩
    rw [hw1]
    clear hw1 w1 c0
    go_wp2_with fail
    refine (c1 _ HB0).mono ?_
    rintro r w1 ⟨rfl, hw1⟩
    rw [hw1]
    clear hw1 w1 c1
    go_wp2_with fail
    refine (c2 _ HB0).mono ?_
    rintro r v2 ⟨rfl, hb2⟩
    have HB2 := below_two HB0 hb2 (Nat.le_refl _)
    replace hn := (hb2.block _ nl0).trans hn
    clear n0 nl0 c2
    obtain ⟨n0, nl0, _⟩ := blk hn
    go_wp2_with fail
    refine (c3 _ HB2).mono ?_
    rintro r v3 ⟨rfl, hb3⟩
    have HB3 := below_two HB2 hb3 (Nat.le_refl _)
    replace hn := (hb3.block _ nl0).trans hn
    clear n0 nl0 c3
    obtain ⟨n0, nl0, _⟩ := blk hn
    go_wp2_with fail
    refine (c4 _ HB3).mono ?_
    rintro r v4 ⟨rfl, hb4⟩
    have HB4 := below_two HB3 hb4 (Nat.le_refl _)
    replace hn := (hb4.block _ nl0).trans hn
    clear n0 nl0 c4
    obtain ⟨n0, nl0, _⟩ := blk hn
    go_wp2_with fail
    refine (c5 _ HB4).mono ?_
    rintro r v5 ⟨rfl, hb5⟩
    have HB5 := below_two HB4 hb5 (Nat.le_refl _)
    replace hn := (hb5.block _ nl0).trans hn
    clear n0 nl0 c5
    obtain ⟨n0, nl0, _⟩ := blk hn
    go_wp2_with fail
    refine (c6 _ HB5).mono ?_
    rintro r v6 ⟨rfl, hb6⟩
    have HB6 := below_two HB5 hb6 (Nat.le_refl _)
    replace hn := (hb6.block _ nl0).trans hn
    clear n0 nl0 c6
    obtain ⟨n0, nl0, _⟩ := blk hn
    go_wp2_with fail
    refine (c7 _ HB6).mono ?_
    rintro r v7 ⟨rfl, hb7⟩
    have HB7 := below_two HB6 hb7 (Nat.le_refl _)
    replace hn := (hb7.block _ nl0).trans hn
    clear n0 nl0 c7
    obtain ⟨n0, nl0, _⟩ := blk hn
    go_wp2_with fail
    go_ret
    exact ⟨rfl, HB7⟩
  | true =>
  simp only [decide_true, Bool.and_true, if_true] at hR
  subst hR
  go_enter Tryd.func39, Tryd.ntmps39
  go_wp2_with fail
  refine c0.mono ?_
  rintro r w1 ⟨rfl, hw1⟩
  rw [hw1]
  clear hw1 w1 c0
  go_wp2_with fail
  refine (c1 _ HB0).mono ?_
  rintro r w1 ⟨rfl, hw1⟩
  rw [hw1]
  clear hw1 w1 c1
  go_wp2_with fail
  refine (c2 _ HB0).mono ?_
  rintro r v2 ⟨rfl, hb2⟩
  have HB2 := below_two HB0 hb2 (Nat.le_refl _)
  replace hn := (hb2.block _ nl0).trans hn
  clear n0 nl0 c2
  obtain ⟨n0, nl0, _⟩ := blk hn
  go_wp2_with fail
  refine (c3 _ HB2).mono ?_
  rintro r v3 ⟨rfl, hb3⟩
  have HB3 := below_two HB2 hb3 (Nat.le_refl _)
  replace hn := (hb3.block _ nl0).trans hn
  clear n0 nl0 c3
  obtain ⟨n0, nl0, _⟩ := blk hn
  go_wp2_with fail
  refine (c4 _ HB3).mono ?_
  rintro r v4 ⟨rfl, hb4⟩
  have HB4 := below_two HB3 hb4 (Nat.le_refl _)
  replace hn := (hb4.block _ nl0).trans hn
  clear n0 nl0 c4
  obtain ⟨n0, nl0, _⟩ := blk hn
  go_wp2_with fail
  refine (c5 _ HB4).mono ?_
  rintro r v5 ⟨rfl, hb5⟩
  have HB5 := below_two HB4 hb5 (Nat.le_refl _)
  replace hn := (hb5.block _ nl0).trans hn
  clear n0 nl0 c5
  obtain ⟨n0, nl0, _⟩ := blk hn
  go_wp2_with fail
  refine (c6 _ HB5).mono ?_
  rintro r v6 ⟨rfl, hb6⟩
  have HB6 := below_two HB5 hb6 (Nat.le_refl _)
  replace hn := (hb6.block _ nl0).trans hn
  clear n0 nl0 c6
  obtain ⟨n0, nl0, _⟩ := blk hn
  go_wp2_with fail
  refine (c7 _ HB6).mono ?_
  rintro r v7 ⟨rfl, hb7⟩
  have HB7 := below_two HB6 hb7 (Nat.le_refl _)
  replace hn := (hb7.block _ nl0).trans hn
  clear n0 nl0 c7
  obtain ⟨n0, nl0, _⟩ := blk hn
  go_wp2_with fail
  go_ret
  exact ⟨rfl, HB7⟩

end Go.Proofs.YtpgcjpiabciekaaDoor
