/-
  Walk: wherryref.HeardOf, where it refuses at once.
-/
import Derived.Test.YtmdehfomogfmlaaDoorEdgeCopyR
import Derived.Test.YtmdehfomogfmlaaDoorEdgeMay
import Derived.Test.YtmdehfomogfmlaaDoorEdgeHear
import Derived.Test.YtmdehfomogfmlaaDoorOpFault
namespace Go.Proofs.YtmdehfomogfmlaaDoor
open Go.RowKit Go.Lib

set_option maxRecDepth 100000 in
set_option maxHeartbeats 4000000 in
theorem heardOf_bad (up : Bool) (sent heard : Int) (E : List (List Part)) (vs : List Value) (a : Option Addr) (c : Nat) (ps : List Part) (v : Value) (hd : Int) (w : World) (hp : PendAt w a c E vs) (hE : ∀ q ∈ E, OpSmall q) (hlen : E.length ≤ 1048576) (hs : -9223372036854775808 ≤ sent ∧ sent ≤ 9223372036854775807) (ho : OpVal w v ps) (hso : OpSmall ps) (hT : Tabs w) (herr : hearErr sent heard E ps hd ≠ 0) :
    Calls Tryd.prog 32 #[.agg #[.int .i64 sent, .int .i64 heard, .slice a E.length c], v, .int .i64 hd, .bool up] w fun r w' => r = .returned (.tuple #[.agg #[.int .i64 0, .int .i64 0, .slice none 0 0], .slice none 0 0, .int .i64 (hearErr sent heard E ps hd)]) ∧ Below w.heap.size w w' := by
  obtain ⟨X, hX⟩ : ∃ X, X = hearErr sent heard E ps hd := ⟨_, rfl⟩
  rw [← hX] at herr ⊢
  have hb1 := (Below.refl w.heap.size w).alloc (Nat.le_refl _) (.cells #[.int .i64 sent, .int .i64 heard, .slice a E.length c] 26)
  have hpar := row_old (heap_alloc_new w (.cells #[.int .i64 sent, .int .i64 heard, .slice a E.length c] 26)) (.cells #[.int .i64 0, .int .i64 0, .slice none 0 0] 26)
  have hres := heap_alloc_new (w.alloc (.cells #[.int .i64 sent, .int .i64 heard, .slice a E.length c] 26)) (.cells #[.int .i64 0, .int .i64 0, .slice none 0 0] 26)
  rw [show (w.alloc (.cells #[.int .i64 sent, .int .i64 heard, .slice a E.length c] 26)).heap.size = w.heap.size + 1 by simp] at hres
  have HB := hb1.alloc hb1.size (.cells #[.int .i64 0, .int .i64 0, .slice none 0 0] 26)
  obtain ⟨va, vc, rfl, hop, _, _⟩ := ho.form
  have hps := hso.1
  have hst : ∀ p ∈ ps, p.text.size ≤ 70368744177664 := fun p hp => by have := (hso.2 p hp).2.2; omega
  have cM := edgeMay_any sent heard E vs a c _ (hp.below HB) hE hlen hs (hT.below HB)
  obtain ⟨p0, pl0, _⟩ := blk hpar
  have HS : Hid (X = if edgeOkB sent heard E = false then 9 else if opErr ps ≠ 0 then opErr ps else if sent < hd ∨ hd < sent - E.length then 2 else if heard = 1048576 then 8 else 0) := by
    show _ = _
    rw [hX]
    unfold hearErr edgeBoth edgeErr
    cases edgeOkB sent heard E with
    | false => simp
    | true =>
      by_cases h : opErr ps = 0
      · simp [h]
      · simp [h]
  clear hX hb1
  go_enter Tryd.func32, Tryd.ntmps32
  go_wp2_with fail
  refine cM.mono ?_
  generalize ((w.alloc (.cells #[.int .i64 sent, .int .i64 heard, .slice a E.length c] 26)).alloc (.cells #[.int .i64 0, .int .i64 0, .slice none 0 0] 26)) = w0 at *
  rintro r w1 ⟨rfl, hbn⟩
  replace HB := below_two HB hbn (Nat.le_refl _)
  replace hpar := (hbn.block _ (Array.getElem?_eq_some_iff.1 hpar).1).trans hpar
  replace hres := (hbn.block _ (Array.getElem?_eq_some_iff.1 hres).1).trans hres
  clear hbn
  clear cM p0 pl0
  cases hB : edgeOkB sent heard E with
  | false =>
    have HX : Hid (X = 9) := by show _ = _; rw [HS.out, if_pos hB]
    clear HS
    obtain ⟨r9, rl9, rf9⟩ := blk hres
    obtain ⟨hfin, hch⟩ := puts_all hres [.int .i64 0, .int .i64 0, .slice none 0 0] rfl
    simp only [puts, Nat.zero_add, Nat.reduceAdd] at hfin hch
    have HB9 := HB.trans (hch.below (fun k e => by omega) HB.size)
    clear hch
    go_wp2_with fail
    generalize (((w1.setCell ⟨w.heap.size + 1, 0, none⟩ (.int .i64 0)).setCell ⟨w.heap.size + 1, 1, none⟩ (.int .i64 0)).setCell ⟨w.heap.size + 1, 2, none⟩ (.slice none 0 0)) = w9 at *
    obtain ⟨t9, _, _⟩ := blk hfin
    exact bodyPost_ret (v := .tuple #[.agg #[.int .i64 0, .int .i64 0, .slice none 0 0], .slice none 0 0, .int .i64 9]) (by simp [results, Tryd.results32, go_sem, t9]) rfl ⟨by rw [HX.out], HB9⟩
  | true =>
    rw [if_neg (by rw [hB]; simp)] at HS
    have hk : (0 ≤ sent ∧ sent ≤ 1048576) ∧ (0 ≤ heard ∧ heard ≤ 1048576) ∧ (E.length : Int) ≤ sent := by unfold edgeOkB at hB; simp at hB; omega
    have cF := opFault_any ps va vc w1 (hop.below HB) (by omega) hst (hT.below HB)
    go_wp2_with fail
    refine cF.mono ?_
    rintro r w2 ⟨rfl, hbn⟩
    replace HB := below_two HB hbn (Nat.le_refl _)
    replace hpar := (hbn.block _ (Array.getElem?_eq_some_iff.1 hpar).1).trans hpar
    replace hres := (hbn.block _ (Array.getElem?_eq_some_iff.1 hres).1).trans hres
    clear hbn
    clear cF
    obtain ⟨p2, pl2, _⟩ := blk hpar
    by_cases h1 : opErr ps = 0
    · rw [if_neg (by rw [h1]; simp)] at HS
      rw [h1]
      have cI := in_any hd (sent - E.length) sent w2
      by_cases h2 : sent < hd ∨ hd < sent - E.length
      · have HX : Hid (X = 2) := by show _ = _; rw [HS.out, if_pos h2]
        rw [show decide (sent - (E.length : Int) ≤ hd ∧ hd ≤ sent) = false from decide_eq_false (by omega)] at cI
        clear HS h2
        go_wp2_with fail
        refine cI.mono ?_
        rintro r w3 ⟨rfl, rfl⟩
        clear cI
        obtain ⟨r9, rl9, rf9⟩ := blk hres
        obtain ⟨hfin, hch⟩ := puts_all hres [.int .i64 0, .int .i64 0, .slice none 0 0] rfl
        simp only [puts, Nat.zero_add, Nat.reduceAdd] at hfin hch
        have HB9 := HB.trans (hch.below (fun k e => by omega) HB.size)
        clear hch
        go_wp2_with fail
        generalize (((w3.setCell ⟨w.heap.size + 1, 0, none⟩ (.int .i64 0)).setCell ⟨w.heap.size + 1, 1, none⟩ (.int .i64 0)).setCell ⟨w.heap.size + 1, 2, none⟩ (.slice none 0 0)) = w9 at *
        obtain ⟨t9, _, _⟩ := blk hfin
        exact bodyPost_ret (v := .tuple #[.agg #[.int .i64 0, .int .i64 0, .slice none 0 0], .slice none 0 0, .int .i64 2]) (by simp [results, Tryd.results32, go_sem, t9]) rfl ⟨by rw [HX.out], HB9⟩
      · rw [if_neg h2] at HS
        rw [show decide (sent - (E.length : Int) ≤ hd ∧ hd ≤ sent) = true from decide_eq_true (by omega)] at cI
        by_cases h3 : heard = 1048576
        · have HX : Hid (X = 8) := by show _ = _; rw [HS.out, if_pos h3]
          subst h3
          clear HS h2
          go_wp2_with fail
          refine cI.mono ?_
          rintro r w3 ⟨rfl, rfl⟩
          clear cI
          obtain ⟨r9, rl9, rf9⟩ := blk hres
          obtain ⟨hfin, hch⟩ := puts_all hres [.int .i64 0, .int .i64 0, .slice none 0 0] rfl
          simp only [puts, Nat.zero_add, Nat.reduceAdd] at hfin hch
          have HB9 := HB.trans (hch.below (fun k e => by omega) HB.size)
          clear hch
          go_wp2_with fail
          generalize (((w3.setCell ⟨w.heap.size + 1, 0, none⟩ (.int .i64 0)).setCell ⟨w.heap.size + 1, 1, none⟩ (.int .i64 0)).setCell ⟨w.heap.size + 1, 2, none⟩ (.slice none 0 0)) = w9 at *
          obtain ⟨t9, _, _⟩ := blk hfin
          exact bodyPost_ret (v := .tuple #[.agg #[.int .i64 0, .int .i64 0, .slice none 0 0], .slice none 0 0, .int .i64 8]) (by simp [results, Tryd.results32, go_sem, t9]) rfl ⟨by rw [HX.out], HB9⟩
        · exact absurd (by rw [HS.out, if_neg h3]) herr
    · have g1 : (opErr ps != 0) = true := by simpa using h1
      have g1' : (opErr ps == 0) = false := by simpa using h1
      have HX : Hid (X = opErr ps) := by show _ = _; rw [HS.out, if_pos h1]
      clear HS
      generalize opErr ps = er at *
      obtain ⟨r9, rl9, rf9⟩ := blk hres
      obtain ⟨hfin, hch⟩ := puts_all hres [.int .i64 0, .int .i64 0, .slice none 0 0] rfl
      simp only [puts, Nat.zero_add, Nat.reduceAdd] at hfin hch
      have HB9 := HB.trans (hch.below (fun k e => by omega) HB.size)
      clear hch
      go_wp2_with fail
      generalize (((w2.setCell ⟨w.heap.size + 1, 0, none⟩ (.int .i64 0)).setCell ⟨w.heap.size + 1, 1, none⟩ (.int .i64 0)).setCell ⟨w.heap.size + 1, 2, none⟩ (.slice none 0 0)) = w9 at *
      obtain ⟨t9, _, _⟩ := blk hfin
      exact bodyPost_ret (v := .tuple #[.agg #[.int .i64 0, .int .i64 0, .slice none 0 0], .slice none 0 0, .int .i64 er]) (by simp [results, Tryd.results32, go_sem, t9]) rfl ⟨by rw [HX.out], HB9⟩

end Go.Proofs.YtmdehfomogfmlaaDoor
