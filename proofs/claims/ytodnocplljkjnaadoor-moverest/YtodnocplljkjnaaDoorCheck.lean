/-
  Walk: text.CheckText.
-/
import Derived.Test.YtodnocplljkjnaaDoorValid
import Derived.Test.YtodnocplljkjnaaDoorPure
import Derived.Test.YtodnocplljkjnaaDoorLens

/- Walk: text.CheckText. -/
namespace Go.Proofs.YtodnocplljkjnaaDoor
open Go.RowKit

set_option maxHeartbeats 400000 in
theorem checkText_any (s : ByteArray) (w : World) (hs : s.size < 9223372036854775807) (hT : Tabs w) :
    Calls Tryd.prog 28 #[.string s] w fun e w' => e = .returned (.int .i64 (textErr s)) ∧ Below w.heap.size w w' := by
  have cV := valid_any s w (by omega) hT
  unfold textErr
  generalize Lib.validD s.data.toList = V at cV ⊢
  cases V with
  | false =>
    go_enter Tryd.func28, Tryd.ntmps28
    go_wp2_with (go_at_call 36; refine cV.mono ?_; rintro e w' ⟨rfl, hb⟩)
    go_ret
    exact ⟨rfl, hb⟩
  | true =>
    have hr := runes_le s
    by_cases h4 : 4000 < (runes s).length
    · have h4z : (4000 : Int) < ((runes s).length : Int) := by omega
      simp only [h4, if_true]
      go_enter Tryd.func28, Tryd.ntmps28
      go_wp2_with (first | (go_at_call 36; refine cV.mono ?_; rintro e w' ⟨rfl, hb⟩) | (go_at_call 23; refine (count_any _ _ hs).mono ?_; rintro e w2 ⟨rfl, hb2⟩))
      go_ret
      exact ⟨rfl, hb.trans (hb2.mono hb.size)⟩
    · have h4z : ¬ (4000 : Int) < ((runes s).length : Int) := by omega
      simp only [h4, if_false]
      go_enter Tryd.func28, Tryd.ntmps28
      go_wp2_with (first | (go_at_call 36; refine cV.mono ?_; rintro e w' ⟨rfl, hb⟩) | (go_at_call 23; refine (count_any _ _ hs).mono ?_; rintro e w2 ⟨rfl, hb2⟩))
      go_ret
      exact ⟨rfl, hb.trans (hb2.mono hb.size)⟩

end Go.Proofs.YtodnocplljkjnaaDoor

/- Walks: text.checkCount, checkInsert, checkPart; wherryref.In, partFault. -/
namespace Go.Proofs.YtodnocplljkjnaaDoor
open Go.RowKit

theorem isEmpty_of (s : ByteArray) (h : s.size ≠ 0) : s.toList.isEmpty = false := by
  rw [ByteArray.toList_eq]
  cases hl : s.data.toList with
  | nil => exact absurd (by have := congrArg List.length hl; simpa using this) h
  | cons a r => rfl

set_option maxHeartbeats 400000 in
theorem checkCount_any (p : Part) (w : World) :
    Calls Tryd.prog 38 #[.agg #[.int .i64 p.kind, .int .i64 p.n, .string p.text]] w fun e w' => e = .returned (.int .i64 (countErr p)) ∧ Below w.heap.size w w' := by
  obtain ⟨kd, n, tx⟩ := p
  unfold countErr
  simp only
  by_cases h1 : n < 1
  · simp only [h1, true_or, if_true]
    go_enter Tryd.func38, Tryd.ntmps38
    go_wp2
    go_ret
    exact ⟨rfl, (Below.refl _ _).alloc (Nat.le_refl _) _⟩
  · by_cases h2 : 4000 < n
    · simp only [h1, h2, or_true, if_true]
      go_enter Tryd.func38, Tryd.ntmps38
      go_wp2
      go_ret
      exact ⟨rfl, (Below.refl _ _).alloc (Nat.le_refl _) _⟩
    · by_cases h3 : tx.size = 0
      · obtain rfl := empty_of tx h3
        simp only [h1, h2, or_false, if_false]
        go_enter Tryd.func38, Tryd.ntmps38
        go_wp2
        go_ret
        exact ⟨rfl, (Below.refl _ _).alloc (Nat.le_refl _) _⟩
      · have h4 := isEmpty_of tx h3
        rw [if_neg (by omega), if_pos h3]
        clear h3
        go_enter Tryd.func38, Tryd.ntmps38
        go_wp2
        go_ret
        exact ⟨rfl, (Below.refl _ _).alloc (Nat.le_refl _) _⟩

/-- Two callees behind one another: what lies below stays. -/
theorem below_two {B : Nat} {w a b : World} (h1 : Below B w a) (h2 : Below a.heap.size a b) (hB : B ≤ w.heap.size) : Below B w b :=
  h1.trans (h2.mono (Nat.le_trans hB h1.size))

set_option maxHeartbeats 400000 in
theorem checkInsert_any (p : Part) (w : World) (hs : p.text.size < 9223372036854775807) (hT : Tabs w) :
    Calls Tryd.prog 39 #[.agg #[.int .i64 p.kind, .int .i64 p.n, .string p.text]] w fun e w' => e = .returned (.int .i64 (insertErr p)) ∧ Below w.heap.size w w' := by
  obtain ⟨kd, n, tx⟩ := p
  simp only at hs
  unfold insertErr
  simp only
  have b0 : Below w.heap.size w (w.alloc (.cells #[.int .i64 kd, .int .i64 n, .string tx] 33)) := (Below.refl _ _).alloc (Nat.le_refl _) _
  have cT := checkText_any tx _ hs (hT.below b0)
  by_cases h0 : textErr tx = 0
  · rw [if_neg (by omega)]
    rw [h0] at cT
    clear h0
    by_cases h3 : tx.size = 0
    · obtain rfl := empty_of tx h3
      rw [if_pos (.inl rfl)]
      clear h3
      go_enter Tryd.func39, Tryd.ntmps39
      go_wp2_with (go_at_call 28; refine cT.mono ?_; rintro e w' ⟨rfl, hb⟩; have c0 := hb.cell (p := ⟨w.heap.size, 1, none⟩) (by simp); have c2 := hb.cell (p := ⟨w.heap.size, 2, none⟩) (by simp); simp at c0 c2)
      go_ret
      exact ⟨rfl, below_two b0 hb (Nat.le_refl _)⟩
    · have h4 := isEmpty_of tx h3
      by_cases h5 : n = 0
      · subst h5
        rw [if_neg (by omega)]
        clear h3
        go_enter Tryd.func39, Tryd.ntmps39
        go_wp2_with (go_at_call 28; refine cT.mono ?_; rintro e w' ⟨rfl, hb⟩; have c0 := hb.cell (p := ⟨w.heap.size, 1, none⟩) (by simp); have c2 := hb.cell (p := ⟨w.heap.size, 2, none⟩) (by simp); simp at c0 c2)
        go_ret
        exact ⟨rfl, below_two b0 hb (Nat.le_refl _)⟩
      · rw [if_pos (.inr h5)]
        have h6 : (n != 0) = true := by simpa using h5
        clear h3 h5
        go_enter Tryd.func39, Tryd.ntmps39
        go_wp2_with (go_at_call 28; refine cT.mono ?_; rintro e w' ⟨rfl, hb⟩; have c0 := hb.cell (p := ⟨w.heap.size, 1, none⟩) (by simp); have c2 := hb.cell (p := ⟨w.heap.size, 2, none⟩) (by simp); simp at c0 c2)
        go_ret
        exact ⟨rfl, below_two b0 hb (Nat.le_refl _)⟩
  · rw [if_pos h0]
    generalize textErr tx = E at *
    have h1 : (E != 0) = true := by simpa using h0
    clear h0
    go_enter Tryd.func39, Tryd.ntmps39
    go_wp2_with (go_at_call 28; refine cT.mono ?_; rintro e w' ⟨rfl, hb⟩)
    go_ret
    exact ⟨rfl, below_two b0 hb (Nat.le_refl _)⟩

set_option maxHeartbeats 400000 in
theorem checkPart_any (ahead : Int) (p : Part) (w : World) (hs : p.text.size < 9223372036854775807) (hT : Tabs w) :
    Calls Tryd.prog 30 #[.int .i64 ahead, .agg #[.int .i64 p.kind, .int .i64 p.n, .string p.text]] w fun e w' => e = .returned (.int .i64 (partErr ahead p)) ∧ Below w.heap.size w w' := by
  have b0 : Below w.heap.size w (w.alloc (.cells #[.int .i64 p.kind, .int .i64 p.n, .string p.text] 33)) := (Below.refl _ _).alloc (Nat.le_refl _) _
  have cC := checkCount_any p (w.alloc (.cells #[.int .i64 p.kind, .int .i64 p.n, .string p.text] 33))
  have cI := checkInsert_any p _ hs (hT.below b0)
  have HB : Hid (bodyErr p = if p.kind = 1 ∨ p.kind = 3 then countErr p else if p.kind = 2 then insertErr p else 3) := rfl
  unfold partErr
  generalize bodyErr p = E at *
  generalize countErr p = EC at *
  generalize insertErr p = EI at *
  obtain ⟨kd, n, tx⟩ := p
  simp only at hs HB cC cI b0 ⊢
  have hk : kd = 1 ∨ kd = 3 ∨ kd = 2 ∨ (¬ kd = 1 ∧ ¬ kd = 3 ∧ ¬ kd = 2) := by omega
  rcases hk with rfl | rfl | rfl | ⟨h1, h3, h2⟩
  · obtain rfl : E = EC := HB.out
    clear HB
    by_cases h0 : E = 0
    · subst h0
      by_cases ha : ahead = 1
      · subst ha
        rw [if_neg (by omega), if_pos (by omega)]
        go_enter Tryd.func30, Tryd.ntmps30
        go_wp2_with (first | (go_at_call 38; refine cC.mono ?_; rintro e w' ⟨rfl, hb⟩; have c0 := hb.cell (p := ⟨w.heap.size, 0, none⟩) (by simp); simp at c0) | (go_at_call 39; refine cI.mono ?_; rintro e w' ⟨rfl, hb⟩; have c0 := hb.cell (p := ⟨w.heap.size, 0, none⟩) (by simp); simp at c0))
        go_ret
        exact ⟨rfl, below_two b0 hb (Nat.le_refl _)⟩
      · have g1 : (ahead == 1) = false := by simpa using ha
        rw [if_neg (by omega), if_neg (by omega)]
        by_cases hb3 : ahead = 3
        · subst hb3
          clear ha
          go_enter Tryd.func30, Tryd.ntmps30
          go_wp2_with (first | (go_at_call 38; refine cC.mono ?_; rintro e w' ⟨rfl, hb⟩; have c0 := hb.cell (p := ⟨w.heap.size, 0, none⟩) (by simp); simp at c0) | (go_at_call 39; refine cI.mono ?_; rintro e w' ⟨rfl, hb⟩; have c0 := hb.cell (p := ⟨w.heap.size, 0, none⟩) (by simp); simp at c0))
          go_ret
          exact ⟨rfl, below_two b0 hb (Nat.le_refl _)⟩
        · have g2 : (ahead == 3) = false := by simpa using hb3
          clear ha hb3
          go_enter Tryd.func30, Tryd.ntmps30
          go_wp2_with (first | (go_at_call 38; refine cC.mono ?_; rintro e w' ⟨rfl, hb⟩; have c0 := hb.cell (p := ⟨w.heap.size, 0, none⟩) (by simp); simp at c0) | (go_at_call 39; refine cI.mono ?_; rintro e w' ⟨rfl, hb⟩; have c0 := hb.cell (p := ⟨w.heap.size, 0, none⟩) (by simp); simp at c0))
          go_ret
          exact ⟨rfl, below_two b0 hb (Nat.le_refl _)⟩
    · have g0 : (E != 0) = true := by simpa using h0
      rw [if_pos h0]
      clear h0
      go_enter Tryd.func30, Tryd.ntmps30
      go_wp2_with (first | (go_at_call 38; refine cC.mono ?_; rintro e w' ⟨rfl, hb⟩; have c0 := hb.cell (p := ⟨w.heap.size, 0, none⟩) (by simp); simp at c0) | (go_at_call 39; refine cI.mono ?_; rintro e w' ⟨rfl, hb⟩; have c0 := hb.cell (p := ⟨w.heap.size, 0, none⟩) (by simp); simp at c0))
      go_ret
      exact ⟨rfl, below_two b0 hb (Nat.le_refl _)⟩
  · obtain rfl : E = EC := HB.out
    clear HB
    by_cases h0 : E = 0
    · subst h0
      by_cases ha : ahead = 3
      · subst ha
        rw [if_neg (by omega), if_pos (by omega)]
        go_enter Tryd.func30, Tryd.ntmps30
        go_wp2_with (first | (go_at_call 38; refine cC.mono ?_; rintro e w' ⟨rfl, hb⟩; have c0 := hb.cell (p := ⟨w.heap.size, 0, none⟩) (by simp); simp at c0) | (go_at_call 39; refine cI.mono ?_; rintro e w' ⟨rfl, hb⟩; have c0 := hb.cell (p := ⟨w.heap.size, 0, none⟩) (by simp); simp at c0))
        go_ret
        exact ⟨rfl, below_two b0 hb (Nat.le_refl _)⟩
      · have g1 : (ahead == 3) = false := by simpa using ha
        rw [if_neg (by omega), if_neg (by omega)]
        clear ha
        go_enter Tryd.func30, Tryd.ntmps30
        go_wp2_with (first | (go_at_call 38; refine cC.mono ?_; rintro e w' ⟨rfl, hb⟩; have c0 := hb.cell (p := ⟨w.heap.size, 0, none⟩) (by simp); simp at c0) | (go_at_call 39; refine cI.mono ?_; rintro e w' ⟨rfl, hb⟩; have c0 := hb.cell (p := ⟨w.heap.size, 0, none⟩) (by simp); simp at c0))
        go_ret
        exact ⟨rfl, below_two b0 hb (Nat.le_refl _)⟩
    · have g0 : (E != 0) = true := by simpa using h0
      rw [if_pos h0]
      clear h0
      go_enter Tryd.func30, Tryd.ntmps30
      go_wp2_with (first | (go_at_call 38; refine cC.mono ?_; rintro e w' ⟨rfl, hb⟩; have c0 := hb.cell (p := ⟨w.heap.size, 0, none⟩) (by simp); simp at c0) | (go_at_call 39; refine cI.mono ?_; rintro e w' ⟨rfl, hb⟩; have c0 := hb.cell (p := ⟨w.heap.size, 0, none⟩) (by simp); simp at c0))
      go_ret
      exact ⟨rfl, below_two b0 hb (Nat.le_refl _)⟩
  · obtain rfl : E = EI := HB.out
    clear HB
    by_cases h0 : E = 0
    · subst h0
      by_cases ha : ahead = 2
      · subst ha
        rw [if_neg (by omega), if_pos (by omega)]
        go_enter Tryd.func30, Tryd.ntmps30
        go_wp2_with (first | (go_at_call 38; refine cC.mono ?_; rintro e w' ⟨rfl, hb⟩; have c0 := hb.cell (p := ⟨w.heap.size, 0, none⟩) (by simp); simp at c0) | (go_at_call 39; refine cI.mono ?_; rintro e w' ⟨rfl, hb⟩; have c0 := hb.cell (p := ⟨w.heap.size, 0, none⟩) (by simp); simp at c0))
        go_ret
        exact ⟨rfl, below_two b0 hb (Nat.le_refl _)⟩
      · have g1 : (ahead == 2) = false := by simpa using ha
        by_cases hb3 : ahead = 3
        · subst hb3
          rw [if_neg (by omega), if_pos (by omega)]
          clear ha
          go_enter Tryd.func30, Tryd.ntmps30
          go_wp2_with (first | (go_at_call 38; refine cC.mono ?_; rintro e w' ⟨rfl, hb⟩; have c0 := hb.cell (p := ⟨w.heap.size, 0, none⟩) (by simp); simp at c0) | (go_at_call 39; refine cI.mono ?_; rintro e w' ⟨rfl, hb⟩; have c0 := hb.cell (p := ⟨w.heap.size, 0, none⟩) (by simp); simp at c0))
          go_ret
          exact ⟨rfl, below_two b0 hb (Nat.le_refl _)⟩
        · have g2 : (ahead == 3) = false := by simpa using hb3
          rw [if_neg (by omega), if_neg (by omega)]
          clear ha hb3
          go_enter Tryd.func30, Tryd.ntmps30
          go_wp2_with (first | (go_at_call 38; refine cC.mono ?_; rintro e w' ⟨rfl, hb⟩; have c0 := hb.cell (p := ⟨w.heap.size, 0, none⟩) (by simp); simp at c0) | (go_at_call 39; refine cI.mono ?_; rintro e w' ⟨rfl, hb⟩; have c0 := hb.cell (p := ⟨w.heap.size, 0, none⟩) (by simp); simp at c0))
          go_ret
          exact ⟨rfl, below_two b0 hb (Nat.le_refl _)⟩
    · have g0 : (E != 0) = true := by simpa using h0
      rw [if_pos h0]
      clear h0
      go_enter Tryd.func30, Tryd.ntmps30
      go_wp2_with (first | (go_at_call 38; refine cC.mono ?_; rintro e w' ⟨rfl, hb⟩; have c0 := hb.cell (p := ⟨w.heap.size, 0, none⟩) (by simp); simp at c0) | (go_at_call 39; refine cI.mono ?_; rintro e w' ⟨rfl, hb⟩; have c0 := hb.cell (p := ⟨w.heap.size, 0, none⟩) (by simp); simp at c0))
      go_ret
      exact ⟨rfl, below_two b0 hb (Nat.le_refl _)⟩
  · obtain rfl : E = 3 := by rw [HB.out, if_neg (by omega), if_neg (by omega)]
    have g1 : (kd == 1) = false := by simpa using h1
    have g2 : (kd == 2) = false := by simpa using h2
    have g3 : (kd == 3) = false := by simpa using h3
    rw [if_pos (by omega)]
    clear h1 h2 h3 HB
    go_enter Tryd.func30, Tryd.ntmps30
    go_wp2
    go_ret
    exact ⟨rfl, b0⟩

end Go.Proofs.YtodnocplljkjnaaDoor

/- Walks: text.Check. -/
namespace Go.Proofs.YtodnocplljkjnaaDoor
open Go.RowKit

theorem OpAt.below {w w' : World} {a : Option Addr} {ps : List Part} (h : OpAt w a ps) (hb : Below w.heap.size w w') : OpAt w' a ps := by
  rcases h with rfl | ⟨b, off, rfl, hbs, hc⟩
  · exact .inl rfl
  · refine .inr ⟨b, off, rfl, Nat.lt_of_lt_of_le hbs hb.size, fun i hi => ?_⟩
    obtain ⟨c0, c1, c2⟩ := hc i hi
    rw [bcell hb _ _ hbs, bcell hb _ _ hbs, bcell hb _ _ hbs]
    exact ⟨c0, c1, c2⟩

theorem partsErr_drop (ah : Int) (ps : List Part) (k : Nat) (h : k < ps.length) :
    partsErr ah (ps.drop k) = if partErr ah ps[k] ≠ 0 then partErr ah ps[k] else partsErr ps[k].kind (ps.drop (k + 1)) := by
  rw [List.drop_eq_getElem_cons h]
  rfl

set_option maxHeartbeats 400000 in
theorem check_any (ps : List Part) (a : Option Addr) (cap : Nat) (w : World) (hop : OpAt w a ps) (hn : ps.length ≤ 9223372036854775806) (hs : ∀ p ∈ ps, p.text.size < 9223372036854775807) (hT : Tabs w) :
    Calls Tryd.prog 21 #[.slice a ps.length cap] w fun e w' => e = .returned (.int .i64 (opErr ps)) ∧ Below w.heap.size w w' := by
  unfold opErr
  by_cases h8 : 8001 < ps.length
  · have h8z : (8001 : Int) < (ps.length : Int) := by omega
    rw [if_pos h8]
    clear h8
    go_enter Tryd.func21, Tryd.ntmps21
    go_wp2
    go_ret
    exact ⟨rfl, Below.refl _ _⟩
  · have h8z : ¬ (8001 : Int) < (ps.length : Int) := by omega
    rw [if_neg h8]
    clear h8
    obtain ⟨R, hR⟩ : ∃ R, (if partsErr 0 ps ≠ 0 then partsErr 0 ps else if 4000 < (lens ps).1 ∨ 4000 < (lens ps).2 then 1 else 0) = R := ⟨_, rfl⟩
    rw [hR]
    have HR : Hid ((if partsErr 0 ps ≠ 0 then partsErr 0 ps else if 4000 < (lens ps).1 ∨ 4000 < (lens ps).2 then 1 else 0) = R) := hR
    clear hR
    go_enter Tryd.func21, Tryd.ntmps21
    go_wp2
    go_loopw [3, 14] (fun ahv i wr => ∃ (k : Nat) (ah : Int), k ≤ ps.length ∧ i = .int .i64 k ∧ ahv = .int .i64 ah ∧ Hid (partsErr 0 ps = partsErr ah (ps.drop k)) ∧ Below w.heap.size w wr) (fun _ i _ => ps.length - (intOf i).toNat)
    case atStart => exact ⟨0, 0, Nat.zero_le _, rfl, rfl, rfl, Below.refl _ _⟩
    case round =>
      obtain ⟨k, ah, hk, rfl, rfl, HP, hb⟩ := hrel
      by_cases hlt : k < ps.length
      · have HD : Hid (partsErr ah (ps.drop k) = if partErr ah ps[k] ≠ 0 then partErr ah ps[k] else partsErr ps[k].kind (ps.drop (k + 1))) := partsErr_drop ah ps k hlt
        rcases hop with rfl | ⟨b, off, rfl, hbs, hcell⟩
        · simp at hlt
        · obtain ⟨c0, c1, c2⟩ := hcell k hlt
          rw [← bcell hb _ _ hbs] at c0 c1 c2
          clear hcell
          have hsz : ps[k].text.size < 9223372036854775807 := hs _ (List.getElem_mem hlt)
          clear hs
          generalize ps[k] = p at *
          have b1 : Below w.heap.size w (wr.alloc (.cells #[.int .i64 p.kind, .int .i64 p.n, .string p.text] 33)) := hb.alloc hb.size _
          have cP := checkPart_any ah p _ hsz (hT.below b1)
          obtain ⟨kd, n, tx⟩ := p
          simp only at c0 c1 c2 cP b1 HD
          generalize partErr ah ⟨kd, n, tx⟩ = E at *
          by_cases h0 : E = 0
          · subst h0
            go_wp2_with (go_at_call 30; refine cP.mono ?_; rintro e w' ⟨rfl, hb'⟩; have c0 := hb'.cell (p := ⟨wr.heap.size, 0, none⟩) (by simp); simp at c0)
            go_roundw
            case rel => exact ⟨k + 1, kd, hlt, by go_num, rfl, HP.out.trans HD.out, below_two b1 hb' (Nat.le_refl _)⟩
            case measure => simp [intOf]; omega
          · have g0 : (E != 0) = true := by simpa using h0
            have hfin : Hid (E = R) := by
              have h1 := HP.out.trans HD.out
              rw [if_pos h0] at h1
              have h2 := HR.out
              rw [h1, if_pos h0] at h2
              exact h2
            clear h0
            go_wp2_with (go_at_call 30; refine cP.mono ?_; rintro e w' ⟨rfl, hb'⟩)
            go_ret
            exact ⟨ret_int hfin.out, below_two b1 hb' (Nat.le_refl _)⟩
      · have hz : partsErr 0 ps = 0 := by rw [HP.out, List.drop_of_length_le (by omega)]; rfl
        have hfin : Hid ((if 4000 < (lens ps).1 ∨ 4000 < (lens ps).2 then 1 else 0) = R) := by
          have h2 := HR.out
          rw [hz, if_neg (by omega)] at h2
          exact h2
        clear hz HP HR
        have cL := lengths_any ps a cap wr (hop.below hb) hn hs
        generalize lens ps = L at *
        obtain ⟨f, t⟩ := L
        simp only at cL hfin
        clear hop hs
        by_cases hf : 4000 < f
        · go_wp2_with (go_at_call 22; refine cL.mono ?_; rintro e w' ⟨rfl, hb'⟩)
          go_ret
          exact ⟨ret_int (by rw [← hfin.out, if_pos (.inl hf)]), below_two hb hb' (Nat.le_refl _)⟩
        · by_cases ht : 4000 < t
          · go_wp2_with (go_at_call 22; refine cL.mono ?_; rintro e w' ⟨rfl, hb'⟩)
            go_ret
            exact ⟨ret_int (by rw [← hfin.out, if_pos (.inr ht)]), below_two hb hb' (Nat.le_refl _)⟩
          · go_wp2_with (go_at_call 22; refine cL.mono ?_; rintro e w' ⟨rfl, hb'⟩)
            go_ret
            exact ⟨ret_int (by rw [← hfin.out, if_neg (by omega)]), below_two hb hb' (Nat.le_refl _)⟩

end Go.Proofs.YtodnocplljkjnaaDoor

/- Walk: text.checkBoth. -/
namespace Go.Proofs.YtodnocplljkjnaaDoor
open Go.RowKit Go.Lib

set_option maxHeartbeats 1000000 in
theorem checkBoth_any (ps qs : List Part) (a b : Option Addr) (ca cb : Nat) (w : World) (hopa : OpAt w a ps) (hopb : OpAt w b qs) (hna : ps.length ≤ 1048576) (hnb : qs.length ≤ 1048576) (hsa : ∀ p ∈ ps, p.text.size ≤ 1048576) (hsb : ∀ p ∈ qs, p.text.size ≤ 1048576) (hT : Tabs w) :
    Calls Tryd.prog 43 #[.slice a ps.length ca, .slice b qs.length cb] w fun e w' => e = .returned (.int .i64 (bothErr ps qs)) ∧ Below w.heap.size w w' := by
  have hs1 : ∀ p ∈ ps, p.text.size < 9223372036854775807 := fun p hp => by have := hsa p hp; omega
  have hs2 : ∀ p ∈ qs, p.text.size < 9223372036854775807 := fun p hp => by have := hsb p hp; omega
  have c1 := check_any ps a ca w hopa (by omega) hs1 hT
  have c2 := fun w1 hb1 => check_any qs b cb w1 (hopb.below hb1) (by omega) hs2 (hT.below (w' := w1) hb1)
  unfold bothErr
  generalize opErr qs = F at c2 ⊢
  generalize opErr ps = E at c1 ⊢
  by_cases h1 : E = 0
  · subst h1
    have e0 : (if (0 : Int) ≠ 0 then (0 : Int) else F) = F := by simp
    rw [e0]
    clear e0 hs1 hs2 hopa hopb hsa hsb
    go_enter Tryd.func43, Tryd.ntmps43
    go_wp2_with fail
    refine c1.mono ?_
    rintro e w1 ⟨rfl, hb1⟩
    go_wp2_with fail
    refine (c2 w1 hb1).mono ?_
    rintro e w2 ⟨rfl, hb2⟩
    clear c1 c2
    go_wp2
    go_ret
    exact ⟨rfl, below_two hb1 hb2 (Nat.le_refl _)⟩
  · rw [if_pos h1]
    have g1 : (E != 0) = true := by simpa using h1
    clear hs1 hs2 hopa hopb hsa hsb c2
    go_enter Tryd.func43, Tryd.ntmps43
    go_wp2_with fail
    refine c1.mono ?_
    rintro e w1 ⟨rfl, hb1⟩
    clear c1
    go_wp2
    go_ret
    exact ⟨rfl, hb1⟩

end Go.Proofs.YtodnocplljkjnaaDoor
