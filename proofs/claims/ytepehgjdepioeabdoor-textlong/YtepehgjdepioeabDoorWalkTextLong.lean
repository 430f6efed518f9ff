/-
  Walk: wherrykeep.TextLong.
-/
import Derived.Test.YtepehgjdepioeabDoorKCalls
import Derived.Deep.OwnRows
namespace Go.Proofs.YtepehgjdepioeabDoor
open Go.RowKit Go.Lib

/-- so many of one rune, then zeros -/
def longVals (c j n : Nat) : List Value := List.replicate j (.int .i32 (c : Int)) ++ List.replicate (n - j) (.int .i32 0)
theorem longVals_set (c j n : Nat) (h : j < n) : (longVals c j n).set j (.int .i32 (c : Int)) = longVals c (j + 1) n := by
  unfold longVals
  rw [List.set_append_right _ _ (by simp), List.length_replicate, Nat.sub_self]
  obtain ⟨m, hm⟩ : ∃ m, n - j = m + 1 := ⟨n - j - 1, by omega⟩
  rw [hm, List.replicate_succ, List.set_cons_zero, show n - (j + 1) = m by omega, List.replicate_succ', List.append_assoc]
  rfl
theorem longVals_set2 (c j n : Nat) (h : j < n) (x : Value) : ((longVals c j n).set j x).set j (.int .i32 (c : Int)) = longVals c (j + 1) n := by
  rw [List.set_set, longVals_set c j n h]
theorem longVals_get (c j n : Nat) (h : j < n) : (longVals c j n)[j]? = some (.int .i32 0) := by
  unfold longVals
  rw [List.getElem?_append_right (by simp), List.length_replicate, Nat.sub_self, List.getElem?_replicate, if_pos (by omega)]
theorem long_err (c n : Nat) (hc : CP c) (hn : n ≤ 5000) : textErr (str (List.replicate n c)) = if n ≤ 4000 then 0 else 1 := by
  have hr : ∀ r ∈ List.replicate n c, CP r := fun r hr => by rw [List.eq_of_mem_replicate hr]; exact hc
  have hv := valid_str hr
  unfold Valid at hv
  unfold textErr
  rw [hv, runes_str hr, List.length_replicate]
  by_cases h : n ≤ 4000
  · rw [if_pos h]; simp; omega
  · rw [if_neg h]; simp; omega

theorem str_fits' (rs : List Nat) (h : ∀ r ∈ rs, CP r) : (str rs).size ≤ 4 * rs.length := by
  have e1 : (str rs).size = (encs rs).length := by rw [← str_bytes, bytes_len]
  have := encs_le h
  omega

set_option maxRecDepth 100000 in
set_option maxHeartbeats 1000000 in
theorem textLong_no (n : Int) (w : World) (hn : I64 n) (hT : Tabs w) :
    Calls Tryd.prog 4 #[.int .i64 n, .bool false] w fun e w' => e = .returned (.bool true) ∧ Below w.heap.size w w' := by
  have HB : Below w.heap.size w w := Below.refl _ _
  go_enter Tryd.func4, Tryd.ntmps4
  go_wp2_with fail
  refine (picked_any n 10 _ hn (by omega) (by omega)).mono ?_
  rintro e w1 ⟨k, hk, rfl, hb⟩
  replace HB := below_two HB hb (Nat.le_refl _)
  clear hb
  have hmk := fun wx : World => run_make_row' (P := Tryd.prog) 32 21 (.int .i32 0) 4 Tryd.underlying32 info_i32 rfl .i64 .i64 (3995 + k) (by omega) (by omega) wx
  have ec : ((3995 + k : Nat) : Int) = 3995 + (k : Int) := by omega
  rw [ec] at hmk
  go_wp2_with fail
  clear hmk
  have hz := HB.size
  go_loopw [16] (fun i wr => ∃ j : Nat, j ≤ 3995 + k ∧ i = .int .i64 j ∧ wr.ownsRow w.heap.size 21 1 (.slice (some ⟨w1.heap.size, 0, none⟩) (3995 + k) (3995 + k)) (3995 + k) (longVals 97 j (3995 + k)) ∧ Below w.heap.size w wr) (fun i _ => 3995 + k - (RowKit.intOf i).toNat)
  case atStart =>
    refine ⟨0, Nat.zero_le _, rfl, ⟨by simp [longVals], .inr ⟨w1.heap.size, 3995 + k, _, rfl, hz, heap_alloc_new w1 _, Nat.le_refl _, by unfold maxLen; omega, by rw [size_madeCells]; omega, ?_⟩⟩, HB.alloc hz _⟩
    rw [toList_madeCells_one]
    unfold longVals
    simp
  case round =>
    obtain ⟨j, hj, rfl, hown, hbr⟩ := hrel
    by_cases hlt : j < 3995 + k
    · have hjz : (j : Int) < 3995 + (k : Int) := by omega
      have hcell := hown.cells (g := w1.heap.size) rfl j _ (longVals_get 97 j _ hlt)
      rw [WideShapes.add_plain, Nat.zero_add] at hcell
      have hfz : wr.frozen? ⟨w1.heap.size, j, none⟩ = false := by
        rcases hown.2 with ⟨h', _⟩ | ⟨g', cap', cur, h', _, hg, _⟩
        · simp at h'
        · simp only [Value.slice.injEq, Option.some.injEq, Addr.mk.injEq, and_true] at h'
          obtain ⟨rfl, _⟩ := h'
          simp [World.frozen?, hg]
      obtain ⟨s1, s2⟩ := hown.stored j (.int .i32 97)
      go_wp2_with fail
      go_roundw
      case rel => exact ⟨j + 1, hlt, by go_num, by rw [← longVals_set 97 j _ hlt]; exact s1, hbr.grown s2 hbr.size (fun k hk => (hown.lt k hk).1)⟩
      case measure => simp [RowKit.intOf]; omega
    · obtain rfl : j = 3995 + k := by omega
      have hjz : ¬ ((3995 : Int) + (k : Int) < 3995 + (k : Int)) := by omega
      have e1 : longVals 97 (3995 + k) (3995 + k) = runeVals (List.replicate (3995 + k) 97) := by simp [longVals, runeVals]
      rw [e1] at hown
      have e2 : 3995 + k = (List.replicate (3995 + k) 97).length := by simp
      have hown2 : wr.ownsRow w.heap.size 21 1 (.slice (some ⟨w1.heap.size, 0, none⟩) (3995 + k) (3995 + k)) (List.replicate (3995 + k) 97).length (runeVals (List.replicate (3995 + k) 97)) := by rw [← e2]; exact hown
      have hcb := conv_back wr _ _ _ hown2
      have cE := fun wx (hbx : Below wr.heap.size wr wx) => checkText_any (str (List.replicate (3995 + k) 97)) wx (by have := str_fits' (List.replicate (3995 + k) 97) (fun r hr => by rw [List.eq_of_mem_replicate hr]; unfold CP; omega); simp only [List.length_replicate] at this; omega) (hT.below (below_two hbr hbx (Nat.le_refl _)))
      rw [long_err 97 (3995 + k) (by unfold CP; omega) (by omega)] at cE
      generalize str (List.replicate (3995 + k) 97) = s at *
      clear hown hown2 e1 e2
      by_cases h4 : 3995 + k ≤ 4000
      · rw [if_pos h4] at cE
        have h4z : (3995 : Int) + (k : Int) ≤ 4000 := by omega
        have h4d : decide ((3995 : Int) + (k : Int) ≤ 4000) = true := decide_eq_true h4z
        go_wp2_with fail
        refine (cE _ (Below.refl _ _)).mono ?_
        rintro e w3 ⟨rfl, hb3⟩
        go_wp2_with fail
        go_ret
        exact ⟨rfl, below_two hbr hb3 (Nat.le_refl _)⟩
      · rw [if_neg h4] at cE
        have h4z : ¬ (3995 : Int) + (k : Int) ≤ 4000 := by omega
        have h4d : decide ((3995 : Int) + (k : Int) ≤ 4000) = false := decide_eq_false h4z
        go_wp2_with fail
        refine (cE _ (Below.refl _ _)).mono ?_
        rintro e w3 ⟨rfl, hb3⟩
        go_wp2_with fail
        go_ret
        exact ⟨rfl, below_two hbr hb3 (Nat.le_refl _)⟩

set_option maxRecDepth 100000 in
set_option maxHeartbeats 1000000 in
theorem textLong_yes (n : Int) (w : World) (hn : I64 n) (hT : Tabs w) :
    Calls Tryd.prog 4 #[.int .i64 n, .bool true] w fun e w' => e = .returned (.bool true) ∧ Below w.heap.size w w' := by
  have HB : Below w.heap.size w w := Below.refl _ _
  go_enter Tryd.func4, Tryd.ntmps4
  go_wp2_with fail
  refine (picked_any n 10 _ hn (by omega) (by omega)).mono ?_
  rintro e w1 ⟨k, hk, rfl, hb⟩
  replace HB := below_two HB hb (Nat.le_refl _)
  clear hb
  have hmk := fun wx : World => run_make_row' (P := Tryd.prog) 32 21 (.int .i32 0) 4 Tryd.underlying32 info_i32 rfl .i64 .i64 (3995 + k) (by omega) (by omega) wx
  have ec : ((3995 + k : Nat) : Int) = 3995 + (k : Int) := by omega
  rw [ec] at hmk
  go_wp2_with fail
  clear hmk
  have hz := HB.size
  go_loopw [16] (fun i wr => ∃ j : Nat, j ≤ 3995 + k ∧ i = .int .i64 j ∧ wr.ownsRow w.heap.size 21 1 (.slice (some ⟨w1.heap.size, 0, none⟩) (3995 + k) (3995 + k)) (3995 + k) (longVals 19990 j (3995 + k)) ∧ Below w.heap.size w wr) (fun i _ => 3995 + k - (RowKit.intOf i).toNat)
  case atStart =>
    refine ⟨0, Nat.zero_le _, rfl, ⟨by simp [longVals], .inr ⟨w1.heap.size, 3995 + k, _, rfl, hz, heap_alloc_new w1 _, Nat.le_refl _, by unfold maxLen; omega, by rw [size_madeCells]; omega, ?_⟩⟩, HB.alloc hz _⟩
    rw [toList_madeCells_one]
    unfold longVals
    simp
  case round =>
    obtain ⟨j, hj, rfl, hown, hbr⟩ := hrel
    by_cases hlt : j < 3995 + k
    · have hjz : (j : Int) < 3995 + (k : Int) := by omega
      have hcell := hown.cells (g := w1.heap.size) rfl j _ (longVals_get 19990 j _ hlt)
      rw [WideShapes.add_plain, Nat.zero_add] at hcell
      have hfz : wr.frozen? ⟨w1.heap.size, j, none⟩ = false := by
        rcases hown.2 with ⟨h', _⟩ | ⟨g', cap', cur, h', _, hg, _⟩
        · simp at h'
        · simp only [Value.slice.injEq, Option.some.injEq, Addr.mk.injEq, and_true] at h'
          obtain ⟨rfl, _⟩ := h'
          simp [World.frozen?, hg]
      obtain ⟨s1, s2⟩ := hown.stored j (.int .i32 97)
      obtain ⟨s3, s4⟩ := s1.stored j (.int .i32 19990)
      go_wp2_with fail
      go_roundw
      case rel => exact ⟨j + 1, hlt, by go_num, by rw [← longVals_set2 19990 j _ hlt (.int .i32 97)]; exact s3, (hbr.grown s2 hbr.size (fun k hk => (hown.lt k hk).1)).grown s4 (by have := hbr.size; simp; omega) (fun k hk => (hown.lt k hk).1)⟩
      case measure => simp [RowKit.intOf]; omega
    · obtain rfl : j = 3995 + k := by omega
      have hjz : ¬ ((3995 : Int) + (k : Int) < 3995 + (k : Int)) := by omega
      have e1 : longVals 19990 (3995 + k) (3995 + k) = runeVals (List.replicate (3995 + k) 19990) := by simp [longVals, runeVals]
      rw [e1] at hown
      have e2 : 3995 + k = (List.replicate (3995 + k) 19990).length := by simp
      have hown2 : wr.ownsRow w.heap.size 21 1 (.slice (some ⟨w1.heap.size, 0, none⟩) (3995 + k) (3995 + k)) (List.replicate (3995 + k) 19990).length (runeVals (List.replicate (3995 + k) 19990)) := by rw [← e2]; exact hown
      have hcb := conv_back wr _ _ _ hown2
      have cE := fun wx (hbx : Below wr.heap.size wr wx) => checkText_any (str (List.replicate (3995 + k) 19990)) wx (by have := str_fits' (List.replicate (3995 + k) 19990) (fun r hr => by rw [List.eq_of_mem_replicate hr]; unfold CP; omega); simp only [List.length_replicate] at this; omega) (hT.below (below_two hbr hbx (Nat.le_refl _)))
      rw [long_err 19990 (3995 + k) (by unfold CP; omega) (by omega)] at cE
      generalize str (List.replicate (3995 + k) 19990) = s at *
      clear hown hown2 e1 e2
      by_cases h4 : 3995 + k ≤ 4000
      · rw [if_pos h4] at cE
        have h4z : (3995 : Int) + (k : Int) ≤ 4000 := by omega
        have h4d : decide ((3995 : Int) + (k : Int) ≤ 4000) = true := decide_eq_true h4z
        go_wp2_with fail
        refine (cE _ (Below.refl _ _)).mono ?_
        rintro e w3 ⟨rfl, hb3⟩
        go_wp2_with fail
        go_ret
        exact ⟨rfl, below_two hbr hb3 (Nat.le_refl _)⟩
      · rw [if_neg h4] at cE
        have h4z : ¬ (3995 : Int) + (k : Int) ≤ 4000 := by omega
        have h4d : decide ((3995 : Int) + (k : Int) ≤ 4000) = false := decide_eq_false h4z
        go_wp2_with fail
        refine (cE _ (Below.refl _ _)).mono ?_
        rintro e w3 ⟨rfl, hb3⟩
        go_wp2_with fail
        go_ret
        exact ⟨rfl, below_two hbr hb3 (Nat.le_refl _)⟩

theorem textLong_walk (n : Int) (wide : Bool) (w : World) (hn : I64 n) (hT : Tabs w) :
    Calls Tryd.prog 4 #[.int .i64 n, .bool wide] w fun e w' => e = .returned (.bool true) ∧ Below w.heap.size w w' := by
  cases wide with
  | false => exact textLong_no n w hn hT
  | true => exact textLong_yes n w hn hT

end Go.Proofs.YtepehgjdepioeabDoor
