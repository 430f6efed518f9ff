/-
  Lines, read: words, numbers, texts, parts. Pure; walks: lines.kindOf, word, readNumber, readText, readPart.
-/
import Derived.Test.YtelindfmdakliaaDoorLineW
import Derived.Test.YtelindfmdakliaaDoorShelfC
import Derived.Test.YtelindfmdakliaaDoorShelfA
import Derived.Lib.IndexBytes
namespace Go.Proofs.YtelindfmdakliaaDoor
open Go.RowKit Go.Lib

theorem LTabs.cells {w : World} (h : LTabs w) : ∀ k, k < 10 → ∃ l, wordB[k]? = some l ∧ w.cell? ⟨0, k, none⟩ = some (.string ⟨l.toArray⟩) := fun k hk => by
  have hg : Tryd.prog.globalNamed "wherry/lines.words" = some 0 := by kernel_rfl
  obtain ⟨cs, hv, hc⟩ := h.words
  obtain ⟨l, h1, h2⟩ := hc k hk
  exact ⟨l, h1, by rw [World.var?_cell hg hv k]; exact h2⟩
/-- the kind that has this word; 0: none has -/
def kindL (s : ByteArray) : Nat := ((List.range 10).find? fun k => (wordS k).toList == s.toList).getD 0
theorem kindL_at {s : ByteArray} {i : Nat} (hi : i < 10) (h : ∀ j, j < i → ((wordS j).toList == s.toList) = false) (he : ((wordS i).toList == s.toList) = true) : kindL s = i := by
  unfold kindL
  have : (List.range 10).find? (fun k => (wordS k).toList == s.toList) = some i := by
    rw [List.find?_range_eq_some]
    refine ⟨he, List.mem_range.2 hi, fun j hj => ?_⟩
    simpa using h j hj
  rw [this]; rfl
theorem kindL_none {s : ByteArray} (h : ∀ j, j < 10 → ((wordS j).toList == s.toList) = false) : kindL s = 0 := by
  unfold kindL
  have : (List.range 10).find? (fun k => (wordS k).toList == s.toList) = none := by
    rw [List.find?_eq_none]
    intro j hj
    simpa using h j (List.mem_range.1 hj)
  rw [this]; rfl
theorem LTabs.string {w : World} (h : LTabs w) (k : Nat) (hk : k < 10) : w.cell? ⟨0, k, none⟩ = some (.string (wordS k)) := by
  obtain ⟨l, h1, h2⟩ := h.cells k hk
  rw [h2]
  obtain rfl | rfl | rfl | rfl | rfl | rfl | rfl | rfl | rfl | rfl : k = 0 ∨ k = 1 ∨ k = 2 ∨ k = 3 ∨ k = 4 ∨ k = 5 ∨ k = 6 ∨ k = 7 ∨ k = 8 ∨ k = 9 := by omega
  all_goals
    cases h1
    rfl

theorem index_ten (f : Nat → ByteArray) (i : Nat) (hi : i < 10) (w : World) : (Instr.index 70 (.agg #[Value.string (f 0), .string (f 1), .string (f 2), .string (f 3), .string (f 4), .string (f 5), .string (f 6), .string (f 7), .string (f 8), .string (f 9)]) (.int .i64 (i : Int))).run Tryd.prog w = .ok (.string (f i)) w := by
  obtain rfl | rfl | rfl | rfl | rfl | rfl | rfl | rfl | rfl | rfl : i = 0 ∨ i = 1 ∨ i = 2 ∨ i = 3 ∨ i = 4 ∨ i = 5 ∨ i = 6 ∨ i = 7 ∨ i = 8 ∨ i = 9 := by omega
  all_goals
    simp [Instr.index, part, asIntOf, run_underlying Tryd.underlying70, Tryd.sizeOf9, Tryd.isAgg9]

set_option maxRecDepth 100000 in
set_option maxHeartbeats 1000000 in
theorem kindOf_any (s : ByteArray) (w : World) (hT : LTabs w) :
    Calls Tryd.prog 42 #[.string s] w fun r w' => r = .returned (.int .i64 (kindL s : Int)) ∧ w' = w := by
  have d0 := hT.string 0 (by decide)
  have d1 := hT.string 1 (by decide)
  have d2 := hT.string 2 (by decide)
  have d3 := hT.string 3 (by decide)
  have d4 := hT.string 4 (by decide)
  have d5 := hT.string 5 (by decide)
  have d6 := hT.string 6 (by decide)
  have d7 := hT.string 7 (by decide)
  have d8 := hT.string 8 (by decide)
  have d9 := hT.string 9 (by decide)
  have hat : ∀ i (h : i < 10), (#[Value.string (wordS 0), .string (wordS 1), .string (wordS 2), .string (wordS 3), .string (wordS 4), .string (wordS 5), .string (wordS 6), .string (wordS 7), .string (wordS 8), .string (wordS 9)] : Array Value)[i]? = some (.string (wordS i)) := by
    intro i h
    obtain rfl | rfl | rfl | rfl | rfl | rfl | rfl | rfl | rfl | rfl : i = 0 ∨ i = 1 ∨ i = 2 ∨ i = 3 ∨ i = 4 ∨ i = 5 ∨ i = 6 ∨ i = 7 ∨ i = 8 ∨ i = 9 := by omega
    all_goals rfl
  obtain ⟨R, hR⟩ : ∃ R, kindL s = R := ⟨_, rfl⟩
  have HR : Hid (kindL s = R) := hR
  rw [hR]
  clear hR
  obtain ⟨f, hf⟩ : ∃ f, f = wordS := ⟨_, rfl⟩
  have HF : Hid (f = wordS) := hf
  rw [← hf] at d0 d1 d2 d3 d4 d5 d6 d7 d8 d9 hat
  clear hf
  go_enter Tryd.func42, Tryd.ntmps42
  go_wp2_with fail
  have x0 : (Instr.index 70 (.agg #[Value.string (f 0), .string (f 1), .string (f 2), .string (f 3), .string (f 4), .string (f 5), .string (f 6), .string (f 7), .string (f 8), .string (f 9)]) (.int .i64 0)).run Tryd.prog w = .ok (.string (f 0)) w := index_ten f 0 (by decide) w
  have x1 : (Instr.index 70 (.agg #[Value.string (f 0), .string (f 1), .string (f 2), .string (f 3), .string (f 4), .string (f 5), .string (f 6), .string (f 7), .string (f 8), .string (f 9)]) (.int .i64 1)).run Tryd.prog w = .ok (.string (f 1)) w := index_ten f 1 (by decide) w
  have x2 : (Instr.index 70 (.agg #[Value.string (f 0), .string (f 1), .string (f 2), .string (f 3), .string (f 4), .string (f 5), .string (f 6), .string (f 7), .string (f 8), .string (f 9)]) (.int .i64 2)).run Tryd.prog w = .ok (.string (f 2)) w := index_ten f 2 (by decide) w
  have x3 : (Instr.index 70 (.agg #[Value.string (f 0), .string (f 1), .string (f 2), .string (f 3), .string (f 4), .string (f 5), .string (f 6), .string (f 7), .string (f 8), .string (f 9)]) (.int .i64 3)).run Tryd.prog w = .ok (.string (f 3)) w := index_ten f 3 (by decide) w
  have x4 : (Instr.index 70 (.agg #[Value.string (f 0), .string (f 1), .string (f 2), .string (f 3), .string (f 4), .string (f 5), .string (f 6), .string (f 7), .string (f 8), .string (f 9)]) (.int .i64 4)).run Tryd.prog w = .ok (.string (f 4)) w := index_ten f 4 (by decide) w
  have x5 : (Instr.index 70 (.agg #[Value.string (f 0), .string (f 1), .string (f 2), .string (f 3), .string (f 4), .string (f 5), .string (f 6), .string (f 7), .string (f 8), .string (f 9)]) (.int .i64 5)).run Tryd.prog w = .ok (.string (f 5)) w := index_ten f 5 (by decide) w
  have x6 : (Instr.index 70 (.agg #[Value.string (f 0), .string (f 1), .string (f 2), .string (f 3), .string (f 4), .string (f 5), .string (f 6), .string (f 7), .string (f 8), .string (f 9)]) (.int .i64 6)).run Tryd.prog w = .ok (.string (f 6)) w := index_ten f 6 (by decide) w
  have x7 : (Instr.index 70 (.agg #[Value.string (f 0), .string (f 1), .string (f 2), .string (f 3), .string (f 4), .string (f 5), .string (f 6), .string (f 7), .string (f 8), .string (f 9)]) (.int .i64 7)).run Tryd.prog w = .ok (.string (f 7)) w := index_ten f 7 (by decide) w
  have x8 : (Instr.index 70 (.agg #[Value.string (f 0), .string (f 1), .string (f 2), .string (f 3), .string (f 4), .string (f 5), .string (f 6), .string (f 7), .string (f 8), .string (f 9)]) (.int .i64 8)).run Tryd.prog w = .ok (.string (f 8)) w := index_ten f 8 (by decide) w
  have x9 : (Instr.index 70 (.agg #[Value.string (f 0), .string (f 1), .string (f 2), .string (f 3), .string (f 4), .string (f 5), .string (f 6), .string (f 7), .string (f 8), .string (f 9)]) (.int .i64 9)).run Tryd.prog w = .ok (.string (f 9)) w := index_ten f 9 (by decide) w
  clear d0 d1 d2 d3 d4 d5 d6 d7 d8 d9 hat
  go_loopg [6] 10 (fun g iv wr => ∃ i : Nat, i + g = 10 ∧ iv = .int .i64 (i : Int) ∧ w = wr ∧ Hid (∀ j, j < i → ((f j).toList == s.toList) = false))
  case atStart => exact ⟨0, rfl, rfl, rfl, fun j hj => absurd hj (Nat.not_lt_zero j)⟩
  case round =>
    obtain ⟨i, hi, rfl, rfl, HA⟩ := hrel
    by_cases hlt : i < 10
    · by_cases he : ((f i).toList == s.toList) = true
      · have hfin : Hid (R = i) := by
          show R = i
          rw [← HR.out]
          refine kindL_at hlt (fun j hj => ?_) ?_
          · have := HA.out j hj; rwa [HF.out] at this
          · rwa [HF.out] at he
        clear HA hT
        obtain rfl | rfl | rfl | rfl | rfl | rfl | rfl | rfl | rfl | rfl : i = 0 ∨ i = 1 ∨ i = 2 ∨ i = 3 ∨ i = 4 ∨ i = 5 ∨ i = 6 ∨ i = 7 ∨ i = 8 ∨ i = 9 := by omega
        all_goals
          go_wp2_with fail
          go_ret
          exact ⟨by rw [hfin.out]; rfl, rfl⟩
      · have he' : ((f i).toList == s.toList) = false := by simpa using he
        have HB : Hid (∀ j, j < i + 1 → ((f j).toList == s.toList) = false) := fun j hj => by
          by_cases e : j = i
          · subst e; exact he'
          · exact HA.out j (by omega)
        clear HA hT he
        obtain rfl | rfl | rfl | rfl | rfl | rfl | rfl | rfl | rfl | rfl : i = 0 ∨ i = 1 ∨ i = 2 ∨ i = 3 ∨ i = 4 ∨ i = 5 ∨ i = 6 ∨ i = 7 ∨ i = 8 ∨ i = 9 := by omega
        all_goals
          go_wp2_with fail
          go_roundg (gk - 1)
          case measure => omega
          case rel => exact ⟨_, by omega, by rfl, rfl, HB⟩
    · obtain rfl : i = 10 := by omega
      obtain rfl : R = 0 := HR.out.symm.trans (kindL_none (fun j hj => by have := HA.out j hj; rwa [HF.out] at this))
      clear HA HR hT
      go_wp2_with fail
      go_ret
      exact ⟨rfl, rfl⟩

theorem indexByte_eq (l : List UInt8) (c : UInt8) : Lib.indexByte l c = if l.any (· == c) = true then ((l.takeWhile (· != c)).length : Int) else -1 := by
  induction l with
  | nil => rfl
  | cons b l ih =>
    unfold Lib.indexByte
    by_cases h : (b == c) = true
    · have e : b = c := by simpa using h
      subst e
      simp
    · have hn : (b == c) = false := by simpa using h
      rw [if_neg h, ih, List.any_cons, hn, Bool.false_or]
      by_cases h2 : l.any (· == c) = true
      · rw [if_pos h2, if_pos h2]
        have hne : (b != c) = true := by simp [bne, hn]
        rw [List.takeWhile_cons, if_pos hne, List.length_cons]
        have : ¬ (((l.takeWhile (· != c)).length : Int) == -1) = true := by simp
        rw [if_neg this]
        omega
      · rw [if_neg h2, if_neg h2]
        rfl
theorem take_tw {α : Type} (p : α → Bool) (l : List α) : l.take (l.takeWhile p).length = l.takeWhile p := by
  induction l with
  | nil => rfl
  | cons x l ih =>
    by_cases h : p x = true
    · rw [List.takeWhile_cons, if_pos h, List.length_cons, List.take_succ_cons, ih]
    · rw [List.takeWhile_cons, if_neg h]; rfl
theorem drop_tw {α : Type} (p : α → Bool) (l : List α) : l.drop (l.takeWhile p).length = l.dropWhile p := by
  induction l with
  | nil => rfl
  | cons x l ih =>
    by_cases h : p x = true
    · rw [List.takeWhile_cons, if_pos h, List.length_cons, List.drop_succ_cons, ih, List.dropWhile_cons, if_pos h]
    · rw [List.takeWhile_cons, if_neg h, List.dropWhile_cons, if_neg h]; rfl
theorem none_tw (l : List UInt8) (c : UInt8) (h : l.any (· == c) = false) : l.takeWhile (· != c) = l ∧ l.dropWhile (· != c) = [] := by
  induction l with
  | nil => exact ⟨rfl, rfl⟩
  | cons x l ih =>
    rw [List.any_cons, Bool.or_eq_false_iff] at h
    have hx : (x != c) = true := by simp [bne, h.1]
    obtain ⟨i1, i2⟩ := ih h.2
    exact ⟨by rw [List.takeWhile_cons, if_pos hx, i1], by rw [List.dropWhile_cons, if_pos hx, i2]⟩
/-- what stands ahead of a byte, what behind it, and whether it is there -/
def cutB (c : UInt8) (l : List UInt8) : List UInt8 × List UInt8 × Bool := (l.takeWhile (· != c), (l.dropWhile (· != c)).drop 1, l.any (· == c))
theorem cut_one (l : List UInt8) (c : UInt8) : Lib.cut l [c] = cutB c l := by
  unfold Lib.cut cutB
  rw [Lib.index_one, indexByte_eq]
  by_cases h : l.any (· == c) = true
  · rw [if_pos h, if_pos (by omega), h]
    have e : (((l.takeWhile (· != c)).length : Int)).toNat = (l.takeWhile (· != c)).length := by omega
    rw [e, take_tw, List.length_singleton, ← List.drop_drop, drop_tw]
  · have hf : l.any (· == c) = false := Bool.eq_false_iff.2 h
    obtain ⟨h1, h2⟩ := none_tw l c hf
    rw [if_neg h, if_neg (by omega), hf, h1, h2]
    rfl

/-- what lines.Read reaches besides -/
structure RTabs (w : World) : Prop where
  l : LTabs w
  most : ∃ m, w.cell? ⟨Tryd.laysCut_ren.g 1, 0, none⟩ = some (.int .i64 m)
  syn : ∃ te pe, w.cell? ⟨Tryd.laysAtoi_ren.g 15, 0, none⟩ = some (.iface te pe)
  rng : ∃ te pe, w.cell? ⟨Tryd.laysAtoi_ren.g 16, 0, none⟩ = some (.iface te pe)
theorem cell_kept {w w' : World} {p : Addr} {v : Value} (h : w.cell? p = some v) (hb : Below w.heap.size w w') : w'.cell? p = some v := (hb.cell (p := p) (World.block_lt_of_cell? w _ h)).trans h
theorem RTabs.below {w w' : World} (h : RTabs w) (hb : Below w.heap.size w w') : RTabs w' :=
  ⟨h.l.below hb, h.most.elim fun m e => ⟨m, cell_kept e hb⟩, h.syn.elim fun t e => e.elim fun p e => ⟨t, p, cell_kept e hb⟩, h.rng.elim fun t e => e.elim fun p e => ⟨t, p, cell_kept e hb⟩⟩

/-- a text of these bytes -/
def txt (l : List UInt8) : ByteArray := ⟨l.toArray⟩
theorem txt_list (l : List UInt8) : (txt l).data.toList = l := rfl
theorem cut_any (s : ByteArray) (c : UInt8) (w : World) (hs : s.size < 4294967281) (hT : RTabs w) :
    Calls Tryd.prog 25 #[.string s, .string ⟨#[c]⟩] w fun e w' => e = .returned (.tuple #[.string (txt (cutB c s.data.toList).1), .string (txt (cutB c s.data.toList).2.1), .bool (cutB c s.data.toList).2.2]) ∧ Below w.heap.size w w' := by
  obtain ⟨m, hm⟩ := hT.most
  refine (Any.strings_Cut Tryd.laysCut s ⟨#[c]⟩ m w hs hm).mono ?_
  rintro e w' ⟨he, n, rfl⟩
  have hc : Lib.cut s.data.toList (⟨#[c]⟩ : ByteArray).data.toList = cutB c s.data.toList := cut_one _ c
  rw [hc] at he
  exact ⟨he, ⟨rfl, rfl, rfl, Nat.le_refl _, fun _ _ => rfl⟩⟩

set_option maxRecDepth 100000 in
set_option maxHeartbeats 1000000 in
theorem word_any (b : Nat) (s : ByteArray) (en : Bool) (w : World) (hb : w.heap[b]? = some (.cells #[.string s, .bool en] 82 (0, 0))) (hs : s.size < 4294967281) (hT : RTabs w) :
    Calls Tryd.prog 43 #[.pointer (some ⟨b, 0, none⟩)] w fun e w' => e = .returned (.string (txt (cutB 32 s.data.toList).1)) ∧ w'.heap[b]? = some (.cells #[.string (txt (cutB 32 s.data.toList).2.1), .bool (!(cutB 32 s.data.toList).2.2)] 82 (0, 0)) ∧ Chg (fun k => k = b) w w' := by
  obtain ⟨b0, bl, bf⟩ := blk hb
  have cC := fun wx (hx : Below w.heap.size w wx) => cut_any s 32 wx hs (hT.below hx)
  generalize cutB 32 s.data.toList = R at *
  obtain ⟨x, y, z⟩ := R
  simp only at cC
  generalize txt x = X at *
  generalize txt y = Y at *
  go_enter Tryd.func43, Tryd.ntmps43
  go_wp2_with fail
  refine (cC w (Below.refl _ _)).mono ?_
  clear cC
  rintro r w1 ⟨rfl, hb1⟩
  have hn1 := (hb1.block _ bl).trans hb
  obtain ⟨b1, bl1, bf1⟩ := blk hn1
  clear b0 bf
  go_wp2_with fail
  go_ret
  obtain ⟨p0, p1⟩ := puts_all hn1 [.string Y, .bool (!z)] rfl
  simp only [puts, Nat.zero_add] at p0 p1
  exact ⟨rfl, p0, (Chg.of_below hb1).trans p1 (fun _ _ h => h)⟩

theorem bytesWorld_belowX (w : World) (e : TypeId) (s : ByteArray) : Below w.heap.size w (bytesWorld w e s) :=
  ⟨rfl, rfl, rfl, by rw [bytesWorld_size]; omega, fun k hk => bytesWorld_at_old w _ s k hk⟩
/-- a number, as it would be written -/
def numW (l : List UInt8) : Option Int := match Lib.atoiAll l with
  | .ok v => if Lib.itoa v = l then some v else none
  | _ => none

set_option maxRecDepth 100000 in
set_option maxHeartbeats 1000000 in
theorem readNumber_any (s : ByteArray) (w : World) (hs : s.size ≤ 281474976710656) (hT : RTabs w) :
    Calls Tryd.prog 44 #[.string s] w fun e w' => ∃ n, e = .returned (.tuple #[.int .i64 n, .bool (numW s.data.toList).isSome]) ∧ (∀ v, numW s.data.toList = some v → n = v) ∧ Below w.heap.size w w' := by
  cases hA : Lib.atoiAll s.data.toList with
  | «syntax» =>
    obtain ⟨te, pe, hsy⟩ := hT.syn
    have cA := Any.strconv_Atoi_syntax Tryd.laysAtoi s hs hA (.iface te pe) w hsy (.inr ⟨te, pe, rfl⟩)
    have hn : numW s.data.toList = none := by unfold numW; rw [hA]
    rw [hn]
    clear hn hA hsy hT
    go_enter Tryd.func44, Tryd.ntmps44
    go_wp2_with fail
    refine cA.mono ?_
    clear cA
    rintro r w1 ⟨N, rfl, _, _, hb1⟩
    go_wp2_with fail
    go_ret2
    exact ⟨_, rfl, (fun v h => by cases h), hb1⟩
  | range =>
    obtain ⟨te, pe, hrg⟩ := hT.rng
    have cA := Any.strconv_Atoi_range Tryd.laysAtoi s hs hA (.iface te pe) w hrg (.inr ⟨te, pe, rfl⟩)
    have hn : numW s.data.toList = none := by unfold numW; rw [hA]
    rw [hn]
    generalize Lib.atoiSat s.data.toList = z at *
    clear hn hA hrg hT
    go_enter Tryd.func44, Tryd.ntmps44
    go_wp2_with fail
    refine cA.mono ?_
    clear cA
    rintro r w1 ⟨N, rfl, _, _, hb1⟩
    go_wp2_with fail
    go_ret2
    exact ⟨_, rfl, (fun v h => by cases h), hb1⟩
  | ok v =>
    have cA := Any.strconv_Atoi_ok Tryd.laysAtoi s (by omega) v hA w
    obtain ⟨hv0, hv1⟩ := Lib.atoiAll_bounds hA
    have cI := fun wx (hx : Below w.heap.size w wx) => itoa_any v (by omega) (by omega) wx (hT.l.below hx)
    have hx : ((decS v).toList == s.toList) = decide (Lib.itoa v = s.data.toList) := by
      rw [Lib.toList_data, Lib.toList_data]
      show (Lib.itoa v == s.data.toList) = _
      by_cases e : Lib.itoa v = s.data.toList
      · rw [e]; simp
      · rw [decide_eq_false e]; simpa using e
    have hn : numW s.data.toList = if Lib.itoa v = s.data.toList then some v else none := by unfold numW; rw [hA]
    rw [hn]
    clear hn hA hT
    obtain ⟨D, hD⟩ : ∃ D, D = decide (Lib.itoa v = s.data.toList) := ⟨_, rfl⟩
    have hif : (if Lib.itoa v = s.data.toList then some v else none) = if D = true then some v else none := by rw [hD]; simp
    rw [hif]
    rw [← hD] at hx
    clear hif hD
    generalize decS v = Z at *
    cases D
    all_goals
      go_enter Tryd.func44, Tryd.ntmps44
      go_wp2_with fail
      refine cA.mono ?_
      clear cA
      rintro r w1 ⟨rfl, hw1⟩
      have hb1 : Below w.heap.size w w1 := by
        rcases hw1 with rfl | ⟨t, rfl⟩
        · exact Below.refl _ _
        · exact bytesWorld_belowX w _ t
      clear hw1
      go_wp2_with fail
      refine (cI _ hb1).mono ?_
      rintro r w2 ⟨rfl, hb2⟩
      go_wp2_with fail
      go_ret2
      first
        | exact ⟨⟨_, rfl⟩, below_two hb1 hb2 (Nat.le_refl _)⟩
        | exact ⟨_, rfl, rfl, below_two hb1 hb2 (Nat.le_refl _)⟩

/-- the value of a digit of four bits -/
def hexV (c : UInt8) : Option Nat := if 48 ≤ c.toNat ∧ c.toNat ≤ 57 then some (c.toNat - 48) else if 97 ≤ c.toNat ∧ c.toNat ≤ 102 then some (c.toNat - 87) else none
/-- bytes of digits -/
def unhexL : List UInt8 → Option (List Nat)
  | [] => some []
  | [_] => none
  | a :: b :: r => match hexV a, hexV b, unhexL r with
    | some x, some y, some l => some ((16 * x + y) :: l)
    | _, _, _ => none

theorem hex_index (c : UInt8) : Lib.indexByte [48, 49, 50, 51, 52, 53, 54, 55, 56, 57, 97, 98, 99, 100, 101, 102] c = match hexV c with | some v => (v : Int) | none => -1 := by
  have : ∀ n : Fin 256, Lib.indexByte [48, 49, 50, 51, 52, 53, 54, 55, 56, 57, 97, 98, 99, 100, 101, 102] (UInt8.ofNat n.1) = match hexV (UInt8.ofNat n.1) with | some v => (v : Int) | none => -1 := by decide +kernel
  have h := this ⟨c.toNat, c.toNat_lt⟩
  simpa using h
theorem hexV_lt {c : UInt8} {v : Nat} (h : hexV c = some v) : v < 16 := by
  unfold hexV at h
  split at h
  · cases h; omega
  · split at h
    · cases h; omega
    · cases h
/-- the place of a digit; -1: it is none -/
def hexI (c : UInt8) : Int := match hexV c with | some v => (v : Int) | none => -1
theorem hexI_some {c : UInt8} {v : Nat} (h : hexV c = some v) : hexI c = (v : Int) := by unfold hexI; rw [h]
theorem hexI_none {c : UInt8} (h : hexV c = none) : hexI c = -1 := by unfold hexI; rw [h]
theorem hexIndex_any (c : UInt8) (w : World) :
    Calls Tryd.prog 75 #[.string ⟨#[48, 49, 50, 51, 52, 53, 54, 55, 56, 57, 97, 98, 99, 100, 101, 102]⟩, .int .u8 (c.toNat : Int)] w fun e w' => e = .returned (.int .i64 (hexI c)) ∧ w' = w := by
  have cI := Any.stringslite_IndexByte Tryd.laysIdx ⟨#[48, 49, 50, 51, 52, 53, 54, 55, 56, 57, 97, 98, 99, 100, 101, 102]⟩ (c.toNat : Int) w
  have e : ((c.toNat : Int)).toNat.toUInt8 = c := by simp
  rw [e] at cI
  have e2 : Lib.indexByte (⟨#[48, 49, 50, 51, 52, 53, 54, 55, 56, 57, 97, 98, 99, 100, 101, 102]⟩ : ByteArray).data.toList c = match hexV c with | some v => (v : Int) | none => -1 := hex_index c
  rw [e2] at cI
  have e3 : (match hexV c with | some v => (v : Int) | none => -1) = hexI c := rfl
  rw [e3] at cI
  generalize hexI c = R at *
  clear e e2 e3
  go_enter Tryd.func75, Tryd.ntmps75
  go_wp2_with fail
  refine cI.mono ?_
  rintro r w1 ⟨rfl, rfl⟩
  go_wp2_with fail
  go_ret
  exact ⟨rfl, rfl⟩

theorem str_index (s : ByteArray) (i : Nat) (z : Int) (hz : z = (i : Int)) (h : i < s.size) (w : World) : (Instr.index 9 (.string s) (.int .i64 z)).run Tryd.prog w = .ok (.int .u8 ((s[i]'h).toNat : Int)) w := by
  subst hz
  simp [Instr.index, asIntOf, run_underlying Tryd.underlying9, h]
theorem or_byte (x y : Nat) (hx : x < 16) (hy : y < 16) : bits .or .i64 ((x : Int) * 16) (y : Int) % 256 = ((16 * x + y : Nat) : Int) := by
  have := (show ∀ a b : Fin 16, bits .or .i64 ((a.1 : Int) * 16) (b.1 : Int) % 256 = ((16 * a.1 + b.1 : Nat) : Int) by decide +kernel) ⟨x, hx⟩ ⟨y, hy⟩
  exact this
theorem unhexL_two (a b : UInt8) (r : List UInt8) : unhexL (a :: b :: r) = match hexV a, hexV b, unhexL r with
    | some x, some y, some l => some ((16 * x + y) :: l)
    | _, _, _ => none := rfl

theorem unhexL_odd : ∀ (l : List UInt8), l.length % 2 = 1 → unhexL l = none
  | [], h => by simp at h
  | [_], _ => rfl
  | a :: b :: r, h => by
    rw [unhexL_two, unhexL_odd r (by simp only [List.length_cons] at h; omega)]
    cases hexV a <;> cases hexV b <;> rfl

set_option maxRecDepth 100000 in
set_option maxHeartbeats 2000000 in
theorem readText_any (s : ByteArray) (w : World) (hs : s.size ≤ 1048576) :
    Calls Tryd.prog 61 #[.string s] w fun e w' => (∃ t, e = .returned (.tuple #[.string t, .bool (unhexL s.data.toList).isSome]) ∧ ∀ l, unhexL s.data.toList = some l → t = bstr l) ∧ Below w.heap.size w w' := by
  have hsl : s.data.toList.length = s.size := by rw [Array.length_toList]; rfl
  obtain ⟨i0, hi', hz0, hz1, hz2⟩ := info_parts info_byte
  by_cases hp : s.size % 2 = 0
  rotate_left
  · have hpz : ((s.size : Int) % 2 != 0) = true := by simp; omega
    have hn : unhexL s.data.toList = none := unhexL_odd _ (by omega)
    rw [hn]
    clear hn
    go_enter Tryd.func61, Tryd.ntmps61
    go_wp2_with fail
    go_ret2
    exact ⟨⟨_, rfl, fun l h => by cases h⟩, Below.refl _ _⟩
  have hpz : ((s.size : Int) % 2 != 0) = false := by simp; omega
  obtain ⟨n, hn⟩ : ∃ n, s.size = 2 * n := ⟨s.size / 2, by omega⟩
  obtain ⟨R, hR⟩ : ∃ R, R = unhexL s.data.toList := ⟨_, rfl⟩
  have HR : Hid (R = unhexL s.data.toList) := hR
  rw [← hR]
  clear hR
  go_enter Tryd.func61, Tryd.ntmps61
  go_wp2_with (at_make; refine wpList_make_own _ rfl _ _ 44 rfl w.heap.size 5 i0 _ 1 Tryd.underlying44 hi' hz0 hz1 .i64 .i64 _ (s.size / 2) rfl rfl (by omega) (by rw [hz2]; omega) (by unfold maxLen; omega) (Nat.le_refl _) ?_; intro w0 hown0 hgrow0)
  have HB0 : Below w.heap.size w w0 := (Below.refl _ _).grown hgrow0 (Nat.le_refl _) (fun k e => by cases e)
  rw [show s.size / 2 = n by omega] at hown0
  clear hgrow0
  have HN : Hid (s.size = 2 * n) := hn
  clear hn
  go_loopg [4, 5] n (fun g bv iv wr => ∃ (i : Nat) (D : List Nat), i + 2 * g = s.size ∧ iv = .int .i64 (i : Int) ∧ Hid (2 * D.length = i) ∧ wr.ownsRow w.heap.size 5 1 bv D.length (octs D) ∧ Hid (R = (unhexL (s.data.toList.drop i)).map (D ++ ·)) ∧ Below w.heap.size w wr)
  case atStart => exact ⟨0, [], by have := HN.out; omega, rfl, rfl, hown0, by show _ = _; rw [HR.out]; simp, HB0⟩
  case round =>
    obtain ⟨i, D, hj, rfl, hD, ho, HA, HB⟩ := hrel
    by_cases hlt : i < s.size
    · have hiz : (i : Int) < (s.size : Int) := by omega
      have hi0 : (0 : Int) ≤ (i : Int) := by omega
      have h1 : i + 1 < s.size := by omega
      have hi1 : (i : Int) + 1 < (s.size : Int) := by omega
      have hw1 : IntKind.i64.wrap ((i : Int) + 1) = (i : Int) + 1 := by rw [IntKind.wrap_i64]; omega
      have hdrop : s.data.toList.drop i = (s[i]'hlt) :: (s[i + 1]'h1) :: s.data.toList.drop (i + 2) := by
        have l0 : i < s.data.toList.length := by omega
        have l1 : i + 1 < s.data.toList.length := by omega
        rw [List.drop_eq_getElem_cons l0, List.drop_eq_getElem_cons l1]
        rfl
      have HA1 := HA.out
      rw [hdrop, unhexL_two] at HA1
      have HA2 : Hid (R = Option.map (D ++ ·) (match hexV (s[i]'hlt), hexV (s[i + 1]'h1), unhexL (s.data.toList.drop (i + 2)) with | some x, some y, some l => some ((16 * x + y) :: l) | _, _, _ => none)) := HA1
      have ca := hexIndex_any (s[i]'hlt)
      have cb := hexIndex_any (s[i + 1]'h1)
      have va := @hexI_some (s[i]'hlt)
      have vb := @hexI_some (s[i + 1]'h1)
      have na := @hexI_none (s[i]'hlt)
      have nb := @hexI_none (s[i + 1]'h1)
      have la := fun v => @hexV_lt (s[i]'hlt) v
      have lb := fun v => @hexV_lt (s[i + 1]'h1) v
      have hx1 := fun wx => str_index s (i + 1) ((i : Int) + 1) (by omega) h1 wx
      clear hdrop HA HA1
      go_wp2_with fail
      go_region_law (first | (go_simp; go_at_call 75; with_reducible refine Calls.mono (ca _) ?_; rintro e wy ⟨rfl, rfl⟩) | (go_simp; go_at_call 75; with_reducible refine Calls.mono (cb _) ?_; rintro e wy ⟨rfl, rfl⟩))
      all_goals
        clear ca cb hx1 hw1
        cases ha : hexV (s[i]'hlt) with
        | none =>
          rw [na ha]
          have hR0 : Hid (R = none) := by show R = none; rw [HA2.out, ha]; rfl
          clear HA2 va vb na nb la lb ha ho
          go_wp2_with fail
          go_ret2
          exact ⟨⟨_, by rw [hR0.out]; rfl, fun l h => by rw [hR0.out] at h; cases h⟩, HB.drew⟩
        | some x =>
          rw [va ha]
          have hx16 := la x ha
          cases hb : hexV (s[i + 1]'h1) with
          | none =>
            rw [nb hb]
            have hR0 : Hid (R = none) := by show R = none; rw [HA2.out, ha, hb]; rfl
            clear HA2 va vb na nb la lb ha hb ho
            go_wp2_with fail
            go_ret2
            exact ⟨⟨_, by rw [hR0.out]; rfl, fun l h => by rw [hR0.out] at h; cases h⟩, HB.drew⟩
          | some y =>
            rw [vb hb]
            have hy16 := lb y hb
            have HA3 : Hid (R = (unhexL (s.data.toList.drop (i + 2))).map (D ++ [16 * x + y] ++ ·)) := by
              show R = _
              rw [HA2.out, ha, hb]
              cases unhexL (s.data.toList.drop (i + 2)) <;> simp
            have hx0 : ¬ (x : Int) < 0 := by omega
            have hy0 : ¬ (y : Int) < 0 := by omega
            clear HA2 va vb na nb la lb ha hb
            obtain ⟨ba, bc, rfl⟩ := own_form ho
            have hbv := or_byte x y hx16 hy16
            have HBV : Hid ((bits .or .i64 ((x : Int) * 16) (y : Int) % 256) = ((16 * x + y : Nat) : Int)) := hbv
            clear hbv
            have hown : ((wr.alloc (.cells #[.int .u8 (bits .or .i64 ((x : Int) * 16) (y : Int) % 256)] 5)).drew).ownsRow w.heap.size 5 1 (.slice ba D.length bc) D.length (octs D) := own_below ho (((Below.refl wr.heap.size wr).alloc (Nat.le_refl _) _).drew)
            have hnw : ((wr.alloc (.cells #[.int .u8 (bits .or .i64 ((x : Int) * 16) (y : Int) % 256)] 5)).drew).heap[wr.heap.size]? = some (.cells #[.int .u8 (bits .or .i64 ((x : Int) * 16) (y : Int) % 256)] 5 (0, 0)) := heap_alloc_new wr _
            have hSa : Below w.heap.size w ((wr.alloc (.cells #[.int .u8 (bits .or .i64 ((x : Int) * 16) (y : Int) % 256)] 5)).drew) := (HB.alloc HB.size _).drew
            have hBs := hSa.size
            have hDl : D.length ≤ 1048576 := by have := hD.out; omega
            clear ho
            go_wp2_with (at_builtin; refine wpList_append_lies _ rfl _ _ 44 rfl w.heap.size 5 i0 _ 1 1 Tryd.underlying44 hi' hz0 hz1 hz2 rfl (by decide) (.slice ba D.length bc) D.length (octs D) rfl hown ⟨wr.heap.size, 0, none⟩ 1 1 [.int .u8 (bits .or .i64 ((x : Int) * 16) (y : Int) % 256)] rfl rfl (World.news_of_block hnw) (by simp [Value.oneCell']) (by omega) (by unfold maxLen; omega) (by omega) hBs _ rfl ?_; intro g1 cap1 w7 hown7 hgr7 hat7 hlt7)
            have hb8 := hSa.grown hgr7 hBs (fun k e => (hown.lt k e).1)
            rw [HBV.out] at hown7
            go_roundg (gk - 1)
            case measure => omega
            case rel =>
              refine ⟨i + 2, D ++ [16 * x + y], by omega, by go_num, by show _ = _; rw [List.length_append]; simp only [List.length_cons, List.length_nil]; have := hD.out; omega, ?_, HA3, hb8⟩
              rw [octs_append, List.length_append]
              exact hown7
    · have he : i = s.size := by omega
      have hiz : ¬ (i : Int) < (s.size : Int) := by omega
      have hfin : Hid (R = some D) := by
        show R = some D
        rw [HA.out, List.drop_of_length_le (by omega)]
        simp [unhexL]
      obtain ⟨a, c, hv, _, hby, _⟩ := srcB_own ho
      subst hv
      have hcv := conv_bytes hby c
      clear HA ho hby he
      go_wp2_with fail
      go_ret2
      refine ⟨⟨_, by rw [hfin.out]; rfl, fun l h => ?_⟩, HB⟩
      rw [hfin.out] at h
      cases h
      rfl

/-- a part, as it would be written (but for the bounds) -/
def partOfL : List UInt8 → Option Part
  | [] => none
  | c :: r => if c = 107 then (numW r).map (fun v => ⟨1, v, ByteArray.empty⟩) else if c = 100 then (numW r).map (fun v => ⟨3, v, ByteArray.empty⟩) else if c = 105 then (unhexL r).map (fun t => ⟨2, 0, bstr t⟩) else none

set_option maxRecDepth 100000 in
set_option maxHeartbeats 2000000 in
theorem readPart_any (s : ByteArray) (w : World) (hs : s.size ≤ 1048576) (hT : RTabs w) :
    Calls Tryd.prog 45 #[.string s] w fun e w' => (∃ (p : Part), e = .returned (.tuple #[.agg #[.int .i64 p.kind, .int .i64 p.n, .string p.text], .bool (partOfL s.data.toList).isSome]) ∧ ∀ q, partOfL s.data.toList = some q → q = p) ∧ Below w.heap.size w w' := by
  have hsl : s.data.toList.length = s.size := by rw [Array.length_toList]; rfl
  by_cases h0 : s.size = 0
  · have hn : s.data.toList = [] := List.length_eq_zero_iff.1 (by omega)
    have he : partOfL s.data.toList = none := by rw [hn]; rfl
    have hg : s.toList.isEmpty = true := by rw [Lib.toList_data, hn]; rfl
    rw [he]
    clear he hn hsl hT
    go_enter Tryd.func45, Tryd.ntmps45
    go_wp2_with fail
    obtain ⟨m0, ml, _⟩ := blk (heap_alloc_new w (.cells #[.int .i64 0, .int .i64 0, .string ⟨#[]⟩] 63))
    refine bodyPost_ret (by simp [results, Tryd.results45, go_sem, m0]; rfl) rfl ?_
    refine ⟨⟨⟨0, 0, ⟨#[]⟩⟩, rfl, fun q h => by cases h⟩, (Below.refl _ _).alloc (Nat.le_refl _) _⟩
  · have hg : s.toList.isEmpty = false := isEmpty_of s h0
    have hpos : 0 < s.size := by omega
    have hposz : (0 : Int) < (s.size : Int) := by omega
    have h1z : (1 : Int) ≤ (s.size : Int) := by omega
    have hxl : s.data.toList = (s[0]'hpos) :: (s.extract 1 s.size).data.toList := by
      have l0 : 0 < s.data.toList.length := by omega
      rw [Lib.extract_to_end]
      conv => lhs; rw [← List.drop_zero (l := s.data.toList), List.drop_eq_getElem_cons l0]
      rfl
    have hpw : partOfL s.data.toList = partOfL ((s[0]'hpos) :: (s.extract 1 s.size).data.toList) := congrArg partOfL hxl
    rw [hpw]
    have hes : (s.extract 1 s.size).size ≤ 1048576 := by
      have := congrArg List.length hxl
      rw [List.length_cons] at this
      have e : (s.extract 1 s.size).data.toList.length = (s.extract 1 s.size).size := by rw [Array.length_toList]; rfl
      omega
    have hx0 := fun wx => str_index s 0 0 rfl hpos wx
    obtain ⟨R, hR⟩ : ∃ R, R = partOfL ((s[0]'hpos) :: (s.extract 1 s.size).data.toList) := ⟨_, rfl⟩
    have HR : Hid (R = partOfL ((s[0]'hpos) :: (s.extract 1 s.size).data.toList)) := hR
    rw [← hR]
    clear hpw hxl hsl hR
    go_enter Tryd.func45, Tryd.ntmps45
    go_wp2_with fail
    go_region_law (first | fail)
    have hm := heap_alloc_new w (.cells #[.int .i64 0, .int .i64 0, .string ⟨#[]⟩] 63)
    have hb := (Below.refl w.heap.size w).alloc (Nat.le_refl _) (.cells #[.int .i64 0, .int .i64 0, .string ⟨#[]⟩] 63)
    obtain ⟨m0, ml, mf⟩ := blk hm
    generalize hZ : (s.extract 1 s.size) = Z at *
    generalize hC : (s[0]'hpos) = c at *
    clear hZ hx0
    have cN := fun wx (hx : Below w.heap.size w wx) => readNumber_any Z wx (by omega) (hT.below hx)
    have cX := fun wx => readText_any Z wx hes
    clear hT
    by_cases h107 : c = 107
    · subst h107
      have hbk : Below w.heap.size w (w.alloc (.cells #[.int .i64 1, .int .i64 0, .string ⟨#[]⟩] 63)).drew := ((Below.refl w.heap.size w).alloc (Nat.le_refl _) _).drew
      have hmk : (w.alloc (.cells #[.int .i64 1, .int .i64 0, .string ⟨#[]⟩] 63)).drew.heap[w.heap.size]? = some (.cells #[.int .i64 1, .int .i64 0, .string ⟨#[]⟩] 63 (0, 0)) := heap_alloc_new w _
      have hlk : w.heap.size < (w.alloc (.cells #[.int .i64 1, .int .i64 0, .string ⟨#[]⟩] 63)).drew.heap.size := by show _ < (w.alloc _).heap.size; simp
      have hpo : Hid (R = (numW Z.data.toList).map (fun v => ⟨1, v, ByteArray.empty⟩)) := HR.out
      clear HR cX
      go_wp2_with fail
      refine (cN _ hbk).mono ?_
      clear cN
      rintro r w2 ⟨n, rfl, hnv, hb2⟩
      have hm2 := (hb2.block _ hlk).trans hmk
      have HB2 := below_two hbk hb2 (Nat.le_refl _)
      obtain ⟨q0, ql, qf⟩ := blk hm2
      obtain ⟨p1, p2⟩ := blk_put hm2 1 (.int .i64 n)
      obtain ⟨r0, _, _⟩ := blk p1
      obtain ⟨p3, p4⟩ := blk_put p1 0 (.int .i64 1)
      obtain ⟨p5, p6⟩ := blk_put p3 1 (.int .i64 n)
      obtain ⟨p7, p8⟩ := blk_put p5 2 (.string ⟨#[]⟩)
      have HB3 := HB2.trans (p2.below (B := w.heap.size) (fun k e => Nat.le_of_eq e.symm) HB2.size)
      have HB4 := HB3.trans (p4.below (B := w.heap.size) (fun k e => Nat.le_of_eq e.symm) HB3.size)
      have HB5 := HB4.trans (p6.below (B := w.heap.size) (fun k e => Nat.le_of_eq e.symm) HB4.size)
      have HB6 := HB5.trans (p8.below (B := w.heap.size) (fun k e => Nat.le_of_eq e.symm) HB5.size)
      generalize numW Z.data.toList = R2 at *
      go_wp2_with fail
      refine bodyPost_ret (by simp [results, Tryd.results45, go_sem, r0]; rfl) rfl ?_
      refine ⟨⟨⟨1, n, ⟨#[]⟩⟩, ?_, fun q h => ?_⟩, HB6⟩
      · rw [hpo.out]; cases R2 <;> rfl
      · rw [hpo.out] at h
        cases R2 with
        | none => cases h
        | some v => cases h; rw [hnv v rfl]; rfl
    by_cases h100 : c = 100
    · subst h100
      clear h107
      have hbk : Below w.heap.size w (w.alloc (.cells #[.int .i64 3, .int .i64 0, .string ⟨#[]⟩] 63)).drew := ((Below.refl w.heap.size w).alloc (Nat.le_refl _) _).drew
      have hmk : (w.alloc (.cells #[.int .i64 3, .int .i64 0, .string ⟨#[]⟩] 63)).drew.heap[w.heap.size]? = some (.cells #[.int .i64 3, .int .i64 0, .string ⟨#[]⟩] 63 (0, 0)) := heap_alloc_new w _
      have hlk : w.heap.size < (w.alloc (.cells #[.int .i64 3, .int .i64 0, .string ⟨#[]⟩] 63)).drew.heap.size := by show _ < (w.alloc _).heap.size; simp
      have hpo : Hid (R = (numW Z.data.toList).map (fun v => ⟨3, v, ByteArray.empty⟩)) := HR.out
      clear HR cX
      go_wp2_with fail
      refine (cN _ hbk).mono ?_
      clear cN
      rintro r w2 ⟨n, rfl, hnv, hb2⟩
      have hm2 := (hb2.block _ hlk).trans hmk
      have HB2 := below_two hbk hb2 (Nat.le_refl _)
      obtain ⟨q0, ql, qf⟩ := blk hm2
      obtain ⟨p1, p2⟩ := blk_put hm2 1 (.int .i64 n)
      obtain ⟨r0, _, _⟩ := blk p1
      obtain ⟨p3, p4⟩ := blk_put p1 0 (.int .i64 3)
      obtain ⟨p5, p6⟩ := blk_put p3 1 (.int .i64 n)
      obtain ⟨p7, p8⟩ := blk_put p5 2 (.string ⟨#[]⟩)
      have HB3 := HB2.trans (p2.below (B := w.heap.size) (fun k e => Nat.le_of_eq e.symm) HB2.size)
      have HB4 := HB3.trans (p4.below (B := w.heap.size) (fun k e => Nat.le_of_eq e.symm) HB3.size)
      have HB5 := HB4.trans (p6.below (B := w.heap.size) (fun k e => Nat.le_of_eq e.symm) HB4.size)
      have HB6 := HB5.trans (p8.below (B := w.heap.size) (fun k e => Nat.le_of_eq e.symm) HB5.size)
      generalize numW Z.data.toList = R2 at *
      go_wp2_with fail
      refine bodyPost_ret (by simp [results, Tryd.results45, go_sem, r0]; rfl) rfl ?_
      refine ⟨⟨⟨3, n, ⟨#[]⟩⟩, ?_, fun q h => ?_⟩, HB6⟩
      · rw [hpo.out]; cases R2 <;> rfl
      · rw [hpo.out] at h
        cases R2 with
        | none => cases h
        | some v => cases h; rw [hnv v rfl]; rfl
    by_cases h105 : c = 105
    · subst h105
      clear h107 h100
      have hbk : Below w.heap.size w (w.alloc (.cells #[.int .i64 2, .int .i64 0, .string ⟨#[]⟩] 63)).drew := ((Below.refl w.heap.size w).alloc (Nat.le_refl _) _).drew
      have hmk : (w.alloc (.cells #[.int .i64 2, .int .i64 0, .string ⟨#[]⟩] 63)).drew.heap[w.heap.size]? = some (.cells #[.int .i64 2, .int .i64 0, .string ⟨#[]⟩] 63 (0, 0)) := heap_alloc_new w _
      have hlk : w.heap.size < (w.alloc (.cells #[.int .i64 2, .int .i64 0, .string ⟨#[]⟩] 63)).drew.heap.size := by show _ < (w.alloc _).heap.size; simp
      have hpo : Hid (R = (unhexL Z.data.toList).map (fun t => ⟨2, 0, bstr t⟩)) := HR.out
      clear HR cN
      go_wp2_with fail
      refine (cX _).mono ?_
      clear cX
      rintro r w2 ⟨⟨t, rfl, hnv⟩, hb2⟩
      have hm2 := (hb2.block _ hlk).trans hmk
      have HB2 := below_two hbk hb2 (Nat.le_refl _)
      obtain ⟨q0, ql, qf⟩ := blk hm2
      obtain ⟨p1, p2⟩ := blk_put hm2 2 (.string t)
      obtain ⟨r0, _, _⟩ := blk p1
      obtain ⟨p3, p4⟩ := blk_put p1 0 (.int .i64 2)
      obtain ⟨p5, p6⟩ := blk_put p3 1 (.int .i64 0)
      obtain ⟨p7, p8⟩ := blk_put p5 2 (.string t)
      have HB3 := HB2.trans (p2.below (B := w.heap.size) (fun k e => Nat.le_of_eq e.symm) HB2.size)
      have HB4 := HB3.trans (p4.below (B := w.heap.size) (fun k e => Nat.le_of_eq e.symm) HB3.size)
      have HB5 := HB4.trans (p6.below (B := w.heap.size) (fun k e => Nat.le_of_eq e.symm) HB4.size)
      have HB6 := HB5.trans (p8.below (B := w.heap.size) (fun k e => Nat.le_of_eq e.symm) HB5.size)
      generalize unhexL Z.data.toList = R2 at *
      go_wp2_with fail
      refine bodyPost_ret (by simp [results, Tryd.results45, go_sem, r0]; rfl) rfl ?_
      refine ⟨⟨⟨2, 0, t⟩, ?_, fun q h => ?_⟩, HB6⟩
      · rw [hpo.out]; cases R2 <;> rfl
      · rw [hpo.out] at h
        cases R2 with
        | none => cases h
        | some v => cases h; rw [hnv v rfl]
    · have hpo : Hid (R = none) := by
        show R = none
        rw [HR.out]
        show (if c = 107 then _ else if c = 100 then _ else if c = 105 then _ else none) = none
        rw [if_neg h107, if_neg h100, if_neg h105]
      clear HR
      have g1 : ((c.toNat : Int) == 107) = false := by simp; intro h; exact h107 (UInt8.toNat_inj.1 (by show c.toNat = 107; omega))
      have g2 : ((c.toNat : Int) == 100) = false := by simp; intro h; exact h100 (UInt8.toNat_inj.1 (by show c.toNat = 100; omega))
      have g3 : ((c.toNat : Int) == 105) = false := by simp; intro h; exact h105 (UInt8.toNat_inj.1 (by show c.toNat = 105; omega))
      clear cN cX
      go_wp2_with fail
      refine bodyPost_ret (by simp [results, Tryd.results45, go_sem, m0]; rfl) rfl ?_
      exact ⟨⟨⟨0, 0, ⟨#[]⟩⟩, by rw [hpo.out]; rfl, fun q h => by rw [hpo.out] at h; cases h⟩, hb.drew⟩

end Go.Proofs.YtelindfmdakliaaDoor
