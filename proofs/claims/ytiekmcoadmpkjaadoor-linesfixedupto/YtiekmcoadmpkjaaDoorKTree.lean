/-
  Walk: wherrykeep.Tree.
-/
import Derived.Test.YtiekmcoadmpkjaaDoorTreeAt
import Derived.Test.YtiekmcoadmpkjaaDoorKPick
namespace Go.Proofs.YtiekmcoadmpkjaaDoor
open Go.RowKit Go.Lib

theorem getD_last (T : List Int) (x : Int) {j : Nat} (h : j < T.length) : (T ++ [x]).getD j 0 = T.getD j 0 := by
  simp [List.getD, List.getElem?_append_left h]
theorem getD_new (T : List Int) (x : Int) : (T ++ [x]).getD T.length 0 = x := by
  simp [List.getD]
theorem treeErr_grow {T : List Int} {x : Int} (h : treeErr T = 0) (hl : T.length ≤ 6) (h0 : 0 ≤ x) (h1 : x < (T.length : Int)) : treeErr (T ++ [x]) = 0 := by
  obtain ⟨hs, ha⟩ := treeErr_zero h
  refine treeErr_ok (by simp; omega) fun j hj => ?_
  rw [List.length_append, List.length_singleton] at hj
  by_cases e : j < T.length
  · rw [getD_last T x e]; exact ha j e
  · obtain rfl : j = T.length := by omega
    rw [getD_new]
    unfold treeAt
    rw [if_neg (by omega)]
    exact decide_eq_true ⟨h0, h1⟩

set_option maxRecDepth 100000 in
set_option maxHeartbeats 1000000 in
theorem ktree_any (l : List Int) (a : Option Addr) (c : Nat) (w : World) (h : Ints w a l) (hok : ∀ n ∈ l, I64 n) (hl : l.length ≤ 9223372036854775807) :
    Calls Tryd.prog 15 #[.slice a l.length c] w fun e w' => ∃ v, e = .returned v ∧ ∃ T : List Int, w'.ownsRow w.heap.size 3 1 v T.length (intVals T) ∧ treeErr T = 0 ∧ T.length ≤ l.length + 1 ∧ Below w.heap.size w w' := by
  obtain ⟨i0, hi0, hz0, hz1, hz2⟩ := info_parts info_int
  have hL := World.ownsRow_lit (base := w.heap.size) (e := 3) (size := 1) w #[.int .i64 (-1)] 1 (Nat.le_refl _) (by decide) rfl
  have hb0 := (Below.refl w.heap.size w).alloc (Nat.le_refl _) (.cells #[.int .i64 (-1)] 3)
  go_enter Tryd.func15, Tryd.ntmps15
  go_wp2_with fail
  go_loopg [3, 4] 6 (fun g tv iv wr => ∃ (i : Nat) (T : List Int), i + g = 6 ∧ iv = .int .i64 (i : Int) ∧ wr.ownsRow w.heap.size 3 1 tv T.length (intVals T) ∧ Hid (treeErr T = 0) ∧ T.length ≤ i + 1 ∧ i + 1 ≤ T.length ∧ i ≤ l.length ∧ Below w.heap.size w wr)
  case atStart => exact ⟨0, [-1], by omega, rfl, hL, (by decide : treeErr [-1] = 0), by decide, by decide, Nat.zero_le _, hb0⟩
  case round =>
    obtain ⟨i, T, hi, rfl, hown, HT, hT1, hT2, hil, hb⟩ := hrel
    obtain ⟨ta, tc, rfl⟩ := own_form hown
    have hi0z : (0 : Int) ≤ (i : Int) := by omega
    by_cases hlt : i < l.length
    · have hiz : (i : Int) < (l.length : Int) := by omega
      by_cases h6 : i < 6
      · have h6z : (i : Int) < 6 := by omega
        obtain ⟨b, off, rfl, hbl, hc⟩ : ∃ b off, a = some ⟨b, off, none⟩ ∧ b < w.heap.size ∧ ∀ i (h : i < l.length), w.cell? ⟨b, off + i, none⟩ = some (.int .i64 l[i]) := h.resolve_left (by rintro rfl; simp at hlt)
        have hci : wr.cell? ⟨b, off + i, none⟩ = some (.int .i64 l[i]) := (hb.cell (p := ⟨b, off + i, none⟩) hbl).trans (hc i hlt)
        have hx := hok l[i] (List.getElem_mem hlt)
        generalize l[i] = x at *
        have cP := fun wx => picked_same x (T.length : Int) wx hx (by omega) (by omega)
        have hp := pick_lt x (T.length : Int) (by omega)
        generalize pick x (T.length : Int) = p at *
        have hbz := hb.size
        clear hc h
        go_wp2_with fail
        refine (cP _).mono ?_
        rintro r w1 ⟨rfl, rfl⟩
        clear cP
        go_wp2_with (at_builtin; refine wpList_append_lies _ rfl _ _ 23 rfl w.heap.size 3 i0 _ 1 8 Tryd.underlying23 hi0 hz0 hz1 hz2 rfl (by decide) _ _ _ rfl (hown.alloc _) ⟨w1.heap.size, 0, none⟩ 1 1 [.int .i64 (p : Int)] rfl rfl (World.news_of_block (cs := #[.int .i64 (p : Int)]) (t := 3) (fr := (0, 0)) (heap_alloc_new w1 _)) (by simp [Value.oneCell']) (by omega) (by unfold maxLen; omega) (by omega) (by simp; omega) _ rfl ?_; intro g1 cap1 w6 hown1 hgrow1 hat1 hlt1)
        have hown2 : w6.ownsRow w.heap.size 3 1 (.slice (some ⟨g1, 0, none⟩) (T.length + 1) cap1) (T ++ [(p : Int)]).length (intVals (T ++ [(p : Int)])) := by
          rw [intVals_append, List.length_append]
          exact hown1
        have HT2 : Hid (treeErr (T ++ [(p : Int)]) = 0) := treeErr_grow HT.out (by omega) (by omega) hp
        have hb2 : Below w.heap.size w w6 := (hb.alloc hb.size _).grown hgrow1 (by simp; omega) (fun j e => (hown.lt j e).1)
        go_roundg (5 - i)
        case measure => omega
        case rel => exact ⟨i + 1, T ++ [(p : Int)], by omega, by go_num, hown2, HT2, by simp; omega, by simp; omega, hlt, hb2⟩
      · have h6z : ¬ (i : Int) < 6 := by omega
        go_wp2_with fail
        go_ret
        exact ⟨_, rfl, T, hown, HT.out, by omega, hb⟩
    · have hiz : ¬ (i : Int) < (l.length : Int) := by omega
      go_wp2_with fail
      go_ret
      exact ⟨_, rfl, T, hown, HT.out, by omega, hb⟩

end Go.Proofs.YtiekmcoadmpkjaaDoor
