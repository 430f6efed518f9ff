/-
  Walks: wherryref.peersOf, runes, sideMay, markMay.
-/
import Derived.Test.YtnjhcnfnllojpaaDoorNodeMem
import Derived.Test.YtnjhcnfnllojpaaDoorEdgeMay
import Derived.Test.YtnjhcnfnllojpaaDoorLinkMayR
import Derived.Deep.RegionHeld3
import Derived.Deep.RegionLaw
import Derived.Deep.LoopGhost
namespace Go.Proofs.YtnjhcnfnllojpaaDoor
open Go.RowKit Go.Lib

set_option maxHeartbeats 400000 in
theorem rrunes_any (s : ByteArray) (w : World) (hs : s.size ≤ 70368744177664) :
    Calls Tryd.prog 117 #[.string s] w fun e w' => e = .returned (.int .i64 ((runes s).length : Int)) ∧ Below w.heap.size w w' := by
  have hcv := conv_runes s hs
  go_enter Tryd.func117, Tryd.ntmps117
  go_wp2
  go_ret
  exact ⟨rfl, ((Below.refl _ _).alloc (Nat.le_refl _) _).drew⟩

set_option maxRecDepth 100000 in
set_option maxHeartbeats 1000000 in
theorem rmark_any (s : ByteArray) (x y : Int) (w : World) (hs : s.size ≤ 1048576) :
    Calls Tryd.prog 121 #[.string s, .agg #[.int .i64 x, .int .i64 y]] w fun e w' => e = .returned (.bool (markB s (x, y))) ∧ Below w.heap.size w w' := by
  have hb0 := (Below.refl w.heap.size w).alloc (Nat.le_refl _) (.cells #[.int .i64 x, .int .i64 y] 125)
  have hm := heap_alloc_new w (.cells #[.int .i64 x, .int .i64 y] 125)
  have cC := fun wx => rrunes_any s wx (by omega)
  obtain ⟨R, hR⟩ : ∃ R, markB s (x, y) = R := ⟨_, rfl⟩
  rw [hR]
  unfold markB lenT at hR
  generalize ((runes s).length : Int) = L at *
  have cX := fun wx => in_all x 0 L wx
  have cY := fun wx => in_all y 0 L wx
  simp only at hR
  generalize decide (0 ≤ x ∧ x ≤ L) = A at *
  generalize decide (0 ≤ y ∧ y ≤ L) = B at *
  subst hR
  obtain ⟨m0, ml0, _⟩ := blk hm
  have hS0 : (fun w' : World => w'.cell? ⟨w.heap.size, 0, none⟩ = some (.int .i64 x) ∧ w'.cell? ⟨w.heap.size, 1, none⟩ = some (.int .i64 y) ∧ Below (w.alloc (.cells #[.int .i64 x, .int .i64 y] 125)).heap.size (w.alloc (.cells #[.int .i64 x, .int .i64 y] 125)) w') (w.alloc (.cells #[.int .i64 x, .int .i64 y] 125)).drew := ⟨m0 0, m0 1, ⟨rfl, rfl, rfl, Nat.le_refl _, fun _ _ => rfl⟩⟩
  have kp : ∀ {w' w'' : World}, (fun w' : World => w'.cell? ⟨w.heap.size, 0, none⟩ = some (.int .i64 x) ∧ w'.cell? ⟨w.heap.size, 1, none⟩ = some (.int .i64 y) ∧ Below (w.alloc (.cells #[.int .i64 x, .int .i64 y] 125)).heap.size (w.alloc (.cells #[.int .i64 x, .int .i64 y] 125)) w') w' → Below w'.heap.size w' w'' → (fun w' : World => w'.cell? ⟨w.heap.size, 0, none⟩ = some (.int .i64 x) ∧ w'.cell? ⟨w.heap.size, 1, none⟩ = some (.int .i64 y) ∧ Below (w.alloc (.cells #[.int .i64 x, .int .i64 y] 125)).heap.size (w.alloc (.cells #[.int .i64 x, .int .i64 y] 125)) w') w'' := fun {w' w''} h hb => ⟨(hb.cell (p := ⟨w.heap.size, 0, none⟩) (Nat.lt_of_lt_of_le ml0 h.2.2.size)).trans h.1, (hb.cell (p := ⟨w.heap.size, 1, none⟩) (Nat.lt_of_lt_of_le ml0 h.2.2.size)).trans h.2.1, below_two h.2.2 hb (Nat.le_refl _)⟩
  have fin : ∀ {w' : World}, (fun w' : World => w'.cell? ⟨w.heap.size, 0, none⟩ = some (.int .i64 x) ∧ w'.cell? ⟨w.heap.size, 1, none⟩ = some (.int .i64 y) ∧ Below (w.alloc (.cells #[.int .i64 x, .int .i64 y] 125)).heap.size (w.alloc (.cells #[.int .i64 x, .int .i64 y] 125)) w') w' → Below w.heap.size w w' := fun {w'} h => below_two hb0 h.2.2 (Nat.le_refl _)
  cases A with
  | false =>
    rw [Bool.false_and]
    clear cY
    go_enter Tryd.func121, Tryd.ntmps121
    go_wp2_with fail
    clear m0
    have hzm : w.heap.size < (w.alloc (.cells #[.int .i64 x, .int .i64 y] 125)).heap.size := ml0
    obtain ⟨m0, _, _⟩ := blk hm
    generalize (w.alloc (.cells #[.int .i64 x, .int .i64 y] 125)) = wm at *
    have kc : ∀ (w9 wz : World), w9.heap.size = wm.heap.size → (∀ j, w9.cell? ⟨w.heap.size, j, none⟩ = #[Value.int .i64 x, .int .i64 y][j]?) → Below w9.heap.size w9 wz → ∀ j, wz.cell? ⟨w.heap.size, j, none⟩ = #[Value.int .i64 x, .int .i64 y][j]? := fun w9 wz hz h hb j => (hb.cell (p := ⟨w.heap.size, j, none⟩) (show w.heap.size < w9.heap.size by omega)).trans (h j)
    have md : ∀ j, wm.drew.cell? ⟨w.heap.size, j, none⟩ = #[Value.int .i64 x, .int .i64 y][j]? := m0
    first | go_region_law (first | (go_simp; go_at_call 117; with_reducible refine Calls.mono (cC _) ?_; rintro e wz ⟨rfl, hbz⟩; have mz := kc wm.drew wz rfl md hbz) | (go_simp; go_at_call 98; with_reducible refine Calls.mono (cX _) ?_; rintro e wy ⟨rfl, rfl⟩)) | fail
    all_goals
      have HB9 := below_two (below_two hb0 (show Below wm.heap.size wm wm.drew from ⟨rfl, rfl, rfl, Nat.le_refl _, fun _ _ => rfl⟩) (Nat.le_refl _)) hbz (Nat.le_refl _)
      go_wp2_with fail
      go_ret
      exact ⟨rfl, HB9⟩
  | true =>
    rw [Bool.true_and]
    go_enter Tryd.func121, Tryd.ntmps121
    go_wp2_with fail
    clear m0
    first | go_region_held3 (fun w' : World => w'.cell? ⟨w.heap.size, 0, none⟩ = some (.int .i64 x) ∧ w'.cell? ⟨w.heap.size, 1, none⟩ = some (.int .i64 y) ∧ Below (w.alloc (.cells #[.int .i64 x, .int .i64 y] 125)).heap.size (w.alloc (.cells #[.int .i64 x, .int .i64 y] 125)) w') (with_reducible first | exact hS0 | exact kp (by assumption) hbz | assumption) (first | (go_at_call 117; with_reducible refine Calls.mono (cC _) ?_; rintro e wz ⟨rfl, hbz⟩) | (go_at_call 98; with_reducible (first | (refine Calls.mono (cX _) ?_) | (refine Calls.mono (cY _) ?_)); rintro e wy ⟨rfl, rfl⟩)) | fail
    all_goals
      have HB9 := fin (by assumption)
      go_wp2_with fail
      go_ret
      exact ⟨rfl, HB9⟩

theorem kidsL_stepR (me : Int) {T : List Int} {i : Nat} (h : i < T.length) : kidsL me i (T.drop i) = if T[i] = me then (i : Int) :: kidsL me (i + 1) (T.drop (i + 1)) else kidsL me (i + 1) (T.drop (i + 1)) := by
  rw [List.drop_eq_getElem_cons h]
  rfl
theorem kids_zero {T : List Int} {me : Int} (h : treeErr T = 0) (hme : 0 ≤ me) : kidsL me 0 T = kidsL me 1 (T.drop 1) := by
  obtain ⟨hs, ha⟩ := treeErr_zero h
  cases T with
  | nil => simp at hs
  | cons p r =>
    have h0 := ha 0 (by simp)
    unfold treeAt at h0
    rw [if_pos rfl] at h0
    have hp : p = -1 := by simpa using h0
    show kidsL me 0 (p :: r) = kidsL me 1 r
    unfold kidsL
    rw [if_neg (by omega)]
    cases r <;> rfl
set_option maxRecDepth 100000 in
set_option maxHeartbeats 1000000 in
theorem peersOf_any (T : List Int) (a : Option Addr) (c : Nat) (me : Int) (w : World) (hin : Ints w a T) (hE : treeErr T = 0) (hme : 0 ≤ me ∧ me < (T.length : Int)) :
    Calls Tryd.prog 116 #[.slice a T.length c, .int .i64 me] w fun e w' => ∃ v, e = .returned v ∧ w'.ownsRow w.heap.size 3 1 v (peersL T me).length (intVals (peersL T me)) ∧ Below w.heap.size w w' := by
  obtain ⟨i0, hi0, hz0, hz1, hz2⟩ := info_parts info_int
  obtain ⟨hs, _⟩ := treeErr_zero hE
  obtain ⟨m, hm⟩ : ∃ m : Nat, me = (m : Int) := ⟨me.toNat, by omega⟩
  have hml : m < T.length := by omega
  have hpre : preL T me = if m = 0 then [] else [T[m]] := by
    unfold preL
    by_cases h : m = 0
    · rw [if_pos h, if_pos (by omega)]
    · rw [if_neg h, if_neg (by omega)]
      have : me.toNat = m := by omega
      rw [this, getD_get hml]
  have hLu : preL T me ++ kidsL me 1 (T.drop 1) = peersL T me := by unfold peersL; rw [kids_zero hE hme.1]
  have hmz : 0 ≤ (m : Int) ∧ (m : Int) < (T.length : Int) := by omega
  clear hE
  generalize peersL T me = L at *
  subst hm
  obtain ⟨b, off, rfl, hb, hc⟩ : ∃ b off, a = some ⟨b, off, none⟩ ∧ b < w.heap.size ∧ ∀ i (h : i < T.length), w.cell? ⟨b, off + i, none⟩ = some (.int .i64 T[i]) := hin.resolve_left (by rintro rfl; simp at hml)
  clear hin
  by_cases h0 : m = 0
  · rw [if_pos h0] at hpre
    rw [hpre] at hLu
    have HD0 : Hid (([] : List Int) ++ kidsL (m : Int) 1 (T.drop 1) = L) := hLu
    subst h0
    clear hpre hLu
    go_enter Tryd.func116, Tryd.ntmps116
    go_wp2_with fail
    go_loopg [5, 6] (T.length - 1) (fun g ov iv wr => ∃ (i : Nat) (D : List Int), i + g = T.length ∧ 1 ≤ i ∧ iv = .int .i64 (i : Int) ∧ wr.ownsRow w.heap.size 3 1 ov D.length (intVals D) ∧ Hid (D ++ kidsL 0 i (T.drop i) = L) ∧ D.length ≤ i ∧ Below w.heap.size w wr)
    case atStart => exact ⟨1, [], by omega, Nat.le_refl _, rfl, World.ownsRow_nil _ _ _ _, HD0, Nat.zero_le _, Below.refl _ _⟩
    case round =>
      obtain ⟨i, D, hi, hi1, rfl, hown, HD, hDl, hbr⟩ := hrel
      obtain ⟨oa, oc, rfl⟩ := own_form hown
      by_cases hlt : i < T.length
      · have hiz : (i : Int) < (T.length : Int) := by omega
        have hi0z : (0 : Int) ≤ (i : Int) := by omega
        have hci : wr.cell? ⟨b, off + i, none⟩ = some (.int .i64 T[i]) := (hbr.cell (p := ⟨b, off + i, none⟩) hb).trans (hc i hlt)
        have hk := kidsL_stepR 0 hlt
        have hbz := hbr.size
        by_cases he : T[i] = 0
        · rw [if_pos he] at hk
          rw [he] at hci
          have HD2 : Hid ((D ++ [(i : Int)]) ++ kidsL 0 (i + 1) (T.drop (i + 1)) = L) := by show _ = _; rw [← HD.out, hk, List.append_assoc]; rfl
          clear hk HD hc he
          go_wp2_with (at_builtin; refine wpList_append_lies _ rfl _ _ 109 rfl w.heap.size 3 i0 _ 1 8 Tryd.underlying109 hi0 hz0 hz1 hz2 rfl (by decide) _ _ _ rfl (hown.alloc _) ⟨wr.heap.size, 0, none⟩ 1 1 [.int .i64 (i : Int)] rfl rfl (World.news_of_block (cs := #[.int .i64 (i : Int)]) (t := 3) (fr := (0, 0)) (heap_alloc_new wr _)) (by simp [Value.oneCell']) (by omega) (by unfold maxLen; omega) (by omega) (by simp; omega) _ rfl ?_; intro g1 cap1 w6 hown1 hgrow1 hat1 hlt1)
          have hown2 : w6.ownsRow w.heap.size 3 1 (.slice (some ⟨g1, 0, none⟩) (D.length + 1) cap1) (D ++ [(i : Int)]).length (intVals (D ++ [(i : Int)])) := by
            rw [intVals_append, List.length_append]
            exact hown1
          have hb6 : Below w.heap.size w w6 := (hbr.alloc hbr.size _).grown hgrow1 (by simp; omega) (fun j e => (hown.lt j e).1)
          go_roundg (T.length - i - 1)
          case measure => omega
          case rel => exact ⟨i + 1, _, by omega, by omega, by go_num, hown2, HD2, by simp; omega, hb6⟩
        · rw [if_neg he] at hk
          have HD2 : Hid (D ++ kidsL 0 (i + 1) (T.drop (i + 1)) = L) := by show _ = _; rw [← HD.out, hk]
          have ge : (T[i] == 0) = false := by simpa using he
          generalize T[i] = p at *
          clear hk HD hc he
          go_wp2_with fail
          go_roundg (T.length - i - 1)
          case measure => omega
          case rel => exact ⟨i + 1, D, by omega, by omega, by go_num, hown, HD2, by omega, hbr⟩
      · obtain rfl : i = T.length := by omega
        have hiz : ¬ (T.length : Int) < (T.length : Int) := by omega
        have hDL : D = L := by rw [← HD.out, List.drop_of_length_le (Nat.le_refl _)]; simp [kidsL]
        subst hDL
        clear HD
        go_wp2_with fail
        go_ret
        exact ⟨_, rfl, hown, hbr⟩
  · rw [if_neg h0] at hpre
    rw [hpre] at hLu
    have g0 : (0 : Int) < (m : Int) := by omega
    have HD0 : Hid (([T[m]] : List Int) ++ kidsL (m : Int) 1 (T.drop 1) = L) := hLu
    have hcm := hc m hml
    have hown0 := World.ownsRow_nil w w.heap.size 3 1
    clear hpre hLu
    go_enter Tryd.func116, Tryd.ntmps116
    go_wp2_with (at_builtin; refine wpList_append_lies _ rfl _ _ 109 rfl w.heap.size 3 i0 _ 1 8 Tryd.underlying109 hi0 hz0 hz1 hz2 rfl (by decide) _ _ _ rfl (hown0.alloc _) ⟨w.heap.size, 0, none⟩ 1 1 [.int .i64 T[m]] rfl rfl (World.news_of_block (cs := #[.int .i64 T[m]]) (t := 3) (fr := (0, 0)) (heap_alloc_new w _)) (by simp [Value.oneCell']) (by omega) (by unfold maxLen; omega) (by omega) (by simp) _ rfl ?_; intro g1 cap1 w6 hown1 hgrow1 hat1 hlt1)
    have hb1 : Below w.heap.size w w6 := ((Below.refl w.heap.size w).alloc (Nat.le_refl _) _).grown hgrow1 (by simp) (fun j e => (hown0.lt j e).1)
    go_wp2_with fail
    go_loopg [5, 6] (T.length - 1) (fun g ov iv wr => ∃ (i : Nat) (D : List Int), i + g = T.length ∧ 1 ≤ i ∧ iv = .int .i64 (i : Int) ∧ wr.ownsRow w.heap.size 3 1 ov D.length (intVals D) ∧ Hid (D ++ kidsL (m : Int) i (T.drop i) = L) ∧ D.length ≤ i ∧ Below w.heap.size w wr)
    case atStart => exact ⟨1, [T[m]], by omega, Nat.le_refl _, rfl, hown1, HD0, Nat.le_refl _, hb1⟩
    case round =>
      obtain ⟨i, D, hi, hi1, rfl, hown, HD, hDl, hbr⟩ := hrel
      obtain ⟨oa, oc, rfl⟩ := own_form hown
      by_cases hlt : i < T.length
      · have hiz : (i : Int) < (T.length : Int) := by omega
        have hi0z : (0 : Int) ≤ (i : Int) := by omega
        have hci : wr.cell? ⟨b, off + i, none⟩ = some (.int .i64 T[i]) := (hbr.cell (p := ⟨b, off + i, none⟩) hb).trans (hc i hlt)
        have hk := kidsL_stepR (m : Int) hlt
        have hbz := hbr.size
        by_cases he : T[i] = (m : Int)
        · rw [if_pos he] at hk
          rw [he] at hci
          have HD2 : Hid ((D ++ [(i : Int)]) ++ kidsL (m : Int) (i + 1) (T.drop (i + 1)) = L) := by show _ = _; rw [← HD.out, hk, List.append_assoc]; rfl
          clear hk HD hc he
          go_wp2_with (at_builtin; refine wpList_append_lies _ rfl _ _ 109 rfl w.heap.size 3 i0 _ 1 8 Tryd.underlying109 hi0 hz0 hz1 hz2 rfl (by decide) _ _ _ rfl (hown.alloc _) ⟨wr.heap.size, 0, none⟩ 1 1 [.int .i64 (i : Int)] rfl rfl (World.news_of_block (cs := #[.int .i64 (i : Int)]) (t := 3) (fr := (0, 0)) (heap_alloc_new wr _)) (by simp [Value.oneCell']) (by omega) (by unfold maxLen; omega) (by omega) (by simp; omega) _ rfl ?_; intro g1 cap1 w6 hown1 hgrow1 hat1 hlt1)
          have hown2 : w6.ownsRow w.heap.size 3 1 (.slice (some ⟨g1, 0, none⟩) (D.length + 1) cap1) (D ++ [(i : Int)]).length (intVals (D ++ [(i : Int)])) := by
            rw [intVals_append, List.length_append]
            exact hown1
          have hb6 : Below w.heap.size w w6 := (hbr.alloc hbr.size _).grown hgrow1 (by simp; omega) (fun j e => (hown.lt j e).1)
          go_roundg (T.length - i - 1)
          case measure => omega
          case rel => exact ⟨i + 1, _, by omega, by omega, by go_num, hown2, HD2, by simp; omega, hb6⟩
        · rw [if_neg he] at hk
          have HD2 : Hid (D ++ kidsL (m : Int) (i + 1) (T.drop (i + 1)) = L) := by show _ = _; rw [← HD.out, hk]
          have ge : (T[i] == (m : Int)) = false := by simpa using he
          generalize T[i] = p at *
          clear hk HD hc he
          go_wp2_with fail
          go_roundg (T.length - i - 1)
          case measure => omega
          case rel => exact ⟨i + 1, D, by omega, by omega, by go_num, hown, HD2, by omega, hbr⟩
      · obtain rfl : i = T.length := by omega
        have hiz : ¬ (T.length : Int) < (T.length : Int) := by omega
        have hDL : D = L := by rw [← HD.out, List.drop_of_length_le (Nat.le_refl _)]; simp [kidsL]
        subst hDL
        clear HD
        go_wp2_with fail
        go_ret
        exact ⟨_, rfl, hown, hbr⟩

end Go.Proofs.YtnjhcnfnllojpaaDoor
