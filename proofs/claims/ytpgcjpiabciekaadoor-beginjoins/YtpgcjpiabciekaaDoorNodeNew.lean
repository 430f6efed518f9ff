/-
  Walks: node.newSide, newSides.
-/
import Derived.Test.YtpgcjpiabciekaaDoorNodeWork
import Derived.Test.YtpgcjpiabciekaaDoorNodeEach
import Derived.Deep.RegionLaw
namespace Go.Proofs.YtpgcjpiabciekaaDoor
open Go.RowKit Go.Lib

/-- the side of a node that has heard of nobody -/
def side0 (peer : Int) : SideV := ⟨peer, false, 0, 0, [], [], none, 0, 0, 1, 0, [], [], .slice none 0 0, .slice none 0 0⟩
theorem side0_at (peer : Int) (w : World) (B : Nat) : SideT w B (side0 peer) :=
  ⟨rfl, inT_nil _ _ _, inT_nil _ _ _, inT_nil _ _ _, fun _ h => by simp [side0] at h, by simp [side0], by simp [side0], fun _ h => by simp [side0] at h, fun _ h => by simp [side0] at h, by simp [side0], by simp [side0]⟩

set_option maxRecDepth 100000 in
set_option maxHeartbeats 1000000 in
theorem newSide_any (peer : Int) (w : World) :
    Calls Tryd.prog 119 #[.int .i64 peer] w fun r w' => r = .returned (.agg #[.int .i64 peer, .bool false, .int .i64 0, .int .i64 0, .slice none 0 0, .int .i64 0, .int .i64 1, .slice none 0 0, .slice none 0 0, .int .i64 0]) ∧ Below w.heap.size w w' := by
  have HB := (Below.refl w.heap.size w).alloc (Nat.le_refl _) (.cells #[.int .i64 peer, .bool false, .int .i64 0, .int .i64 0, .slice none 0 0, .int .i64 0, .int .i64 1, .slice none 0 0, .slice none 0 0, .int .i64 0] 140)
  go_enter Tryd.func119, Tryd.ntmps119
  go_wp2_with fail
  exact bodyPost_ret (v := .agg #[.int .i64 peer, .bool false, .int .i64 0, .int .i64 0, .slice none 0 0, .int .i64 0, .int .i64 1, .slice none 0 0, .slice none 0 0, .int .i64 0]) (by simp [results, Tryd.results119, go_sem]) rfl ⟨rfl, HB⟩

set_option maxRecDepth 100000 in
set_option maxHeartbeats 2000000 in
theorem newSides1_any (peer : Int) (K : List SideV) (bx B : Nat) (a : Option Addr) (c : Nat) (w : World) (hbx : w.heap[bx]? = some (.cells #[.slice a K.length c] 71 (0, 0))) (hB : B ≤ bx) (hrow : SidesT w B (.slice a K.length c) K) (hl : K.length ≤ 1000) :
    Calls Tryd.prog 118 #[.int .i64 peer, .pointer (some ⟨bx, 0, none⟩)] w fun r w' => r = .returned (.tuple #[]) ∧ ∃ a' c', w'.heap[bx]? = some (.cells #[.slice a' (K.length + 1) c'] 71 (0, 0)) ∧ SidesT w' B (.slice a' (K.length + 1) c') (K ++ [side0 peer]) ∧ Below B w w' := by
  obtain ⟨i0, hi0, hz0, hz1, hz2⟩ := info_parts info_si
  have cN := fun w1 => newSide_any peer w1
  have hown := hrow.row
  obtain ⟨b0, bl0, bf0⟩ := blk hbx
  go_enter Tryd.func118, Tryd.ntmps118
  go_wp2_with fail
  have hbd : w.drew.heap[bx]? = some (.cells #[.slice a K.length c] 71 (0, 0)) := hbx
  have cC := cN w.drew
  have hlist : (#[Value.agg #[.int .i64 peer, .bool false, .int .i64 0, .int .i64 0, .slice none 0 0, .int .i64 0, .int .i64 1, .slice none 0 0, .slice none 0 0, .int .i64 0]] : Array Value).toList.length = 1 := rfl
  go_region_law (first | (go_simp; go_at_call 119; with_reducible refine Calls.mono cC ?_; rintro e wz ⟨rfl, hbz⟩; have hlz := (hbz.block _ (heap_lt hbd)).trans hbd; have hbkz := blk hlz; obtain ⟨lz, llz, lfz⟩ := hbkz; have hrz := own_below (own_drew hown) hbz) | (refine step_append_lies _ (by rfl) _ _ _ (by rfl) B 140 i0 _ 10 128 Tryd.underlying71 hi0 hz0 hz1 hz2 rfl (by omega) (.slice a K.length c) K.length (sidesAll K) (by rfl) (hrz.alloc _) ⟨wz.heap.size, 0, none⟩ 1 1 [.int .i64 peer, .bool false, .int .i64 0, .int .i64 0, .slice none 0 0, .int .i64 0, .int .i64 1, .slice none 0 0, .slice none 0 0, .int .i64 0] (by rfl) (by rfl) (World.news_of_block (cs := #[.int .i64 peer, .bool false, .int .i64 0, .int .i64 0, .slice none 0 0, .int .i64 0, .int .i64 1, .slice none 0 0, .slice none 0 0, .int .i64 0]) (t := 140) (fr := (0, 0)) (heap_alloc_new wz _)) (by simp [Value.oneCell']) (by omega) (by unfold maxLen; omega) (by omega) (by have := hbz.size; have : w.drew.heap.size = w.heap.size := rfl; simp; omega) (wz.heap.size + 1) (by simp) ?_; intro g1 cap1 w4 hown4 hgr4 hat4 hlt4; have blk4 := row_kept (hrz.alloc _) (row_old hlz _) (by decide) hgr4; have hbk4 := blk blk4; obtain ⟨l4, ll4, lf4⟩ := hbk4))
  all_goals
    obtain ⟨hn5, hs5⟩ := blk_put blk4 0 (.slice (some ⟨g1, 0, none⟩) (K.length + 1) cap1)
    have hdd : Below w.heap.size w w.drew := ⟨rfl, rfl, rfl, Nat.le_refl _, fun _ _ => rfl⟩
    have hbw : Below w.heap.size w wz := below_two hdd hbz (Nat.le_refl _)
    have hzz : w.heap.size ≤ wz.heap.size := hbw.size
    have t1 : Typ [140, 71] w (wz.alloc (.cells #[.int .i64 peer, .bool false, .int .i64 0, .int .i64 0, .slice none 0 0, .int .i64 0, .int .i64 1, .slice none 0 0, .slice none 0 0, .int .i64 0] 140)) := Typ.of_below (hbw.alloc hzz _)
    have t2 : Typ [140, 71] (wz.alloc (.cells #[.int .i64 peer, .bool false, .int .i64 0, .int .i64 0, .slice none 0 0, .int .i64 0, .int .i64 1, .slice none 0 0, .slice none 0 0, .int .i64 0] 140)) w4 := Typ.grown (hrz.alloc _) (by decide) hgr4
    have t3 : Typ [71] w4 (w4.setCell ⟨bx, 0, none⟩ (.slice (some ⟨g1, 0, none⟩) (K.length + 1) cap1)) := Typ.stored blk4 (by decide) hs5
    have tt := (t1.trans t2).trans (t3.more (Us := [140, 71]) (by decide))
    have hB5 : Below B w (w4.setCell ⟨bx, 0, none⟩ (.slice (some ⟨g1, 0, none⟩) (K.length + 1) cap1)) := (((hbw.mono (by omega)).alloc (by omega) _).grown hgr4 (by simp; omega) (fun k e => (hrz.lt k e).1)).trans (hs5.below (fun k e => by omega) (by omega))
    have hown5 := own_typ hown4 t3 (by decide)
    generalize (w4.setCell ⟨bx, 0, none⟩ (.slice (some ⟨g1, 0, none⟩) (K.length + 1) cap1)) = w5 at *
    go_end0
    refine ⟨rfl, _, _, hn5, ⟨?_, fun s hs => ?_⟩, hB5⟩
    · rw [sidesAll_append, List.length_append]
      exact hown5
    · rcases List.mem_append.1 hs with hs | hs
      · exact (hrow.each s hs).typ tt (by decide) (by decide) (by decide)
      · rw [List.mem_singleton.1 hs]
        exact side0_at peer w5 B

theorem kidsL_length (me : Int) : ∀ (i : Nat) (T : List Int), (kidsL me i T).length ≤ T.length
  | _, [] => Nat.le_refl _
  | i, p :: r => by
    have := kidsL_length me (i + 1) r
    unfold kidsL
    split
    · simp; omega
    · simp; omega
theorem peersL_length (T : List Int) (me : Int) : (peersL T me).length ≤ T.length + 1 := by
  have := kidsL_length me 0 T
  unfold peersL preL
  split
  · simp; omega
  · simp; omega
theorem map_take_succ {α β : Type} (f : α → β) (L : List α) (i : Nat) (h : i < L.length) : (L.take (i + 1)).map f = (L.take i).map f ++ [f L[i]] := by
  rw [List.take_succ_eq_append_getElem h, List.map_append]
  rfl

set_option maxRecDepth 100000 in
set_option maxHeartbeats 2000000 in
theorem newSides_any (T : List Int) (a : Option Addr) (c : Nat) (me : Int) (w : World) (hin : Ints w a T) (hme : 0 ≤ me ∧ me < (T.length : Int)) (hl : T.length ≤ 7) :
    Calls Tryd.prog 68 #[.slice a T.length c, .int .i64 me] w fun r w' => ∃ a' c', r = .returned (.slice a' (peersL T me).length c') ∧ SidesT w' w.heap.size (.slice a' (peersL T me).length c') ((peersL T me).map side0) ∧ Below w.heap.size w w' := by
  have hPl : (peersL T me).length ≤ 1000 := by have := peersL_length T me; omega
  go_enter Tryd.func68, Tryd.ntmps68
  go_wp2_with fail
  have hbx := heap_alloc_new w (.cells #[.slice none 0 0] 71)
  have hb0 := (Below.refl w.heap.size w).alloc (Nat.le_refl _) (.cells #[.slice none 0 0] 71)
  have cE := eachNeighbour_any T a c me 118 #[.pointer (some ⟨w.heap.size, 0, none⟩)] (w.alloc (.cells #[.slice none 0 0] 71))
    (fun i wr => Below w.heap.size w wr ∧ ∃ a' c', wr.heap[w.heap.size]? = some (.cells #[.slice a' ((peersL T me).take i).length c'] 71 (0, 0)) ∧ SidesT wr w.heap.size (.slice a' ((peersL T me).take i).length c') (((peersL T me).take i).map side0))
    (fun _ _ => rfl) hme hl (fun _ _ hP => hin.below hP.1) ⟨hb0, none, 0, hbx, sidesT_nil _ _⟩
    (fun i hi wr hP => by
      obtain ⟨hb, a', c', h1, h2⟩ := hP
      have hln : (((peersL T me).take i).map side0).length = ((peersL T me).take i).length := List.length_map _
      have hi2 : ((peersL T me).take i).length = i := by rw [List.length_take]; omega
      have hi3 : ((peersL T me).take (i + 1)).length = i + 1 := by rw [List.length_take]; omega
      have hms := map_take_succ side0 (peersL T me) i hi
      rw [hi2] at h1 h2 hln
      have := newSides1_any (peersL T me)[i] (((peersL T me).take i).map side0) w.heap.size w.heap.size a' c' wr (by rw [hln]; exact h1) (Nat.le_refl _) (by rw [hln]; exact h2) (by omega)
      rw [hln] at this
      refine this.mono ?_
      rintro r w1 ⟨rfl, a2, c2, h3, h4, h5⟩
      exact ⟨rfl, hb.trans h5, a2, c2, by rw [hi3]; exact h3, by rw [hi3, hms]; exact h4⟩)
  rw [List.take_of_length_le (Nat.le_refl _)] at cE
  refine cE.mono ?_
  clear cE
  rintro r w1 ⟨rfl, hb1, a', c', h1, h2⟩
  obtain ⟨b0, bl0, _⟩ := blk h1
  go_wp2_with fail
  go_ret
  exact ⟨a', c', rfl, h2, hb1⟩

end Go.Proofs.YtpgcjpiabciekaaDoor
