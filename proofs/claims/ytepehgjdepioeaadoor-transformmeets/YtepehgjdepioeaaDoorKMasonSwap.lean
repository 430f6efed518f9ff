/-
  Walk: (*wherrykeep.mason).add where an insertion goes ahead of the last deletion.
-/
import Derived.Test.YtepehgjdepioeaaDoorKMasonNew
namespace Go.Proofs.YtepehgjdepioeaaDoor
open Go.RowKit Go.Lib

set_option maxRecDepth 100000 in
set_option maxHeartbeats 4000000 in
theorem add_swap (w : World) (B b : Nat) (ov : Value) (D0 D1 : List Part) (q : Part) (left : Int) (s : ByteArray) (h : MasonAt w B b ov (D0 ++ [q]) left) (hB : B ≤ w.heap.size) (hk : q.kind = 3) (hs : s.size ≠ 0) (hD : D0.length ≤ 1000000) (hD1 : D1.length ≤ 1000000)
    (hin : ∀ (w2 : World) (ov2 : Value), MasonAt w2 B b ov2 D0 left → B ≤ w2.heap.size → Calls Tryd.prog 27 #[.pointer (some ⟨b, 0, none⟩), .agg #[.int .i64 2, .int .i64 0, .string s]] w2 fun e w' => e = .returned (.tuple #[]) ∧ ∃ ov', MasonAt w' B b ov' D1 left ∧ MasonStep w2 w' b ov2 ov') :
    Calls Tryd.prog 27 #[.pointer (some ⟨b, 0, none⟩), .agg #[.int .i64 2, .int .i64 0, .string s]] w fun e w' => e = .returned (.tuple #[]) ∧ ∃ ov', MasonAt w' B b ov' (D1 ++ [q]) left ∧ MasonStep w w' b ov ov' := by
  obtain ⟨i0, hi, hz0, hz1, hz2⟩ := info_parts info_part
  obtain ⟨c0, _⟩ := h.cells
  have f0 := h.frozen 0
  have hbl := (h.lt b (.inl rfl)).2
  obtain ⟨g, cap, rfl, k0, k1, k2, _⟩ := own_lastText h.own
  have hgl := (h.lt g (.inr rfl)).2
  have hcap : D0.length + 1 ≤ cap := by
    rcases h.own.2 with ⟨h1, _⟩ | ⟨g', cap', cur, h1, _, _, h2, _⟩
    · simp at h1
    · simp only [Value.slice.injEq] at h1
      rw [List.length_append, List.length_singleton] at h2
      omega
  have hcapI : (D0.length : Int) ≤ (cap : Int) := by omega
  have t2 : (0 : Int) ≤ (D0.length : Int) := by omega
  have hE := isEmpty_of s hs
  obtain ⟨qk, qn, qt⟩ := q
  simp only at hk k0 k1 k2
  subst hk
  go_enter Tryd.func27, Tryd.ntmps27
  go_wp2_with fail
  go_quiet (fail)
  go_wp2_with fail
  generalize hwx : ((((w.alloc (Obj.cells #[.int .i64 2, .int .i64 0, .string s] 42)).drewN nq).setCell ⟨b, 0, none⟩ (.slice (some ⟨g, 0, none⟩) D0.length cap)).alloc (Obj.cells #[.int .i64 3, .int .i64 qn, .string qt] 42)) = w2
  have hx0 : MasonAt ((w.alloc (Obj.cells #[.int .i64 2, .int .i64 0, .string s] 42)).drewN nq) B b (.slice (some ⟨g, 0, none⟩) (D0.length + 1) cap) (D0 ++ [⟨3, qn, qt⟩]) left := h.kept (F := fun _ => False) (Chg.drewN ((Chg.refl _ w).alloc _) _) (fun _ _ h => h)
  have hx1 : MasonAt (((w.alloc (Obj.cells #[.int .i64 2, .int .i64 0, .string s] 42)).drewN nq).setCell ⟨b, 0, none⟩ (.slice (some ⟨g, 0, none⟩) D0.length cap)) B b (.slice (some ⟨g, 0, none⟩) D0.length cap) D0 left := by
    refine ⟨h.base, ?_, ?_⟩
    · rw [heap_setCell_same _ b 0 _ _ _ hx0.blk]; simp
    · have h1 := hx0.own
      rw [List.length_append, List.length_singleton] at h1
      exact own_set (own_front h1) hx0.blk (by decide) _
  have hm : MasonAt w2 B b (.slice (some ⟨g, 0, none⟩) D0.length cap) D0 left := by rw [← hwx]; exact hx1.kept (F := fun _ => False) ((Chg.refl _ _).alloc _) (fun _ _ h => h)
  have hst : MasonStep w w2 b (.slice (some ⟨g, 0, none⟩) (D0.length + 1) cap) (.slice (some ⟨g, 0, none⟩) D0.length cap) := by
    rw [← hwx]
    exact ⟨((Chg.drewN ((Chg.refl _ w).alloc _) _).setCell (p := ⟨b, 0, none⟩) (.inl rfl) _).alloc _, fun k hk => .inl hk⟩
  have hxs : w2.heap.size = w.heap.size + 2 := by rw [← hwx]; simp
  have hnew : w2.heap[w.heap.size + 1]? = some (Obj.cells #[.int .i64 3, .int .i64 qn, .string qt] 42) := by
    rw [← hwx]
    have := heap_alloc_new (((w.alloc (Obj.cells #[.int .i64 2, .int .i64 0, .string s] 42)).drewN nq).setCell ⟨b, 0, none⟩ (.slice (some ⟨g, 0, none⟩) D0.length cap)) (Obj.cells #[.int .i64 3, .int .i64 qn, .string qt] 42)
    have e : (((w.alloc (Obj.cells #[.int .i64 2, .int .i64 0, .string s] 42)).drewN nq).setCell ⟨b, 0, none⟩ (.slice (some ⟨g, 0, none⟩) D0.length cap)).heap.size = w.heap.size + 1 := by simp
    rw [e] at this
    exact this
  clear hwx hx0 hx1
  refine (hin w2 _ hm (by omega)).mono ?_
  rintro e w3 ⟨rfl, ov3, hm3, hst3⟩
  have hne : ¬ masonF b (.slice (some ⟨g, 0, none⟩) D0.length cap) (w.heap.size + 1) := by
    rintro (h1 | h1)
    · omega
    · simp [Value.ownBlock] at h1
      omega
  have hblk : w3.heap[w.heap.size + 1]? = some (Obj.cells #[.int .i64 3, .int .i64 qn, .string qt] 42) := by
    rw [hst3.chg.block _ (by omega) hne]
    exact hnew
  have hsz3 := hst3.chg.size
  have hst13 := hst.trans hst3
  obtain ⟨p0, p1, p2⟩ := block_cells hblk
  have hbx : b < w3.heap.size := by omega
  have hBx : B ≤ w3.heap.size := by omega
  have hdx : w.heap.size + 1 < w3.heap.size := by omega
  obtain ⟨m0, _⟩ := hm3.cells
  have hf0 := hm3.frozen 0
  obtain ⟨oa, oc, rfl⟩ := own_form hm3.own
  have hown := hm3.own
  clear c0 f0 hm hst hst3 hnew hin k0 k1 k2 h
  go_wp2_with fail
  go_region_law ((refine step_append_lies _ (by rfl) _ _ _ (by rfl) B 42 i0 _ 3 32 Tryd.underlying25 hi hz0 hz1 hz2 rfl (by omega) (.slice oa D1.length oc) D1.length (partCells D1) (by rfl) (own_drew (hown.alloc _)) ⟨w3.heap.size, 0, none⟩ 1 1 [.int .i64 3, .int .i64 qn, .string qt] (by rfl) (by rfl) (World.news_of_block (cs := #[.int .i64 3, .int .i64 qn, .string qt]) (t := 42) (fr := (0, 0)) (heap_alloc_new w3 _)) (by simp [Value.oneCell']) (by omega) (by unfold maxLen; omega) (by omega) (by simp; omega) (w3.heap.size + 1) (by simp) ?_; intro g1 cap1 w1 hown1 hgrow1 hat1 hlt1; have blk1 := row_kept (own_drew (hown.alloc _)) (row_old hm3.blk _) (by decide) hgrow1; have k0 : w1.cell? ⟨b, 0, none⟩ = some (.slice oa D1.length oc) := (by rw [cell_of_row _ _ _ _ _ _ blk1]; rfl); have kf : w1.frozen? ⟨b, 0, none⟩ = false := (by simp [World.frozen?, blk1])))
  all_goals go_wp2
  all_goals go_end0
  all_goals (obtain ⟨q1, q2⟩ := mason_append hm3 ⟨3, qn, qt⟩ (by rw [partCells_one]; exact hown1) hgrow1 hat1; exact ⟨rfl, _, q1, hst13.trans q2⟩)

end Go.Proofs.YtepehgjdepioeaaDoor
