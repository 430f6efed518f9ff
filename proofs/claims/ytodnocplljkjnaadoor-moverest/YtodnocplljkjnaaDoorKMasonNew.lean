/-
  Walk: (*wherrykeep.mason).add where the part stands behind the others.
-/
import Derived.Test.YtodnocplljkjnaaDoorKMason
import Derived.Deep.QuietTactic
import Derived.BigQuiet
import Derived.RegionTactic
import Derived.BigRegion
namespace Go.Proofs.YtodnocplljkjnaaDoor
open Go.RowKit Go.Lib

theorem block_cells {w : World} {b : Nat} {x y z : Value} {T : TypeId} (h : w.heap[b]? = some (.cells #[x, y, z] T (0, 0))) : w.cell? ⟨b, 0, none⟩ = some x ∧ w.cell? ⟨b, 1, none⟩ = some y ∧ w.cell? ⟨b, 2, none⟩ = some z :=
  ⟨by rw [cell_of_row _ _ _ _ _ _ h]; rfl, by rw [cell_of_row _ _ _ _ _ _ h]; rfl, by rw [cell_of_row _ _ _ _ _ _ h]; rfl⟩
theorem drewN_alloc_new (w : World) (o : Obj) (n : Nat) : ((w.alloc o).drewN n).heap[w.heap.size]? = some o := heap_alloc_new w o

set_option maxRecDepth 100000 in
set_option maxHeartbeats 4000000 in
theorem add_first (w : World) (B b : Nat) (ov : Value) (left : Int) (p : Part) (h : MasonAt w B b ov [] left) (hB : B ≤ w.heap.size) (hp : (p.kind = 2 ∧ p.text.size ≠ 0 ∧ p.n = 0) ∨ (p.kind = 1 ∧ p.n ≠ 0) ∨ (p.kind = 3 ∧ p.n ≠ 0)) :
    Calls Tryd.prog 9 #[.pointer (some ⟨b, 0, none⟩), .agg #[.int .i64 p.kind, .int .i64 p.n, .string p.text]] w fun e w' => e = .returned (.tuple #[]) ∧ ∃ ov', MasonAt w' B b ov' [p] left ∧ MasonStep w w' b ov ov' := by
  obtain ⟨i0, hi, hz0, hz1, hz2⟩ := info_parts info_part
  obtain ⟨c0, _⟩ := h.cells
  have hbl := (h.lt b (.inl rfl)).2
  obtain ⟨oa, oc, rfl⟩ := own_form h.own
  simp only [List.length_nil] at c0
  obtain ⟨pk, pn, pt⟩ := p
  simp only at hp ⊢
  have t1 : decide ((0 : Int) < 0) = false := by decide
  rcases hp with ⟨rfl, hpt, rfl⟩ | ⟨rfl, hpn⟩ | ⟨rfl, hpn⟩
  · have hE := isEmpty_of pt hpt
    go_enter Tryd.func9, Tryd.ntmps9
    go_wp2_with fail
    go_quiet (fail)
    go_wp2_with fail
    generalize hwx : (w.alloc (Obj.cells #[.int .i64 2, .int .i64 0, .string pt] 33)).drewN nq = wx
    have hm : MasonAt wx B b (.slice oa 0 oc) [] left := by rw [← hwx]; exact h.kept (F := fun _ => False) (Chg.drewN ((Chg.refl _ w).alloc _) _) (fun _ _ h => h)
    have hst : MasonStep w wx b (.slice oa 0 oc) (.slice oa 0 oc) := by rw [← hwx]; exact ⟨Chg.drewN ((Chg.refl _ w).alloc _) _, Moves.refl _ _⟩
    have hnew : wx.heap[w.heap.size]? = some (Obj.cells #[.int .i64 2, .int .i64 0, .string pt] 33) := by rw [← hwx]; exact drewN_alloc_new _ _ _
    have hxs : wx.heap.size = w.heap.size + 1 := by rw [← hwx]; simp
    obtain ⟨p0, p1, p2⟩ := block_cells hnew
    have hwl : w.heap.size < wx.heap.size := by omega
    have hbx : b < wx.heap.size := by omega
    have hBx : B ≤ wx.heap.size := by omega
    obtain ⟨m0, _⟩ := hm.cells
    have hf0 := hm.frozen 0
    have hown : wx.ownsRow B 33 3 (.slice oa 0 oc) (0) (partCells []) := hm.own
    clear hwx h hxs c0 
    go_region_law ((refine step_append_lies _ (by rfl) _ _ _ (by rfl) B 33 i0 _ 3 32 Tryd.underlying28 hi hz0 hz1 hz2 rfl (by omega) (.slice oa 0 oc) (0) (partCells []) (by rfl) (own_drew (hown.alloc _)) ⟨wx.heap.size, 0, none⟩ 1 1 [.int .i64 2, .int .i64 0, .string pt] (by rfl) (by rfl) (World.news_of_block (cs := #[.int .i64 2, .int .i64 0, .string pt]) (t := 33) (fr := (0, 0)) (heap_alloc_new wx _)) (by simp [Value.oneCell']) (by omega) (by unfold maxLen; omega) (by omega) (by simp; omega) (wx.heap.size + 1) (by simp) ?_; intro g1 cap1 w1 hown1 hgrow1 hat1 hlt1; have blk1 := row_kept (own_drew (hown.alloc _)) (row_old hm.blk _) (by decide) hgrow1; have k0 : w1.cell? ⟨b, 0, none⟩ = some (.slice oa 0 oc) := (by rw [cell_of_row _ _ _ _ _ _ blk1]; rfl); have kf : w1.frozen? ⟨b, 0, none⟩ = false := (by simp [World.frozen?, blk1])))
    all_goals go_wp2
    all_goals go_end0
    all_goals (obtain ⟨q1, q2⟩ := mason_append hm ⟨2, 0, pt⟩ (by rw [partCells_one]; simpa using hown1) hgrow1 hat1; exact ⟨rfl, _, by simpa using q1, hst.trans q2⟩)
  · have g1 : (pn == 0) = false := by simpa using hpn
    go_enter Tryd.func9, Tryd.ntmps9
    go_wp2_with fail
    go_quiet (fail)
    go_wp2_with fail
    generalize hwx : (w.alloc (Obj.cells #[.int .i64 1, .int .i64 pn, .string pt] 33)).drewN nq = wx
    have hm : MasonAt wx B b (.slice oa 0 oc) [] left := by rw [← hwx]; exact h.kept (F := fun _ => False) (Chg.drewN ((Chg.refl _ w).alloc _) _) (fun _ _ h => h)
    have hst : MasonStep w wx b (.slice oa 0 oc) (.slice oa 0 oc) := by rw [← hwx]; exact ⟨Chg.drewN ((Chg.refl _ w).alloc _) _, Moves.refl _ _⟩
    have hnew : wx.heap[w.heap.size]? = some (Obj.cells #[.int .i64 1, .int .i64 pn, .string pt] 33) := by rw [← hwx]; exact drewN_alloc_new _ _ _
    have hxs : wx.heap.size = w.heap.size + 1 := by rw [← hwx]; simp
    obtain ⟨p0, p1, p2⟩ := block_cells hnew
    have hwl : w.heap.size < wx.heap.size := by omega
    have hbx : b < wx.heap.size := by omega
    have hBx : B ≤ wx.heap.size := by omega
    obtain ⟨m0, _⟩ := hm.cells
    have hf0 := hm.frozen 0
    have hown : wx.ownsRow B 33 3 (.slice oa 0 oc) (0) (partCells []) := hm.own
    clear hwx h hxs c0 
    go_region_law ((refine step_append_lies _ (by rfl) _ _ _ (by rfl) B 33 i0 _ 3 32 Tryd.underlying28 hi hz0 hz1 hz2 rfl (by omega) (.slice oa 0 oc) (0) (partCells []) (by rfl) (own_drew (hown.alloc _)) ⟨wx.heap.size, 0, none⟩ 1 1 [.int .i64 1, .int .i64 pn, .string pt] (by rfl) (by rfl) (World.news_of_block (cs := #[.int .i64 1, .int .i64 pn, .string pt]) (t := 33) (fr := (0, 0)) (heap_alloc_new wx _)) (by simp [Value.oneCell']) (by omega) (by unfold maxLen; omega) (by omega) (by simp; omega) (wx.heap.size + 1) (by simp) ?_; intro g1 cap1 w1 hown1 hgrow1 hat1 hlt1; have blk1 := row_kept (own_drew (hown.alloc _)) (row_old hm.blk _) (by decide) hgrow1; have k0 : w1.cell? ⟨b, 0, none⟩ = some (.slice oa 0 oc) := (by rw [cell_of_row _ _ _ _ _ _ blk1]; rfl); have kf : w1.frozen? ⟨b, 0, none⟩ = false := (by simp [World.frozen?, blk1])))
    all_goals go_wp2
    all_goals go_end0
    all_goals (obtain ⟨q1, q2⟩ := mason_append hm ⟨1, pn, pt⟩ (by rw [partCells_one]; simpa using hown1) hgrow1 hat1; exact ⟨rfl, _, by simpa using q1, hst.trans q2⟩)
  · have g1 : (pn == 0) = false := by simpa using hpn
    go_enter Tryd.func9, Tryd.ntmps9
    go_wp2_with fail
    go_quiet (fail)
    go_wp2_with fail
    generalize hwx : (w.alloc (Obj.cells #[.int .i64 3, .int .i64 pn, .string pt] 33)).drewN nq = wx
    have hm : MasonAt wx B b (.slice oa 0 oc) [] left := by rw [← hwx]; exact h.kept (F := fun _ => False) (Chg.drewN ((Chg.refl _ w).alloc _) _) (fun _ _ h => h)
    have hst : MasonStep w wx b (.slice oa 0 oc) (.slice oa 0 oc) := by rw [← hwx]; exact ⟨Chg.drewN ((Chg.refl _ w).alloc _) _, Moves.refl _ _⟩
    have hnew : wx.heap[w.heap.size]? = some (Obj.cells #[.int .i64 3, .int .i64 pn, .string pt] 33) := by rw [← hwx]; exact drewN_alloc_new _ _ _
    have hxs : wx.heap.size = w.heap.size + 1 := by rw [← hwx]; simp
    obtain ⟨p0, p1, p2⟩ := block_cells hnew
    have hwl : w.heap.size < wx.heap.size := by omega
    have hbx : b < wx.heap.size := by omega
    have hBx : B ≤ wx.heap.size := by omega
    obtain ⟨m0, _⟩ := hm.cells
    have hf0 := hm.frozen 0
    have hown : wx.ownsRow B 33 3 (.slice oa 0 oc) (0) (partCells []) := hm.own
    clear hwx h hxs c0 
    go_region_law ((refine step_append_lies _ (by rfl) _ _ _ (by rfl) B 33 i0 _ 3 32 Tryd.underlying28 hi hz0 hz1 hz2 rfl (by omega) (.slice oa 0 oc) (0) (partCells []) (by rfl) (own_drew (hown.alloc _)) ⟨wx.heap.size, 0, none⟩ 1 1 [.int .i64 3, .int .i64 pn, .string pt] (by rfl) (by rfl) (World.news_of_block (cs := #[.int .i64 3, .int .i64 pn, .string pt]) (t := 33) (fr := (0, 0)) (heap_alloc_new wx _)) (by simp [Value.oneCell']) (by omega) (by unfold maxLen; omega) (by omega) (by simp; omega) (wx.heap.size + 1) (by simp) ?_; intro g1 cap1 w1 hown1 hgrow1 hat1 hlt1; have blk1 := row_kept (own_drew (hown.alloc _)) (row_old hm.blk _) (by decide) hgrow1; have k0 : w1.cell? ⟨b, 0, none⟩ = some (.slice oa 0 oc) := (by rw [cell_of_row _ _ _ _ _ _ blk1]; rfl); have kf : w1.frozen? ⟨b, 0, none⟩ = false := (by simp [World.frozen?, blk1])))
    all_goals go_wp2
    all_goals go_end0
    all_goals (obtain ⟨q1, q2⟩ := mason_append hm ⟨3, pn, pt⟩ (by rw [partCells_one]; simpa using hown1) hgrow1 hat1; exact ⟨rfl, _, by simpa using q1, hst.trans q2⟩)

set_option maxRecDepth 100000 in
set_option maxHeartbeats 4000000 in
theorem add_new (w : World) (B b : Nat) (ov : Value) (D0 : List Part) (q : Part) (left : Int) (p : Part) (h : MasonAt w B b ov (D0 ++ [q]) left) (hB : B ≤ w.heap.size) (hk : q.kind ≠ p.kind) (hk3 : p.kind = 2 → q.kind ≠ 3) (hp : (p.kind = 2 ∧ p.text.size ≠ 0 ∧ p.n = 0) ∨ (p.kind = 1 ∧ p.n ≠ 0) ∨ (p.kind = 3 ∧ p.n ≠ 0)) (hD : D0.length ≤ 1000000) :
    Calls Tryd.prog 9 #[.pointer (some ⟨b, 0, none⟩), .agg #[.int .i64 p.kind, .int .i64 p.n, .string p.text]] w fun e w' => e = .returned (.tuple #[]) ∧ ∃ ov', MasonAt w' B b ov' (D0 ++ [q] ++ [p]) left ∧ MasonStep w w' b ov ov' := by
  obtain ⟨i0, hi, hz0, hz1, hz2⟩ := info_parts info_part
  obtain ⟨c0, _⟩ := h.cells
  have hbl := (h.lt b (.inl rfl)).2
  obtain ⟨g, cap, rfl, k0, _, _, _⟩ := own_lastText h.own
  have hgl := (h.lt g (.inr rfl)).2
  have t2 : (0 : Int) ≤ (D0.length : Int) := by omega
  obtain ⟨pk, pn, pt⟩ := p
  simp only at hp hk hk3 ⊢
  have e2 : (D0 ++ [q]).length = D0.length + 1 := by simp
  rcases hp with ⟨rfl, hpt, rfl⟩ | ⟨rfl, hpn⟩ | ⟨rfl, hpn⟩
  · have hE := isEmpty_of pt hpt
    have gk : (q.kind == 2) = false := by simpa using hk
    have g3 : (q.kind == 3) = false := by simpa using hk3 rfl
    go_enter Tryd.func9, Tryd.ntmps9
    go_wp2_with fail
    go_quiet (fail)
    go_wp2_with fail
    generalize hwx : (w.alloc (Obj.cells #[.int .i64 2, .int .i64 0, .string pt] 33)).drewN nq = wx
    have hm : MasonAt wx B b (.slice (some ⟨g, 0, none⟩) (D0.length + 1) cap) (D0 ++ [q]) left := by rw [← hwx]; exact h.kept (F := fun _ => False) (Chg.drewN ((Chg.refl _ w).alloc _) _) (fun _ _ h => h)
    have hst : MasonStep w wx b (.slice (some ⟨g, 0, none⟩) (D0.length + 1) cap) (.slice (some ⟨g, 0, none⟩) (D0.length + 1) cap) := by rw [← hwx]; exact ⟨Chg.drewN ((Chg.refl _ w).alloc _) _, Moves.refl _ _⟩
    have hnew : wx.heap[w.heap.size]? = some (Obj.cells #[.int .i64 2, .int .i64 0, .string pt] 33) := by rw [← hwx]; exact drewN_alloc_new _ _ _
    have hxs : wx.heap.size = w.heap.size + 1 := by rw [← hwx]; simp
    obtain ⟨p0, p1, p2⟩ := block_cells hnew
    have hwl : w.heap.size < wx.heap.size := by omega
    have hbx : b < wx.heap.size := by omega
    have hBx : B ≤ wx.heap.size := by omega
    obtain ⟨m0, _⟩ := hm.cells
    have hf0 := hm.frozen 0
    have hown : wx.ownsRow B 33 3 (.slice (some ⟨g, 0, none⟩) (D0.length + 1) cap) (D0.length + 1) (partCells (D0 ++ [q])) := by have h1 := hm.own; rwa [e2] at h1
    clear hwx h hxs c0 
    go_region_law ((refine step_append_lies _ (by rfl) _ _ _ (by rfl) B 33 i0 _ 3 32 Tryd.underlying28 hi hz0 hz1 hz2 rfl (by omega) (.slice (some ⟨g, 0, none⟩) (D0.length + 1) cap) (D0.length + 1) (partCells (D0 ++ [q])) (by rfl) (own_drew (hown.alloc _)) ⟨wx.heap.size, 0, none⟩ 1 1 [.int .i64 2, .int .i64 0, .string pt] (by rfl) (by rfl) (World.news_of_block (cs := #[.int .i64 2, .int .i64 0, .string pt]) (t := 33) (fr := (0, 0)) (heap_alloc_new wx _)) (by simp [Value.oneCell']) (by omega) (by unfold maxLen; omega) (by omega) (by simp; omega) (wx.heap.size + 1) (by simp) ?_; intro g1 cap1 w1 hown1 hgrow1 hat1 hlt1; have blk1 := row_kept (own_drew (hown.alloc _)) (row_old hm.blk _) (by decide) hgrow1; have k0 : w1.cell? ⟨b, 0, none⟩ = some (.slice (some ⟨g, 0, none⟩) (D0.length + 1) cap) := (by rw [cell_of_row _ _ _ _ _ _ blk1]; rfl); have kf : w1.frozen? ⟨b, 0, none⟩ = false := (by simp [World.frozen?, blk1])))
    all_goals go_wp2
    all_goals go_end0
    all_goals (obtain ⟨q1, q2⟩ := mason_append hm ⟨2, 0, pt⟩ (by rw [partCells_one]; simpa using hown1) hgrow1 hat1; rw [e2] at q1 q2; exact ⟨rfl, _, by simpa using q1, hst.trans q2⟩)
  · have g1 : (pn == 0) = false := by simpa using hpn
    have gk : (q.kind == 1) = false := by simpa using hk
    go_enter Tryd.func9, Tryd.ntmps9
    go_wp2_with fail
    go_quiet (fail)
    go_wp2_with fail
    generalize hwx : (w.alloc (Obj.cells #[.int .i64 1, .int .i64 pn, .string pt] 33)).drewN nq = wx
    have hm : MasonAt wx B b (.slice (some ⟨g, 0, none⟩) (D0.length + 1) cap) (D0 ++ [q]) left := by rw [← hwx]; exact h.kept (F := fun _ => False) (Chg.drewN ((Chg.refl _ w).alloc _) _) (fun _ _ h => h)
    have hst : MasonStep w wx b (.slice (some ⟨g, 0, none⟩) (D0.length + 1) cap) (.slice (some ⟨g, 0, none⟩) (D0.length + 1) cap) := by rw [← hwx]; exact ⟨Chg.drewN ((Chg.refl _ w).alloc _) _, Moves.refl _ _⟩
    have hnew : wx.heap[w.heap.size]? = some (Obj.cells #[.int .i64 1, .int .i64 pn, .string pt] 33) := by rw [← hwx]; exact drewN_alloc_new _ _ _
    have hxs : wx.heap.size = w.heap.size + 1 := by rw [← hwx]; simp
    obtain ⟨p0, p1, p2⟩ := block_cells hnew
    have hwl : w.heap.size < wx.heap.size := by omega
    have hbx : b < wx.heap.size := by omega
    have hBx : B ≤ wx.heap.size := by omega
    obtain ⟨m0, _⟩ := hm.cells
    have hf0 := hm.frozen 0
    have hown : wx.ownsRow B 33 3 (.slice (some ⟨g, 0, none⟩) (D0.length + 1) cap) (D0.length + 1) (partCells (D0 ++ [q])) := by have h1 := hm.own; rwa [e2] at h1
    clear hwx h hxs c0 
    go_region_law ((refine step_append_lies _ (by rfl) _ _ _ (by rfl) B 33 i0 _ 3 32 Tryd.underlying28 hi hz0 hz1 hz2 rfl (by omega) (.slice (some ⟨g, 0, none⟩) (D0.length + 1) cap) (D0.length + 1) (partCells (D0 ++ [q])) (by rfl) (own_drew (hown.alloc _)) ⟨wx.heap.size, 0, none⟩ 1 1 [.int .i64 1, .int .i64 pn, .string pt] (by rfl) (by rfl) (World.news_of_block (cs := #[.int .i64 1, .int .i64 pn, .string pt]) (t := 33) (fr := (0, 0)) (heap_alloc_new wx _)) (by simp [Value.oneCell']) (by omega) (by unfold maxLen; omega) (by omega) (by simp; omega) (wx.heap.size + 1) (by simp) ?_; intro g1 cap1 w1 hown1 hgrow1 hat1 hlt1; have blk1 := row_kept (own_drew (hown.alloc _)) (row_old hm.blk _) (by decide) hgrow1; have k0 : w1.cell? ⟨b, 0, none⟩ = some (.slice (some ⟨g, 0, none⟩) (D0.length + 1) cap) := (by rw [cell_of_row _ _ _ _ _ _ blk1]; rfl); have kf : w1.frozen? ⟨b, 0, none⟩ = false := (by simp [World.frozen?, blk1])))
    all_goals go_wp2
    all_goals go_end0
    all_goals (obtain ⟨q1, q2⟩ := mason_append hm ⟨1, pn, pt⟩ (by rw [partCells_one]; simpa using hown1) hgrow1 hat1; rw [e2] at q1 q2; exact ⟨rfl, _, by simpa using q1, hst.trans q2⟩)
  · have g1 : (pn == 0) = false := by simpa using hpn
    have gk : (q.kind == 3) = false := by simpa using hk
    go_enter Tryd.func9, Tryd.ntmps9
    go_wp2_with fail
    go_quiet (fail)
    go_wp2_with fail
    generalize hwx : (w.alloc (Obj.cells #[.int .i64 3, .int .i64 pn, .string pt] 33)).drewN nq = wx
    have hm : MasonAt wx B b (.slice (some ⟨g, 0, none⟩) (D0.length + 1) cap) (D0 ++ [q]) left := by rw [← hwx]; exact h.kept (F := fun _ => False) (Chg.drewN ((Chg.refl _ w).alloc _) _) (fun _ _ h => h)
    have hst : MasonStep w wx b (.slice (some ⟨g, 0, none⟩) (D0.length + 1) cap) (.slice (some ⟨g, 0, none⟩) (D0.length + 1) cap) := by rw [← hwx]; exact ⟨Chg.drewN ((Chg.refl _ w).alloc _) _, Moves.refl _ _⟩
    have hnew : wx.heap[w.heap.size]? = some (Obj.cells #[.int .i64 3, .int .i64 pn, .string pt] 33) := by rw [← hwx]; exact drewN_alloc_new _ _ _
    have hxs : wx.heap.size = w.heap.size + 1 := by rw [← hwx]; simp
    obtain ⟨p0, p1, p2⟩ := block_cells hnew
    have hwl : w.heap.size < wx.heap.size := by omega
    have hbx : b < wx.heap.size := by omega
    have hBx : B ≤ wx.heap.size := by omega
    obtain ⟨m0, _⟩ := hm.cells
    have hf0 := hm.frozen 0
    have hown : wx.ownsRow B 33 3 (.slice (some ⟨g, 0, none⟩) (D0.length + 1) cap) (D0.length + 1) (partCells (D0 ++ [q])) := by have h1 := hm.own; rwa [e2] at h1
    clear hwx h hxs c0 
    go_region_law ((refine step_append_lies _ (by rfl) _ _ _ (by rfl) B 33 i0 _ 3 32 Tryd.underlying28 hi hz0 hz1 hz2 rfl (by omega) (.slice (some ⟨g, 0, none⟩) (D0.length + 1) cap) (D0.length + 1) (partCells (D0 ++ [q])) (by rfl) (own_drew (hown.alloc _)) ⟨wx.heap.size, 0, none⟩ 1 1 [.int .i64 3, .int .i64 pn, .string pt] (by rfl) (by rfl) (World.news_of_block (cs := #[.int .i64 3, .int .i64 pn, .string pt]) (t := 33) (fr := (0, 0)) (heap_alloc_new wx _)) (by simp [Value.oneCell']) (by omega) (by unfold maxLen; omega) (by omega) (by simp; omega) (wx.heap.size + 1) (by simp) ?_; intro g1 cap1 w1 hown1 hgrow1 hat1 hlt1; have blk1 := row_kept (own_drew (hown.alloc _)) (row_old hm.blk _) (by decide) hgrow1; have k0 : w1.cell? ⟨b, 0, none⟩ = some (.slice (some ⟨g, 0, none⟩) (D0.length + 1) cap) := (by rw [cell_of_row _ _ _ _ _ _ blk1]; rfl); have kf : w1.frozen? ⟨b, 0, none⟩ = false := (by simp [World.frozen?, blk1])))
    all_goals go_wp2
    all_goals go_end0
    all_goals (obtain ⟨q1, q2⟩ := mason_append hm ⟨3, pn, pt⟩ (by rw [partCells_one]; simpa using hown1) hgrow1 hat1; rw [e2] at q1 q2; exact ⟨rfl, _, by simpa using q1, hst.trans q2⟩)

end Go.Proofs.YtodnocplljkjnaaDoor
