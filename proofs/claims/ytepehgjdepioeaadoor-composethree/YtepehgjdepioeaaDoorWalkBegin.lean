/-
  Walks: takeAll, begin.
-/
import Derived.Test.YtepehgjdepioeaaDoorWalkStruct
namespace Go.Proofs.YtepehgjdepioeaaDoor
open Go.RowKit Go.Lib

theorem WalkAt.head {w0 w : World} {b : Nat} {h : Head} {L : List Step} (hw : WalkAt w0 w b h L) : w.cell? ⟨b, 0, none⟩ = some (.int .i64 h.kind) ∧ w.cell? ⟨b, 1, none⟩ = some (.int .i64 (h.n : Int)) ∧ w.cell? ⟨b, 2, none⟩ = some (.string (str h.rs)) := by
  obtain ⟨h1, h2, h3, a, ps, cap, hblk, hr⟩ := hw
  obtain ⟨c0, c1, c2, _⟩ := walk_cells hblk
  exact ⟨c0, c1, c2⟩
theorem Head.take_all {h : Head} (ok : HeadOk h) : h.rs.take h.n = h.rs := by cases ok <;> simp
theorem WalkAt.same {w0 w w' : World} {b : Nat} {h : Head} {L : List Step} (hw : WalkAt w0 w b h L) (hb : Below w.heap.size w w') : WalkAt w0 w' b h L :=
  hw.kept (F := fun _ => False) (Chg.of_below hb) (fun h => h) (fun _ h => h.elim)

set_option maxRecDepth 100000 in
set_option maxHeartbeats 1000000 in
theorem takeAll_any (w0 w : World) (b : Nat) (h : Head) (L : List Step) (hw : WalkAt w0 w b h L) (hpos : 1 ≤ h.n) :
    Calls Tryd.prog 54 #[.pointer (some ⟨b, 0, none⟩)] w fun e w' => e = .returned (.agg #[.int .i64 h.kind, .int .i64 (h.n : Int), .string (str h.rs)]) ∧ (∃ h', WalkAt w0 w' b h' (L.drop h.n)) ∧ Chg (fun k => k = b) w w' := by
  obtain ⟨c0, c1, c2⟩ := hw.head
  have lb := hw.lt
  have hbw := hw.bel.size
  have hbb := hw.base
  have cT := fun w1 hw1 => take_any w0 w1 b h L h.n hw1 (Nat.le_refl _) hpos
  rw [Head.take_all hw.ok] at cT
  obtain ⟨kd, n, rs⟩ := h
  simp only at c0 c1 c2 cT hpos
  go_enter Tryd.func54, Tryd.ntmps54
  go_wp2_with fail
  refine (cT _ (hw.same ((Below.refl _ _).alloc (Nat.le_refl _) _))).mono ?_
  rintro e w1 ⟨rfl, ⟨h', hw1⟩, chg1⟩
  have kr := (chg1.block w.heap.size (by simp) (by omega)).trans (heap_alloc_new w _)
  have chg : Chg (fun k => k = b) w w1 := ((Chg.refl (fun k => k = b) w).alloc _).trans chg1 (fun _ _ e => e)
  clear chg1 c0 c1 c2 cT
  have r0 : w1.cell? ⟨w.heap.size, 0, none⟩ = some (.int .i64 0) := by rw [Lib.cell_of_heap kr]; rfl
  have r1 : w1.cell? ⟨w.heap.size, 1, none⟩ = some (.int .i64 0) := by rw [Lib.cell_of_heap kr]; rfl
  have r2 : w1.cell? ⟨w.heap.size, 2, none⟩ = some (.string ByteArray.empty) := by rw [Lib.cell_of_heap kr]; rfl
  have q0 : w1.frozen? ⟨w.heap.size, 0, none⟩ = false := Lib.frozen_of_heap kr 0
  have q1 : w1.frozen? ⟨w.heap.size, 1, none⟩ = false := Lib.frozen_of_heap kr 1
  have q2 : w1.frozen? ⟨w.heap.size, 2, none⟩ = false := Lib.frozen_of_heap kr 2
  go_wp2
  obtain ⟨k3, g3⟩ := set3 kr (.int .i64 kd) (.int .i64 (n : Int)) (.string (str rs))
  refine bodyPost_ret (results_cell_row rfl _ _ w.heap.size _ _ _ _ rfl k3 Tryd.underlying99 rfl (by kernel_rfl)) rfl ?_
  exact ⟨rfl, ⟨h', hw1.kept g3 (by omega) (fun k e => by omega)⟩, chg.trans g3 (fun i h1 h2 => by subst h2; omega)⟩

/-- a walk as a value -/
def WalkVal (w0 : World) (h : Head) (L : List Step) (v : Value) : Prop :=
  HeadOk h ∧ ∃ a ps cap, v = .agg #[.int .i64 h.kind, .int .i64 (h.n : Int), .string (str h.rs), .slice a ps.length cap] ∧ OpAt w0 a ps ∧ ps.length ≤ cap ∧ ps.length ≤ 1048576 ∧ (∀ p ∈ ps, Good p) ∧ (∀ p ∈ ps, p.text.size ≤ 1048576) ∧ L = h.steps ++ steps ps ∧ (h.n = 0 → ps = [])

theorem set4 {w : World} {r : Nat} {x0 x1 x2 x3 : Value} (h : w.heap[r]? = some (.cells #[x0, x1, x2, x3] 101 (0, 0))) (y0 y1 y2 y3 : Value) :
    ((((w.setCell ⟨r, 0, none⟩ y0).setCell ⟨r, 1, none⟩ y1).setCell ⟨r, 2, none⟩ y2).setCell ⟨r, 3, none⟩ y3).heap[r]? = some (.cells #[y0, y1, y2, y3] 101 (0, 0)) ∧ Chg (fun k => k = r) w ((((w.setCell ⟨r, 0, none⟩ y0).setCell ⟨r, 1, none⟩ y1).setCell ⟨r, 2, none⟩ y2).setCell ⟨r, 3, none⟩ y3) := by
  refine ⟨?_, ((((Chg.refl (fun k => k = r) w).setCell (p := ⟨r, 0, none⟩) rfl _).setCell (p := ⟨r, 1, none⟩) rfl _).setCell (p := ⟨r, 2, none⟩) rfl _).setCell (p := ⟨r, 3, none⟩) rfl _⟩
  rw [Go.heap_setCell_same _ r 3 _ _ _ (Go.heap_setCell_same _ r 2 _ _ _ (Go.heap_setCell_same _ r 1 _ _ _ (Go.heap_setCell_same _ r 0 _ _ _ h)))]
  rfl

set_option maxRecDepth 100000 in
set_option maxHeartbeats 1000000 in
theorem begin_any (w0 w : World) (a : Option Addr) (ps : List Part) (cap : Nat) (hbel : Below w0.heap.size w0 w) (hop : OpAt w0 a ps) (hc : ps.length ≤ cap) (hn : ps.length ≤ 1048576) (hg : ∀ p ∈ ps, Good p) (hs : ∀ p ∈ ps, p.text.size ≤ 1048576) :
    Calls Tryd.prog 53 #[.slice a ps.length cap] w fun e w' => ∃ v, e = .returned v ∧ WalkVal w0 (headOf ps) (steps ps) v ∧ Below w.heap.size w w' := by
  have hbw := hbel.size
  have cT := fun w1 b hb hbl hblk => step_any w0 w1 b 0 0 ByteArray.empty a ps cap hb hbl hblk hop hc hn hg hs
  generalize headOf ps = H at cT ⊢
  obtain ⟨kd, n, rs⟩ := H
  go_enter Tryd.func53, Tryd.ntmps53
  go_wp2_with fail
  have b2 : ∀ A B : Obj, Below w0.heap.size w0 ((w.alloc A).alloc B) := fun A B => (hbel.alloc hbel.size _).alloc (by simp; omega) _
  refine (cT _ _ (by omega) (b2 _ _) (heap_two w _ _)).mono ?_
  rintro e w1 ⟨rfl, hw1, chg1⟩
  have kr := (chg1.block w.heap.size (by simp; omega) (by omega)).trans (row_old (heap_alloc_new w _) _)
  have chg : Below w.heap.size w w1 := (((Below.refl _ _).alloc (Nat.le_refl _) _).alloc (by simp) _).trans (Chg.below chg1 (fun k e => by omega) (by simp; omega))
  clear chg1 cT b2
  obtain ⟨h1, h2, h3, a', ps', cap', kp, hr⟩ := hw1
  have HV : Hid (WalkVal w0 ⟨kd, n, rs⟩ (steps ps) (.agg #[.int .i64 kd, .int .i64 (n : Int), .string (str rs), .slice a' ps'.length cap'])) := ⟨h3, a', ps', cap', rfl, hr⟩
  clear hr
  obtain ⟨p0, p1, p2, p3, _, _⟩ := walk_cells kp
  have r0 : w1.cell? ⟨w.heap.size, 0, none⟩ = some (.int .i64 0) := by rw [Lib.cell_of_heap kr]; rfl
  have r1 : w1.cell? ⟨w.heap.size, 1, none⟩ = some (.int .i64 0) := by rw [Lib.cell_of_heap kr]; rfl
  have r2 : w1.cell? ⟨w.heap.size, 2, none⟩ = some (.string ByteArray.empty) := by rw [Lib.cell_of_heap kr]; rfl
  have r3 : w1.cell? ⟨w.heap.size, 3, none⟩ = some (.slice none 0 0) := by rw [Lib.cell_of_heap kr]; rfl
  have q0 : w1.frozen? ⟨w.heap.size, 0, none⟩ = false := Lib.frozen_of_heap kr 0
  have q1 : w1.frozen? ⟨w.heap.size, 1, none⟩ = false := Lib.frozen_of_heap kr 1
  have q2 : w1.frozen? ⟨w.heap.size, 2, none⟩ = false := Lib.frozen_of_heap kr 2
  have q3 : w1.frozen? ⟨w.heap.size, 3, none⟩ = false := Lib.frozen_of_heap kr 3
  simp only at p0 p1 p2
  go_wp2
  obtain ⟨k3, g3⟩ := set4 kr (.int .i64 kd) (.int .i64 (n : Int)) (.string (str rs)) (.slice a' ps'.length cap')
  refine bodyPost_ret (results_cell_row rfl _ _ w.heap.size _ _ _ _ rfl k3 Tryd.underlying101 rfl (by kernel_rfl)) rfl ?_
  exact ⟨_, rfl, HV.out, chg.trans (Chg.below g3 (fun k e => by omega) chg.size)⟩

theorem WalkVal.at {w0 w : World} {b : Nat} {h : Head} {L : List Step} {v : Value} (hv : WalkVal w0 h L v) (hb : w0.heap.size ≤ b) (hbel : Below w0.heap.size w0 w) {cs : Array Value} (hvc : v = .agg cs) (hblk : w.heap[b]? = some (.cells cs 101 (0, 0))) : WalkAt w0 w b h L := by
  obtain ⟨ok, a, ps, cap, rfl, hr⟩ := hv
  simp only [Value.agg.injEq] at hvc
  subst hvc
  exact ⟨hb, hbel, ok, a, ps, cap, hblk, hr⟩

end Go.Proofs.YtepehgjdepioeaaDoor
