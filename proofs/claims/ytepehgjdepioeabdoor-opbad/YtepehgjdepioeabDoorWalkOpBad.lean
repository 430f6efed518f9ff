/-
  Walk: wherrykeep.OpBad.
-/
import Derived.Test.YtepehgjdepioeabDoorKCalls
import Derived.Deep.RegionHeld3
namespace Go.Proofs.YtepehgjdepioeabDoor
open Go.RowKit Go.Lib

/-- blocks laid one behind the other -/
def allocs (w : World) (l : List Obj) : World := l.foldl World.alloc w
theorem allocs_old (l : List Obj) : ∀ (w : World) (b : Nat) (o : Obj), w.heap[b]? = some o → (allocs w l).heap[b]? = some o := by
  induction l with
  | nil => intro w b o h; exact h
  | cons x l ih => intro w b o h; exact ih (w.alloc x) b o (row_old h x)
theorem allocs_get (l : List Obj) : ∀ (w : World) (j : Nat) (o : Obj), l[j]? = some o → (allocs w l).heap[w.heap.size + j]? = some o := by
  induction l with
  | nil => intro w j o h; simp at h
  | cons x l ih =>
    intro w j o h
    cases j with
    | zero =>
      simp at h
      subst h
      exact allocs_old l (w.alloc x) _ _ (heap_alloc_new w x)
    | succ j =>
      have h1 := ih (w.alloc x) j o (by simpa using h)
      have e : (w.alloc x).heap.size + j = w.heap.size + (j + 1) := by simp; omega
      rw [e] at h1
      exact h1
theorem allocs_below (l : List Obj) (w : World) : Below w.heap.size w (allocs w l) := by
  have key : ∀ (l : List Obj) (v : World), Below w.heap.size w v → Below w.heap.size w (allocs v l) := by
    intro l
    induction l with
    | nil => intro v h; exact h
    | cons x l ih => intro v h; exact ih (v.alloc x) (h.alloc h.size x)
  exact key l w (Below.refl _ _)

theorem bad0 : ∀ k : Nat, k < 50 → opErr [⟨1, 1 + (k : Int), ⟨#[]⟩⟩, ⟨1, 1, ⟨#[]⟩⟩] = 4 := by decide +kernel
theorem bad1 : ∀ k : Nat, k < 50 → opErr [⟨3, 1 + (k : Int), ⟨#[]⟩⟩, ⟨2, 0, ⟨#[120]⟩⟩] = 4 := by decide +kernel
theorem bad2 : ∀ k : Nat, k < 50 → opErr [⟨2, 0, ⟨#[]⟩⟩] = 4 := by decide +kernel
theorem bad3 : ∀ k : Nat, k < 50 → opErr [⟨1, 0, ⟨#[]⟩⟩] = 2 := by decide +kernel
theorem bad4 : ∀ k : Nat, k < 50 → opErr [⟨3, 1 + (k : Int), ⟨#[120]⟩⟩] = 4 := by decide +kernel
theorem bad5 : ∀ k : Nat, k < 50 → opErr [⟨4, 1 + (k : Int), ⟨#[]⟩⟩] = 3 := by decide +kernel
theorem bad6 : ∀ k : Nat, k < 50 → opErr [⟨2, 0, ⟨#[255]⟩⟩] = 4 := by decide +kernel
theorem bad7 : ∀ k : Nat, k < 50 → opErr [⟨1, 4000 + (1 + (k : Int)), ⟨#[]⟩⟩] = 2 := by decide +kernel
theorem bad8 : ∀ k : Nat, k < 50 → opErr [⟨1, 4000, ⟨#[]⟩⟩, ⟨3, 1 + (k : Int), ⟨#[]⟩⟩] = 1 := by decide +kernel
theorem good_nil : opErr [] = 0 := by decide +kernel
theorem opAt_one {w : World} {b : Nat} {k n : Int} {s : ByteArray} {T : TypeId} (h : w.heap[b]? = some (.cells #[.int .i64 k, .int .i64 n, .string s] T (0, 0))) : OpAt w (some ⟨b, 0, none⟩) [⟨k, n, s⟩] := by
  refine .inr ⟨b, 0, rfl, lt_of_heap h, fun i hi => ?_⟩
  have h0 : i = 0 := by simp at hi; omega
  subst h0
  refine ⟨?_, ?_, ?_⟩
  all_goals rw [cell_of_row _ _ _ _ _ _ h]; rfl
theorem opAt_two {w : World} {b : Nat} {k n k' n' : Int} {s s' : ByteArray} {T : TypeId} (h : w.heap[b]? = some (.cells #[.int .i64 k, .int .i64 n, .string s, .int .i64 k', .int .i64 n', .string s'] T (0, 0))) : OpAt w (some ⟨b, 0, none⟩) [⟨k, n, s⟩, ⟨k', n', s'⟩] := by
  refine .inr ⟨b, 0, rfl, lt_of_heap h, fun i hi => ?_⟩
  have h0 : i = 0 ∨ i = 1 := by simp at hi; omega
  rcases h0 with rfl | rfl
  · refine ⟨?_, ?_, ?_⟩
    all_goals rw [cell_of_row _ _ _ _ _ _ h]; rfl
  · refine ⟨?_, ?_, ?_⟩
    all_goals rw [cell_of_row _ _ _ _ _ _ h]; rfl

set_option maxRecDepth 100000 in
set_option maxHeartbeats 4000000 in
theorem opBad_walk (which n : Int) (w : World) (hw : I64 which) (hn : I64 n) (hT : Tabs w) :
    Calls Tryd.prog 3 #[.int .i64 which, .int .i64 n] w fun e w' => e = .returned (.bool true) ∧ Below w.heap.size w w' := by
  go_enter Tryd.func3, Tryd.ntmps3
  go_wp2_with fail
  refine (picked_same n 50 _ hn (by omega) (by omega)).mono ?_
  rintro e w1 ⟨rfl, rfl⟩
  have hk := pick_lt n 50 (by omega)
  generalize pick n 50 = k at *
  have hk' : k < 50 := by omega
  go_wp2_with fail
  refine (picked_same which 9 _ hw (by omega) (by omega)).mono ?_
  rintro e wb ⟨rfl, hwb⟩
  have hwb2 : wb = allocs w1 [Obj.cells #[.int .i64 1, .int .i64 (1 + (k : Int)), .string ⟨#[]⟩, .int .i64 1, .int .i64 (1), .string ⟨#[]⟩] 24, Obj.cells #[.int .i64 3, .int .i64 (1 + (k : Int)), .string ⟨#[]⟩, .int .i64 2, .int .i64 (0), .string ⟨#[120]⟩] 24, Obj.cells #[.int .i64 2, .int .i64 (0), .string ⟨#[]⟩] 24, Obj.cells #[.int .i64 1, .int .i64 (0), .string ⟨#[]⟩] 24, Obj.cells #[.int .i64 3, .int .i64 (1 + (k : Int)), .string ⟨#[120]⟩] 24, Obj.cells #[.int .i64 4, .int .i64 (1 + (k : Int)), .string ⟨#[]⟩] 24, Obj.cells #[.int .i64 2, .int .i64 (0), .string ⟨#[255]⟩] 24, Obj.cells #[.int .i64 1, .int .i64 (4000 + (1 + (k : Int))), .string ⟨#[]⟩] 24, Obj.cells #[.int .i64 1, .int .i64 (4000), .string ⟨#[]⟩, .int .i64 3, .int .i64 (1 + (k : Int)), .string ⟨#[]⟩] 24, Obj.cells #[.slice (some ⟨w1.heap.size, 0, none⟩) 2 2, .slice (some ⟨w1.heap.size + 1, 0, none⟩) 2 2, .slice (some ⟨w1.heap.size + 1 + 1, 0, none⟩) 1 1, .slice (some ⟨w1.heap.size + 1 + 1 + 1, 0, none⟩) 1 1, .slice (some ⟨w1.heap.size + 1 + 1 + 1 + 1, 0, none⟩) 1 1, .slice (some ⟨w1.heap.size + 1 + 1 + 1 + 1 + 1, 0, none⟩) 1 1, .slice (some ⟨w1.heap.size + 1 + 1 + 1 + 1 + 1 + 1, 0, none⟩) 1 1, .slice (some ⟨w1.heap.size + 1 + 1 + 1 + 1 + 1 + 1 + 1, 0, none⟩) 1 1, .slice (some ⟨w1.heap.size + 1 + 1 + 1 + 1 + 1 + 1 + 1 + 1, 0, none⟩) 2 2] 26, Obj.cells #[.int .i64 4, .int .i64 4, .int .i64 4, .int .i64 2, .int .i64 4, .int .i64 3, .int .i64 4, .int .i64 2, .int .i64 1] 28] := hwb
  clear hwb
  have B0 : wb.heap[w1.heap.size]? = some (Obj.cells #[.int .i64 1, .int .i64 (1 + (k : Int)), .string ⟨#[]⟩, .int .i64 1, .int .i64 (1), .string ⟨#[]⟩] 24) := by rw [hwb2]; exact allocs_get _ w1 0 _ rfl
  have B1 : wb.heap[w1.heap.size + 1]? = some (Obj.cells #[.int .i64 3, .int .i64 (1 + (k : Int)), .string ⟨#[]⟩, .int .i64 2, .int .i64 (0), .string ⟨#[120]⟩] 24) := by rw [hwb2]; exact allocs_get _ w1 1 _ rfl
  have B2 : wb.heap[w1.heap.size + 1 + 1]? = some (Obj.cells #[.int .i64 2, .int .i64 (0), .string ⟨#[]⟩] 24) := by rw [hwb2]; exact allocs_get _ w1 2 _ rfl
  have B3 : wb.heap[w1.heap.size + 1 + 1 + 1]? = some (Obj.cells #[.int .i64 1, .int .i64 (0), .string ⟨#[]⟩] 24) := by rw [hwb2]; exact allocs_get _ w1 3 _ rfl
  have B4 : wb.heap[w1.heap.size + 1 + 1 + 1 + 1]? = some (Obj.cells #[.int .i64 3, .int .i64 (1 + (k : Int)), .string ⟨#[120]⟩] 24) := by rw [hwb2]; exact allocs_get _ w1 4 _ rfl
  have B5 : wb.heap[w1.heap.size + 1 + 1 + 1 + 1 + 1]? = some (Obj.cells #[.int .i64 4, .int .i64 (1 + (k : Int)), .string ⟨#[]⟩] 24) := by rw [hwb2]; exact allocs_get _ w1 5 _ rfl
  have B6 : wb.heap[w1.heap.size + 1 + 1 + 1 + 1 + 1 + 1]? = some (Obj.cells #[.int .i64 2, .int .i64 (0), .string ⟨#[255]⟩] 24) := by rw [hwb2]; exact allocs_get _ w1 6 _ rfl
  have B7 : wb.heap[w1.heap.size + 1 + 1 + 1 + 1 + 1 + 1 + 1]? = some (Obj.cells #[.int .i64 1, .int .i64 (4000 + (1 + (k : Int))), .string ⟨#[]⟩] 24) := by rw [hwb2]; exact allocs_get _ w1 7 _ rfl
  have B8 : wb.heap[w1.heap.size + 1 + 1 + 1 + 1 + 1 + 1 + 1 + 1]? = some (Obj.cells #[.int .i64 1, .int .i64 (4000), .string ⟨#[]⟩, .int .i64 3, .int .i64 (1 + (k : Int)), .string ⟨#[]⟩] 24) := by rw [hwb2]; exact allocs_get _ w1 8 _ rfl
  have B9 : wb.heap[w1.heap.size + 1 + 1 + 1 + 1 + 1 + 1 + 1 + 1 + 1]? = some (Obj.cells #[.slice (some ⟨w1.heap.size, 0, none⟩) 2 2, .slice (some ⟨w1.heap.size + 1, 0, none⟩) 2 2, .slice (some ⟨w1.heap.size + 1 + 1, 0, none⟩) 1 1, .slice (some ⟨w1.heap.size + 1 + 1 + 1, 0, none⟩) 1 1, .slice (some ⟨w1.heap.size + 1 + 1 + 1 + 1, 0, none⟩) 1 1, .slice (some ⟨w1.heap.size + 1 + 1 + 1 + 1 + 1, 0, none⟩) 1 1, .slice (some ⟨w1.heap.size + 1 + 1 + 1 + 1 + 1 + 1, 0, none⟩) 1 1, .slice (some ⟨w1.heap.size + 1 + 1 + 1 + 1 + 1 + 1 + 1, 0, none⟩) 1 1, .slice (some ⟨w1.heap.size + 1 + 1 + 1 + 1 + 1 + 1 + 1 + 1, 0, none⟩) 2 2] 26) := by rw [hwb2]; exact allocs_get _ w1 9 _ rfl
  have B10 : wb.heap[w1.heap.size + 1 + 1 + 1 + 1 + 1 + 1 + 1 + 1 + 1 + 1]? = some (Obj.cells #[.int .i64 4, .int .i64 4, .int .i64 4, .int .i64 2, .int .i64 4, .int .i64 3, .int .i64 4, .int .i64 2, .int .i64 1] 28) := by rw [hwb2]; exact allocs_get _ w1 10 _ rfl
  have HB : Below w1.heap.size w1 wb := by rw [hwb2]; exact allocs_below _ _
  clear hwb2
  have hp := pick_lt which 9 (by omega)
  have q0 : wb.cell? ⟨w1.heap.size + 1 + 1 + 1 + 1 + 1 + 1 + 1 + 1 + 1, 0, none⟩ = some (.slice (some ⟨w1.heap.size, 0, none⟩) 2 2) := by rw [cell_of_row _ _ _ _ _ _ B9]; rfl
  have r0 : wb.cell? ⟨w1.heap.size + 1 + 1 + 1 + 1 + 1 + 1 + 1 + 1 + 1 + 1, 0, none⟩ = some (.int .i64 4) := by rw [cell_of_row _ _ _ _ _ _ B10]; rfl
  have o0 := opAt_two B0
  have q1 : wb.cell? ⟨w1.heap.size + 1 + 1 + 1 + 1 + 1 + 1 + 1 + 1 + 1, 1, none⟩ = some (.slice (some ⟨w1.heap.size + 1, 0, none⟩) 2 2) := by rw [cell_of_row _ _ _ _ _ _ B9]; rfl
  have r1 : wb.cell? ⟨w1.heap.size + 1 + 1 + 1 + 1 + 1 + 1 + 1 + 1 + 1 + 1, 1, none⟩ = some (.int .i64 4) := by rw [cell_of_row _ _ _ _ _ _ B10]; rfl
  have o1 := opAt_two B1
  have q2 : wb.cell? ⟨w1.heap.size + 1 + 1 + 1 + 1 + 1 + 1 + 1 + 1 + 1, 2, none⟩ = some (.slice (some ⟨w1.heap.size + 1 + 1, 0, none⟩) 1 1) := by rw [cell_of_row _ _ _ _ _ _ B9]; rfl
  have r2 : wb.cell? ⟨w1.heap.size + 1 + 1 + 1 + 1 + 1 + 1 + 1 + 1 + 1 + 1, 2, none⟩ = some (.int .i64 4) := by rw [cell_of_row _ _ _ _ _ _ B10]; rfl
  have o2 := opAt_one B2
  have q3 : wb.cell? ⟨w1.heap.size + 1 + 1 + 1 + 1 + 1 + 1 + 1 + 1 + 1, 3, none⟩ = some (.slice (some ⟨w1.heap.size + 1 + 1 + 1, 0, none⟩) 1 1) := by rw [cell_of_row _ _ _ _ _ _ B9]; rfl
  have r3 : wb.cell? ⟨w1.heap.size + 1 + 1 + 1 + 1 + 1 + 1 + 1 + 1 + 1 + 1, 3, none⟩ = some (.int .i64 2) := by rw [cell_of_row _ _ _ _ _ _ B10]; rfl
  have o3 := opAt_one B3
  have q4 : wb.cell? ⟨w1.heap.size + 1 + 1 + 1 + 1 + 1 + 1 + 1 + 1 + 1, 4, none⟩ = some (.slice (some ⟨w1.heap.size + 1 + 1 + 1 + 1, 0, none⟩) 1 1) := by rw [cell_of_row _ _ _ _ _ _ B9]; rfl
  have r4 : wb.cell? ⟨w1.heap.size + 1 + 1 + 1 + 1 + 1 + 1 + 1 + 1 + 1 + 1, 4, none⟩ = some (.int .i64 4) := by rw [cell_of_row _ _ _ _ _ _ B10]; rfl
  have o4 := opAt_one B4
  have q5 : wb.cell? ⟨w1.heap.size + 1 + 1 + 1 + 1 + 1 + 1 + 1 + 1 + 1, 5, none⟩ = some (.slice (some ⟨w1.heap.size + 1 + 1 + 1 + 1 + 1, 0, none⟩) 1 1) := by rw [cell_of_row _ _ _ _ _ _ B9]; rfl
  have r5 : wb.cell? ⟨w1.heap.size + 1 + 1 + 1 + 1 + 1 + 1 + 1 + 1 + 1 + 1, 5, none⟩ = some (.int .i64 3) := by rw [cell_of_row _ _ _ _ _ _ B10]; rfl
  have o5 := opAt_one B5
  have q6 : wb.cell? ⟨w1.heap.size + 1 + 1 + 1 + 1 + 1 + 1 + 1 + 1 + 1, 6, none⟩ = some (.slice (some ⟨w1.heap.size + 1 + 1 + 1 + 1 + 1 + 1, 0, none⟩) 1 1) := by rw [cell_of_row _ _ _ _ _ _ B9]; rfl
  have r6 : wb.cell? ⟨w1.heap.size + 1 + 1 + 1 + 1 + 1 + 1 + 1 + 1 + 1 + 1, 6, none⟩ = some (.int .i64 4) := by rw [cell_of_row _ _ _ _ _ _ B10]; rfl
  have o6 := opAt_one B6
  have q7 : wb.cell? ⟨w1.heap.size + 1 + 1 + 1 + 1 + 1 + 1 + 1 + 1 + 1, 7, none⟩ = some (.slice (some ⟨w1.heap.size + 1 + 1 + 1 + 1 + 1 + 1 + 1, 0, none⟩) 1 1) := by rw [cell_of_row _ _ _ _ _ _ B9]; rfl
  have r7 : wb.cell? ⟨w1.heap.size + 1 + 1 + 1 + 1 + 1 + 1 + 1 + 1 + 1 + 1, 7, none⟩ = some (.int .i64 2) := by rw [cell_of_row _ _ _ _ _ _ B10]; rfl
  have o7 := opAt_one B7
  have q8 : wb.cell? ⟨w1.heap.size + 1 + 1 + 1 + 1 + 1 + 1 + 1 + 1 + 1, 8, none⟩ = some (.slice (some ⟨w1.heap.size + 1 + 1 + 1 + 1 + 1 + 1 + 1 + 1, 0, none⟩) 2 2) := by rw [cell_of_row _ _ _ _ _ _ B9]; rfl
  have r8 : wb.cell? ⟨w1.heap.size + 1 + 1 + 1 + 1 + 1 + 1 + 1 + 1 + 1 + 1, 8, none⟩ = some (.int .i64 1) := by rw [cell_of_row _ _ _ _ _ _ B10]; rfl
  have o8 := opAt_two B8
  have hl9 := lt_of_heap B9
  have hl10 := lt_of_heap B10
  clear B0 B1 B2 B3 B4 B5 B6 B7 B8 B9 B10
  have hcase : pick which 9 = 0 ∨ pick which 9 = 1 ∨ pick which 9 = 2 ∨ pick which 9 = 3 ∨ pick which 9 = 4 ∨ pick which 9 = 5 ∨ pick which 9 = 6 ∨ pick which 9 = 7 ∨ pick which 9 = 8 := by omega
  have hTb := hT.below HB
  generalize pick which 9 = i at *
  rcases hcase with rfl | rfl | rfl | rfl | rfl | rfl | rfl | rfl | rfl
  · clear q1 r1 o1 q2 r2 o2 q3 r3 o3 q4 r4 o4 q5 r5 o5 q6 r6 o6 q7 r7 o7 q8 r8 o8
    have c1 : ∀ wx, Below wb.heap.size wb wx → Calls Tryd.prog 16 #[.slice (some ⟨w1.heap.size, 0, none⟩) 2 2] wx fun e w' => e = .returned (.int .i64 4) ∧ Below wx.heap.size wx w' := fun wx hx => by
      have := check_any [⟨1, 1 + (k : Int), ⟨#[]⟩⟩, ⟨1, 1, ⟨#[]⟩⟩] (some ⟨w1.heap.size, 0, none⟩) 2 wx (o0.below hx) (by simp) (fun p hp => by simp only [List.mem_cons, List.not_mem_nil, or_false] at hp; rcases hp with rfl | rfl <;> simp only <;> decide) (hTb.below hx)
      rw [bad0 k hk'] at this
      exact this
    have c2 : ∀ wx, Below wb.heap.size wb wx → Calls Tryd.prog 16 #[.slice none 0 0] wx fun e w' => e = .returned (.int .i64 0) ∧ Below wx.heap.size wx w' := fun wx hx => by
      have := check_any [] none 0 wx (.inl rfl) (by simp) (fun p hp => by cases hp) (hTb.below hx)
      rw [good_nil] at this
      exact this
    have toB : ∀ w', (w'.cell? ⟨w1.heap.size + 1 + 1 + 1 + 1 + 1 + 1 + 1 + 1 + 1, 0, none⟩ = some (.slice (some ⟨w1.heap.size, 0, none⟩) 2 2) ∧ w'.cell? ⟨w1.heap.size + 1 + 1 + 1 + 1 + 1 + 1 + 1 + 1 + 1 + 1, 0, none⟩ = some (.int .i64 4) ∧ Below wb.heap.size wb w') → Below wb.heap.size wb w' := fun _ h => h.2.2
    have hS0 : (fun w' => (w'.cell? ⟨w1.heap.size + 1 + 1 + 1 + 1 + 1 + 1 + 1 + 1 + 1, 0, none⟩ = some (.slice (some ⟨w1.heap.size, 0, none⟩) 2 2) ∧ w'.cell? ⟨w1.heap.size + 1 + 1 + 1 + 1 + 1 + 1 + 1 + 1 + 1 + 1, 0, none⟩ = some (.int .i64 4) ∧ Below wb.heap.size wb w')) wb.drew := ⟨q0, r0, ⟨rfl, rfl, rfl, Nat.le_refl _, fun _ _ => rfl⟩⟩
    have keepS : ∀ w' w'', (w'.cell? ⟨w1.heap.size + 1 + 1 + 1 + 1 + 1 + 1 + 1 + 1 + 1, 0, none⟩ = some (.slice (some ⟨w1.heap.size, 0, none⟩) 2 2) ∧ w'.cell? ⟨w1.heap.size + 1 + 1 + 1 + 1 + 1 + 1 + 1 + 1 + 1 + 1, 0, none⟩ = some (.int .i64 4) ∧ Below wb.heap.size wb w') → Below w'.heap.size w' w'' → (fun w' => (w'.cell? ⟨w1.heap.size + 1 + 1 + 1 + 1 + 1 + 1 + 1 + 1 + 1, 0, none⟩ = some (.slice (some ⟨w1.heap.size, 0, none⟩) 2 2) ∧ w'.cell? ⟨w1.heap.size + 1 + 1 + 1 + 1 + 1 + 1 + 1 + 1 + 1 + 1, 0, none⟩ = some (.int .i64 4) ∧ Below wb.heap.size wb w')) w'' := fun w' w'' h hb => ⟨(hb.cell (p := ⟨_, 0, none⟩) (Nat.lt_of_lt_of_le hl9 h.2.2.size)).trans h.1, (hb.cell (p := ⟨_, 0, none⟩) (Nat.lt_of_lt_of_le hl10 h.2.2.size)).trans h.2.1, below_two h.2.2 hb (Nat.le_refl _)⟩
    clear o0 hTb hT
    go_wp2_with fail
    go_region_held3 (fun w' => (w'.cell? ⟨w1.heap.size + 1 + 1 + 1 + 1 + 1 + 1 + 1 + 1 + 1, 0, none⟩ = some (.slice (some ⟨w1.heap.size, 0, none⟩) 2 2) ∧ w'.cell? ⟨w1.heap.size + 1 + 1 + 1 + 1 + 1 + 1 + 1 + 1 + 1 + 1, 0, none⟩ = some (.int .i64 4) ∧ Below wb.heap.size wb w')) (first | exact hS0 | exact keepS _ _ (by assumption) hbz | exact keepS _ _ (by assumption) hby) (first | (go_at_call 16; with_reducible refine Calls.mono (c1 _ (toB _ (by assumption))) ?_; rintro e wz ⟨rfl, hbz⟩) | (go_at_call 16; with_reducible refine Calls.mono (c2 _ (toB _ (by assumption))) ?_; rintro e wy ⟨rfl, hby⟩))
    all_goals go_wp2_with fail
    all_goals go_ret
    all_goals exact ⟨rfl, below_two HB (toB _ (by assumption)) (Nat.le_refl _)⟩
  · clear q0 r0 o0 q2 r2 o2 q3 r3 o3 q4 r4 o4 q5 r5 o5 q6 r6 o6 q7 r7 o7 q8 r8 o8
    have c1 : ∀ wx, Below wb.heap.size wb wx → Calls Tryd.prog 16 #[.slice (some ⟨w1.heap.size + 1, 0, none⟩) 2 2] wx fun e w' => e = .returned (.int .i64 4) ∧ Below wx.heap.size wx w' := fun wx hx => by
      have := check_any [⟨3, 1 + (k : Int), ⟨#[]⟩⟩, ⟨2, 0, ⟨#[120]⟩⟩] (some ⟨w1.heap.size + 1, 0, none⟩) 2 wx (o1.below hx) (by simp) (fun p hp => by simp only [List.mem_cons, List.not_mem_nil, or_false] at hp; rcases hp with rfl | rfl <;> simp only <;> decide) (hTb.below hx)
      rw [bad1 k hk'] at this
      exact this
    have c2 : ∀ wx, Below wb.heap.size wb wx → Calls Tryd.prog 16 #[.slice none 0 0] wx fun e w' => e = .returned (.int .i64 0) ∧ Below wx.heap.size wx w' := fun wx hx => by
      have := check_any [] none 0 wx (.inl rfl) (by simp) (fun p hp => by cases hp) (hTb.below hx)
      rw [good_nil] at this
      exact this
    have toB : ∀ w', (w'.cell? ⟨w1.heap.size + 1 + 1 + 1 + 1 + 1 + 1 + 1 + 1 + 1, 1, none⟩ = some (.slice (some ⟨w1.heap.size + 1, 0, none⟩) 2 2) ∧ w'.cell? ⟨w1.heap.size + 1 + 1 + 1 + 1 + 1 + 1 + 1 + 1 + 1 + 1, 1, none⟩ = some (.int .i64 4) ∧ Below wb.heap.size wb w') → Below wb.heap.size wb w' := fun _ h => h.2.2
    have hS0 : (fun w' => (w'.cell? ⟨w1.heap.size + 1 + 1 + 1 + 1 + 1 + 1 + 1 + 1 + 1, 1, none⟩ = some (.slice (some ⟨w1.heap.size + 1, 0, none⟩) 2 2) ∧ w'.cell? ⟨w1.heap.size + 1 + 1 + 1 + 1 + 1 + 1 + 1 + 1 + 1 + 1, 1, none⟩ = some (.int .i64 4) ∧ Below wb.heap.size wb w')) wb.drew := ⟨q1, r1, ⟨rfl, rfl, rfl, Nat.le_refl _, fun _ _ => rfl⟩⟩
    have keepS : ∀ w' w'', (w'.cell? ⟨w1.heap.size + 1 + 1 + 1 + 1 + 1 + 1 + 1 + 1 + 1, 1, none⟩ = some (.slice (some ⟨w1.heap.size + 1, 0, none⟩) 2 2) ∧ w'.cell? ⟨w1.heap.size + 1 + 1 + 1 + 1 + 1 + 1 + 1 + 1 + 1 + 1, 1, none⟩ = some (.int .i64 4) ∧ Below wb.heap.size wb w') → Below w'.heap.size w' w'' → (fun w' => (w'.cell? ⟨w1.heap.size + 1 + 1 + 1 + 1 + 1 + 1 + 1 + 1 + 1, 1, none⟩ = some (.slice (some ⟨w1.heap.size + 1, 0, none⟩) 2 2) ∧ w'.cell? ⟨w1.heap.size + 1 + 1 + 1 + 1 + 1 + 1 + 1 + 1 + 1 + 1, 1, none⟩ = some (.int .i64 4) ∧ Below wb.heap.size wb w')) w'' := fun w' w'' h hb => ⟨(hb.cell (p := ⟨_, 1, none⟩) (Nat.lt_of_lt_of_le hl9 h.2.2.size)).trans h.1, (hb.cell (p := ⟨_, 1, none⟩) (Nat.lt_of_lt_of_le hl10 h.2.2.size)).trans h.2.1, below_two h.2.2 hb (Nat.le_refl _)⟩
    clear o1 hTb hT
    go_wp2_with fail
    go_region_held3 (fun w' => (w'.cell? ⟨w1.heap.size + 1 + 1 + 1 + 1 + 1 + 1 + 1 + 1 + 1, 1, none⟩ = some (.slice (some ⟨w1.heap.size + 1, 0, none⟩) 2 2) ∧ w'.cell? ⟨w1.heap.size + 1 + 1 + 1 + 1 + 1 + 1 + 1 + 1 + 1 + 1, 1, none⟩ = some (.int .i64 4) ∧ Below wb.heap.size wb w')) (first | exact hS0 | exact keepS _ _ (by assumption) hbz | exact keepS _ _ (by assumption) hby) (first | (go_at_call 16; with_reducible refine Calls.mono (c1 _ (toB _ (by assumption))) ?_; rintro e wz ⟨rfl, hbz⟩) | (go_at_call 16; with_reducible refine Calls.mono (c2 _ (toB _ (by assumption))) ?_; rintro e wy ⟨rfl, hby⟩))
    all_goals go_wp2_with fail
    all_goals go_ret
    all_goals exact ⟨rfl, below_two HB (toB _ (by assumption)) (Nat.le_refl _)⟩
  · clear q0 r0 o0 q1 r1 o1 q3 r3 o3 q4 r4 o4 q5 r5 o5 q6 r6 o6 q7 r7 o7 q8 r8 o8
    have c1 : ∀ wx, Below wb.heap.size wb wx → Calls Tryd.prog 16 #[.slice (some ⟨w1.heap.size + 1 + 1, 0, none⟩) 1 1] wx fun e w' => e = .returned (.int .i64 4) ∧ Below wx.heap.size wx w' := fun wx hx => by
      have := check_any [⟨2, 0, ⟨#[]⟩⟩] (some ⟨w1.heap.size + 1 + 1, 0, none⟩) 1 wx (o2.below hx) (by simp) (fun p hp => by simp only [List.mem_cons, List.not_mem_nil, or_false] at hp; subst hp; simp only; decide) (hTb.below hx)
      rw [bad2 k hk'] at this
      exact this
    have c2 : ∀ wx, Below wb.heap.size wb wx → Calls Tryd.prog 16 #[.slice none 0 0] wx fun e w' => e = .returned (.int .i64 0) ∧ Below wx.heap.size wx w' := fun wx hx => by
      have := check_any [] none 0 wx (.inl rfl) (by simp) (fun p hp => by cases hp) (hTb.below hx)
      rw [good_nil] at this
      exact this
    have toB : ∀ w', (w'.cell? ⟨w1.heap.size + 1 + 1 + 1 + 1 + 1 + 1 + 1 + 1 + 1, 2, none⟩ = some (.slice (some ⟨w1.heap.size + 1 + 1, 0, none⟩) 1 1) ∧ w'.cell? ⟨w1.heap.size + 1 + 1 + 1 + 1 + 1 + 1 + 1 + 1 + 1 + 1, 2, none⟩ = some (.int .i64 4) ∧ Below wb.heap.size wb w') → Below wb.heap.size wb w' := fun _ h => h.2.2
    have hS0 : (fun w' => (w'.cell? ⟨w1.heap.size + 1 + 1 + 1 + 1 + 1 + 1 + 1 + 1 + 1, 2, none⟩ = some (.slice (some ⟨w1.heap.size + 1 + 1, 0, none⟩) 1 1) ∧ w'.cell? ⟨w1.heap.size + 1 + 1 + 1 + 1 + 1 + 1 + 1 + 1 + 1 + 1, 2, none⟩ = some (.int .i64 4) ∧ Below wb.heap.size wb w')) wb.drew := ⟨q2, r2, ⟨rfl, rfl, rfl, Nat.le_refl _, fun _ _ => rfl⟩⟩
    have keepS : ∀ w' w'', (w'.cell? ⟨w1.heap.size + 1 + 1 + 1 + 1 + 1 + 1 + 1 + 1 + 1, 2, none⟩ = some (.slice (some ⟨w1.heap.size + 1 + 1, 0, none⟩) 1 1) ∧ w'.cell? ⟨w1.heap.size + 1 + 1 + 1 + 1 + 1 + 1 + 1 + 1 + 1 + 1, 2, none⟩ = some (.int .i64 4) ∧ Below wb.heap.size wb w') → Below w'.heap.size w' w'' → (fun w' => (w'.cell? ⟨w1.heap.size + 1 + 1 + 1 + 1 + 1 + 1 + 1 + 1 + 1, 2, none⟩ = some (.slice (some ⟨w1.heap.size + 1 + 1, 0, none⟩) 1 1) ∧ w'.cell? ⟨w1.heap.size + 1 + 1 + 1 + 1 + 1 + 1 + 1 + 1 + 1 + 1, 2, none⟩ = some (.int .i64 4) ∧ Below wb.heap.size wb w')) w'' := fun w' w'' h hb => ⟨(hb.cell (p := ⟨_, 2, none⟩) (Nat.lt_of_lt_of_le hl9 h.2.2.size)).trans h.1, (hb.cell (p := ⟨_, 2, none⟩) (Nat.lt_of_lt_of_le hl10 h.2.2.size)).trans h.2.1, below_two h.2.2 hb (Nat.le_refl _)⟩
    clear o2 hTb hT
    go_wp2_with fail
    go_region_held3 (fun w' => (w'.cell? ⟨w1.heap.size + 1 + 1 + 1 + 1 + 1 + 1 + 1 + 1 + 1, 2, none⟩ = some (.slice (some ⟨w1.heap.size + 1 + 1, 0, none⟩) 1 1) ∧ w'.cell? ⟨w1.heap.size + 1 + 1 + 1 + 1 + 1 + 1 + 1 + 1 + 1 + 1, 2, none⟩ = some (.int .i64 4) ∧ Below wb.heap.size wb w')) (first | exact hS0 | exact keepS _ _ (by assumption) hbz | exact keepS _ _ (by assumption) hby) (first | (go_at_call 16; with_reducible refine Calls.mono (c1 _ (toB _ (by assumption))) ?_; rintro e wz ⟨rfl, hbz⟩) | (go_at_call 16; with_reducible refine Calls.mono (c2 _ (toB _ (by assumption))) ?_; rintro e wy ⟨rfl, hby⟩))
    all_goals go_wp2_with fail
    all_goals go_ret
    all_goals exact ⟨rfl, below_two HB (toB _ (by assumption)) (Nat.le_refl _)⟩
  · clear q0 r0 o0 q1 r1 o1 q2 r2 o2 q4 r4 o4 q5 r5 o5 q6 r6 o6 q7 r7 o7 q8 r8 o8
    have c1 : ∀ wx, Below wb.heap.size wb wx → Calls Tryd.prog 16 #[.slice (some ⟨w1.heap.size + 1 + 1 + 1, 0, none⟩) 1 1] wx fun e w' => e = .returned (.int .i64 2) ∧ Below wx.heap.size wx w' := fun wx hx => by
      have := check_any [⟨1, 0, ⟨#[]⟩⟩] (some ⟨w1.heap.size + 1 + 1 + 1, 0, none⟩) 1 wx (o3.below hx) (by simp) (fun p hp => by simp only [List.mem_cons, List.not_mem_nil, or_false] at hp; subst hp; simp only; decide) (hTb.below hx)
      rw [bad3 k hk'] at this
      exact this
    have c2 : ∀ wx, Below wb.heap.size wb wx → Calls Tryd.prog 16 #[.slice none 0 0] wx fun e w' => e = .returned (.int .i64 0) ∧ Below wx.heap.size wx w' := fun wx hx => by
      have := check_any [] none 0 wx (.inl rfl) (by simp) (fun p hp => by cases hp) (hTb.below hx)
      rw [good_nil] at this
      exact this
    have toB : ∀ w', (w'.cell? ⟨w1.heap.size + 1 + 1 + 1 + 1 + 1 + 1 + 1 + 1 + 1, 3, none⟩ = some (.slice (some ⟨w1.heap.size + 1 + 1 + 1, 0, none⟩) 1 1) ∧ w'.cell? ⟨w1.heap.size + 1 + 1 + 1 + 1 + 1 + 1 + 1 + 1 + 1 + 1, 3, none⟩ = some (.int .i64 2) ∧ Below wb.heap.size wb w') → Below wb.heap.size wb w' := fun _ h => h.2.2
    have hS0 : (fun w' => (w'.cell? ⟨w1.heap.size + 1 + 1 + 1 + 1 + 1 + 1 + 1 + 1 + 1, 3, none⟩ = some (.slice (some ⟨w1.heap.size + 1 + 1 + 1, 0, none⟩) 1 1) ∧ w'.cell? ⟨w1.heap.size + 1 + 1 + 1 + 1 + 1 + 1 + 1 + 1 + 1 + 1, 3, none⟩ = some (.int .i64 2) ∧ Below wb.heap.size wb w')) wb.drew := ⟨q3, r3, ⟨rfl, rfl, rfl, Nat.le_refl _, fun _ _ => rfl⟩⟩
    have keepS : ∀ w' w'', (w'.cell? ⟨w1.heap.size + 1 + 1 + 1 + 1 + 1 + 1 + 1 + 1 + 1, 3, none⟩ = some (.slice (some ⟨w1.heap.size + 1 + 1 + 1, 0, none⟩) 1 1) ∧ w'.cell? ⟨w1.heap.size + 1 + 1 + 1 + 1 + 1 + 1 + 1 + 1 + 1 + 1, 3, none⟩ = some (.int .i64 2) ∧ Below wb.heap.size wb w') → Below w'.heap.size w' w'' → (fun w' => (w'.cell? ⟨w1.heap.size + 1 + 1 + 1 + 1 + 1 + 1 + 1 + 1 + 1, 3, none⟩ = some (.slice (some ⟨w1.heap.size + 1 + 1 + 1, 0, none⟩) 1 1) ∧ w'.cell? ⟨w1.heap.size + 1 + 1 + 1 + 1 + 1 + 1 + 1 + 1 + 1 + 1, 3, none⟩ = some (.int .i64 2) ∧ Below wb.heap.size wb w')) w'' := fun w' w'' h hb => ⟨(hb.cell (p := ⟨_, 3, none⟩) (Nat.lt_of_lt_of_le hl9 h.2.2.size)).trans h.1, (hb.cell (p := ⟨_, 3, none⟩) (Nat.lt_of_lt_of_le hl10 h.2.2.size)).trans h.2.1, below_two h.2.2 hb (Nat.le_refl _)⟩
    clear o3 hTb hT
    go_wp2_with fail
    go_region_held3 (fun w' => (w'.cell? ⟨w1.heap.size + 1 + 1 + 1 + 1 + 1 + 1 + 1 + 1 + 1, 3, none⟩ = some (.slice (some ⟨w1.heap.size + 1 + 1 + 1, 0, none⟩) 1 1) ∧ w'.cell? ⟨w1.heap.size + 1 + 1 + 1 + 1 + 1 + 1 + 1 + 1 + 1 + 1, 3, none⟩ = some (.int .i64 2) ∧ Below wb.heap.size wb w')) (first | exact hS0 | exact keepS _ _ (by assumption) hbz | exact keepS _ _ (by assumption) hby) (first | (go_at_call 16; with_reducible refine Calls.mono (c1 _ (toB _ (by assumption))) ?_; rintro e wz ⟨rfl, hbz⟩) | (go_at_call 16; with_reducible refine Calls.mono (c2 _ (toB _ (by assumption))) ?_; rintro e wy ⟨rfl, hby⟩))
    all_goals go_wp2_with fail
    all_goals go_ret
    all_goals exact ⟨rfl, below_two HB (toB _ (by assumption)) (Nat.le_refl _)⟩
  · clear q0 r0 o0 q1 r1 o1 q2 r2 o2 q3 r3 o3 q5 r5 o5 q6 r6 o6 q7 r7 o7 q8 r8 o8
    have c1 : ∀ wx, Below wb.heap.size wb wx → Calls Tryd.prog 16 #[.slice (some ⟨w1.heap.size + 1 + 1 + 1 + 1, 0, none⟩) 1 1] wx fun e w' => e = .returned (.int .i64 4) ∧ Below wx.heap.size wx w' := fun wx hx => by
      have := check_any [⟨3, 1 + (k : Int), ⟨#[120]⟩⟩] (some ⟨w1.heap.size + 1 + 1 + 1 + 1, 0, none⟩) 1 wx (o4.below hx) (by simp) (fun p hp => by simp only [List.mem_cons, List.not_mem_nil, or_false] at hp; subst hp; simp only; decide) (hTb.below hx)
      rw [bad4 k hk'] at this
      exact this
    have c2 : ∀ wx, Below wb.heap.size wb wx → Calls Tryd.prog 16 #[.slice none 0 0] wx fun e w' => e = .returned (.int .i64 0) ∧ Below wx.heap.size wx w' := fun wx hx => by
      have := check_any [] none 0 wx (.inl rfl) (by simp) (fun p hp => by cases hp) (hTb.below hx)
      rw [good_nil] at this
      exact this
    have toB : ∀ w', (w'.cell? ⟨w1.heap.size + 1 + 1 + 1 + 1 + 1 + 1 + 1 + 1 + 1, 4, none⟩ = some (.slice (some ⟨w1.heap.size + 1 + 1 + 1 + 1, 0, none⟩) 1 1) ∧ w'.cell? ⟨w1.heap.size + 1 + 1 + 1 + 1 + 1 + 1 + 1 + 1 + 1 + 1, 4, none⟩ = some (.int .i64 4) ∧ Below wb.heap.size wb w') → Below wb.heap.size wb w' := fun _ h => h.2.2
    have hS0 : (fun w' => (w'.cell? ⟨w1.heap.size + 1 + 1 + 1 + 1 + 1 + 1 + 1 + 1 + 1, 4, none⟩ = some (.slice (some ⟨w1.heap.size + 1 + 1 + 1 + 1, 0, none⟩) 1 1) ∧ w'.cell? ⟨w1.heap.size + 1 + 1 + 1 + 1 + 1 + 1 + 1 + 1 + 1 + 1, 4, none⟩ = some (.int .i64 4) ∧ Below wb.heap.size wb w')) wb.drew := ⟨q4, r4, ⟨rfl, rfl, rfl, Nat.le_refl _, fun _ _ => rfl⟩⟩
    have keepS : ∀ w' w'', (w'.cell? ⟨w1.heap.size + 1 + 1 + 1 + 1 + 1 + 1 + 1 + 1 + 1, 4, none⟩ = some (.slice (some ⟨w1.heap.size + 1 + 1 + 1 + 1, 0, none⟩) 1 1) ∧ w'.cell? ⟨w1.heap.size + 1 + 1 + 1 + 1 + 1 + 1 + 1 + 1 + 1 + 1, 4, none⟩ = some (.int .i64 4) ∧ Below wb.heap.size wb w') → Below w'.heap.size w' w'' → (fun w' => (w'.cell? ⟨w1.heap.size + 1 + 1 + 1 + 1 + 1 + 1 + 1 + 1 + 1, 4, none⟩ = some (.slice (some ⟨w1.heap.size + 1 + 1 + 1 + 1, 0, none⟩) 1 1) ∧ w'.cell? ⟨w1.heap.size + 1 + 1 + 1 + 1 + 1 + 1 + 1 + 1 + 1 + 1, 4, none⟩ = some (.int .i64 4) ∧ Below wb.heap.size wb w')) w'' := fun w' w'' h hb => ⟨(hb.cell (p := ⟨_, 4, none⟩) (Nat.lt_of_lt_of_le hl9 h.2.2.size)).trans h.1, (hb.cell (p := ⟨_, 4, none⟩) (Nat.lt_of_lt_of_le hl10 h.2.2.size)).trans h.2.1, below_two h.2.2 hb (Nat.le_refl _)⟩
    clear o4 hTb hT
    go_wp2_with fail
    go_region_held3 (fun w' => (w'.cell? ⟨w1.heap.size + 1 + 1 + 1 + 1 + 1 + 1 + 1 + 1 + 1, 4, none⟩ = some (.slice (some ⟨w1.heap.size + 1 + 1 + 1 + 1, 0, none⟩) 1 1) ∧ w'.cell? ⟨w1.heap.size + 1 + 1 + 1 + 1 + 1 + 1 + 1 + 1 + 1 + 1, 4, none⟩ = some (.int .i64 4) ∧ Below wb.heap.size wb w')) (first | exact hS0 | exact keepS _ _ (by assumption) hbz | exact keepS _ _ (by assumption) hby) (first | (go_at_call 16; with_reducible refine Calls.mono (c1 _ (toB _ (by assumption))) ?_; rintro e wz ⟨rfl, hbz⟩) | (go_at_call 16; with_reducible refine Calls.mono (c2 _ (toB _ (by assumption))) ?_; rintro e wy ⟨rfl, hby⟩))
    all_goals go_wp2_with fail
    all_goals go_ret
    all_goals exact ⟨rfl, below_two HB (toB _ (by assumption)) (Nat.le_refl _)⟩
  · clear q0 r0 o0 q1 r1 o1 q2 r2 o2 q3 r3 o3 q4 r4 o4 q6 r6 o6 q7 r7 o7 q8 r8 o8
    have c1 : ∀ wx, Below wb.heap.size wb wx → Calls Tryd.prog 16 #[.slice (some ⟨w1.heap.size + 1 + 1 + 1 + 1 + 1, 0, none⟩) 1 1] wx fun e w' => e = .returned (.int .i64 3) ∧ Below wx.heap.size wx w' := fun wx hx => by
      have := check_any [⟨4, 1 + (k : Int), ⟨#[]⟩⟩] (some ⟨w1.heap.size + 1 + 1 + 1 + 1 + 1, 0, none⟩) 1 wx (o5.below hx) (by simp) (fun p hp => by simp only [List.mem_cons, List.not_mem_nil, or_false] at hp; subst hp; simp only; decide) (hTb.below hx)
      rw [bad5 k hk'] at this
      exact this
    have c2 : ∀ wx, Below wb.heap.size wb wx → Calls Tryd.prog 16 #[.slice none 0 0] wx fun e w' => e = .returned (.int .i64 0) ∧ Below wx.heap.size wx w' := fun wx hx => by
      have := check_any [] none 0 wx (.inl rfl) (by simp) (fun p hp => by cases hp) (hTb.below hx)
      rw [good_nil] at this
      exact this
    have toB : ∀ w', (w'.cell? ⟨w1.heap.size + 1 + 1 + 1 + 1 + 1 + 1 + 1 + 1 + 1, 5, none⟩ = some (.slice (some ⟨w1.heap.size + 1 + 1 + 1 + 1 + 1, 0, none⟩) 1 1) ∧ w'.cell? ⟨w1.heap.size + 1 + 1 + 1 + 1 + 1 + 1 + 1 + 1 + 1 + 1, 5, none⟩ = some (.int .i64 3) ∧ Below wb.heap.size wb w') → Below wb.heap.size wb w' := fun _ h => h.2.2
    have hS0 : (fun w' => (w'.cell? ⟨w1.heap.size + 1 + 1 + 1 + 1 + 1 + 1 + 1 + 1 + 1, 5, none⟩ = some (.slice (some ⟨w1.heap.size + 1 + 1 + 1 + 1 + 1, 0, none⟩) 1 1) ∧ w'.cell? ⟨w1.heap.size + 1 + 1 + 1 + 1 + 1 + 1 + 1 + 1 + 1 + 1, 5, none⟩ = some (.int .i64 3) ∧ Below wb.heap.size wb w')) wb.drew := ⟨q5, r5, ⟨rfl, rfl, rfl, Nat.le_refl _, fun _ _ => rfl⟩⟩
    have keepS : ∀ w' w'', (w'.cell? ⟨w1.heap.size + 1 + 1 + 1 + 1 + 1 + 1 + 1 + 1 + 1, 5, none⟩ = some (.slice (some ⟨w1.heap.size + 1 + 1 + 1 + 1 + 1, 0, none⟩) 1 1) ∧ w'.cell? ⟨w1.heap.size + 1 + 1 + 1 + 1 + 1 + 1 + 1 + 1 + 1 + 1, 5, none⟩ = some (.int .i64 3) ∧ Below wb.heap.size wb w') → Below w'.heap.size w' w'' → (fun w' => (w'.cell? ⟨w1.heap.size + 1 + 1 + 1 + 1 + 1 + 1 + 1 + 1 + 1, 5, none⟩ = some (.slice (some ⟨w1.heap.size + 1 + 1 + 1 + 1 + 1, 0, none⟩) 1 1) ∧ w'.cell? ⟨w1.heap.size + 1 + 1 + 1 + 1 + 1 + 1 + 1 + 1 + 1 + 1, 5, none⟩ = some (.int .i64 3) ∧ Below wb.heap.size wb w')) w'' := fun w' w'' h hb => ⟨(hb.cell (p := ⟨_, 5, none⟩) (Nat.lt_of_lt_of_le hl9 h.2.2.size)).trans h.1, (hb.cell (p := ⟨_, 5, none⟩) (Nat.lt_of_lt_of_le hl10 h.2.2.size)).trans h.2.1, below_two h.2.2 hb (Nat.le_refl _)⟩
    clear o5 hTb hT
    go_wp2_with fail
    go_region_held3 (fun w' => (w'.cell? ⟨w1.heap.size + 1 + 1 + 1 + 1 + 1 + 1 + 1 + 1 + 1, 5, none⟩ = some (.slice (some ⟨w1.heap.size + 1 + 1 + 1 + 1 + 1, 0, none⟩) 1 1) ∧ w'.cell? ⟨w1.heap.size + 1 + 1 + 1 + 1 + 1 + 1 + 1 + 1 + 1 + 1, 5, none⟩ = some (.int .i64 3) ∧ Below wb.heap.size wb w')) (first | exact hS0 | exact keepS _ _ (by assumption) hbz | exact keepS _ _ (by assumption) hby) (first | (go_at_call 16; with_reducible refine Calls.mono (c1 _ (toB _ (by assumption))) ?_; rintro e wz ⟨rfl, hbz⟩) | (go_at_call 16; with_reducible refine Calls.mono (c2 _ (toB _ (by assumption))) ?_; rintro e wy ⟨rfl, hby⟩))
    all_goals go_wp2_with fail
    all_goals go_ret
    all_goals exact ⟨rfl, below_two HB (toB _ (by assumption)) (Nat.le_refl _)⟩
  · clear q0 r0 o0 q1 r1 o1 q2 r2 o2 q3 r3 o3 q4 r4 o4 q5 r5 o5 q7 r7 o7 q8 r8 o8
    have c1 : ∀ wx, Below wb.heap.size wb wx → Calls Tryd.prog 16 #[.slice (some ⟨w1.heap.size + 1 + 1 + 1 + 1 + 1 + 1, 0, none⟩) 1 1] wx fun e w' => e = .returned (.int .i64 4) ∧ Below wx.heap.size wx w' := fun wx hx => by
      have := check_any [⟨2, 0, ⟨#[255]⟩⟩] (some ⟨w1.heap.size + 1 + 1 + 1 + 1 + 1 + 1, 0, none⟩) 1 wx (o6.below hx) (by simp) (fun p hp => by simp only [List.mem_cons, List.not_mem_nil, or_false] at hp; subst hp; simp only; decide) (hTb.below hx)
      rw [bad6 k hk'] at this
      exact this
    have c2 : ∀ wx, Below wb.heap.size wb wx → Calls Tryd.prog 16 #[.slice none 0 0] wx fun e w' => e = .returned (.int .i64 0) ∧ Below wx.heap.size wx w' := fun wx hx => by
      have := check_any [] none 0 wx (.inl rfl) (by simp) (fun p hp => by cases hp) (hTb.below hx)
      rw [good_nil] at this
      exact this
    have toB : ∀ w', (w'.cell? ⟨w1.heap.size + 1 + 1 + 1 + 1 + 1 + 1 + 1 + 1 + 1, 6, none⟩ = some (.slice (some ⟨w1.heap.size + 1 + 1 + 1 + 1 + 1 + 1, 0, none⟩) 1 1) ∧ w'.cell? ⟨w1.heap.size + 1 + 1 + 1 + 1 + 1 + 1 + 1 + 1 + 1 + 1, 6, none⟩ = some (.int .i64 4) ∧ Below wb.heap.size wb w') → Below wb.heap.size wb w' := fun _ h => h.2.2
    have hS0 : (fun w' => (w'.cell? ⟨w1.heap.size + 1 + 1 + 1 + 1 + 1 + 1 + 1 + 1 + 1, 6, none⟩ = some (.slice (some ⟨w1.heap.size + 1 + 1 + 1 + 1 + 1 + 1, 0, none⟩) 1 1) ∧ w'.cell? ⟨w1.heap.size + 1 + 1 + 1 + 1 + 1 + 1 + 1 + 1 + 1 + 1, 6, none⟩ = some (.int .i64 4) ∧ Below wb.heap.size wb w')) wb.drew := ⟨q6, r6, ⟨rfl, rfl, rfl, Nat.le_refl _, fun _ _ => rfl⟩⟩
    have keepS : ∀ w' w'', (w'.cell? ⟨w1.heap.size + 1 + 1 + 1 + 1 + 1 + 1 + 1 + 1 + 1, 6, none⟩ = some (.slice (some ⟨w1.heap.size + 1 + 1 + 1 + 1 + 1 + 1, 0, none⟩) 1 1) ∧ w'.cell? ⟨w1.heap.size + 1 + 1 + 1 + 1 + 1 + 1 + 1 + 1 + 1 + 1, 6, none⟩ = some (.int .i64 4) ∧ Below wb.heap.size wb w') → Below w'.heap.size w' w'' → (fun w' => (w'.cell? ⟨w1.heap.size + 1 + 1 + 1 + 1 + 1 + 1 + 1 + 1 + 1, 6, none⟩ = some (.slice (some ⟨w1.heap.size + 1 + 1 + 1 + 1 + 1 + 1, 0, none⟩) 1 1) ∧ w'.cell? ⟨w1.heap.size + 1 + 1 + 1 + 1 + 1 + 1 + 1 + 1 + 1 + 1, 6, none⟩ = some (.int .i64 4) ∧ Below wb.heap.size wb w')) w'' := fun w' w'' h hb => ⟨(hb.cell (p := ⟨_, 6, none⟩) (Nat.lt_of_lt_of_le hl9 h.2.2.size)).trans h.1, (hb.cell (p := ⟨_, 6, none⟩) (Nat.lt_of_lt_of_le hl10 h.2.2.size)).trans h.2.1, below_two h.2.2 hb (Nat.le_refl _)⟩
    clear o6 hTb hT
    go_wp2_with fail
    go_region_held3 (fun w' => (w'.cell? ⟨w1.heap.size + 1 + 1 + 1 + 1 + 1 + 1 + 1 + 1 + 1, 6, none⟩ = some (.slice (some ⟨w1.heap.size + 1 + 1 + 1 + 1 + 1 + 1, 0, none⟩) 1 1) ∧ w'.cell? ⟨w1.heap.size + 1 + 1 + 1 + 1 + 1 + 1 + 1 + 1 + 1 + 1, 6, none⟩ = some (.int .i64 4) ∧ Below wb.heap.size wb w')) (first | exact hS0 | exact keepS _ _ (by assumption) hbz | exact keepS _ _ (by assumption) hby) (first | (go_at_call 16; with_reducible refine Calls.mono (c1 _ (toB _ (by assumption))) ?_; rintro e wz ⟨rfl, hbz⟩) | (go_at_call 16; with_reducible refine Calls.mono (c2 _ (toB _ (by assumption))) ?_; rintro e wy ⟨rfl, hby⟩))
    all_goals go_wp2_with fail
    all_goals go_ret
    all_goals exact ⟨rfl, below_two HB (toB _ (by assumption)) (Nat.le_refl _)⟩
  · clear q0 r0 o0 q1 r1 o1 q2 r2 o2 q3 r3 o3 q4 r4 o4 q5 r5 o5 q6 r6 o6 q8 r8 o8
    have c1 : ∀ wx, Below wb.heap.size wb wx → Calls Tryd.prog 16 #[.slice (some ⟨w1.heap.size + 1 + 1 + 1 + 1 + 1 + 1 + 1, 0, none⟩) 1 1] wx fun e w' => e = .returned (.int .i64 2) ∧ Below wx.heap.size wx w' := fun wx hx => by
      have := check_any [⟨1, 4000 + (1 + (k : Int)), ⟨#[]⟩⟩] (some ⟨w1.heap.size + 1 + 1 + 1 + 1 + 1 + 1 + 1, 0, none⟩) 1 wx (o7.below hx) (by simp) (fun p hp => by simp only [List.mem_cons, List.not_mem_nil, or_false] at hp; subst hp; simp only; decide) (hTb.below hx)
      rw [bad7 k hk'] at this
      exact this
    have c2 : ∀ wx, Below wb.heap.size wb wx → Calls Tryd.prog 16 #[.slice none 0 0] wx fun e w' => e = .returned (.int .i64 0) ∧ Below wx.heap.size wx w' := fun wx hx => by
      have := check_any [] none 0 wx (.inl rfl) (by simp) (fun p hp => by cases hp) (hTb.below hx)
      rw [good_nil] at this
      exact this
    have toB : ∀ w', (w'.cell? ⟨w1.heap.size + 1 + 1 + 1 + 1 + 1 + 1 + 1 + 1 + 1, 7, none⟩ = some (.slice (some ⟨w1.heap.size + 1 + 1 + 1 + 1 + 1 + 1 + 1, 0, none⟩) 1 1) ∧ w'.cell? ⟨w1.heap.size + 1 + 1 + 1 + 1 + 1 + 1 + 1 + 1 + 1 + 1, 7, none⟩ = some (.int .i64 2) ∧ Below wb.heap.size wb w') → Below wb.heap.size wb w' := fun _ h => h.2.2
    have hS0 : (fun w' => (w'.cell? ⟨w1.heap.size + 1 + 1 + 1 + 1 + 1 + 1 + 1 + 1 + 1, 7, none⟩ = some (.slice (some ⟨w1.heap.size + 1 + 1 + 1 + 1 + 1 + 1 + 1, 0, none⟩) 1 1) ∧ w'.cell? ⟨w1.heap.size + 1 + 1 + 1 + 1 + 1 + 1 + 1 + 1 + 1 + 1, 7, none⟩ = some (.int .i64 2) ∧ Below wb.heap.size wb w')) wb.drew := ⟨q7, r7, ⟨rfl, rfl, rfl, Nat.le_refl _, fun _ _ => rfl⟩⟩
    have keepS : ∀ w' w'', (w'.cell? ⟨w1.heap.size + 1 + 1 + 1 + 1 + 1 + 1 + 1 + 1 + 1, 7, none⟩ = some (.slice (some ⟨w1.heap.size + 1 + 1 + 1 + 1 + 1 + 1 + 1, 0, none⟩) 1 1) ∧ w'.cell? ⟨w1.heap.size + 1 + 1 + 1 + 1 + 1 + 1 + 1 + 1 + 1 + 1, 7, none⟩ = some (.int .i64 2) ∧ Below wb.heap.size wb w') → Below w'.heap.size w' w'' → (fun w' => (w'.cell? ⟨w1.heap.size + 1 + 1 + 1 + 1 + 1 + 1 + 1 + 1 + 1, 7, none⟩ = some (.slice (some ⟨w1.heap.size + 1 + 1 + 1 + 1 + 1 + 1 + 1, 0, none⟩) 1 1) ∧ w'.cell? ⟨w1.heap.size + 1 + 1 + 1 + 1 + 1 + 1 + 1 + 1 + 1 + 1, 7, none⟩ = some (.int .i64 2) ∧ Below wb.heap.size wb w')) w'' := fun w' w'' h hb => ⟨(hb.cell (p := ⟨_, 7, none⟩) (Nat.lt_of_lt_of_le hl9 h.2.2.size)).trans h.1, (hb.cell (p := ⟨_, 7, none⟩) (Nat.lt_of_lt_of_le hl10 h.2.2.size)).trans h.2.1, below_two h.2.2 hb (Nat.le_refl _)⟩
    clear o7 hTb hT
    go_wp2_with fail
    go_region_held3 (fun w' => (w'.cell? ⟨w1.heap.size + 1 + 1 + 1 + 1 + 1 + 1 + 1 + 1 + 1, 7, none⟩ = some (.slice (some ⟨w1.heap.size + 1 + 1 + 1 + 1 + 1 + 1 + 1, 0, none⟩) 1 1) ∧ w'.cell? ⟨w1.heap.size + 1 + 1 + 1 + 1 + 1 + 1 + 1 + 1 + 1 + 1, 7, none⟩ = some (.int .i64 2) ∧ Below wb.heap.size wb w')) (first | exact hS0 | exact keepS _ _ (by assumption) hbz | exact keepS _ _ (by assumption) hby) (first | (go_at_call 16; with_reducible refine Calls.mono (c1 _ (toB _ (by assumption))) ?_; rintro e wz ⟨rfl, hbz⟩) | (go_at_call 16; with_reducible refine Calls.mono (c2 _ (toB _ (by assumption))) ?_; rintro e wy ⟨rfl, hby⟩))
    all_goals go_wp2_with fail
    all_goals go_ret
    all_goals exact ⟨rfl, below_two HB (toB _ (by assumption)) (Nat.le_refl _)⟩
  · clear q0 r0 o0 q1 r1 o1 q2 r2 o2 q3 r3 o3 q4 r4 o4 q5 r5 o5 q6 r6 o6 q7 r7 o7
    have c1 : ∀ wx, Below wb.heap.size wb wx → Calls Tryd.prog 16 #[.slice (some ⟨w1.heap.size + 1 + 1 + 1 + 1 + 1 + 1 + 1 + 1, 0, none⟩) 2 2] wx fun e w' => e = .returned (.int .i64 1) ∧ Below wx.heap.size wx w' := fun wx hx => by
      have := check_any [⟨1, 4000, ⟨#[]⟩⟩, ⟨3, 1 + (k : Int), ⟨#[]⟩⟩] (some ⟨w1.heap.size + 1 + 1 + 1 + 1 + 1 + 1 + 1 + 1, 0, none⟩) 2 wx (o8.below hx) (by simp) (fun p hp => by simp only [List.mem_cons, List.not_mem_nil, or_false] at hp; rcases hp with rfl | rfl <;> simp only <;> decide) (hTb.below hx)
      rw [bad8 k hk'] at this
      exact this
    have c2 : ∀ wx, Below wb.heap.size wb wx → Calls Tryd.prog 16 #[.slice none 0 0] wx fun e w' => e = .returned (.int .i64 0) ∧ Below wx.heap.size wx w' := fun wx hx => by
      have := check_any [] none 0 wx (.inl rfl) (by simp) (fun p hp => by cases hp) (hTb.below hx)
      rw [good_nil] at this
      exact this
    have toB : ∀ w', (w'.cell? ⟨w1.heap.size + 1 + 1 + 1 + 1 + 1 + 1 + 1 + 1 + 1, 8, none⟩ = some (.slice (some ⟨w1.heap.size + 1 + 1 + 1 + 1 + 1 + 1 + 1 + 1, 0, none⟩) 2 2) ∧ w'.cell? ⟨w1.heap.size + 1 + 1 + 1 + 1 + 1 + 1 + 1 + 1 + 1 + 1, 8, none⟩ = some (.int .i64 1) ∧ Below wb.heap.size wb w') → Below wb.heap.size wb w' := fun _ h => h.2.2
    have hS0 : (fun w' => (w'.cell? ⟨w1.heap.size + 1 + 1 + 1 + 1 + 1 + 1 + 1 + 1 + 1, 8, none⟩ = some (.slice (some ⟨w1.heap.size + 1 + 1 + 1 + 1 + 1 + 1 + 1 + 1, 0, none⟩) 2 2) ∧ w'.cell? ⟨w1.heap.size + 1 + 1 + 1 + 1 + 1 + 1 + 1 + 1 + 1 + 1, 8, none⟩ = some (.int .i64 1) ∧ Below wb.heap.size wb w')) wb.drew := ⟨q8, r8, ⟨rfl, rfl, rfl, Nat.le_refl _, fun _ _ => rfl⟩⟩
    have keepS : ∀ w' w'', (w'.cell? ⟨w1.heap.size + 1 + 1 + 1 + 1 + 1 + 1 + 1 + 1 + 1, 8, none⟩ = some (.slice (some ⟨w1.heap.size + 1 + 1 + 1 + 1 + 1 + 1 + 1 + 1, 0, none⟩) 2 2) ∧ w'.cell? ⟨w1.heap.size + 1 + 1 + 1 + 1 + 1 + 1 + 1 + 1 + 1 + 1, 8, none⟩ = some (.int .i64 1) ∧ Below wb.heap.size wb w') → Below w'.heap.size w' w'' → (fun w' => (w'.cell? ⟨w1.heap.size + 1 + 1 + 1 + 1 + 1 + 1 + 1 + 1 + 1, 8, none⟩ = some (.slice (some ⟨w1.heap.size + 1 + 1 + 1 + 1 + 1 + 1 + 1 + 1, 0, none⟩) 2 2) ∧ w'.cell? ⟨w1.heap.size + 1 + 1 + 1 + 1 + 1 + 1 + 1 + 1 + 1 + 1, 8, none⟩ = some (.int .i64 1) ∧ Below wb.heap.size wb w')) w'' := fun w' w'' h hb => ⟨(hb.cell (p := ⟨_, 8, none⟩) (Nat.lt_of_lt_of_le hl9 h.2.2.size)).trans h.1, (hb.cell (p := ⟨_, 8, none⟩) (Nat.lt_of_lt_of_le hl10 h.2.2.size)).trans h.2.1, below_two h.2.2 hb (Nat.le_refl _)⟩
    clear o8 hTb hT
    go_wp2_with fail
    go_region_held3 (fun w' => (w'.cell? ⟨w1.heap.size + 1 + 1 + 1 + 1 + 1 + 1 + 1 + 1 + 1, 8, none⟩ = some (.slice (some ⟨w1.heap.size + 1 + 1 + 1 + 1 + 1 + 1 + 1 + 1, 0, none⟩) 2 2) ∧ w'.cell? ⟨w1.heap.size + 1 + 1 + 1 + 1 + 1 + 1 + 1 + 1 + 1 + 1, 8, none⟩ = some (.int .i64 1) ∧ Below wb.heap.size wb w')) (first | exact hS0 | exact keepS _ _ (by assumption) hbz | exact keepS _ _ (by assumption) hby) (first | (go_at_call 16; with_reducible refine Calls.mono (c1 _ (toB _ (by assumption))) ?_; rintro e wz ⟨rfl, hbz⟩) | (go_at_call 16; with_reducible refine Calls.mono (c2 _ (toB _ (by assumption))) ?_; rintro e wy ⟨rfl, hby⟩))
    all_goals go_wp2_with fail
    all_goals go_ret
    all_goals exact ⟨rfl, below_two HB (toB _ (by assumption)) (Nat.le_refl _)⟩

end Go.Proofs.YtepehgjdepioeabDoor
