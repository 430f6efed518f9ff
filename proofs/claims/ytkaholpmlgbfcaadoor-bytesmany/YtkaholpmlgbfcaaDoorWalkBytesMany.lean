/-
  Walk: wherrykeep.BytesMany.
-/
import Derived.Test.YtkaholpmlgbfcaaDoorWireDec
import Derived.Test.YtkaholpmlgbfcaaDoorKRaws
namespace Go.Proofs.YtkaholpmlgbfcaaDoor
open Go.RowKit Go.Lib

/-- a packet that is laid into a result -/
theorem pk_store {w : World} {k : Nat} {x0 x1 x2 x3 x4 x5 x6 x7 x8 y0 y1 y2 y3 y4 y5 y6 y7 y8 : Value} (h : w.heap[k]? = some (.cells #[y0, y1, y2, y3, y4, y5, y6, y7, y8] 60 (0, 0))) :
    (((((((((w.setCell ⟨k, 0, none⟩ x0).setCell ⟨k, 1, none⟩ x1).setCell ⟨k, 2, none⟩ x2).setCell ⟨k, 3, none⟩ x3).setCell ⟨k, 4, none⟩ x4).setCell ⟨k, 5, none⟩ x5).setCell ⟨k, 6, none⟩ x6).setCell ⟨k, 7, none⟩ x7).setCell ⟨k, 8, none⟩ x8).heap[k]? = some (.cells #[x0, x1, x2, x3, x4, x5, x6, x7, x8] 60 (0, 0)) ∧ Chg (fun i => i = k) w (((((((((w.setCell ⟨k, 0, none⟩ x0).setCell ⟨k, 1, none⟩ x1).setCell ⟨k, 2, none⟩ x2).setCell ⟨k, 3, none⟩ x3).setCell ⟨k, 4, none⟩ x4).setCell ⟨k, 5, none⟩ x5).setCell ⟨k, 6, none⟩ x6).setCell ⟨k, 7, none⟩ x7).setCell ⟨k, 8, none⟩ x8) := by
  have s1 : (w.setCell ⟨k, 0, none⟩ x0).heap[k]? = some (.cells #[x0, y1, y2, y3, y4, y5, y6, y7, y8] 60 (0, 0)) := by rw [heap_setCell_same _ k 0 _ _ _ h]; rfl
  have s2 : ((w.setCell ⟨k, 0, none⟩ x0).setCell ⟨k, 1, none⟩ x1).heap[k]? = some (.cells #[x0, x1, y2, y3, y4, y5, y6, y7, y8] 60 (0, 0)) := by rw [heap_setCell_same _ k 1 _ _ _ s1]; rfl
  have s3 : (((w.setCell ⟨k, 0, none⟩ x0).setCell ⟨k, 1, none⟩ x1).setCell ⟨k, 2, none⟩ x2).heap[k]? = some (.cells #[x0, x1, x2, y3, y4, y5, y6, y7, y8] 60 (0, 0)) := by rw [heap_setCell_same _ k 2 _ _ _ s2]; rfl
  have s4 : ((((w.setCell ⟨k, 0, none⟩ x0).setCell ⟨k, 1, none⟩ x1).setCell ⟨k, 2, none⟩ x2).setCell ⟨k, 3, none⟩ x3).heap[k]? = some (.cells #[x0, x1, x2, x3, y4, y5, y6, y7, y8] 60 (0, 0)) := by rw [heap_setCell_same _ k 3 _ _ _ s3]; rfl
  have s5 : (((((w.setCell ⟨k, 0, none⟩ x0).setCell ⟨k, 1, none⟩ x1).setCell ⟨k, 2, none⟩ x2).setCell ⟨k, 3, none⟩ x3).setCell ⟨k, 4, none⟩ x4).heap[k]? = some (.cells #[x0, x1, x2, x3, x4, y5, y6, y7, y8] 60 (0, 0)) := by rw [heap_setCell_same _ k 4 _ _ _ s4]; rfl
  have s6 : ((((((w.setCell ⟨k, 0, none⟩ x0).setCell ⟨k, 1, none⟩ x1).setCell ⟨k, 2, none⟩ x2).setCell ⟨k, 3, none⟩ x3).setCell ⟨k, 4, none⟩ x4).setCell ⟨k, 5, none⟩ x5).heap[k]? = some (.cells #[x0, x1, x2, x3, x4, x5, y6, y7, y8] 60 (0, 0)) := by rw [heap_setCell_same _ k 5 _ _ _ s5]; rfl
  have s7 : (((((((w.setCell ⟨k, 0, none⟩ x0).setCell ⟨k, 1, none⟩ x1).setCell ⟨k, 2, none⟩ x2).setCell ⟨k, 3, none⟩ x3).setCell ⟨k, 4, none⟩ x4).setCell ⟨k, 5, none⟩ x5).setCell ⟨k, 6, none⟩ x6).heap[k]? = some (.cells #[x0, x1, x2, x3, x4, x5, x6, y7, y8] 60 (0, 0)) := by rw [heap_setCell_same _ k 6 _ _ _ s6]; rfl
  have s8 : ((((((((w.setCell ⟨k, 0, none⟩ x0).setCell ⟨k, 1, none⟩ x1).setCell ⟨k, 2, none⟩ x2).setCell ⟨k, 3, none⟩ x3).setCell ⟨k, 4, none⟩ x4).setCell ⟨k, 5, none⟩ x5).setCell ⟨k, 6, none⟩ x6).setCell ⟨k, 7, none⟩ x7).heap[k]? = some (.cells #[x0, x1, x2, x3, x4, x5, x6, x7, y8] 60 (0, 0)) := by rw [heap_setCell_same _ k 7 _ _ _ s7]; rfl
  have s9 : (((((((((w.setCell ⟨k, 0, none⟩ x0).setCell ⟨k, 1, none⟩ x1).setCell ⟨k, 2, none⟩ x2).setCell ⟨k, 3, none⟩ x3).setCell ⟨k, 4, none⟩ x4).setCell ⟨k, 5, none⟩ x5).setCell ⟨k, 6, none⟩ x6).setCell ⟨k, 7, none⟩ x7).setCell ⟨k, 8, none⟩ x8).heap[k]? = some (.cells #[x0, x1, x2, x3, x4, x5, x6, x7, x8] 60 (0, 0)) := by rw [heap_setCell_same _ k 8 _ _ _ s8]; rfl
  exact ⟨s9, ((((((((((Chg.refl (fun i => i = k) w).setCell (p := ⟨k, 0, none⟩) rfl _).setCell (p := ⟨k, 1, none⟩) rfl _).setCell (p := ⟨k, 2, none⟩) rfl _).setCell (p := ⟨k, 3, none⟩) rfl _).setCell (p := ⟨k, 4, none⟩) rfl _).setCell (p := ⟨k, 5, none⟩) rfl _).setCell (p := ⟨k, 6, none⟩) rfl _).setCell (p := ⟨k, 7, none⟩) rfl _).setCell (p := ⟨k, 8, none⟩) rfl _)⟩
theorem pk_cells {w : World} {b : Nat} {x0 x1 x2 x3 x4 x5 x6 x7 x8 : Value} (h : w.heap[b]? = some (.cells #[x0, x1, x2, x3, x4, x5, x6, x7, x8] 60 (0, 0))) : w.cell? ⟨b, 0, none⟩ = some x0 ∧ w.cell? ⟨b, 1, none⟩ = some x1 ∧ w.cell? ⟨b, 2, none⟩ = some x2 ∧ w.cell? ⟨b, 3, none⟩ = some x3 ∧ w.cell? ⟨b, 4, none⟩ = some x4 ∧ w.cell? ⟨b, 5, none⟩ = some x5 ∧ w.cell? ⟨b, 6, none⟩ = some x6 ∧ w.cell? ⟨b, 7, none⟩ = some x7 ∧ w.cell? ⟨b, 8, none⟩ = some x8 :=
  ⟨by rw [cell_of_row _ _ _ _ _ _ h]; rfl, by rw [cell_of_row _ _ _ _ _ _ h]; rfl, by rw [cell_of_row _ _ _ _ _ _ h]; rfl, by rw [cell_of_row _ _ _ _ _ _ h]; rfl, by rw [cell_of_row _ _ _ _ _ _ h]; rfl, by rw [cell_of_row _ _ _ _ _ _ h]; rfl, by rw [cell_of_row _ _ _ _ _ _ h]; rfl, by rw [cell_of_row _ _ _ _ _ _ h]; rfl, by rw [cell_of_row _ _ _ _ _ _ h]; rfl⟩

set_option maxRecDepth 100000 in
set_option maxHeartbeats 2000000 in
theorem decP_size (n : Nat) (a : Option Addr) (c : Nat) (w : World) (hn : 50000 < n) (hm : n ≤ 100000) :
    Calls Tryd.prog 66 #[.slice a n c, .func (.func 67) #[] #[], .func (.func 39) #[] #[]] w fun r w' => r = .returned (.tuple #[.agg #[.int .i64 0, .int .i64 0, .bool false, .int .i64 0, .int .i64 0, .int .i64 0, .int .i64 0, .slice none 0 0, .string ⟨#[]⟩], .int .i64 1]) ∧ Below w.heap.size w w' := by
  have h5z : (50000 : Int) < (n : Int) := by omega
  have hb0 := (Below.refl w.heap.size w).alloc (Nat.le_refl _) (.cells #[.int .i64 0, .int .i64 0, .bool false, .int .i64 0, .int .i64 0, .int .i64 0, .int .i64 0, .slice none 0 0, .string ⟨#[]⟩] 60)
  have HB := hb0.alloc hb0.size (.cells #[.int .i64 0, .int .i64 0, .bool false, .int .i64 0, .int .i64 0, .int .i64 0, .int .i64 0, .slice none 0 0, .string ⟨#[]⟩] 60)
  have hres := row_old (heap_alloc_new w (.cells #[.int .i64 0, .int .i64 0, .bool false, .int .i64 0, .int .i64 0, .int .i64 0, .int .i64 0, .slice none 0 0, .string ⟨#[]⟩] 60)) (.cells #[.int .i64 0, .int .i64 0, .bool false, .int .i64 0, .int .i64 0, .int .i64 0, .int .i64 0, .slice none 0 0, .string ⟨#[]⟩] 60)
  have t0 : ((w.alloc (.cells #[.int .i64 0, .int .i64 0, .bool false, .int .i64 0, .int .i64 0, .int .i64 0, .int .i64 0, .slice none 0 0, .string ⟨#[]⟩] 60)).alloc (.cells #[.int .i64 0, .int .i64 0, .bool false, .int .i64 0, .int .i64 0, .int .i64 0, .int .i64 0, .slice none 0 0, .string ⟨#[]⟩] 60)).cell? ⟨w.heap.size, 0, none⟩ = some (.int .i64 0) := by rw [cell_of_row _ _ _ _ _ _ hres]; rfl
  have t1 : ((w.alloc (.cells #[.int .i64 0, .int .i64 0, .bool false, .int .i64 0, .int .i64 0, .int .i64 0, .int .i64 0, .slice none 0 0, .string ⟨#[]⟩] 60)).alloc (.cells #[.int .i64 0, .int .i64 0, .bool false, .int .i64 0, .int .i64 0, .int .i64 0, .int .i64 0, .slice none 0 0, .string ⟨#[]⟩] 60)).cell? ⟨w.heap.size, 1, none⟩ = some (.int .i64 0) := by rw [cell_of_row _ _ _ _ _ _ hres]; rfl
  have t2 : ((w.alloc (.cells #[.int .i64 0, .int .i64 0, .bool false, .int .i64 0, .int .i64 0, .int .i64 0, .int .i64 0, .slice none 0 0, .string ⟨#[]⟩] 60)).alloc (.cells #[.int .i64 0, .int .i64 0, .bool false, .int .i64 0, .int .i64 0, .int .i64 0, .int .i64 0, .slice none 0 0, .string ⟨#[]⟩] 60)).cell? ⟨w.heap.size, 2, none⟩ = some (.bool false) := by rw [cell_of_row _ _ _ _ _ _ hres]; rfl
  have t3 : ((w.alloc (.cells #[.int .i64 0, .int .i64 0, .bool false, .int .i64 0, .int .i64 0, .int .i64 0, .int .i64 0, .slice none 0 0, .string ⟨#[]⟩] 60)).alloc (.cells #[.int .i64 0, .int .i64 0, .bool false, .int .i64 0, .int .i64 0, .int .i64 0, .int .i64 0, .slice none 0 0, .string ⟨#[]⟩] 60)).cell? ⟨w.heap.size, 3, none⟩ = some (.int .i64 0) := by rw [cell_of_row _ _ _ _ _ _ hres]; rfl
  have t4 : ((w.alloc (.cells #[.int .i64 0, .int .i64 0, .bool false, .int .i64 0, .int .i64 0, .int .i64 0, .int .i64 0, .slice none 0 0, .string ⟨#[]⟩] 60)).alloc (.cells #[.int .i64 0, .int .i64 0, .bool false, .int .i64 0, .int .i64 0, .int .i64 0, .int .i64 0, .slice none 0 0, .string ⟨#[]⟩] 60)).cell? ⟨w.heap.size, 4, none⟩ = some (.int .i64 0) := by rw [cell_of_row _ _ _ _ _ _ hres]; rfl
  have t5 : ((w.alloc (.cells #[.int .i64 0, .int .i64 0, .bool false, .int .i64 0, .int .i64 0, .int .i64 0, .int .i64 0, .slice none 0 0, .string ⟨#[]⟩] 60)).alloc (.cells #[.int .i64 0, .int .i64 0, .bool false, .int .i64 0, .int .i64 0, .int .i64 0, .int .i64 0, .slice none 0 0, .string ⟨#[]⟩] 60)).cell? ⟨w.heap.size, 5, none⟩ = some (.int .i64 0) := by rw [cell_of_row _ _ _ _ _ _ hres]; rfl
  have t6 : ((w.alloc (.cells #[.int .i64 0, .int .i64 0, .bool false, .int .i64 0, .int .i64 0, .int .i64 0, .int .i64 0, .slice none 0 0, .string ⟨#[]⟩] 60)).alloc (.cells #[.int .i64 0, .int .i64 0, .bool false, .int .i64 0, .int .i64 0, .int .i64 0, .int .i64 0, .slice none 0 0, .string ⟨#[]⟩] 60)).cell? ⟨w.heap.size, 6, none⟩ = some (.int .i64 0) := by rw [cell_of_row _ _ _ _ _ _ hres]; rfl
  have t7 : ((w.alloc (.cells #[.int .i64 0, .int .i64 0, .bool false, .int .i64 0, .int .i64 0, .int .i64 0, .int .i64 0, .slice none 0 0, .string ⟨#[]⟩] 60)).alloc (.cells #[.int .i64 0, .int .i64 0, .bool false, .int .i64 0, .int .i64 0, .int .i64 0, .int .i64 0, .slice none 0 0, .string ⟨#[]⟩] 60)).cell? ⟨w.heap.size, 7, none⟩ = some (.slice none 0 0) := by rw [cell_of_row _ _ _ _ _ _ hres]; rfl
  have t8 : ((w.alloc (.cells #[.int .i64 0, .int .i64 0, .bool false, .int .i64 0, .int .i64 0, .int .i64 0, .int .i64 0, .slice none 0 0, .string ⟨#[]⟩] 60)).alloc (.cells #[.int .i64 0, .int .i64 0, .bool false, .int .i64 0, .int .i64 0, .int .i64 0, .int .i64 0, .slice none 0 0, .string ⟨#[]⟩] 60)).cell? ⟨w.heap.size, 8, none⟩ = some (.string ⟨#[]⟩) := by rw [cell_of_row _ _ _ _ _ _ hres]; rfl
  go_enter Tryd.func66, Tryd.ntmps66
  go_wp2_with fail
  generalize ((w.alloc (.cells #[.int .i64 0, .int .i64 0, .bool false, .int .i64 0, .int .i64 0, .int .i64 0, .int .i64 0, .slice none 0 0, .string ⟨#[]⟩] 60)).alloc (.cells #[.int .i64 0, .int .i64 0, .bool false, .int .i64 0, .int .i64 0, .int .i64 0, .int .i64 0, .slice none 0 0, .string ⟨#[]⟩] 60)) = w9 at *
  exact bodyPost_ret (v := .tuple #[.agg #[.int .i64 0, .int .i64 0, .bool false, .int .i64 0, .int .i64 0, .int .i64 0, .int .i64 0, .slice none 0 0, .string ⟨#[]⟩], .int .i64 1]) (by simp [results, Tryd.results66, go_sem, t0, t1, t2, t3, t4, t5, t6, t7, t8]) rfl ⟨rfl, HB⟩

set_option maxRecDepth 100000 in
set_option maxHeartbeats 2000000 in
theorem decodePacket_size (n : Nat) (a : Option Addr) (c : Nat) (w : World) (hn : 50000 < n) (hm : n ≤ 100000) :
    Calls Tryd.prog 30 #[.slice a n c] w fun r w' => r = .returned (.tuple #[.agg #[.int .i64 0, .int .i64 0, .bool false, .int .i64 0, .int .i64 0, .int .i64 0, .int .i64 0, .slice none 0 0, .string ⟨#[]⟩], .int .i64 1]) ∧ Below w.heap.size w w' := by
  have hb0 := (Below.refl w.heap.size w).alloc (Nat.le_refl _) (.cells #[.int .i64 0, .int .i64 0, .bool false, .int .i64 0, .int .i64 0, .int .i64 0, .int .i64 0, .slice none 0 0, .string ⟨#[]⟩] 60)
  have hres := heap_alloc_new w (.cells #[.int .i64 0, .int .i64 0, .bool false, .int .i64 0, .int .i64 0, .int .i64 0, .int .i64 0, .slice none 0 0, .string ⟨#[]⟩] 60)
  have cD := decP_size n a c (w.alloc (.cells #[.int .i64 0, .int .i64 0, .bool false, .int .i64 0, .int .i64 0, .int .i64 0, .int .i64 0, .slice none 0 0, .string ⟨#[]⟩] 60)) hn hm
  go_enter Tryd.func30, Tryd.ntmps30
  go_wp2_with fail
  refine cD.mono ?_
  rintro r w1 ⟨rfl, hb1⟩
  have hr1 := (hb1.block _ (Array.getElem?_eq_some_iff.1 hres).1).trans hres
  have HB1 := below_two hb0 hb1 (Nat.le_refl _)
  have q0 : w1.cell? ⟨w.heap.size, 0, none⟩ = some (.int .i64 0) := by rw [cell_of_row _ _ _ _ _ _ hr1]; rfl
  have q1 : w1.cell? ⟨w.heap.size, 1, none⟩ = some (.int .i64 0) := by rw [cell_of_row _ _ _ _ _ _ hr1]; rfl
  have q2 : w1.cell? ⟨w.heap.size, 2, none⟩ = some (.bool false) := by rw [cell_of_row _ _ _ _ _ _ hr1]; rfl
  have q3 : w1.cell? ⟨w.heap.size, 3, none⟩ = some (.int .i64 0) := by rw [cell_of_row _ _ _ _ _ _ hr1]; rfl
  have q4 : w1.cell? ⟨w.heap.size, 4, none⟩ = some (.int .i64 0) := by rw [cell_of_row _ _ _ _ _ _ hr1]; rfl
  have q5 : w1.cell? ⟨w.heap.size, 5, none⟩ = some (.int .i64 0) := by rw [cell_of_row _ _ _ _ _ _ hr1]; rfl
  have q6 : w1.cell? ⟨w.heap.size, 6, none⟩ = some (.int .i64 0) := by rw [cell_of_row _ _ _ _ _ _ hr1]; rfl
  have q7 : w1.cell? ⟨w.heap.size, 7, none⟩ = some (.slice none 0 0) := by rw [cell_of_row _ _ _ _ _ _ hr1]; rfl
  have q8 : w1.cell? ⟨w.heap.size, 8, none⟩ = some (.string ⟨#[]⟩) := by rw [cell_of_row _ _ _ _ _ _ hr1]; rfl
  have hl1 : w.heap.size < w1.heap.size := (Array.getElem?_eq_some_iff.1 hr1).1
  have hf : ∀ j, w1.frozen? ⟨w.heap.size, j, none⟩ = false := fun j => by simp [World.frozen?, hr1]
  have f0 := hf 0
  have f1 := hf 1
  have f2 := hf 2
  have f3 := hf 3
  have f4 := hf 4
  have f5 := hf 5
  have f6 := hf 6
  have f7 := hf 7
  have f8 := hf 8
  clear cD hres
  obtain ⟨hfin, hch⟩ := pk_store hr1 (x0 := .int .i64 0) (x1 := .int .i64 0) (x2 := .bool false) (x3 := .int .i64 0) (x4 := .int .i64 0) (x5 := .int .i64 0) (x6 := .int .i64 0) (x7 := .slice none 0 0) (x8 := .string ⟨#[]⟩)
  have HB2 := HB1.trans (hch.below (fun k e => by omega) HB1.size)
  go_wp2_with fail
  generalize (((((((((w1.setCell ⟨w.heap.size, 0, none⟩ (.int .i64 0)).setCell ⟨w.heap.size, 1, none⟩ (.int .i64 0)).setCell ⟨w.heap.size, 2, none⟩ (.bool false)).setCell ⟨w.heap.size, 3, none⟩ (.int .i64 0)).setCell ⟨w.heap.size, 4, none⟩ (.int .i64 0)).setCell ⟨w.heap.size, 5, none⟩ (.int .i64 0)).setCell ⟨w.heap.size, 6, none⟩ (.int .i64 0)).setCell ⟨w.heap.size, 7, none⟩ (.slice none 0 0)).setCell ⟨w.heap.size, 8, none⟩ (.string ⟨#[]⟩)) = w9 at *
  obtain ⟨t0, t1, t2, t3, t4, t5, t6, t7, t8⟩ := pk_cells hfin
  exact bodyPost_ret (v := .tuple #[.agg #[.int .i64 0, .int .i64 0, .bool false, .int .i64 0, .int .i64 0, .int .i64 0, .int .i64 0, .slice none 0 0, .string ⟨#[]⟩], .int .i64 1]) (by simp [results, Tryd.results30, go_sem, t0, t1, t2, t3, t4, t5, t6, t7, t8]) rfl ⟨rfl, HB2⟩

theorem recFault_zeros : recFault [0, 0, 0] = 4 ∧ recOf [0, 0, 0] = (0, []) := by
  have h : recFault [0, 0, 0] = 4 := by decide +kernel
  exact ⟨h, by unfold recOf; rw [h, if_pos (by decide)]⟩
theorem recFault_big {l : List Nat} (h : 50000 < l.length) : recFault l = 1 ∧ recOf l = (0, []) := by
  have h1 : recFault l = 1 := by unfold recFault; rw [if_pos h]
  exact ⟨h1, by unfold recOf; rw [h1, if_pos (by decide)]⟩

set_option maxRecDepth 100000 in
set_option maxHeartbeats 2000000 in
theorem bytesMany_walk (n : Int) (w : World) (hn : I64 n) (hT : Tabs w) :
    Calls Tryd.prog 14 #[.int .i64 n] w fun e w' => e = .returned (.bool true) ∧ Below w.heap.size w w' := by
  obtain ⟨i0, hi, hz0, hz1, hz2⟩ := info_parts info_u8
  have hk0 := pick_lt n 9 (by omega)
  go_enter Tryd.func14, Tryd.ntmps14
  go_wp2_with fail
  refine (picked_same n 9 _ hn (by omega) (by omega)).mono ?_
  generalize pick n 9 = p at *
  rintro e w1 ⟨rfl, rfl⟩
  go_wp2_with (at_make; refine wpList_make_full _ rfl _ _ 61 rfl w1.heap.size 5 i0 _ 1 Tryd.underlying61 hi hz0 hz1 .i64 .i64 (50001 + (p : Int)) (50001 + (p : Int)) (50001 + p) rfl rfl (by omega) (by omega) (by rw [hz2]; omega) (by unfold maxLen; omega) (Nat.le_refl _) ?_; intro w2 hown2 hgr2)
  have hz : ∀ j, j < 50001 + p → (madeCells (Value.int .u8 0).cells ((50001 + p) * 1)).toList[j]? = some (.int .u8 0) := by
    intro j hj
    show (madeCells #[.int .u8 0] ((50001 + p) * 1)).toList[j]? = _
    rw [toList_madeCells_one, List.getElem?_replicate, if_pos (by omega)]
  have hby : ∀ (m : Nat) (wx : World), m ≤ 50001 + p → Below w2.heap.size w2 wx → Bytes wx (some ⟨w1.heap.size, 0, none⟩) (List.replicate m 0) := fun m wx hm hb => by
    have hx := own_below hown2 hb
    refine .inr ⟨w1.heap.size, 0, rfl, (hx.lt _ rfl).2, fun i hi => ?_⟩
    have hi' : i < m := by simpa using hi
    rw [Nat.zero_add, hx.cellAt i (by omega), hz i (by omega), List.getElem_replicate]
    rfl
  have HB2 : Below w1.heap.size w1 w2 := (Below.refl _ _).grown hgr2 (Nat.le_refl _) (fun k e => by cases e)
  have hT2 := hT.below HB2
  have cD : ∀ wx, Below w2.heap.size w2 wx → Calls Tryd.prog 34 #[.slice (some ⟨w1.heap.size, 0, none⟩) (50001 + p) (50001 + p)] wx fun r w' => (∃ a c, r = .returned (.tuple #[.agg #[.int .i64 0, .slice a 0 c], .int .i64 1])) ∧ Below wx.heap.size wx w' := by
    intro wx hb
    have := decodeRecord_any (List.replicate (50001 + p) 0) _ (50001 + p) wx (hby _ wx (Nat.le_refl _) hb) (fun x hx => by rw [List.eq_of_mem_replicate hx]; decide) (by simp) (hT2.below hb)
    obtain ⟨f1, f2⟩ := recFault_big (l := List.replicate (50001 + p) 0) (by simp; omega)
    rw [f1, f2, List.length_replicate] at this
    refine this.mono ?_
    rintro r w' ⟨v, rfl, h1, h2⟩
    obtain ⟨a, c, rfl⟩ := own_form h1
    exact ⟨⟨a, c, rfl⟩, h2⟩
  have cE : ∀ wx, Below w2.heap.size w2 wx → Calls Tryd.prog 34 #[.slice (some ⟨w1.heap.size, 0, none⟩) 3 (50001 + p)] wx fun r w' => (∃ a c, r = .returned (.tuple #[.agg #[.int .i64 0, .slice a 0 c], .int .i64 4])) ∧ Below wx.heap.size wx w' := by
    intro wx hb
    have := decodeRecord_any (List.replicate 3 0) _ (50001 + p) wx (hby 3 wx (by omega) hb) (fun x hx => by rw [List.eq_of_mem_replicate hx]; decide) (by simp; omega) (hT2.below hb)
    obtain ⟨f1, f2⟩ := recFault_zeros
    rw [show List.replicate 3 0 = [0, 0, 0] from rfl, f1, f2] at this
    refine this.mono ?_
    rintro r w' ⟨v, rfl, h1, h2⟩
    obtain ⟨a, c, rfl⟩ := own_form h1
    exact ⟨⟨a, c, rfl⟩, h2⟩
  have cP := decodePacket_size (50001 + p) (some ⟨w1.heap.size, 0, none⟩) (50001 + p) w2 (by omega) (by omega)
  clear hby hz hown2 hgr2 hT hT2
  have HX : Below w2.heap.size w2 w2 := Below.refl _ _
  refine cP.mono ?_
  rintro r w3 ⟨rfl, hb3⟩
  replace HX := below_two HX hb3 (Nat.le_refl _)
  clear cP hb3
  go_wp2_with fail
  have hba := (Below.refl w3.heap.size w3).alloc (Nat.le_refl _) (.cells #[.int .i64 0, .int .i64 0, .bool false, .int .i64 0, .int .i64 0, .int .i64 0, .int .i64 0, .slice none 0 0, .string ⟨#[]⟩] 60)
  replace HX := below_two HX hba (Nat.le_refl _)
  refine (cD _ HX).mono ?_
  generalize (w3.alloc (.cells #[.int .i64 0, .int .i64 0, .bool false, .int .i64 0, .int .i64 0, .int .i64 0, .int .i64 0, .slice none 0 0, .string ⟨#[]⟩] 60)) = w4 at *
  rintro r w5 ⟨⟨a5, c5, rfl⟩, hb5⟩
  replace HX := below_two HX hb5 (Nat.le_refl _)
  clear cD hba hb5
  go_wp2_with fail
  have hbb := (Below.refl w5.heap.size w5).alloc (Nat.le_refl _) (.cells #[.int .i64 0, .slice a5 0 c5] 66)
  replace HX := below_two HX hbb (Nat.le_refl _)
  refine (cE _ HX).mono ?_
  generalize (w5.alloc (.cells #[.int .i64 0, .slice a5 0 c5] 66)) = w6 at *
  rintro r w7 ⟨⟨a7, c7, rfl⟩, hb7⟩
  replace HX := below_two HX hb7 (Nat.le_refl _)
  clear cE hbb hb7
  go_wp2_with fail
  go_ret
  have HF := below_two HB2 HX (Nat.le_refl _)
  exact ⟨rfl, HF.alloc HF.size _⟩

end Go.Proofs.YtkaholpmlgbfcaaDoor
