/-
  Walk: edge.Send, refused.
-/
import Derived.Test.YtbobeecagcmclaaDoorEdgeSend
namespace Go.Proofs.YtbobeecagcmclaaDoor
open Go.RowKit Go.Lib

set_option maxRecDepth 100000 in
set_option maxHeartbeats 2000000 in
theorem send_bad (sent heard : Int) (E : List (List Part)) (vs : List Value) (a : Option Addr) (c : Nat) (ps : List Part) (v : Value) (w : World) (hp : PendAt w a c E vs) (hE : ∀ q ∈ E, OpSmall q) (hlen : E.length ≤ 1048576) (hs : -9223372036854775808 ≤ sent ∧ sent ≤ 9223372036854775807) (ho : OpVal w v ps) (hso : OpSmall ps) (hT : Tabs w) (herr : sendErr sent heard E ps ≠ 0) :
    Calls Tryd.prog 8 #[.agg #[.int .i64 sent, .int .i64 heard, .slice a E.length c], v] w fun e w' => e = .returned (.tuple #[.agg #[.int .i64 0, .int .i64 0, .slice none 0 0], .int .i64 (sendErr sent heard E ps)]) ∧ Below w.heap.size w w' := by
  have hb00 := (Below.refl w.heap.size w).alloc (Nat.le_refl _) (.cells #[.int .i64 sent, .int .i64 heard, .slice a E.length c] 26)
  have hb0 := hb00.alloc hb00.size (.cells #[.int .i64 0, .int .i64 0, .slice none 0 0] 26)
  have hres := heap_alloc_new (w.alloc (.cells #[.int .i64 sent, .int .i64 heard, .slice a E.length c] 26)) (.cells #[.int .i64 0, .int .i64 0, .slice none 0 0] 26)
  have hsz : ((w.alloc (.cells #[.int .i64 sent, .int .i64 heard, .slice a E.length c] 26)).alloc (.cells #[.int .i64 0, .int .i64 0, .slice none 0 0] 26)).heap.size = w.heap.size + 2 := by simp
  rw [show (w.alloc (.cells #[.int .i64 sent, .int .i64 heard, .slice a E.length c] 26)).heap.size = w.heap.size + 1 by simp] at hres
  have c1 := checkSend_any sent heard E vs a c ps v _ (hp.below hb0) hE hlen hs (ho.below hb0) hso (hT.below hb0)
  generalize sendErr sent heard E ps = er at *
  have g1 : (er != 0) = true := by simpa using herr
  clear herr hp ho hb00
  go_enter Tryd.func8, Tryd.ntmps8
  go_wp2_with fail
  generalize ((w.alloc (.cells #[.int .i64 sent, .int .i64 heard, .slice a E.length c] 26)).alloc (.cells #[.int .i64 0, .int .i64 0, .slice none 0 0] 26)) = w0 at *
  refine c1.mono ?_
  rintro e w1 ⟨rfl, hb1⟩
  clear c1
  have hr1 := (hb1.block (w.heap.size + 1) (by omega)).trans hres
  have hrl : w.heap.size + 1 < w1.heap.size := by have := hb1.size; omega
  obtain ⟨r0, r1, r2⟩ := edge_cells hr1
  have hf : ∀ j, w1.frozen? ⟨w.heap.size + 1, j, none⟩ = false := fun j => by simp [World.frozen?, hr1]
  have f0 := hf 0
  have f1 := hf 1
  have f2 := hf 2
  have HB : Below w.heap.size w w1 := below_two hb0 hb1 (Nat.le_refl _)
  go_wp2_with fail
  have hchR : Chg (fun k => k = w.heap.size + 1) w1 (((w1.setCell ⟨w.heap.size + 1, 0, none⟩ (.int .i64 0)).setCell ⟨w.heap.size + 1, 1, none⟩ (.int .i64 0)).setCell ⟨w.heap.size + 1, 2, none⟩ (.slice none 0 0)) := (((Chg.refl (fun k => k = w.heap.size + 1) w1).setCell (p := ⟨w.heap.size + 1, 0, none⟩) rfl _).setCell (p := ⟨w.heap.size + 1, 1, none⟩) rfl _).setCell (p := ⟨w.heap.size + 1, 2, none⟩) rfl _
  have s1 : (w1.setCell ⟨w.heap.size + 1, 0, none⟩ (.int .i64 0)).heap[w.heap.size + 1]? = some (.cells #[.int .i64 0, .int .i64 0, .slice none 0 0] 26 (0, 0)) := by rw [heap_setCell_same w1 (w.heap.size + 1) 0 _ _ _ hr1]; rfl
  have s2 : ((w1.setCell ⟨w.heap.size + 1, 0, none⟩ (.int .i64 0)).setCell ⟨w.heap.size + 1, 1, none⟩ (.int .i64 0)).heap[w.heap.size + 1]? = some (.cells #[.int .i64 0, .int .i64 0, .slice none 0 0] 26 (0, 0)) := by rw [heap_setCell_same _ (w.heap.size + 1) 1 _ _ _ s1]; rfl
  have s3 : (((w1.setCell ⟨w.heap.size + 1, 0, none⟩ (.int .i64 0)).setCell ⟨w.heap.size + 1, 1, none⟩ (.int .i64 0)).setCell ⟨w.heap.size + 1, 2, none⟩ (.slice none 0 0)).heap[w.heap.size + 1]? = some (.cells #[.int .i64 0, .int .i64 0, .slice none 0 0] 26 (0, 0)) := by rw [heap_setCell_same _ (w.heap.size + 1) 2 _ _ _ s2]; rfl
  obtain ⟨t0, t1, t2⟩ := edge_cells s3
  have hB5 := HB.trans (hchR.below (fun k e => by omega) (by omega : w.heap.size ≤ w1.heap.size))
  generalize (((w1.setCell ⟨w.heap.size + 1, 0, none⟩ (.int .i64 0)).setCell ⟨w.heap.size + 1, 1, none⟩ (.int .i64 0)).setCell ⟨w.heap.size + 1, 2, none⟩ (.slice none 0 0)) = w5 at *
  exact bodyPost_ret (v := .tuple #[.agg #[.int .i64 0, .int .i64 0, .slice none 0 0], .int .i64 er]) (by simp [results, Tryd.results8, go_sem, t0, t1, t2]) rfl ⟨rfl, hB5⟩

end Go.Proofs.YtbobeecagcmclaaDoor
